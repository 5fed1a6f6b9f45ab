
/-
  Proved here: the law PathBack returns true for every input, and each argument reads behind the call as it did before; the listed variables of Go's library and the program's own table of brackets hold what the program's text lays in them (tied). No other condition.
-/
import Derived.Test.YtdeblmolgmadiaaGreatDoorLaw
import Derived.Test.YtdeblmolgmadiaaGreatDoorJk
import Derived.Test.YtdeblmolgmadiaaGreatDoorNa
import Derived.Test.YtdeblmolgmadiaaGreatDoorTie
import Derived.Test.YtdeblmolgmadiaaGreatDoorCards
import Derived.LaidMore
import Derived.ChangeMaps5
import Derived.Stop.Joined
import Derived.Stop.LaidErr
import Derived.SevenTiedAt
import Derived.Lib.LaidTab
import Derived.Deep.Strs
import Derived.Deep.SlicePairs
import Derived.Test.YtdeblmolgmadiaaGreatDoorZu
import Derived.Lib.SmallJoins
import Derived.ChangeArms
namespace Go.Proofs.YtdeblmolgmadiaaGreatDoor
open Go.ChangeShapes Go.WideShapes Go.ChangeAt Go.RowKit

/-- What the rows list. -/
def laidJ : List (String × DataW Unit) := Rows.pathTellsRow.laid
theorem door_metJ (os : Os) (args : Array Value) : laidMetH Tryz.prog laidJ ((World.doorLaid Tryz.prog 76 os).forCall (fun _ _ => 0) ⟨#[], args, []⟩).memory :=
  laidMetH_of_parts3 (fuel := 8) (laidMet_of_run' 8 (by kernel_rfl) (by kernel_rfl)) (by kernel_rfl) (by kernel_rfl)
theorem starJ : "*" ++ "errors.errorString" = "*errors.errorString" := by decide
theorem row_ptrJ (u : TypeId) (h : Tryz.prog.typeName? 3 u = some "*errors.errorString") : u = 287 :=
  typeName_ptr_named (nm := "errors.errorString") (by rw [starJ]; kernel_rfl) (by kernel_rfl) (by decide) u (by rw [starJ]; exact h)
theorem tab_of {W : World} {x0 x1 : String × DataW Unit} {r : List (String × DataW Unit)}
    (h : laidMet Tryz.prog (x0 :: x1 :: ("internal/strconv.uint64pow10", Rows.laid_internal_strconv_uint64pow10) :: r) W) : Rdy W := by
  have h2 := laidMet.tail (laidMet.tail h)
  have hd : Rows.laid_internal_strconv_uint64pow10 (H := Unit) = Lib.tabData .u64 Lib.pow10Tab := by kernel_rfl
  rw [hd] at h2
  exact Lib.tabIs_of_head (g := 2) (t := 264) (by kernel_rfl) (by kernel_rfl) Tryz.underlying264 Tryz.underlying215 (by kernel_rfl) (by kernel_rfl) h2
theorem rdy_ofJ {W : World} {x0 x1 x3 : String × DataW Unit} {r : List (String × DataW Unit)}
    (h : laidMet Tryz.prog (x0 :: x1 :: ("internal/strconv.uint64pow10", Rows.laid_internal_strconv_uint64pow10) :: x3 :: ("strconv.ErrSyntax", Rows.laid_strconv_ErrSyntax) :: r) W) : Rdy2 W := by
  have h4 := laidMet.tail (laidMet.tail (laidMet.tail (laidMet.tail h)))
  refine ⟨tab_of h, ?_⟩
  obtain ⟨a, s, hv, _, _, _⟩ := laid_sentinel (g := 6) (ti := 115) (tp := 287) (te := 289) (ts := 9) h4 (by kernel_rfl) (by kernel_rfl) Tryz.underlying115 row_ptrJ Tryz.underlying287 Tryz.underlying289 rfl rfl Tryz.underlying9 (by kernel_rfl) (by kernel_rfl)
  exact ⟨_, _, by simpa using World.var?_cell (g := 6) (by kernel_rfl) hv 0⟩
theorem readableJ {ts : List TypeId} (h : (ts.all fun t => Tryz.prog.readableRec t && decide (t < Tryz.prog.types.size)) = true) : ∀ t ∈ ts, Tryz.prog.readableRec t = true ∧ t < Tryz.prog.types.size := fun t ht => by
  have := List.all_eq_true.1 h t ht
  simpa using this

/-- The table of brackets. -/
def bkD {H : Type} (i : Nat) : DataW H := .agg [.lit (.string (Pt.opens i)), .lit (.string (Pt.betw i)), .lit (.string (Pt.ends i))]
theorem bk_data {H : Type} : Rows.laid_consulate_path_brackets (H := H) = .agg ((List.range 5).map bkD) := by rfl
theorem str_of {s : ByteArray} {l : List UInt8} (h : l = s.data.toList) : (.string s : Value) = str l := by
  subst h
  rfl
theorem cells_of_bk {H : Type} {enc : TypeId × Value → H} {w : World} {base : Nat} {sp : Nat → Bool} {held : Bool} {fuel : Nat} {cs : List Value} {p : List MemPlace}
    (h : DataW.trod enc Tryz.prog w base sp held fuel 175 cs = some (Rows.laid_consulate_path_brackets, p)) : cs = bkc.toList := by
  rw [bk_data] at h
  have hce : Tryz.prog.cellsOf 174 = 3 := by kernel_rfl
  have hct : Tryz.prog.cellsOf 175 = 15 := by kernel_rfl
  have hc1 : Tryz.prog.cellsOf 9 = 1 := by kernel_rfl
  cases fuel with
  | zero => simp [DataW.trod] at h
  | succ fuel =>
    simp only [DataW.trod, Tryz.underlying175, hce, hct] at h
    split at h
    case isFalse => cases h
    next hl =>
    obtain ⟨xs, hm, hx⟩ := Option.map_eq_some_iff.1 h
    have hxs : xs.map (·.1) = (List.range 5).map (bkD (H := H)) := by
      have := congrArg Prod.fst hx
      simpa using this
    have key : ∀ i, i < 5 → cs[i * 3]? = some (str (Pt.opens i)) ∧ cs[i * 3 + 1]? = some (str (Pt.betw i)) ∧ cs[i * 3 + 2]? = some (str (Pt.ends i)) := fun i hi => by
      obtain ⟨b, hb, hf⟩ := Lib.mapM_at hm i i (by simp [hi])
      have h2 : (xs.map (·.1))[i]? = some b.1 := by simp [hb]
      rw [hxs] at h2
      have h3 : b.1 = bkD i := by simpa [hi] using h2.symm
      obtain ⟨y0, y1, y2, n, rfl, _, e0, e1, e2⟩ := Go.Deep.trod_struct3 Tryz.underlying174 hf
      obtain ⟨z0, q0, r0, _⟩ := DataW.trod_string Tryz.underlying9 e0
      obtain ⟨z1, q1, r1, _⟩ := DataW.trod_string Tryz.underlying9 e1
      obtain ⟨z2, q2, r2, _⟩ := DataW.trod_string Tryz.underlying9 e2
      subst r0 r1 r2
      simp only [bkD, DataW.agg.injEq, List.cons.injEq, DataW.lit.injEq, Lit.string.injEq, and_true] at h3
      obtain ⟨g0, g1, g2⟩ := h3
      simp only [hc1] at q0 q1 q2
      refine ⟨?_, ?_, ?_⟩
      · have := congrArg (·[0]?) q0
        rw [← str_of g0.symm]
        simpa [List.getElem?_take, List.getElem?_drop] using this
      · have := congrArg (·[0]?) q1
        rw [← str_of g1.symm]
        simpa [List.getElem?_take, List.getElem?_drop] using this
      · have := congrArg (·[0]?) q2
        rw [← str_of g2.symm]
        simpa [List.getElem?_take, List.getElem?_drop] using this
    apply List.ext_getElem?
    intro j
    by_cases hj : j < 15
    · have k := key (j / 3) (by omega)
      have s := bk_cells (j / 3) (by omega)
      rw [← Array.getElem?_toList, ← Array.getElem?_toList, ← Array.getElem?_toList] at s
      obtain e | e | e : j = j / 3 * 3 ∨ j = j / 3 * 3 + 1 ∨ j = j / 3 * 3 + 2 := by omega
      · rw [e, k.1, s.1]
      · rw [e, k.2.1, s.2.1]
      · rw [e, k.2.2, s.2.2]
    · rw [List.getElem?_eq_none (by omega), List.getElem?_eq_none (by have : bkc.toList.length = 15 := rfl; omega)]
theorem bkt_of {W : World} {r : List (String × DataW Unit)} (h : laidMet Tryz.prog (("consulate/path.brackets", Rows.laid_consulate_path_brackets) :: r) W) : Bkt W := by
  obtain ⟨ps, ⟨g', t', cs, fuel, p, q, hg', ht', hvar, hd, _, _⟩, _⟩ := h
  obtain rfl := Option.some.inj ((show Tryz.prog.globalNamed "consulate/path.brackets" = some 1 by kernel_rfl).symm.trans hg')
  obtain rfl := Option.some.inj ((show (Tryz.prog.globals[1]?).map (·.type) = some 175 by kernel_rfl).symm.trans ht')
  have hcs := cells_of_bk hd
  have e : cs = bkc := by cases cs; simp only at hcs; rw [hcs]
  subst e
  unfold World.var? at hvar
  rw [hg'] at hvar
  simp only [Option.bind_some] at hvar
  split at hvar
  next c t fr hh =>
    injection hvar with hvar
    subst hvar
    exact ⟨t, fr, hh⟩
  next => cases hvar
theorem rdyJ {W : World} (h : laidMetH Tryz.prog laidJ W) : Rdy2 W ∧ Bkt W := by
  rw [MakeChecks.laidMetH_plain _ _ _ (by kernel_rfl)] at h
  exact ⟨rdy_ofJ h, bkt_of (laidMet.tail (laidMet.tail (laidMet.tail (laidMet.tail (laidMet.tail h)))))⟩

set_option maxRecDepth 100000 in
theorem open_as1 {H : Type} {enc : TypeId × Value → H} {W : World} {n : Nat} {v : Value} {y : DataW H × List MemPlace}
    (hf : DataW.trod enc Tryz.prog W 0 (fun _ => true) true n 94 [v] = some y) : ∃ l, As W v l := by
  rcases open_ints Tryz.underlying94 Tryz.underlying54 (by kernel_rfl) hf with ⟨hcs, hx⟩ | ⟨a, len', cap', zs, hcs, _, hl, hm, hz, hx, hcell, hwz⟩
  · obtain rfl : v = _ := by simpa using hcs
    exact ⟨[], As.nil W⟩
  · obtain rfl : v = _ := by simpa using hcs
    simp only [if_true] at hz
    have hr : ∀ z ∈ zs, 0 ≤ z ∧ z ≤ 4294967295 := fun z hz' => by
      have hw := hwz z hz'
      simpa [Lit.wf, IntKind.min, IntKind.max, IntKind.signed, IntKind.bits] using hw
    have hlen : ((zs.take len').map (fun z => z.toNat)).length = len' := by rw [List.length_map, List.length_take]; omega
    refine ⟨(zs.take len').map (fun z => z.toNat), fun n hn => ?_, some a, cap', by rw [hlen], by rw [hlen]; exact hl, hm, by rw [length_ass, Nat.mul_one], (fun h => by cases h), fun a' ha j u hu => ?_, fun u hu => ?_⟩
    · obtain ⟨z, hz', rfl⟩ := List.mem_map.1 hn
      have := hr z (List.mem_of_mem_take hz')
      omega
    · injection ha with ha
      subst ha
      have hj : j < len' := by
        have := (List.getElem?_eq_some_iff.1 hu).1
        rwa [length_ass, hlen] at this
      have hzj : zs[j]? = some (zs[j]'(by omega)) := List.getElem?_eq_getElem (by omega)
      have hc := hcell j (by omega)
      have h1 := hr (zs[j]'(by omega)) (List.getElem_mem _)
      rw [hc, ← hu]
      unfold ass
      rw [List.getElem?_map, List.getElem?_map, List.getElem?_take_of_lt hj, hzj]
      simp only [Option.map_some, List.getD_eq_getElem?_getD, hzj, Option.getD_some, Option.some.injEq, Value.int.injEq, true_and]
      omega
    · unfold ass at hu
      obtain ⟨b, _, rfl⟩ := List.mem_map.1 hu
      rfl
def w_seg (W : World) (a : Addr) (i : Nat) (z : Seg) : Prop := W.cell? (a.add (i * 2)) = some (by8 z.1) ∧ ∃ u, W.cell? (a.add (i * 2 + 1)) = some u ∧ As W u z.2
set_option maxRecDepth 100000 in
theorem open_pts {H : Type} {enc : TypeId × Value → H} {W : World} {base : Nat} {v : Value} {d : DataW H} {p : List MemPlace} (hv : Value.okWide Tryz.prog W .any base 23 v)
    (h : DataW.Trod enc Tryz.prog W 0 (fun _ => true) true 23 v d p) : ∃ l, Pts W v l := by
  obtain ⟨a0, len, cap, rfl⟩ := okWide_slice Tryz.underlying23 hv
  obtain ⟨fuel, hf⟩ := h
  rcases Go.Deep.open_slice_pairs Tryz.underlying23 Tryz.underlying96 (by kernel_rfl) rfl rfl (by kernel_rfl) (by kernel_rfl) hf with ⟨hcs, hx⟩ | ⟨a, len', cap', m, n, V0, V1, D0, D1, P0, P1, hcs, _, hl, hm, hmm, hx, hi⟩
  · simp [Value.cells] at hcs
    obtain ⟨rfl, rfl, rfl⟩ := hcs
    exact ⟨[], Pts.nil W⟩
  · simp [Value.cells] at hcs
    obtain ⟨rfl, rfl, rfl⟩ := hcs
    simp only [if_true] at hmm
    have num : ∀ i, i < m → ∃ z : Seg, w_seg W a i z := fun i hi' => by
      obtain ⟨h0, h1, t0, t1⟩ := hi i hi'
      obtain ⟨z0, e0, _, w0⟩ := DataW.trod_int Tryz.underlying5 t0
      injection e0 with e0
      rw [e0] at h0
      obtain ⟨l, hl⟩ := open_as1 t1
      have hr : 0 ≤ z0 ∧ z0 ≤ 255 := by simpa [Lit.wf, IntKind.min, IntKind.max, IntKind.signed, IntKind.bits] using w0
      refine ⟨(UInt8.ofNat z0.toNat, l), ?_, _, h1, hl⟩
      rw [h0]
      unfold by8
      have : ((UInt8.ofNat z0.toNat).toNat : Int) = z0 := by rw [UInt8.toNat_ofNat']; omega
      rw [this]
    obtain ⟨z, hz⟩ := Go.Deep.choose_lt num
    refine ⟨(List.range len).map z, some a, cap, by simp, by simp; omega, hm, fun h0 => ?_⟩
    simp only [List.length_map, List.length_range] at h0 ⊢
    obtain ⟨b, off, spot⟩ := a
    have hspot : spot = none := by simpa [Addr.add] using World.cell?_spot (hz 0 (by omega)).1
    subst hspot
    refine ⟨b, off, rfl, fun i hi' => ?_⟩
    have := hz i (by omega)
    unfold w_seg at this
    rw [add_none, add_none] at this
    simpa [Nat.add_assoc] using this
end Go.Proofs.YtdeblmolgmadiaaGreatDoor
namespace Go.Proofs.YtdeblmolgmadiaaGreatDoor
open Go.ChangeShapes Go.WideShapes Go.ChangeAt Go.RowKit

set_option maxRecDepth 100000 in
theorem open_by1q {H : Type} {enc : TypeId × Value → H} {W : World} {n : Nat} {v : Value} {y : DataW H × List MemPlace}
    (hf : DataW.trod enc Tryz.prog W 0 (fun _ => true) true n 28 [v] = some y) : ∃ l, By W v l := by
  rcases open_ints Tryz.underlying28 Tryz.underlying5 (by kernel_rfl) hf with ⟨hcs, hx⟩ | ⟨a, len', cap', zs, hcs, _, hl, hm, hz, hx, hcell, hwz⟩
  · obtain rfl : v = _ := by simpa using hcs
    exact ⟨[], (Bs.nil W).by⟩
  · obtain rfl : v = _ := by simpa using hcs
    simp only [if_true] at hz
    refine ⟨(zs.take len').map (fun z => UInt8.ofNat z.toNat), some a, cap', ?_, ?_, hm, ?_⟩
    · rw [List.length_map, List.length_take]
      congr 1
      omega
    · rw [List.length_map, List.length_take]
      omega
    · have hlen : ((zs.take len').map (fun z => UInt8.ofNat z.toNat)).length = len' := by rw [List.length_map, List.length_take]; omega
      refine ⟨by rw [length_bys, Nat.mul_one], (fun h => by cases h), fun a' ha j u hu => ?_, fun u hu => ?_⟩
      · injection ha with ha
        subst ha
        have hj : j < len' := by
          have := (List.getElem?_eq_some_iff.1 hu).1
          rwa [length_bys, hlen] at this
        have hzj : zs[j]? = some (zs[j]'(by omega)) := List.getElem?_eq_getElem (by omega)
        have hc := hcell j (by omega)
        have hw := hwz (zs[j]'(by omega)) (List.getElem_mem _)
        have hr : 0 ≤ zs[j]'(by omega) ∧ zs[j]'(by omega) ≤ 255 := by simpa [Lit.wf, IntKind.min, IntKind.max, IntKind.signed, IntKind.bits] using hw
        rw [hc, ← hu]
        unfold bys by8
        rw [List.getElem?_map, List.getElem?_map, List.getElem?_take_of_lt hj, hzj]
        simp only [Option.map_some, List.getD_eq_getElem?_getD, hzj, Option.getD_some, UInt8.toNat_ofNat', Option.some.injEq, Value.int.injEq, true_and]
        omega
      · unfold bys at hu
        obtain ⟨b, _, rfl⟩ := List.mem_map.1 hu
        rfl

set_option maxRecDepth 100000 in
theorem open_raw7 {H : Type} {enc : TypeId × Value → H} {W : World} {base : Nat} {v : Value} {d : DataW H} {p : List MemPlace} (hv : Value.okWide Tryz.prog W .any base 47 v)
    (h : DataW.Trod enc Tryz.prog W 0 (fun _ => true) true 47 v d p) : ∃ (A : Option Addr) (c : Nat) (B S : List UInt8) (wd : Bool), v = .agg #[.slice A B.length c, .bool wd, .string ⟨S.toArray⟩] ∧ By W (.slice A B.length c) B := by
  obtain ⟨v0, v1, v2, y0, y1, y2, n, rfl, _, _, h0, h1, h2⟩ := Joins.open_agg3 Tryz.underlying47 (by kernel_rfl) (by kernel_rfl) hv h
  obtain ⟨l, hl⟩ := open_by1q h0
  obtain ⟨b, e1, _⟩ := DataW.trod_bool Tryz.underlying4 h1
  obtain ⟨s, e2, _, _⟩ := DataW.trod_string Tryz.underlying9 h2
  injection e1 with e1
  injection e2 with e2
  subst e1 e2
  obtain ⟨A, c, rfl, _, _⟩ := hl.form
  exact ⟨A, c, l, s.data.toList, b, by simp, hl⟩

set_option maxRecDepth 100000 in
theorem pathBack_lifted (os : Os) (started : os.Started) (H : Type) (enc : TypeId × Value → H) :
    ReturnsInHanded {} Tryz.checked os 4 .any (fun w args => (Rows.pathBackSpec.pre enc Tryz.prog Tryz.f4 [] false w args ∧ laidMetH Tryz.prog laidJ w) ∧ sizedMet enc Tryz.prog Tryz.f4 (OpenSpec.ofChange Rows.pathBackSpec) false w args)
      (Rows.pathBackSpec.post enc Tryz.prog Tryz.f4 false true false false) := by
  refine returnsInHanded_of_change_and (C := Tryz.checked) (X := fun w _ => laidMetH Tryz.prog laidJ w) (fun _ _ _ hh h => h.of_heap hh) ownKnob_none started (by kernel_rfl) Tryz.func4
    (ChangeSpec.witness_shaped (enc := enc) (C := Tryz.checked) (os := os) (X := fun w _ => laidMetH Tryz.prog laidJ w) false (World.doorLaid Tryz.prog 76 os) #[.slice none 0 0, .slice none 0 0, .agg #[.slice none 0 0, .bool false, .string ⟨#[]⟩]] 8 rfl (World.shaped_of_RefB (by kernel_rfl) (by kernel_rfl)) (by kernel_rfl) (by kernel_rfl) (by kernel_rfl) (door_metJ os _)) ?_
  intro W base args ds gs before hval0 hW _ _ hL _
  have hval : ∀ (j : Nat) t v, Tryz.f4.params[j]? = some t → args[j]? = some v → Value.okWide Tryz.prog W .any base t v := hval0
  have hW' : DataW.Whole enc Tryz.prog Tryz.f4.params.toList Rows.pathBackSpec.vars false W args.toList ds gs before := hW
  obtain ⟨p, q, hA0, hV, rfl, hfz, hnd⟩ := hW
  have hA : DataW.TrodAll enc Tryz.prog W 0 (fun _ => true) true Tryz.f4.params.toList args.toList ds p := hA0
  rw [Tryz.params4] at hA hval
  obtain ⟨v0, v1, v2, d0, d1, d2, p0, p1, p2, rfl, rfl, rfl, h0, h1, h2⟩ := trodAll_three hA
  obtain ⟨rfl, rfl⟩ := trodVars_none hV
  obtain ⟨hr, hs⟩ := rdyJ hL
  obtain ⟨l, hl⟩ := open_pts (hval 0 23 v0 rfl rfl) h0
  obtain ⟨m, hm⟩ := open_pts (hval 1 23 v1 rfl rfl) h1
  obtain ⟨A9, c9, B, S, wd, rfl, hB⟩ := open_raw7 (hval 2 47 v2 rfl rfl) h2
  refine (law_back7 v0 v1 l m A9 c9 B S wd W hl hm hB hr hs).mono fun e W' ⟨he, hk⟩ => ?_
  subst he
  exact ⟨_, rfl, law_post hW' rfl (by kernel_rfl) (by rw [Tryz.params4]; exact readableJ (by kernel_rfl)) rfl rfl rfl hk.under⟩
theorem pathBack_row : Rows.PathBackSaid :=
  OpenClaim.holds_of_wide 4 Tryz.f4 rfl rfl rfl rfl rfl rfl rfl ⟨rfl, rfl, rfl, rfl, rfl⟩ rfl rfl rfl rfl rfl (by kernel_rfl) Tryz.func4 (by kernel_rfl)
    (of_decide_eq_true (by kernel_rfl)) (by unfold Func.isWrapper; first | (rw [if_pos (by decide +kernel)]; kernel_rfl) | (rw [if_neg (by decide +kernel)]; exact ⟨rfl, rfl⟩))
    (fun os started H enc _ => pathBack_lifted os started H enc)
theorem pathBack_holds : Rows.PathBackCardSaid :=
  Claim7.holds_tied_plain_at .later [] [.data, .data, .data, .sentinel, .sentinel, .data] true Rows.pathBackCard.stood.harness true
    pathBack_row (fun _ h => by cases h) (by kernel_rfl) (fun _ h => by cases h) pathBack_row_tie rfl ⟨rfl, rfl⟩ (by kernel_rfl) rfl
    (fun f fn hf hfn => by
      obtain rfl : f = 4 := Option.some.inj ((show Tryz.prog.funcNamed "consulate/consulatelaw07.PathBack" = some 4 by kernel_rfl).symm.trans hf) |>.symm
      obtain rfl : fn = Tryz.f4 := (Option.some.inj (Tryz.func4.symm.trans hfn)).symm
      exact ⟨by kernel_rfl, fun j t ht => by
        rw [Tryz.params4] at ht
        have hm : t ∈ [23, 23, 47] := by simpa using Array.mem_of_getElem? ht
        have hall : ([23, 23, 47].all fun u => !Tryz.prog.wantsStandIn u) = true := by kernel_rfl
        exact (show Tryz.prog.wantsStandIn t = false by simpa using List.all_eq_true.1 hall t hm)⟩)
    (by kernel_rfl)
end Go.Proofs.YtdeblmolgmadiaaGreatDoor
