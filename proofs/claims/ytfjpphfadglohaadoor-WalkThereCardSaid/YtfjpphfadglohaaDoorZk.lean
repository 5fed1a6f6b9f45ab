/-
  Proved here: the law WalkThere returns true for every input, and each argument reads behind the call as it did before; the listed variables of Go's library and the program's own table of brackets hold what the program's text lays in them (tied). No other condition.
-/
import Derived.Test.YtfjpphfadglohaaDoorLaw
import Derived.Test.YtfjpphfadglohaaDoorJk
import Derived.Test.YtfjpphfadglohaaDoorNa
import Derived.Test.YtfjpphfadglohaaDoorTie
import Derived.Test.YtfjpphfadglohaaDoorCards
import Derived.LaidMore
import Derived.ChangeMaps5
import Derived.Stop.Joined
import Derived.Stop.LaidErr
import Derived.SevenTiedAt
import Derived.Lib.LaidTab
import Derived.Deep.Strs
import Derived.Deep.SlicePairs
import Derived.Carry
import Derived.Test.YtfjpphfadglohaaDoorZj
namespace Go.Proofs.YtfjpphfadglohaaDoor
open Go.ChangeShapes Go.WideShapes Go.ChangeAt Go.RowKit

/-- What the rows list. -/
def laidJ : List (String × DataW Unit) := Rows.pathJoinsRow.laid
theorem door_metJ (os : Os) (args : Array Value) : laidMetH Tryd.prog laidJ ((World.doorLaid Tryd.prog 71 os).forCall (fun _ _ => 0) ⟨#[], args, []⟩).memory :=
  laidMetH_of_parts3 (fuel := 8) (laidMet_of_run' 8 (by kernel_rfl) (by kernel_rfl)) (by kernel_rfl) (by kernel_rfl)
theorem starJ : "*" ++ "errors.errorString" = "*errors.errorString" := by decide
theorem row_ptrJ (u : TypeId) (h : Tryd.prog.typeName? 3 u = some "*errors.errorString") : u = 190 :=
  typeName_ptr_named (nm := "errors.errorString") (by rw [starJ]; kernel_rfl) (by kernel_rfl) (by decide) u (by rw [starJ]; exact h)
theorem tab_of {W : World} {x0 x1 : String × DataW Unit} {r : List (String × DataW Unit)}
    (h : laidMet Tryd.prog (x0 :: x1 :: ("internal/strconv.uint64pow10", Rows.laid_internal_strconv_uint64pow10) :: r) W) : Rdy W := by
  have h2 := laidMet.tail (laidMet.tail h)
  have hd : Rows.laid_internal_strconv_uint64pow10 (H := Unit) = Lib.tabData .u64 Lib.pow10Tab := by kernel_rfl
  rw [hd] at h2
  exact Lib.tabIs_of_head (g := 1) (t := 162) (by kernel_rfl) (by kernel_rfl) Tryd.underlying162 Tryd.underlying136 (by kernel_rfl) (by kernel_rfl) h2
theorem rdy_ofJ {W : World} {x0 x1 x3 : String × DataW Unit} {r : List (String × DataW Unit)}
    (h : laidMet Tryd.prog (x0 :: x1 :: ("internal/strconv.uint64pow10", Rows.laid_internal_strconv_uint64pow10) :: x3 :: ("strconv.ErrSyntax", Rows.laid_strconv_ErrSyntax) :: r) W) : Rdy2 W := by
  have h4 := laidMet.tail (laidMet.tail (laidMet.tail (laidMet.tail h)))
  refine ⟨tab_of h, ?_⟩
  obtain ⟨a, s, hv, _, _, _⟩ := laid_sentinel (g := 5) (ti := 101) (tp := 190) (te := 192) (ts := 9) h4 (by kernel_rfl) (by kernel_rfl) Tryd.underlying101 row_ptrJ Tryd.underlying190 Tryd.underlying192 rfl rfl Tryd.underlying9 (by kernel_rfl) (by kernel_rfl)
  exact ⟨_, _, by simpa using World.var?_cell (g := 5) (by kernel_rfl) hv 0⟩
theorem readableJ {ts : List TypeId} (h : (ts.all fun t => Tryd.prog.readableRec t && decide (t < Tryd.prog.types.size)) = true) : ∀ t ∈ ts, Tryd.prog.readableRec t = true ∧ t < Tryd.prog.types.size := fun t ht => by
  have := List.all_eq_true.1 h t ht
  simpa using this

/-- The table of brackets. -/
def bkD {H : Type} (i : Nat) : DataW H := .agg [.lit (.string (Pt.opens i)), .lit (.string (Pt.betw i)), .lit (.string (Pt.ends i))]
theorem bk_data {H : Type} : Rows.laid_consulate_path_brackets (H := H) = .agg ((List.range 5).map bkD) := by rfl
theorem str_of {s : ByteArray} {l : List UInt8} (h : l = s.data.toList) : (.string s : Value) = str l := by
  subst h
  rfl
theorem cells_of_bk {H : Type} {enc : TypeId × Value → H} {w : World} {base : Nat} {sp : Nat → Bool} {held : Bool} {fuel : Nat} {cs : List Value} {p : List MemPlace}
    (h : DataW.trod enc Tryd.prog w base sp held fuel 125 cs = some (Rows.laid_consulate_path_brackets, p)) : cs = bkc.toList := by
  rw [bk_data] at h
  have hce : Tryd.prog.cellsOf 124 = 3 := by kernel_rfl
  have hct : Tryd.prog.cellsOf 125 = 15 := by kernel_rfl
  have hc1 : Tryd.prog.cellsOf 9 = 1 := by kernel_rfl
  cases fuel with
  | zero => simp [DataW.trod] at h
  | succ fuel =>
    simp only [DataW.trod, Tryd.underlying125, hce, hct] at h
    split at h
    case isFalse => cases h
    next hl =>
    obtain ⟨xs, hm, hx⟩ := Option.map_eq_some_iff.1 h
    have hxs : xs.map (·.1) = (List.range 5).map (bkD (H := H)) := by
      have := congrArg Prod.fst hx
      simpa using this
    have key : ∀ i, i < 5 → cs[i * 3]? = some (str (Pt.opens i)) ∧ cs[i * 3 + 1]? = some (str (Pt.betw i)) ∧ cs[i * 3 + 2]? = some (str (Pt.ends i)) := fun i hi => by
      obtain ⟨b, hb, hf⟩ := Lib.mapM_at hm i i (by simp [hi])
      have h2 : (xs.map (·.1))[i]? = some b.1 := by simp [hb]
      rw [hxs] at h2
      have h3 : b.1 = bkD i := by simpa [hi] using h2.symm
      obtain ⟨y0, y1, y2, n, rfl, _, e0, e1, e2⟩ := Go.Deep.trod_struct3 Tryd.underlying124 hf
      obtain ⟨z0, q0, r0, _⟩ := DataW.trod_string Tryd.underlying9 e0
      obtain ⟨z1, q1, r1, _⟩ := DataW.trod_string Tryd.underlying9 e1
      obtain ⟨z2, q2, r2, _⟩ := DataW.trod_string Tryd.underlying9 e2
      subst r0 r1 r2
      simp only [bkD, DataW.agg.injEq, List.cons.injEq, DataW.lit.injEq, Lit.string.injEq, and_true] at h3
      obtain ⟨g0, g1, g2⟩ := h3
      simp only [hc1] at q0 q1 q2
      refine ⟨?_, ?_, ?_⟩
      · have := congrArg (·[0]?) q0
        rw [← str_of g0.symm]
        simpa [List.getElem?_take, List.getElem?_drop] using this
      · have := congrArg (·[0]?) q1
        rw [← str_of g1.symm]
        simpa [List.getElem?_take, List.getElem?_drop] using this
      · have := congrArg (·[0]?) q2
        rw [← str_of g2.symm]
        simpa [List.getElem?_take, List.getElem?_drop] using this
    apply List.ext_getElem?
    intro j
    by_cases hj : j < 15
    · have k := key (j / 3) (by omega)
      have s := bk_cells (j / 3) (by omega)
      rw [← Array.getElem?_toList, ← Array.getElem?_toList, ← Array.getElem?_toList] at s
      obtain e | e | e : j = j / 3 * 3 ∨ j = j / 3 * 3 + 1 ∨ j = j / 3 * 3 + 2 := by omega
      · rw [e, k.1, s.1]
      · rw [e, k.2.1, s.2.1]
      · rw [e, k.2.2, s.2.2]
    · rw [List.getElem?_eq_none (by omega), List.getElem?_eq_none (by have : bkc.toList.length = 15 := rfl; omega)]
theorem bkt_of {W : World} {r : List (String × DataW Unit)} (h : laidMet Tryd.prog (("consulate/path.brackets", Rows.laid_consulate_path_brackets) :: r) W) : Bkt W := by
  obtain ⟨ps, ⟨g', t', cs, fuel, p, q, hg', ht', hvar, hd, _, _⟩, _⟩ := h
  obtain rfl := Option.some.inj ((show Tryd.prog.globalNamed "consulate/path.brackets" = some 0 by kernel_rfl).symm.trans hg')
  obtain rfl := Option.some.inj ((show (Tryd.prog.globals[0]?).map (·.type) = some 125 by kernel_rfl).symm.trans ht')
  have hcs := cells_of_bk hd
  have e : cs = bkc := by cases cs; simp only at hcs; rw [hcs]
  subst e
  unfold World.var? at hvar
  rw [hg'] at hvar
  simp only [Option.bind_some] at hvar
  split at hvar
  next c t fr hh =>
    injection hvar with hvar
    subst hvar
    exact ⟨t, fr, hh⟩
  next => cases hvar
theorem rdyJ {W : World} (h : laidMetH Tryd.prog laidJ W) : Rdy2 W ∧ Bkt W := by
  rw [MakeChecks.laidMetH_plain _ _ _ (by kernel_rfl)] at h
  exact ⟨rdy_ofJ h, bkt_of (laidMet.tail (laidMet.tail (laidMet.tail (laidMet.tail (laidMet.tail h)))))⟩

set_option maxRecDepth 100000 in
theorem open_as1 {H : Type} {enc : TypeId × Value → H} {W : World} {n : Nat} {v : Value} {y : DataW H × List MemPlace}
    (hf : DataW.trod enc Tryd.prog W 0 (fun _ => true) true n 32 [v] = some y) : ∃ l, As W v l := by
  rcases open_ints Tryd.underlying32 Tryd.underlying37 (by kernel_rfl) hf with ⟨hcs, hx⟩ | ⟨a, len', cap', zs, hcs, _, hl, hm, hz, hx, hcell, hwz⟩
  · obtain rfl : v = _ := by simpa using hcs
    exact ⟨[], As.nil W⟩
  · obtain rfl : v = _ := by simpa using hcs
    simp only [if_true] at hz
    have hr : ∀ z ∈ zs, 0 ≤ z ∧ z ≤ 4294967295 := fun z hz' => by
      have hw := hwz z hz'
      simpa [Lit.wf, IntKind.min, IntKind.max, IntKind.signed, IntKind.bits] using hw
    have hlen : ((zs.take len').map (fun z => z.toNat)).length = len' := by rw [List.length_map, List.length_take]; omega
    refine ⟨(zs.take len').map (fun z => z.toNat), fun n hn => ?_, some a, cap', by rw [hlen], by rw [hlen]; exact hl, hm, by rw [length_ass, Nat.mul_one], (fun h => by cases h), fun a' ha j u hu => ?_, fun u hu => ?_⟩
    · obtain ⟨z, hz', rfl⟩ := List.mem_map.1 hn
      have := hr z (List.mem_of_mem_take hz')
      omega
    · injection ha with ha
      subst ha
      have hj : j < len' := by
        have := (List.getElem?_eq_some_iff.1 hu).1
        rwa [length_ass, hlen] at this
      have hzj : zs[j]? = some (zs[j]'(by omega)) := List.getElem?_eq_getElem (by omega)
      have hc := hcell j (by omega)
      have h1 := hr (zs[j]'(by omega)) (List.getElem_mem _)
      rw [hc, ← hu]
      unfold ass
      rw [List.getElem?_map, List.getElem?_map, List.getElem?_take_of_lt hj, hzj]
      simp only [Option.map_some, List.getD_eq_getElem?_getD, hzj, Option.getD_some, Option.some.injEq, Value.int.injEq, true_and]
      omega
    · unfold ass at hu
      obtain ⟨b, _, rfl⟩ := List.mem_map.1 hu
      rfl
def w_seg (W : World) (a : Addr) (i : Nat) (z : Seg) : Prop := W.cell? (a.add (i * 2)) = some (by8 z.1) ∧ ∃ u, W.cell? (a.add (i * 2 + 1)) = some u ∧ As W u z.2
set_option maxRecDepth 100000 in
theorem open_pts {H : Type} {enc : TypeId × Value → H} {W : World} {base : Nat} {v : Value} {d : DataW H} {p : List MemPlace} (hv : Value.okWide Tryd.prog W .any base 23 v)
    (h : DataW.Trod enc Tryd.prog W 0 (fun _ => true) true 23 v d p) : ∃ l, Pts W v l := by
  obtain ⟨a0, len, cap, rfl⟩ := okWide_slice Tryd.underlying23 hv
  obtain ⟨fuel, hf⟩ := h
  rcases Go.Deep.open_slice_pairs Tryd.underlying23 Tryd.underlying34 (by kernel_rfl) rfl rfl (by kernel_rfl) (by kernel_rfl) hf with ⟨hcs, hx⟩ | ⟨a, len', cap', m, n, V0, V1, D0, D1, P0, P1, hcs, _, hl, hm, hmm, hx, hi⟩
  · simp [Value.cells] at hcs
    obtain ⟨rfl, rfl, rfl⟩ := hcs
    exact ⟨[], Pts.nil W⟩
  · simp [Value.cells] at hcs
    obtain ⟨rfl, rfl, rfl⟩ := hcs
    simp only [if_true] at hmm
    have num : ∀ i, i < m → ∃ z : Seg, w_seg W a i z := fun i hi' => by
      obtain ⟨h0, h1, t0, t1⟩ := hi i hi'
      obtain ⟨z0, e0, _, w0⟩ := DataW.trod_int Tryd.underlying5 t0
      injection e0 with e0
      rw [e0] at h0
      obtain ⟨l, hl⟩ := open_as1 t1
      have hr : 0 ≤ z0 ∧ z0 ≤ 255 := by simpa [Lit.wf, IntKind.min, IntKind.max, IntKind.signed, IntKind.bits] using w0
      refine ⟨(UInt8.ofNat z0.toNat, l), ?_, _, h1, hl⟩
      rw [h0]
      unfold by8
      have : ((UInt8.ofNat z0.toNat).toNat : Int) = z0 := by rw [UInt8.toNat_ofNat']; omega
      rw [this]
    obtain ⟨z, hz⟩ := Go.Deep.choose_lt num
    refine ⟨(List.range len).map z, some a, cap, by simp, by simp; omega, hm, fun h0 => ?_⟩
    simp only [List.length_map, List.length_range] at h0 ⊢
    obtain ⟨b, off, spot⟩ := a
    have hspot : spot = none := by simpa [Addr.add] using World.cell?_spot (hz 0 (by omega)).1
    subst hspot
    refine ⟨b, off, rfl, fun i hi' => ?_⟩
    have := hz i (by omega)
    unfold w_seg at this
    rw [add_none, add_none] at this
    simpa [Nat.add_assoc] using this
end Go.Proofs.YtfjpphfadglohaaDoor
namespace Go.Proofs.YtfjpphfadglohaaDoor
open Go.ChangeShapes Go.WideShapes Go.ChangeAt Go.RowKit

/-- What the rows list. -/
def laidW : List (String × DataW Unit) := Rows.walkNextRow.laid
theorem door_metW (os : Os) (args : Array Value) : laidMetH Tryd.prog laidW ((World.doorLaid Tryd.prog 71 os).forCall (fun _ _ => 0) ⟨#[], args, []⟩).memory :=
  laidMetH_of_parts3 (fuel := 8) (laidMet_of_run' 8 (by kernel_rfl) (by kernel_rfl)) (by kernel_rfl) (by kernel_rfl)
theorem rdyW {W : World} (h : laidMetH Tryd.prog laidW W) : Rdy W ∧ Bkt W := by
  rw [MakeChecks.laidMetH_plain _ _ _ (by kernel_rfl)] at h
  exact ⟨tab_of h, bkt_of (laidMet.tail (laidMet.tail (laidMet.tail h)))⟩
theorem u32_natW {n : Int} (h : (Lit.int .u32 n).wf = true) : ∃ x : Nat, n = x ∧ x < 4294967296 := by
  have hr : 0 ≤ n ∧ n ≤ 4294967295 := by simpa [Lit.wf, IntKind.min, IntKind.max, IntKind.signed, IntKind.bits] using h
  exact ⟨n.toNat, by omega, by omega⟩
set_option maxRecDepth 100000 in
theorem open_asW {H : Type} {enc : TypeId × Value → H} {W : World} {base : Nat} {v : Value} {d : DataW H} {p : List MemPlace} (hv : Value.okWide Tryd.prog W .any base 37 v)
    (h : DataW.Trod enc Tryd.prog W 0 (fun _ => true) true 37 v d p) : ∃ x : Nat, v = .int .u32 (x : Int) ∧ x < 4294967296 := by
  obtain ⟨n, rfl, _, _, hw⟩ := open_int Tryd.underlying37 hv h
  obtain ⟨x, rfl, hx⟩ := u32_natW hw
  exact ⟨x, rfl, hx⟩
set_option maxRecDepth 100000 in
theorem open_u8W {H : Type} {enc : TypeId × Value → H} {W : World} {base : Nat} {v : Value} {d : DataW H} {p : List MemPlace} (hv : Value.okWide Tryd.prog W .any base 5 v)
    (h : DataW.Trod enc Tryd.prog W 0 (fun _ => true) true 5 v d p) : ∃ x : Nat, v = .int .u8 (x : Int) ∧ x < 256 := by
  obtain ⟨n, rfl, _, _, hw⟩ := open_int Tryd.underlying5 hv h
  have hr : 0 ≤ n ∧ n ≤ 255 := by simpa [Lit.wf, IntKind.min, IntKind.max, IntKind.signed, IntKind.bits] using hw
  exact ⟨n.toNat, by congr 1; omega, by omega⟩
set_option maxRecDepth 100000 in
theorem open_asked {H : Type} {enc : TypeId × Value → H} {W : World} {base : Nat} {v : Value} {d : DataW H} {p : List MemPlace} (hv : Value.okWide Tryd.prog W .any base 42 v)
    (h : DataW.Trod enc Tryd.prog W 0 (fun _ => true) true 42 v d p) : ∃ x y : Nat, v = .agg #[.int .u32 (x : Int), .int .u32 (y : Int)] ∧ x < 4294967296 ∧ y < 4294967296 := by
  obtain ⟨v0, v1, y0, y1, n, rfl, _, _, h0, h1⟩ := Joins.open_agg2 Tryd.underlying42 (by kernel_rfl) (by kernel_rfl) hv h
  obtain ⟨z0, e0, _, w0⟩ := DataW.trod_int Tryd.underlying37 h0
  obtain ⟨z1, e1, _, w1⟩ := DataW.trod_int Tryd.underlying37 h1
  injection e0 with e0
  injection e1 with e1
  obtain ⟨x, rfl, hx⟩ := u32_natW w0
  obtain ⟨y, rfl, hy⟩ := u32_natW w1
  exact ⟨x, y, by rw [e0, e1], hx, hy⟩
end Go.Proofs.YtfjpphfadglohaaDoor
namespace Go.Proofs.YtfjpphfadglohaaDoor
open Go.ChangeShapes Go.WideShapes Go.ChangeAt Go.RowKit

set_option maxRecDepth 100000 in
theorem walkThere_lifted (os : Os) (started : os.Started) (H : Type) (enc : TypeId × Value → H) :
    ReturnsInHanded {} Tryd.checked os 6 .any (fun w args => (Rows.walkThereSpec.pre enc Tryd.prog Tryd.f6 [] false w args ∧ laidMetH Tryd.prog laidW w) ∧ sizedMet enc Tryd.prog Tryd.f6 (OpenSpec.ofChange Rows.walkThereSpec) false w args)
      (Rows.walkThereSpec.post enc Tryd.prog Tryd.f6 false true false false) := by
  refine returnsInHanded_of_change_and (C := Tryd.checked) (X := fun w _ => laidMetH Tryd.prog laidW w) (fun _ _ _ hh h => h.of_heap hh) ownKnob_none started (by kernel_rfl) Tryd.func6
    (ChangeSpec.witness_shaped (enc := enc) (C := Tryd.checked) (os := os) (X := fun w _ => laidMetH Tryd.prog laidW w) false (World.doorLaid Tryd.prog 71 os) #[.slice none 0 0, .agg #[.int .u32 0, .int .u32 0]] 8 rfl (World.shaped_of_RefB (by kernel_rfl) (by kernel_rfl)) (by kernel_rfl) (by kernel_rfl) (by kernel_rfl) (door_metW os _)) ?_
  intro W base args ds gs before hval0 hW _ _ hL _
  have hval : ∀ (j : Nat) t v, Tryd.f6.params[j]? = some t → args[j]? = some v → Value.okWide Tryd.prog W .any base t v := hval0
  have hW' : DataW.Whole enc Tryd.prog Tryd.f6.params.toList Rows.walkThereSpec.vars false W args.toList ds gs before := hW
  obtain ⟨p, q, hA0, hV, rfl, hfz, hnd⟩ := hW
  have hA : DataW.TrodAll enc Tryd.prog W 0 (fun _ => true) true Tryd.f6.params.toList args.toList ds p := hA0
  rw [Tryd.params6] at hA hval
  obtain ⟨v0, v1, d0, d1, p0, p1, rfl, rfl, rfl, h0, h1⟩ := trodAll_two hA
  obtain ⟨rfl, rfl⟩ := trodVars_none hV
  obtain ⟨hr, hs⟩ := rdyW hL
  obtain ⟨l, hl⟩ := open_pts (hval 0 23 v0 rfl rfl) h0
  obtain ⟨x, y, rfl, hx, hy⟩ := open_asked (hval 1 42 v1 rfl rfl) h1
  refine (law_there v0 l x y hx hy W hl hr hs).mono fun e W' ⟨he, hk⟩ => ?_
  subst he
  exact ⟨_, rfl, law_post hW' rfl (by kernel_rfl) (by rw [Tryd.params6]; exact readableJ (by kernel_rfl)) rfl rfl rfl hk.under⟩
theorem walkThere_row : Rows.WalkThereSaid :=
  OpenClaim.holds_of_wide 6 Tryd.f6 rfl rfl rfl rfl rfl rfl rfl ⟨rfl, rfl, rfl, rfl, rfl⟩ rfl rfl rfl rfl rfl (by kernel_rfl) Tryd.func6 (by kernel_rfl)
    (of_decide_eq_true (by kernel_rfl)) (by unfold Func.isWrapper; first | (rw [if_pos (by decide +kernel)]; kernel_rfl) | (rw [if_neg (by decide +kernel)]; exact ⟨rfl, rfl⟩))
    (fun os started H enc _ => walkThere_lifted os started H enc)
theorem walkThere_holds : Rows.WalkThereCardSaid :=
  Claim7.holds_tied_plain_at .later [] [.data, .data, .data, .data] true Rows.walkThereCard.stood.harness true
    walkThere_row (fun _ h => by cases h) (by kernel_rfl) (fun _ h => by cases h) walkThere_row_tie rfl ⟨rfl, rfl⟩ (by kernel_rfl) rfl
    (fun f fn hf hfn => by
      obtain rfl : f = 6 := Option.some.inj ((show Tryd.prog.funcNamed "consulate/consulatelaw08.WalkThere" = some 6 by kernel_rfl).symm.trans hf) |>.symm
      obtain rfl : fn = Tryd.f6 := (Option.some.inj (Tryd.func6.symm.trans hfn)).symm
      exact ⟨by kernel_rfl, fun j t ht => by
        rw [Tryd.params6] at ht
        have hm : t ∈ [23, 42] := by simpa using Array.mem_of_getElem? ht
        have hall : ([23, 42].all fun u => !Tryd.prog.wantsStandIn u) = true := by kernel_rfl
        exact (show Tryd.prog.wantsStandIn t = false by simpa using List.all_eq_true.1 hall t hm)⟩)
    (by kernel_rfl)
end Go.Proofs.YtfjpphfadglohaaDoor
