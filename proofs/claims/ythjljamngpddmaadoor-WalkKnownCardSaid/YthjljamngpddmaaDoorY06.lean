
/-
  What the calls of package scroll's writer do: Hold.
-/
import Derived.Test.YthjljamngpddmaaDoorY01
import Derived.Test.YthjljamngpddmaaDoorY05
import Derived.Test.YthjljamngpddmaaDoorTie
import Derived.Test.YthjljamngpddmaaDoorCards
import Derived.LaidMore
import Derived.ChangeMaps5
import Derived.Stop.Joined
import Derived.Stop.LaidErr
import Derived.SevenTiedAt
import Derived.Lib.LaidTab
import Derived.Deep.Strs
import Derived.Deep.SlicePairs
import Derived.Carry
import Derived.Test.YthjljamngpddmaaDoorY03
import Derived.Shelf.Spec.SlicesInsertGrow
import Derived.Test.YthjljamngpddmaaDoorY02
namespace Go.Proofs.YthjljamngpddmaaDoor
open Go.ChangeShapes Go.WideShapes Go.ChangeAt Go.RowKit

theorem tab_of {W : World} {x0 x1 : String × DataW Unit} {r : List (String × DataW Unit)}
    (h : laidMet Tryd.prog (x0 :: x1 :: ("internal/strconv.uint64pow10", Rows.laid_internal_strconv_uint64pow10) :: r) W) : Rdy W := by
  have h2 := laidMet.tail (laidMet.tail h)
  have hd : Rows.laid_internal_strconv_uint64pow10 (H := Unit) = Lib.tabData .u64 Lib.pow10Tab := by kernel_rfl
  rw [hd] at h2
  exact Lib.tabIs_of_head (g := 1) (t := 115) (by kernel_rfl) (by kernel_rfl) Tryd.underlying115 Tryd.underlying103 (by kernel_rfl) (by kernel_rfl) h2
theorem readableJ {ts : List TypeId} (h : (ts.all fun t => Tryd.prog.readableRec t && decide (t < Tryd.prog.types.size)) = true) : ∀ t ∈ ts, Tryd.prog.readableRec t = true ∧ t < Tryd.prog.types.size := fun t ht => by
  have := List.all_eq_true.1 h t ht
  simpa using this

/-- The table of brackets. -/
def bkD {H : Type} (i : Nat) : DataW H := .agg [.lit (.string (Pt.opens i)), .lit (.string (Pt.betw i)), .lit (.string (Pt.ends i))]
theorem bk_data {H : Type} : Rows.laid_consulate_path_brackets (H := H) = .agg ((List.range 5).map bkD) := by rfl
theorem str_of {s : ByteArray} {l : List UInt8} (h : l = s.data.toList) : (.string s : Value) = str l := by
  subst h
  rfl
theorem cells_of_bk {H : Type} {enc : TypeId × Value → H} {w : World} {base : Nat} {sp : Nat → Bool} {held : Bool} {fuel : Nat} {cs : List Value} {p : List MemPlace}
    (h : DataW.trod enc Tryd.prog w base sp held fuel 97 cs = some (Rows.laid_consulate_path_brackets, p)) : cs = bkc.toList := by
  rw [bk_data] at h
  have hce : Tryd.prog.cellsOf 96 = 3 := by kernel_rfl
  have hct : Tryd.prog.cellsOf 97 = 15 := by kernel_rfl
  have hc1 : Tryd.prog.cellsOf 9 = 1 := by kernel_rfl
  cases fuel with
  | zero => simp [DataW.trod] at h
  | succ fuel =>
    simp only [DataW.trod, Tryd.underlying97, hce, hct] at h
    split at h
    case isFalse => cases h
    next hl =>
    obtain ⟨xs, hm, hx⟩ := Option.map_eq_some_iff.1 h
    have hxs : xs.map (·.1) = (List.range 5).map (bkD (H := H)) := by
      have := congrArg Prod.fst hx
      simpa using this
    have key : ∀ i, i < 5 → cs[i * 3]? = some (str (Pt.opens i)) ∧ cs[i * 3 + 1]? = some (str (Pt.betw i)) ∧ cs[i * 3 + 2]? = some (str (Pt.ends i)) := fun i hi => by
      obtain ⟨b, hb, hf⟩ := Lib.mapM_at hm i i (by simp [hi])
      have h2 : (xs.map (·.1))[i]? = some b.1 := by simp [hb]
      rw [hxs] at h2
      have h3 : b.1 = bkD i := by simpa [hi] using h2.symm
      obtain ⟨y0, y1, y2, n, rfl, _, e0, e1, e2⟩ := Go.Deep.trod_struct3 Tryd.underlying96 hf
      obtain ⟨z0, q0, r0, _⟩ := DataW.trod_string Tryd.underlying9 e0
      obtain ⟨z1, q1, r1, _⟩ := DataW.trod_string Tryd.underlying9 e1
      obtain ⟨z2, q2, r2, _⟩ := DataW.trod_string Tryd.underlying9 e2
      subst r0 r1 r2
      simp only [bkD, DataW.agg.injEq, List.cons.injEq, DataW.lit.injEq, Lit.string.injEq, and_true] at h3
      obtain ⟨g0, g1, g2⟩ := h3
      simp only [hc1] at q0 q1 q2
      refine ⟨?_, ?_, ?_⟩
      · have := congrArg (·[0]?) q0
        rw [← str_of g0.symm]
        simpa [List.getElem?_take, List.getElem?_drop] using this
      · have := congrArg (·[0]?) q1
        rw [← str_of g1.symm]
        simpa [List.getElem?_take, List.getElem?_drop] using this
      · have := congrArg (·[0]?) q2
        rw [← str_of g2.symm]
        simpa [List.getElem?_take, List.getElem?_drop] using this
    apply List.ext_getElem?
    intro j
    by_cases hj : j < 15
    · have k := key (j / 3) (by omega)
      have s := bk_cells (j / 3) (by omega)
      rw [← Array.getElem?_toList, ← Array.getElem?_toList, ← Array.getElem?_toList] at s
      obtain e | e | e : j = j / 3 * 3 ∨ j = j / 3 * 3 + 1 ∨ j = j / 3 * 3 + 2 := by omega
      · rw [e, k.1, s.1]
      · rw [e, k.2.1, s.2.1]
      · rw [e, k.2.2, s.2.2]
    · rw [List.getElem?_eq_none (by omega), List.getElem?_eq_none (by have : bkc.toList.length = 15 := rfl; omega)]
theorem bkt_of {W : World} {r : List (String × DataW Unit)} (h : laidMet Tryd.prog (("consulate/path.brackets", Rows.laid_consulate_path_brackets) :: r) W) : Bkt W := by
  obtain ⟨ps, ⟨g', t', cs, fuel, p, q, hg', ht', hvar, hd, _, _⟩, _⟩ := h
  obtain rfl := Option.some.inj ((show Tryd.prog.globalNamed "consulate/path.brackets" = some 0 by kernel_rfl).symm.trans hg')
  obtain rfl := Option.some.inj ((show (Tryd.prog.globals[0]?).map (·.type) = some 97 by kernel_rfl).symm.trans ht')
  have hcs := cells_of_bk hd
  have e : cs = bkc := by cases cs; simp only at hcs; rw [hcs]
  subst e
  unfold World.var? at hvar
  rw [hg'] at hvar
  simp only [Option.bind_some] at hvar
  split at hvar
  next c t fr hh =>
    injection hvar with hvar
    subst hvar
    exact ⟨t, fr, hh⟩
  next => cases hvar
set_option maxRecDepth 100000 in
theorem open_as1 {H : Type} {enc : TypeId × Value → H} {W : World} {n : Nat} {v : Value} {y : DataW H × List MemPlace}
    (hf : DataW.trod enc Tryd.prog W 0 (fun _ => true) true n 59 [v] = some y) : ∃ l, As W v l := by
  rcases open_ints Tryd.underlying59 Tryd.underlying25 (by kernel_rfl) hf with ⟨hcs, hx⟩ | ⟨a, len', cap', zs, hcs, _, hl, hm, hz, hx, hcell, hwz⟩
  · obtain rfl : v = _ := by simpa using hcs
    exact ⟨[], As.nil W⟩
  · obtain rfl : v = _ := by simpa using hcs
    simp only [if_true] at hz
    have hr : ∀ z ∈ zs, 0 ≤ z ∧ z ≤ 4294967295 := fun z hz' => by
      have hw := hwz z hz'
      simpa [Lit.wf, IntKind.min, IntKind.max, IntKind.signed, IntKind.bits] using hw
    have hlen : ((zs.take len').map (fun z => z.toNat)).length = len' := by rw [List.length_map, List.length_take]; omega
    refine ⟨(zs.take len').map (fun z => z.toNat), fun n hn => ?_, some a, cap', by rw [hlen], by rw [hlen]; exact hl, hm, by rw [length_ass, Nat.mul_one], (fun h => by cases h), fun a' ha j u hu => ?_, fun u hu => ?_⟩
    · obtain ⟨z, hz', rfl⟩ := List.mem_map.1 hn
      have := hr z (List.mem_of_mem_take hz')
      omega
    · injection ha with ha
      subst ha
      have hj : j < len' := by
        have := (List.getElem?_eq_some_iff.1 hu).1
        rwa [length_ass, hlen] at this
      have hzj : zs[j]? = some (zs[j]'(by omega)) := List.getElem?_eq_getElem (by omega)
      have hc := hcell j (by omega)
      have h1 := hr (zs[j]'(by omega)) (List.getElem_mem _)
      rw [hc, ← hu]
      unfold ass
      rw [List.getElem?_map, List.getElem?_map, List.getElem?_take_of_lt hj, hzj]
      simp only [Option.map_some, List.getD_eq_getElem?_getD, hzj, Option.getD_some, Option.some.injEq, Value.int.injEq, true_and]
      omega
    · unfold ass at hu
      obtain ⟨b, _, rfl⟩ := List.mem_map.1 hu
      rfl
def w_seg (W : World) (a : Addr) (i : Nat) (z : Seg) : Prop := W.cell? (a.add (i * 2)) = some (by8 z.1) ∧ ∃ u, W.cell? (a.add (i * 2 + 1)) = some u ∧ As W u z.2
set_option maxRecDepth 100000 in
theorem open_pts {H : Type} {enc : TypeId × Value → H} {W : World} {base : Nat} {v : Value} {d : DataW H} {p : List MemPlace} (hv : Value.okWide Tryd.prog W .any base 23 v)
    (h : DataW.Trod enc Tryd.prog W 0 (fun _ => true) true 23 v d p) : ∃ l, Pts W v l := by
  obtain ⟨a0, len, cap, rfl⟩ := okWide_slice Tryd.underlying23 hv
  obtain ⟨fuel, hf⟩ := h
  rcases Go.Deep.open_slice_pairs Tryd.underlying23 Tryd.underlying61 (by kernel_rfl) rfl rfl (by kernel_rfl) (by kernel_rfl) hf with ⟨hcs, hx⟩ | ⟨a, len', cap', m, n, V0, V1, D0, D1, P0, P1, hcs, _, hl, hm, hmm, hx, hi⟩
  · simp [Value.cells] at hcs
    obtain ⟨rfl, rfl, rfl⟩ := hcs
    exact ⟨[], Pts.nil W⟩
  · simp [Value.cells] at hcs
    obtain ⟨rfl, rfl, rfl⟩ := hcs
    simp only [if_true] at hmm
    have num : ∀ i, i < m → ∃ z : Seg, w_seg W a i z := fun i hi' => by
      obtain ⟨h0, h1, t0, t1⟩ := hi i hi'
      obtain ⟨z0, e0, _, w0⟩ := DataW.trod_int Tryd.underlying5 t0
      injection e0 with e0
      rw [e0] at h0
      obtain ⟨l, hl⟩ := open_as1 t1
      have hr : 0 ≤ z0 ∧ z0 ≤ 255 := by simpa [Lit.wf, IntKind.min, IntKind.max, IntKind.signed, IntKind.bits] using w0
      refine ⟨(UInt8.ofNat z0.toNat, l), ?_, _, h1, hl⟩
      rw [h0]
      unfold by8
      have : ((UInt8.ofNat z0.toNat).toNat : Int) = z0 := by rw [UInt8.toNat_ofNat']; omega
      rw [this]
    obtain ⟨z, hz⟩ := Go.Deep.choose_lt num
    refine ⟨(List.range len).map z, some a, cap, by simp, by simp; omega, hm, fun h0 => ?_⟩
    simp only [List.length_map, List.length_range] at h0 ⊢
    obtain ⟨b, off, spot⟩ := a
    have hspot : spot = none := by simpa [Addr.add] using World.cell?_spot (hz 0 (by omega)).1
    subst hspot
    refine ⟨b, off, rfl, fun i hi' => ?_⟩
    have := hz i (by omega)
    unfold w_seg at this
    rw [add_none, add_none] at this
    simpa [Nat.add_assoc] using this
/-- What the rows list. -/
def laidW : List (String × DataW Unit) := Rows.walkKnownRow.laid
theorem door_metW (os : Os) (args : Array Value) : laidMetH Tryd.prog laidW ((World.doorLaid Tryd.prog 33 os).forCall (fun _ _ => 0) ⟨#[], args, []⟩).memory :=
  laidMetH_of_parts3 (fuel := 8) (laidMet_of_run' 8 (by kernel_rfl) (by kernel_rfl)) (by kernel_rfl) (by kernel_rfl)
theorem rdyW {W : World} (h : laidMetH Tryd.prog laidW W) : Rdy W ∧ Bkt W := by
  rw [MakeChecks.laidMetH_plain _ _ _ (by kernel_rfl)] at h
  exact ⟨tab_of h, bkt_of (laidMet.tail (laidMet.tail (laidMet.tail h)))⟩
theorem u32_natW {n : Int} (h : (Lit.int .u32 n).wf = true) : ∃ x : Nat, n = x ∧ x < 4294967296 := by
  have hr : 0 ≤ n ∧ n ≤ 4294967295 := by simpa [Lit.wf, IntKind.min, IntKind.max, IntKind.signed, IntKind.bits] using h
  exact ⟨n.toNat, by omega, by omega⟩
set_option maxRecDepth 100000 in
theorem open_asW {H : Type} {enc : TypeId × Value → H} {W : World} {base : Nat} {v : Value} {d : DataW H} {p : List MemPlace} (hv : Value.okWide Tryd.prog W .any base 25 v)
    (h : DataW.Trod enc Tryd.prog W 0 (fun _ => true) true 25 v d p) : ∃ x : Nat, v = .int .u32 (x : Int) ∧ x < 4294967296 := by
  obtain ⟨n, rfl, _, _, hw⟩ := open_int Tryd.underlying25 hv h
  obtain ⟨x, rfl, hx⟩ := u32_natW hw
  exact ⟨x, rfl, hx⟩
set_option maxRecDepth 100000 in
theorem open_u8W {H : Type} {enc : TypeId × Value → H} {W : World} {base : Nat} {v : Value} {d : DataW H} {p : List MemPlace} (hv : Value.okWide Tryd.prog W .any base 5 v)
    (h : DataW.Trod enc Tryd.prog W 0 (fun _ => true) true 5 v d p) : ∃ x : Nat, v = .int .u8 (x : Int) ∧ x < 256 := by
  obtain ⟨n, rfl, _, _, hw⟩ := open_int Tryd.underlying5 hv h
  have hr : 0 ≤ n ∧ n ≤ 255 := by simpa [Lit.wf, IntKind.min, IntKind.max, IntKind.signed, IntKind.bits] using hw
  exact ⟨n.toNat, by congr 1; omega, by omega⟩
set_option maxRecDepth 100000 in
theorem open_asked {H : Type} {enc : TypeId × Value → H} {W : World} {base : Nat} {v : Value} {d : DataW H} {p : List MemPlace} (hv : Value.okWide Tryd.prog W .any base 27 v)
    (h : DataW.Trod enc Tryd.prog W 0 (fun _ => true) true 27 v d p) : ∃ x y : Nat, v = .agg #[.int .u32 (x : Int), .int .u32 (y : Int)] ∧ x < 4294967296 ∧ y < 4294967296 := by
  obtain ⟨v0, v1, y0, y1, n, rfl, _, _, h0, h1⟩ := Joins.open_agg2 Tryd.underlying27 (by kernel_rfl) (by kernel_rfl) hv h
  obtain ⟨z0, e0, _, w0⟩ := DataW.trod_int Tryd.underlying25 h0
  obtain ⟨z1, e1, _, w1⟩ := DataW.trod_int Tryd.underlying25 h1
  injection e0 with e0
  injection e1 with e1
  obtain ⟨x, rfl, hx⟩ := u32_natW w0
  obtain ⟨y, rfl, hy⟩ := u32_natW w1
  exact ⟨x, y, by rw [e0, e1], hx, hy⟩
end Go.Proofs.YthjljamngpddmaaDoor
namespace Go.Proofs.YthjljamngpddmaaDoor
open Go.RowKit

theorem own_lies {w : World} {base size n : Nat} {e : TypeId} {v : Value} {xs : List Value} (h : w.ownsRow base e size v n xs) (hn : 0 < n) : ∃ g cap cur, v = .slice (some ⟨g, 0, none⟩) n cap ∧ base ≤ g ∧ Blk w g e cur := by
  rcases h.2 with ⟨_, h0⟩ | ⟨g, cap, cur, hv, hb, hh, _⟩
  · omega
  · exact ⟨g, cap, cur, hv, hb, hh⟩
theorem inc_wrap (n : Nat) : IntKind.u32.wrap ((n : Int) + 1) = (((n + 1) % 4294967296 : Nat) : Int) := by
  simp [IntKind.wrap, IntKind.bits, IntKind.signed]
theorem own_setA {w : World} {base g n : Nat} {e : TypeId} {v x u : Value} {xs : List Value} (h : w.ownsRow base e 1 v n (x :: xs)) (hg : v.ownBlock = some g) : (w.setCell ⟨g, 0, none⟩ u).ownsRow base e 1 v n (u :: xs) := by
  obtain ⟨h1, h2⟩ := h
  refine ⟨h1, ?_⟩
  rcases h2 with ⟨rfl, _⟩ | ⟨g', cap, cur, rfl, hb, hh, hnc, hcm, hcs, htk⟩
  · simp [Value.ownBlock] at hg
  · obtain rfl : g' = g := by simpa [Value.ownBlock] using hg
    have hB : Blk w g' e cur := hh
    refine .inr ⟨g', cap, _, rfl, hb, hB.put 0 u, hnc, hcm, by simpa using hcs, ?_⟩
    rw [List.length_cons] at h1
    obtain ⟨m, rfl⟩ : ∃ m, n = m + 1 := ⟨n - 1, by omega⟩
    rw [Array.toList_setIfInBounds]
    cases hc : cur.toList with
    | nil => rw [hc] at htk; simp at htk
    | cons c0 r =>
      rw [hc, Nat.mul_one, List.take_succ_cons] at htk
      rw [Nat.mul_one, List.set_cons_zero, List.take_succ_cons]
      injection htk with _ h2
      rw [h2]
theorem Rws.apart {w w' : World} {B : Nat} {S : Nat → Prop} (k : Kept S w w') : ∀ {xs : List Value} {l : List Seg}, Rws w B xs l → (∀ u ∈ xs, ∀ g, u.ownBlock = some g → ¬ S g) → Rws w' B xs l
  | [], [], _, _ => trivial
  | _ :: v :: _, _ :: _, ⟨h1, h2, h3, h4⟩, hs => ⟨h1, ow_kept h2 k (fun g hg => hs v (by simp) g hg), h3, Rws.apart k h4 (fun u hu => hs u (by simp [hu]))⟩
  | [], _ :: _, h, _ => h.elim
  | [_], _, h, _ => by unfold Rws at h; exact h.elim
  | _ :: _ :: _, [], h, _ => by unfold Rws at h; exact h.elim
theorem Rws.at {w : World} {B : Nat} : ∀ {xs : List Value} {l : List Seg} (_ : Rws w B xs l) (k : Nat) (_ : k < l.length), ∃ v, xs[k * 2]? = some (by8 (l.getD k (0, [])).1) ∧ xs[k * 2 + 1]? = some v ∧ w.ownsRow B 25 1 v (l.getD k (0, [])).2.length (ass (l.getD k (0, [])).2) ∧ ∀ n ∈ (l.getD k (0, [])).2, n < 4294967296
  | _ :: v :: _, c :: _, ⟨h1, h2, h3, _⟩, 0, _ => ⟨v, by rw [h1]; rfl, rfl, h2, h3⟩
  | a :: v :: xs, c :: l, ⟨_, _, _, h4⟩, k + 1, hk => by
    obtain ⟨u, e0, e1, e2, e3⟩ := Rws.at h4 k (by simpa using hk)
    exact ⟨u, by rw [Nat.add_mul]; exact e0, by rw [Nat.add_mul]; exact e1, e2, e3⟩
  | [], [], _, k, hk => absurd hk (Nat.not_lt_zero _)
  | [], _ :: _, h, _, _ => h.elim
  | [_], _, h, _, _ => by unfold Rws at h; exact h.elim
  | _ :: _ :: _, [], h, _, _ => by unfold Rws at h; exact h.elim
theorem Rws.inc {w : World} {B g m : Nat} (hm : m < 4294967296) {n : Nat} {t : List Nat} {v : Value} : ∀ {xs : List Value} {l : List Seg} (_ : Rws w B xs l) (_ : Dist xs) (k : Nat) (_ : k < l.length) (_ : xs[k * 2 + 1]? = some v) (_ : v.ownBlock = some g) (_ : (l.getD k (0, [])).2 = n :: t),
    Rws (w.setCell ⟨g, 0, none⟩ (.int .u32 (m : Int))) B xs (l.set k ((l.getD k (0, [])).1, m :: t))
  | _ :: u :: xs, c :: l, ⟨h1, h2, h3, h4⟩, hd, 0, _, hv, hg, hl => by
    obtain rfl : u = v := by simpa using hv
    have hd2 := List.pairwise_cons.1 (List.pairwise_cons.1 hd).2
    have hl' : c.2 = n :: t := hl
    rw [hl'] at h2 h3
    refine ⟨h1, own_setA h2 hg, fun x hx => ?_, h4.apart (Kept.own w g 0 _) (fun x hx g' hg' (e : g' = g) => ?_)⟩
    · rcases List.mem_cons.1 hx with rfl | hx
      · exact hm
      · exact h3 x (List.mem_cons_of_mem _ hx)
    · subst e
      exact hd2.1 x hx g' hg hg'
  | a :: u :: xs, c :: l, ⟨h1, h2, h3, h4⟩, hd, k + 1, hk, hv, hg, hl => by
    have hd2 := List.pairwise_cons.1 (List.pairwise_cons.1 hd).2
    have hv' : xs[k * 2 + 1]? = some v := by rw [Nat.add_mul] at hv; exact hv
    refine ⟨h1, ow_kept h2 (Kept.own w g 0 _) (fun g' hg' (e : g' = g) => ?_), h3, Rws.inc hm h4 hd2.2 k (by simpa using hk) hv' hg hl⟩
    subst e
    exact hd2.1 v (List.mem_of_getElem? hv') g' hg' hg
  | [], [], _, _, k, hk, _, _, _ => absurd hk (Nat.not_lt_zero _)
  | [], _ :: _, h, _, _, _, _, _, _ => h.elim
  | [_], _, h, _, _, _, _, _, _ => by unfold Rws at h; exact h.elim
  | _ :: _ :: _, [], h, _, _, _, _, _, _ => by unfold Rws at h; exact h.elim

namespace Pt
def inc (s : Seg) : Seg := (s.1, match s.2 with | n :: t => ((n + 1) % 4294967296) :: t | [] => [])
/-- The first k segments made one more. -/
def incs (k : Nat) (l : List Seg) : List Seg := (l.take k).map inc ++ l.drop k
theorem incs_len (k : Nat) (l : List Seg) : (incs k l).length = l.length := by unfold incs; simp; omega
theorem incs_at {k : Nat} {l : List Seg} (hk : k < l.length) : (incs k l).getD k (0, []) = l.getD k (0, []) := by
  unfold incs
  have h : ((l.take k).map inc).length = k := by rw [List.length_map, List.length_take]; omega
  rw [List.getD_eq_getElem?_getD, List.getElem?_append_right (by omega), h, Nat.sub_self, List.getElem?_drop, Nat.add_zero, List.getD_eq_getElem?_getD]
theorem incs_succ {k : Nat} {l : List Seg} (hk : k < l.length) : incs (k + 1) l = (incs k l).set k (inc (l.getD k (0, []))) := by
  unfold incs
  have h : ((l.take k).map inc).length = k := by rw [List.length_map, List.length_take]; omega
  rw [List.take_succ_eq_append_getElem hk, List.map_append, List.set_append_right _ _ (by omega), h, Nat.sub_self, getD_get hk, List.drop_eq_getElem_cons hk, List.set_cons_zero]
  simp
theorem incs_ne {l : List Seg} (h : l ≠ []) (hn : ∀ s ∈ l, s.2 ≠ []) (hf : ∀ s ∈ l, ∀ n ∈ s.2, n < 4294967296) : incs l.length l ≠ l := by
  cases l with
  | nil => exact absurd rfl h
  | cons s l =>
    unfold incs
    intro e
    rw [List.take_length, List.drop_length, List.append_nil, List.map_cons] at e
    injection e with e1 _
    have h2 := congrArg Prod.snd e1
    cases hs : s.2 with
    | nil => exact hn s (by simp) hs
    | cons n t =>
      have hlt := hf s (by simp) n (by rw [hs]; simp)
      simp only [inc, hs] at h2
      injection h2 with h2 _
      omega
end Pt
end Go.Proofs.YthjljamngpddmaaDoor
namespace Go.Proofs.YthjljamngpddmaaDoor
open Go.RowKit Go.Shelf

theorem slice_1A (g n c : Nat) (hn : 1 ≤ n) (hc : 1 < c) (w : World) :
    (Instr.slice 59 (.slice (some ⟨g, 0, none⟩) n c) (some (.int .i64 1)) none none).run Tryd.prog w = .ok (.slice (some ⟨g, 1, none⟩) (n - 1) (c - 1)) w := by
  have hz := Tryd.sizeOf25
  have he : Tryd.prog.elem 59 = 25 := by kernel_rfl
  rw [run_slice_l w 59 _ n c (by kernel_rfl) .i64 1 (by omega) (by omega), he, hz]
  have hck : ¬ c = 1 := by omega
  simp [sliced, hck, add_none]
set_option maxHeartbeats 4000000 in
set_option maxRecDepth 100000 in
theorem ins_shift (b n c vb : Nat) (x : Nat) (cs : List Value) (w : World) (hi : 0 < n) (hroom : n + 1 ≤ c) (hc63 : c ≤ 9223372036854775807) (hvb : vb ≠ b)
    (hcl : cs.length = n)
    (hcs : ∀ j v, cs[j]? = some v → w.cell? ⟨b, 0 + j, none⟩ = some v) (hsp : ∀ j, j < n + 1 → (w.cell? ⟨b, 0 + j, none⟩).isSome = true) (hfz : ∀ j, j < n + 1 → w.frozen? ⟨b, 0 + j, none⟩ = false)
    (hv : w.cell? ⟨vb, 0, none⟩ = some (.int .u32 (x : Int))) (h1c : ∀ v ∈ cs, v.oneCell' = true)
    (tA tB : TypeId) (kA kB : Nat) (hsa : w.shape? vb = some (tA, kA)) (hsb : w.shape? b = some (tB, kB)) (hkB : kB ≠ 0) (hfa : w.frozen? ⟨vb, 0, none⟩ = false) (hfe : w.frozen? ⟨vb, kA, none⟩ = false) :
    Calls Tryd.prog 47 #[.slice (some ⟨b, 0, none⟩) n c, .int .i64 0, .slice (some ⟨vb, 0, none⟩) 1 1] w fun e w' =>
      e = .returned (.slice (some ⟨b, 0, none⟩) (n + 1) c) ∧ w' = (w.drew.setCells b 1 cs).setCells b 0 [.int .u32 (x : Int)] := by
  have hz2 : ¬ ((0 : Int) = (n : Int)) := by omega
  have hsz : (Tryd.prog.info? 25).map (·.size) = some 1 := by
    obtain ⟨i0, hi0, h0, h1, h2⟩ := info_parts as_info
    rw [hi0]; simp [h1]
  have hov : ∀ lb cb, (callFunc 59 #[.slice (some ⟨vb, 0, none⟩) 1 1, .slice (some ⟨b, 1, none⟩) lb cb]).run Tryd.prog w = .ok (.value (.bool false)) w := fun lb cb => by
    rw [run_callFunc_extern Tryd.func59 (by kernel_rfl) (by kernel_rfl) (by kernel_rfl) (e := Extern.SlicesOverlaps.overlaps #[59, 59] #[4]) (by kernel_rfl),
      Lib.run_overlaps_apart w 59 4 25 Tryd.underlying59 1 Tryd.sizeOf25 ⟨vb, 0, none⟩ ⟨b, 1, none⟩ 1 1 lb cb hvb tA tB kA kB hsa hsb hkB hfa hfe]
    rfl
  have hb2 : ¬ (c = 1) := by omega
  have hb3 : (0 : Int) ≤ (n : Int) + 1 := by omega
  have hb4 : ¬ (c = 0) := by omega
  have hvs : ∀ (j : Nat) v, ([Value.int .u32 (x : Int)] : List Value)[j]? = some v → w.cell? ⟨vb, 0 + j, none⟩ = some v := fun j v h => by
    cases j with
    | zero => simp at h; rw [← h]; exact hv
    | succ j => simp at h
  have hcp1 : ∀ ty dc sc, (Builtin.copy_ #[59, 59] ty #[.slice (some ⟨b, 1, none⟩) n dc, .slice (some ⟨b, 0, none⟩) (n + 1) sc]).run Tryd.prog w.drew = .ok (goInt cs.length) (w.drew.setCells b 1 cs) := fun ty dc sc =>
    run_copy_cells w.drew _ _ ty 25 b 1 n dc ⟨b, 0, none⟩ (n + 1) sc cs Tryd.underlying59 hsz (by rw [hcl]; simp only [Nat.min_def]; split <;> omega)
      (fun j v hj => by rw [add_none]; exact hcs j v hj)
      (fun j hj => by have := hsp (1 + j) (by omega); rwa [Nat.zero_add] at this) (fun j hj => by have := hfz (1 + j) (by omega); rwa [Nat.zero_add] at this) h1c
  obtain ⟨W1, hW1⟩ : ∃ W1, W1 = w.drew.setCells b 1 cs := ⟨_, rfl⟩
  have hsp1 : ∀ k, k < n + 1 → (W1.cell? ⟨b, 0 + k, none⟩).isSome = true := fun k hk => by
    rw [hW1, Nat.zero_add]
    refine isSome_setCells b _ _ _ (fun j hj => ?_) _ ?_
    · have := hsp (1 + j) (by omega); rwa [Nat.zero_add] at this
    · have := hsp k hk; rwa [Nat.zero_add] at this
  have hcp2 : ∀ (W : World), (∀ x, W.cell? x = W1.cell? x) → (∀ x, W.frozen? x = W1.frozen? x) → ∀ ty dc, (Builtin.copy_ #[59, 59] ty #[.slice (some ⟨b, 0, none⟩) (n + 1) dc, .slice (some ⟨vb, 0, none⟩) 1 1]).run Tryd.prog W = .ok (goInt 1) (W.setCells b 0 [.int .u32 (x : Int)]) := fun W hWc hWf ty dc =>
    run_copy_cells W _ _ ty 25 b 0 (n + 1) dc ⟨vb, 0, none⟩ 1 1 [.int .u32 (x : Int)] Tryd.underlying59 hsz (by simp only [Nat.min_def, List.length_cons, List.length_nil]; split <;> omega)
      (fun j v hj => by
        rw [add_none, hWc, hW1, World.cell?_setCells_out b _ _ _ _ (fun h _ => absurd h hvb)]
        exact hvs j v hj)
      (fun j hj => by rw [hWc]; exact hsp1 _ (by simp at hj; omega)) (fun j hj => by rw [hWf, hW1, World.frozen?_setCells]; exact hfz _ (by simp at hj; omega)) (by simp [Value.oneCell'])
  rw [← hW1] at hcp1
  have hw0 : IntKind.i64.wrap (1 : Int) = 1 := by rw [IntKind.wrap_i64]; omega
  have hs1 := slice_1A b (n + 1) c (by omega) (by omega)
  rw [Nat.add_sub_cancel] at hs1
  have hw1 : ((n : Int) + 1).toNat = n + 1 := by omega
  go_enter Tryd.func47, Tryd.ntmps47
  go_wp2_with (simp only [hov])
  go_region_law (refine step_copy_runI rfl _ _ 59 59 rfl _ _ (by simp [Act.eval, Act.put]) (by simp [Act.eval, Act.put]) (hcp1 _ _ _) ?_)
  go_wp2_with (at_builtin; refine wpList_copy_runI _ rfl _ _ 59 59 rfl _ _ rfl rfl (hcp2 _ (fun _ => rfl) (fun _ => rfl) _ _) ?_)
  go_ret
  first | exact ⟨rfl, rfl⟩ | exact ⟨rfl, by rw [hW1]⟩

set_option maxHeartbeats 4000000 in
set_option maxRecDepth 100000 in
theorem ins_grow (b n c vb : Nat) (x : Nat) (cs : List Value) (w : World) (hi : 0 < n) (hnc : n ≤ c) (hroom : c < n + 1) (hbig : (n + 1) * 4 ≤ 140737488355328)
    (hcl : cs.length = n)
    (hcs : ∀ j v, cs[j]? = some v → w.cell? ⟨b, 0 + j, none⟩ = some v)
    (hv : w.cell? ⟨vb, 0, none⟩ = some (.int .u32 (x : Int))) (h1c : ∀ v ∈ cs, v.oneCell' = true) :
    Calls Tryd.prog 47 #[.slice (some ⟨b, 0, none⟩) n c, .int .i64 0, .slice (some ⟨vb, 0, none⟩) 1 1] w fun e w' =>
      ∃ G ROW, e = .returned (.slice (some ⟨w.heap.size, 0, none⟩) (n + 1) G) ∧ n + 1 ≤ G ∧ G ≤ maxLen ∧ ROW.size = G ∧
      w' = (((w.alloc (.cells ROW 25)).drew.setCells w.heap.size 0 [.int .u32 (x : Int)]).drew).setCells w.heap.size 1 cs := by
  obtain ⟨i0, hi0, hz0, hzs, hzb⟩ := info_parts as_info
  have hz2 : ¬ ((0 : Int) = (n : Int)) := by omega
  have hz3 : (c : Int) < (n : Int) + 1 := by omega
  have hsz : (Tryd.prog.info? 25).map (·.size) = some 1 := by rw [hi0]; simp [hzs]
  have hbw : b < w.heap.size := block_lt_of_cell (hcs 0 _ (List.getElem?_eq_getElem (by omega)))
  have hvw : vb < w.heap.size := block_lt_of_cell hv
  have hvs : ∀ (j : Nat) v, ([Value.int .u32 (x : Int)] : List Value)[j]? = some v → w.cell? ⟨vb, 0 + j, none⟩ = some v := fun j v h => by
    cases j with
    | zero => simp at h; rw [← h]; exact hv
    | succ j => simp at h
  have hold : (Builtin.firstCells i0.size 0 (.slice (some ⟨b, 0, none⟩) 0 c)).run Tryd.prog w.drew = .ok ([] : List Value).toArray w.drew := by
    rw [hzs]
    exact run_firstCells_some w.drew 1 0 ⟨b, 0, none⟩ 0 c [] (by simp) (fun j v hj => by simp at hj)
  have hrz : ∀ ty, (Builtin.append_ #[59, 3] ty #[.slice (some ⟨b, 0, none⟩) 0 c, .int .i64 ((n : Int) + 1)]).run Tryd.prog w =
      .ok (.slice (some ⟨w.heap.size, 0, none⟩) (n + 1) (grownCap w (n + 1) c 25)) (w.drew.alloc (.cells (([] : List Value).toArray ++ Builtin.zeroCells (Value.int .u32 0).cells (n + 1) ++ Builtin.zeroCells (Value.int .u32 0).cells (grownCap w (n + 1) c 25 - (n + 1))) 25)) := fun ty => by
    have h := Lib.run_append_grow_zeros w 59 3 ty 25 i0 _ .i64 .i64 Tryd.underlying59 Tryd.underlying3 hi0 hz0 (some ⟨b, 0, none⟩) 0 c [] hold (n + 1) (by omega) (by omega) (by omega) (by omega) (by rw [hzb]; omega) (by rw [hzb, Nat.zero_add]; exact growslice_fits hroom hbig)
    rw [Nat.zero_add] at h
    rw [show (n : Int) + 1 = ((n + 1 : Nat) : Int) by omega]
    exact h
  obtain ⟨G, hG⟩ : ∃ G, G = grownCap w (n + 1) c 25 := ⟨_, rfl⟩
  obtain ⟨ROW, hROW⟩ : ∃ ROW : Array Value, ROW = ([] : List Value).toArray ++ Builtin.zeroCells (Value.int .u32 0).cells (n + 1) ++ Builtin.zeroCells (Value.int .u32 0).cells (G - (n + 1)) := ⟨_, rfl⟩
  rw [← hG] at hrz
  rw [← hROW] at hrz
  have hGn : n + 1 ≤ G := by rw [hG]; exact grownCap_ge w _ _ _
  have hRs : ROW.size = G := by
    rw [hROW]
    simp [Builtin.zeroCells, Value.cells]
    omega
  obtain ⟨W1, hW1⟩ : ∃ W1, W1 = w.drew.alloc (.cells ROW 25) := ⟨_, rfl⟩
  rw [← hW1] at hrz
  have hN : ∀ j, j < n + 1 → (W1.cell? ⟨w.heap.size, j, none⟩).isSome = true := fun j hj => by
    rw [hW1, World.cell?_alloc_at (w := w.drew) ROW _ w.heap.size j rfl, Array.getElem?_eq_getElem (by omega)]; rfl
  have hNf : ∀ j, W1.frozen? ⟨w.heap.size, j, none⟩ = false := fun j => by rw [hW1]; exact World.frozen?_alloc_at (w := w.drew) ROW _ w.heap.size j rfl
  have hOb : ∀ j v, w.cell? ⟨b, j, none⟩ = some v → W1.cell? ⟨b, j, none⟩ = some v := fun j v h => by rw [hW1, World.cell?_alloc_past (w := w.drew) _ b j hbw]; exact h
  have hOv : ∀ j v, w.cell? ⟨vb, j, none⟩ = some v → W1.cell? ⟨vb, j, none⟩ = some v := fun j v h => by rw [hW1, World.cell?_alloc_past (w := w.drew) _ vb j hvw]; exact h
  have hcpA : ∀ (W : World), (∀ x, W.cell? x = W1.cell? x) → (∀ x, W.frozen? x = W1.frozen? x) → ∀ ty dc, (Builtin.copy_ #[59, 59] ty #[.slice (some ⟨w.heap.size, 0, none⟩) (n + 1) dc, .slice (some ⟨vb, 0, none⟩) 1 1]).run Tryd.prog W = .ok (goInt 1) (W.setCells w.heap.size 0 [.int .u32 (x : Int)]) := fun W hWc hWf ty dc =>
    run_copy_cells W _ _ ty 25 w.heap.size 0 (n + 1) dc ⟨vb, 0, none⟩ 1 1 [.int .u32 (x : Int)] Tryd.underlying59 hsz (by simp only [Nat.min_def, List.length_cons, List.length_nil]; split <;> omega)
      (fun j v hj => by rw [add_none, hWc]; exact hOv _ v (hvs j v hj))
      (fun j hj => by rw [hWc, Nat.zero_add]; exact hN _ (by simp at hj; omega)) (fun j hj => by rw [hWf]; exact hNf _) (by simp [Value.oneCell'])
  have hG63 : G ≤ 9223372036854775807 := by
    have := grownCap_le_maxLen w (n + 1) c 25 (by unfold maxLen; omega)
    rw [← hG] at this
    unfold maxLen at this
    omega
  have hGi : ¬ (G = 0) := by omega
  have hGim : ¬ (G = 1) := by omega
  have hci : ¬ (c = 0) := by omega
  have hbN : b ≠ w.heap.size := by omega
  have hcpB : ∀ (W : World), (∀ y, W.cell? y = (W1.setCells w.heap.size 0 [.int .u32 (x : Int)]).cell? y) → (∀ y, W.frozen? y = (W1.setCells w.heap.size 0 [.int .u32 (x : Int)]).frozen? y) → ∀ ty dc sc, (Builtin.copy_ #[59, 59] ty #[.slice (some ⟨w.heap.size, 1, none⟩) n dc, .slice (some ⟨b, 0, none⟩) n sc]).run Tryd.prog W = .ok (goInt cs.length) (W.setCells w.heap.size 1 cs) := fun W hWc hWf ty dc sc =>
    run_copy_cells W _ _ ty 25 w.heap.size 1 n dc ⟨b, 0, none⟩ n sc cs Tryd.underlying59 hsz (by rw [hcl]; simp only [Nat.min_def]; split <;> omega)
      (fun j v hj => by
        rw [add_none, hWc, World.cell?_setCells_out _ _ _ _ _ (fun h _ => absurd h hbN)]
        exact hOb _ v (hcs j v hj))
      (fun j hj => by rw [hWc]; exact isSome_setCells _ _ _ _ (fun t ht => hN _ (by simp at ht; omega)) _ (hN _ (by omega)))
      (fun j hj => by rw [hWf, World.frozen?_setCells]; exact hNf _) h1c
  subst hW1
  have hE1 : ∀ x, ((w.alloc (.cells ROW 25)).drew).cell? x = (w.drew.alloc (.cells ROW 25)).cell? x := fun x => rfl
  have hE2 : ∀ x, ((w.alloc (.cells ROW 25)).drew).frozen? x = (w.drew.alloc (.cells ROW 25)).frozen? x := fun x => rfl
  have hF1 : ∀ y, (((w.alloc (.cells ROW 25)).drew.setCells w.heap.size 0 [.int .u32 (x : Int)]).drew).cell? y = ((w.drew.alloc (.cells ROW 25)).setCells w.heap.size 0 [.int .u32 (x : Int)]).cell? y := fun y => rfl
  have hF2 : ∀ y, (((w.alloc (.cells ROW 25)).drew.setCells w.heap.size 0 [.int .u32 (x : Int)]).drew).frozen? y = ((w.drew.alloc (.cells ROW 25)).setCells w.heap.size 0 [.int .u32 (x : Int)]).frozen? y := fun y => rfl
  have hw0 : IntKind.i64.wrap (1 : Int) = 1 := by rw [IntKind.wrap_i64]; omega
  have hs1 := slice_1A w.heap.size (n + 1) G (by omega) (by omega)
  rw [Nat.add_sub_cancel] at hs1
  clear hold hROW hG
  go_enter Tryd.func47, Tryd.ntmps47
  go_wp2_with (first
    | (at_builtin; refine Lib.wpList_append_run _ rfl _ _ _ _ rfl _ _ rfl rfl _ _ (hrz _) ?_)
    | (at_builtin; refine wpList_copy_runI _ rfl _ _ 59 59 rfl _ _ rfl rfl (hcpA _ hE1 hE2 _ _) ?_)
    | (at_builtin; refine wpList_copy_runI _ rfl _ _ 59 59 rfl _ _ rfl rfl (hcpB _ (fun _ => rfl) (fun _ => rfl) _ _ _) ?_))
  go_region_law (refine step_copy_runI rfl _ _ 59 59 rfl (.slice (some ⟨w.heap.size, 1, none⟩) n (G - 1)) (.slice (some ⟨b, 0, none⟩) n c) (by simp [Act.eval, Act.put]) (by simp [Act.eval, Act.put]) (hcpB _ hF1 hF2 3 (G - 1) c) ?_)
  go_wp2
  go_ret
  exact ⟨G, ROW, rfl, hGn, by unfold maxLen; omega, hRs, rfl⟩
end Go.Proofs.YthjljamngpddmaaDoor
namespace Go.Proofs.YthjljamngpddmaaDoor
open Go.RowKit

structure WS where
  l : List UInt8
  hs : List (Nat × Nat)
  e : Int

namespace WS
def note (s : WS) (x : Int) : WS := if s.e = 0 then { s with e := x } else s
def lay (s : WS) (b : List UInt8) : WS := if s.e = 0 then { s with l := s.l ++ b } else s
def hold (s : WS) (n : Int) : WS :=
  if n = 1 ∨ n = 2 then (if s.e = 0 then { s with l := s.l ++ List.replicate n.toNat 0, hs := s.hs ++ [(n.toNat, s.l.length + n.toNat)] } else s) else s.note 1
/-- The last w bytes ahead of place b tell n. -/
def tell (l : List UInt8) (b n : Nat) : Nat → List UInt8
  | 0 => l
  | i + 1 => (tell l b n i).set (b - 1 - i) (UInt8.ofNat (n / 256 ^ i))
def fill (s : WS) : WS :=
  if s.e = 0 then
    match s.hs.getLast? with
    | none => s.note 26
    | some h => if 256 ^ h.1 ≤ s.l.length - h.2 then s.note 3 else { s with l := tell s.l h.2 (s.l.length - h.2) h.1, hs := s.hs.dropLast }
  else s
def done (s : WS) : List UInt8 × Int := if s.e = 0 then (if s.hs = [] then (s.l, 0) else ([], 26)) else ([], s.e)
def ok (s : WS) : Prop := (∀ h ∈ s.hs, (h.1 = 1 ∨ h.1 = 2) ∧ h.1 ≤ h.2 ∧ h.2 ≤ s.l.length) ∧ s.l.length ≤ 1099511627776 ∧ s.hs.length ≤ 1099511627776
theorem note_ok {s : WS} (h : s.ok) (x : Int) : (s.note x).ok := by unfold note; split <;> exact h
theorem lay_ok {s : WS} (h : s.ok) {b : List UInt8} (hb : s.l.length + b.length ≤ 1099511627776) : (s.lay b).ok := by
  unfold lay
  split
  · refine ⟨fun x hx => ?_, by simpa using hb, h.2.2⟩
    have := h.1 x hx
    refine ⟨this.1, this.2.1, ?_⟩
    simp only [List.length_append]
    omega
  · exact h
theorem length_tell (l : List UInt8) (b n i : Nat) : (tell l b n i).length = l.length := by
  induction i with
  | zero => rfl
  | succ i ih => simp [tell, ih]
theorem hold_ok {s : WS} (h : s.ok) {n : Int} (hb : s.l.length + 2 ≤ 1099511627776) (hd : s.hs.length < 1099511627776) : (s.hold n).ok := by
  unfold hold
  split
  · next hn =>
    split
    · have hn' : n.toNat = 1 ∨ n.toNat = 2 := by omega
      refine ⟨fun x hx => ?_, by simp; omega, by simp; omega⟩
      rcases List.mem_append.1 hx with hx | hx
      · have := h.1 x hx
        refine ⟨this.1, this.2.1, ?_⟩
        simp only [List.length_append, List.length_replicate]
        omega
      · obtain rfl := List.mem_singleton.1 hx
        refine ⟨hn', by simp, ?_⟩
        simp
    · exact h
  · exact note_ok h _
theorem fill_ok {s : WS} (h : s.ok) : s.fill.ok := by
  unfold fill
  split
  · split
    · exact note_ok h _
    · split
      · exact note_ok h _
      · refine ⟨fun x hx => ?_, by simpa [length_tell] using h.2.1, by simp; have := h.2.2; omega⟩
        simp only [length_tell]
        exact h.1 x (List.dropLast_subset _ hx)
  · exact h
end WS

/-- The cells of holds. -/
def hcs (l : List (Nat × Nat)) : List Value := l.flatMap fun h => [.int .i64 (h.1 : Int), .int .i64 (h.2 : Int)]
theorem length_hcs (l : List (Nat × Nat)) : (hcs l).length = l.length * 2 := by
  induction l with
  | nil => rfl
  | cons a r ih => simp only [hcs, List.flatMap_cons, List.length_append, List.length_cons, List.length_nil] at ih ⊢; omega

/-- The blocks that a writer is made of. -/
def wown (p : Nat) (bv hv : Value) : Nat → Prop := fun k => k = p ∨ bv.ownBlock = some k ∨ hv.ownBlock = some k

/-- Blocks of F' are of F, or new. -/
def Sub (w : World) (F' F : Nat → Prop) : Prop := ∀ k, F' k → F k ∨ w.heap.size ≤ k
theorem Sub.refl (w : World) (F : Nat → Prop) : Sub w F F := fun _ h => .inl h
theorem Sub.trans {w w1 : World} {F F1 F2 : Nat → Prop} (h : Sub w F1 F) (k : Sub w1 F2 F1) (hz : w.heap.size ≤ w1.heap.size) : Sub w F2 F := fun i hi => by
  rcases k i hi with h1 | h1
  · exact h i h1
  · exact .inr (by omega)
theorem Kept.sub {w w1 w2 : World} {F F1 : Nat → Prop} (h : Kept F w w1) (hs : Sub w F1 F) (k : Kept F1 w1 w2) : Kept F w w2 :=
  h.trans_new k (fun i hi x => by rcases hs i x with y | y; exact y; omega)

theorem own_lt {w : World} {base : Nat} {e : TypeId} {size n : Nat} {v : Value} {xs : List Value} (h : w.ownsRow base e size v n xs) {g : Nat} (hg : v.ownBlock = some g) : ∃ cs, w.heap[g]? = some (.cells cs e (0, 0)) := by
  rcases h.2 with ⟨rfl, _⟩ | ⟨g', cap, cur, rfl, _, hh, _⟩
  · simp [Value.ownBlock] at hg
  · have : g' = g := by simpa [Value.ownBlock] using hg
    subst this
    exact ⟨cur, hh⟩
theorem own_kept {S : Nat → Prop} {w w' : World} {base : Nat} {e : TypeId} {size n : Nat} {v : Value} {xs : List Value} (h : w.ownsRow base e size v n xs) (k : Kept S w w') (hs : ∀ g, v.ownBlock = some g → ¬ S g) : w'.ownsRow base e size v n xs := by
  obtain ⟨h1, h2⟩ := h
  refine ⟨h1, ?_⟩
  rcases h2 with h2 | ⟨g, cap, cur, rfl, hb, hh, r⟩
  · exact .inl h2
  · exact .inr ⟨g, cap, cur, rfl, hb, (k.block g (Array.getElem?_eq_some_iff.1 hh).1 (hs g rfl)).trans hh, r⟩
theorem cells4 {w : World} {p : Nat} {t : TypeId} {a b c d : Value} (h : Blk w p t #[a, b, c, d]) :
    (w.cell? ⟨p, 0, none⟩ = some a ∧ w.cell? ⟨p, 1, none⟩ = some b ∧ w.cell? ⟨p, 2, none⟩ = some c ∧ w.cell? ⟨p, 3, none⟩ = some d) ∧
    (w.frozen? ⟨p, 1, none⟩ = false ∧ w.frozen? ⟨p, 2, none⟩ = false ∧ w.frozen? ⟨p, 3, none⟩ = false) :=
  ⟨⟨h.cell 0, h.cell 1, h.cell 2, h.cell 3⟩, h.free 1, h.free 2, h.free 3⟩
theorem own_form {w : World} {base : Nat} {e : TypeId} {size n : Nat} {v : Value} {xs : List Value} (h : w.ownsRow base e size v n xs) : ∃ A c, v = .slice A n c ∧ n ≤ c ∧ c ≤ maxLen := by
  rcases h.2 with ⟨rfl, rfl⟩ | ⟨g, cap, cur, rfl, _, _, hn, hm, _⟩
  · exact ⟨none, 0, rfl, Nat.le_refl _, by simp [maxLen]⟩
  · exact ⟨_, cap, rfl, hn, hm⟩
end Go.Proofs.YthjljamngpddmaaDoor
namespace Go.Proofs.YthjljamngpddmaaDoor
open Go.RowKit

end Go.Proofs.YthjljamngpddmaaDoor
namespace Go.Proofs.YthjljamngpddmaaDoor
open Go.RowKit

theorem make1 : ∀ w : World, (Instr.makeSlice 80 (.int .i64 1) (.int .i64 1)).run Tryd.prog w = .ok (.slice (some ⟨w.heap.size, 0, none⟩) 1 1) (w.alloc (.cells #[.int .u8 0] 5)) := fun _ => by kernel_rfl
theorem make2 : ∀ w : World, (Instr.makeSlice 80 (.int .i64 2) (.int .i64 2)).run Tryd.prog w = .ok (.slice (some ⟨w.heap.size, 0, none⟩) 2 2) (w.alloc (.cells #[.int .u8 0, .int .u8 0] 5)) := fun _ => by kernel_rfl

theorem hcs_append (a b : List (Nat × Nat)) : hcs (a ++ b) = hcs a ++ hcs b := List.flatMap_append

theorem Bs.made {w : World} {b : Nat} {l : List UInt8} {cs : Array Value} (h : Blk w b 5 cs) (hl : cs.toList = bys l) (hm : l.length ≤ maxLen) : Bs w (.slice (some ⟨b, 0, none⟩) l.length l.length) l :=
  ⟨_, _, rfl, Nat.le_refl _, hm, fun _ => ⟨b, 0, cs, _, rfl, h, fun i hi => by rw [Nat.zero_add, ← getD_bys l i hi, ← hl, Array.getElem?_toList]⟩⟩

theorem cells_src {w : World} {b : Nat} {t : TypeId} {cs : Array Value} (h : Blk w b t cs) {size m : Nat} (hl : cs.size = m * size) (h1 : ∀ u ∈ cs.toList, u.oneCell' = true) : Src w size (some ⟨b, 0, none⟩) m cs.toList := by
  refine ⟨by simpa using hl, (fun h => by cases h), fun a ha j u hu => ?_, h1⟩
  injection ha with ha
  subst ha
  rw [add_none, Nat.zero_add, h.cell j, ← hu, Array.getElem?_toList]
theorem src_new2 (w : World) (t : TypeId) (a b : Value) (ha : a.oneCell' = true) (hb : b.oneCell' = true) : Src (w.alloc (.cells #[a, b] t)).drew 2 (some ⟨w.heap.size, 0, none⟩) 1 [a, b] :=
  cells_src (cs := #[a, b]) (Blk.fresh w t #[a, b]).drew rfl (by intro u hu; simp at hu; rcases hu with rfl | rfl <;> assumption)

theorem Sub.less {S F F' : Nat → Prop} {w w1 : World} (k : Kept S w w1) (h : Sub w1 F' F) : Sub w F' F := fun i hi => (h i hi).imp (fun x => x) (fun x => Nat.le_trans k.size x)

theorem WS.hold_eq {s : WS} (he : s.e = 0) {n : Nat} (hn : n = 1 ∨ n = 2) : s.hold (n : Int) = { s with l := s.l ++ List.replicate n 0, hs := s.hs ++ [(n, s.l.length + n)] } := by
  unfold WS.hold
  rw [if_pos (by omega), if_pos he]
  simp

end Go.Proofs.YthjljamngpddmaaDoor
