
/-
  Proved here: the law WalkTells returns true for every input, and each argument reads behind the call as it did before; the listed variables of Go's library and the program's own table of brackets hold what the program's text lays in them (tied). No other condition.
-/
import Derived.Test.YtdeblmolgmadiaaDoorZd
import Derived.Test.YtdeblmolgmadiaaDoorZb
import Derived.Test.YtdeblmolgmadiaaDoorLaw
import Derived.Test.YtdeblmolgmadiaaDoorJk
import Derived.Test.YtdeblmolgmadiaaDoorNa
import Derived.Test.YtdeblmolgmadiaaDoorTie
import Derived.Test.YtdeblmolgmadiaaDoorCards
import Derived.LaidMore
import Derived.ChangeMaps5
import Derived.Stop.Joined
import Derived.Stop.LaidErr
import Derived.SevenTiedAt
import Derived.Lib.LaidTab
import Derived.Deep.Strs
import Derived.Deep.SlicePairs
import Derived.Carry
import Derived.Test.YtdeblmolgmadiaaDoorZq
import Derived.Test.YtdeblmolgmadiaaDoorZo
namespace Go.Proofs.YtdeblmolgmadiaaDoor
open Go.RowKit Go.Shelf

def tP : List Seg := [(3, [65001, 65002]), (2, [10]), (1, [20, 30])]
def tQ : List Seg := [(3, [65003, 65001, 65002]), (2, [10]), (1, [20, 30])]
def tR : List Seg := [(1, [5]), (2, [6])]
theorem t_pre : Wk.prepend tP 3 65003 = (tQ, 0) := by rfl
theorem t_len : Wk.length tP = 2 ∧ Wk.length tR = 2 := ⟨by rfl, by rfl⟩
theorem t_nb : Wk.neighbour tP = 10 ∧ Wk.neighbour tR = 0 := ⟨by rfl, by rfl⟩
theorem t_or : Wk.origin tR = 6 := by rfl
theorem t_ord : Wk.ordered tP = true := by rfl
theorem t_strip : Wk.strip tP = [(2, [10]), (1, [20, 30])] := by rfl
theorem d10 : Lib.decDigits 10 = [49, 48] := by rw [dec_step (by decide), dec_small (by decide)]; rfl
theorem d20 : Lib.decDigits 20 = [50, 48] := by rw [dec_step (by decide), dec_small (by decide)]; rfl
theorem d30 : Lib.decDigits 30 = [51, 48] := by rw [dec_step (by decide), dec_small (by decide)]; rfl
theorem d65 (k : Nat) (hk : k < 10) : Lib.decDigits (65000 + k) = [54, 53, 48, 48, UInt8.ofNat (48 + k)] := by
  rw [dec_step (by omega), show (65000 + k) / 10 = 6500 by omega, show (65000 + k) % 10 = k by omega, dec_step (by decide), dec_step (by decide), dec_step (by decide), dec_small (by decide)]
  rfl
theorem t_text1 : Pt.text [(2, [10]), (1, [20, 30])] = [49, 48, 32, 123, 50, 48, 44, 51, 48, 125] := by
  show Pt.tx [(2, [10]), (1, [20, 30])] 2 = _
  simp [Pt.tx, Pt.ahead, Pt.gap, Pt.segT, Pt.opens, Pt.betw, Pt.ends, d10, d20, d30, Lib.join, List.intercalate, List.intersperse]
theorem t_text2 : Pt.text tQ = [40, 54, 53, 48, 48, 51, 32, 54, 53, 48, 48, 49, 32, 54, 53, 48, 48, 50, 41, 32, 49, 48, 32, 123, 50, 48, 44, 51, 48, 125] := by
  have e1 : Lib.decDigits 65001 = [54, 53, 48, 48, 49] := d65 1 (by decide)
  have e2 : Lib.decDigits 65002 = [54, 53, 48, 48, 50] := d65 2 (by decide)
  have e3 : Lib.decDigits 65003 = [54, 53, 48, 48, 51] := d65 3 (by decide)
  show Pt.tx tQ 3 = _
  simp [tQ, Pt.tx, Pt.ahead, Pt.gap, Pt.segT, Pt.opens, Pt.betw, Pt.ends, d10, d20, d30, e1, e2, e3, Lib.join, List.intercalate, List.intersperse]

theorem as_made (w : World) (cs : Array Value) (l : List Nat) (h : cs.toList = ass l) (hm : l.length ≤ 100) (hl : ∀ n ∈ l, n < 4294967296) (hp : 0 < l.length) : As (w.alloc (.cells cs 25)) (.slice (some ⟨w.heap.size, 0, none⟩) l.length l.length) l := by
  have hs : cs.size = l.length := by rw [← Array.length_toList, h, length_ass]
  refine As.of_own (base := 0) (e := 25) ⟨by rw [length_ass, Nat.mul_one], .inr ⟨w.heap.size, l.length, cs, rfl, Nat.zero_le _, heap_alloc_new w _, Nat.le_refl _, by unfold maxLen; omega, by rw [hs, Nat.mul_one], ?_⟩⟩ hl
  rw [List.take_of_length_le (by simp [hs]), h]
theorem pts_made (w : World) (cs : Array Value) (l : List Seg) (hm : l.length ≤ 100) (hs : cs.size = l.length * 2) (h : PCells (As (w.alloc (.cells cs 61))) cs.toList l) : Pts (w.alloc (.cells cs 61)) (.slice (some ⟨w.heap.size, 0, none⟩) l.length l.length) l :=
  Pts.of_own (base := 0) (e := 61) ⟨by simp [hs], .inr ⟨w.heap.size, l.length, cs, rfl, Nat.zero_le _, heap_alloc_new w _, Nat.le_refl _, by unfold maxLen; omega, hs, by rw [List.take_of_length_le (by simp [hs])]⟩⟩ h

set_option maxRecDepth 20000 in
set_option maxHeartbeats 2000000 in
theorem tells_true (w : World) (hr : Rdy w) (hs : Bkt w) :
    Calls Tryd.prog 24 #[] w fun e w' => e = .returned (.bool true) ∧ Kept Nothing w w' := by
  have HR := Lib.hid hr
  have HS := Lib.hid hs
  clear hr hs
  have hB : ∀ s ∈ tP, s.2.length ≤ 1000000 := by unfold tP; simp
  have hBR : ∀ s ∈ tR, s.2.length ≤ 1000000 := by unfold tR; simp
  go_enter Tryd.func24, Tryd.ntmps24
  go_upto_region 2 with fail
  obtain ⟨wA, hwA⟩ : ∃ wA, w.alloc (.cells #[.int .u32 65001, .int .u32 65002] 25) = wA := ⟨_, rfl⟩
  have zA : wA.heap.size = w.heap.size + 1 := by rw [← hwA]; exact World.size_alloc _ _
  have aA : As wA (.slice (some ⟨w.heap.size, 0, none⟩) 2 2) [65001, 65002] := by rw [← hwA]; exact as_made w _ [65001, 65002] rfl (by simp) (by simp) (by simp)
  have kA : Kept Nothing w wA := by rw [← hwA]; exact (Kept.refl _ w).alloc _
  rw [hwA]
  obtain ⟨wB, hwB⟩ : ∃ wB, wA.alloc (.cells #[.int .u32 10] 25) = wB := ⟨_, rfl⟩
  have zB : wB.heap.size = w.heap.size + 1 + 1 := by rw [← hwB, World.size_alloc, zA]
  have aB : As wB (.slice (some ⟨w.heap.size + 1, 0, none⟩) 1 1) [10] := by rw [← hwB, ← zA]; exact as_made wA _ [10] rfl (by simp) (by simp) (by simp)
  have kB : Kept Nothing wA wB := by rw [← hwB]; exact (Kept.refl _ wA).alloc _
  rw [hwB]
  obtain ⟨wC, hwC⟩ : ∃ wC, wB.alloc (.cells #[.int .u32 20, .int .u32 30] 25) = wC := ⟨_, rfl⟩
  have zC : wC.heap.size = w.heap.size + 1 + 1 + 1 := by rw [← hwC, World.size_alloc, zB]
  have aC : As wC (.slice (some ⟨w.heap.size + 1 + 1, 0, none⟩) 2 2) [20, 30] := by rw [← hwC, ← zB]; exact as_made wB _ [20, 30] rfl (by simp) (by simp) (by simp)
  have kC : Kept Nothing wB wC := by rw [← hwC]; exact (Kept.refl _ wB).alloc _
  rw [hwC]
  have kD := (Kept.refl Nothing wC).alloc (.cells #[.int .u8 3, .slice (some ⟨w.heap.size, 0, none⟩) 2 2, .int .u8 2, .slice (some ⟨w.heap.size + 1, 0, none⟩) 1 1, .int .u8 1, .slice (some ⟨w.heap.size + 1 + 1, 0, none⟩) 2 2] 61)
  have PD := Lib.hid (pts_made wC #[.int .u8 3, .slice (some ⟨w.heap.size, 0, none⟩) 2 2, .int .u8 2, .slice (some ⟨w.heap.size + 1, 0, none⟩) 1 1, .int .u8 1, .slice (some ⟨w.heap.size + 1 + 1, 0, none⟩) 2 2] tP (by decide) rfl ⟨rfl, aA.old (kB.trans (kC.trans kD)), rfl, aB.old (kC.trans kD), rfl, aC.old kD, trivial⟩)
  rw [zC] at PD
  have KD := Lib.hid (kA.trans (kB.trans (kC.trans kD)))
  clear aA aB aC kA kB kC kD zA zB
  generalize wC.alloc (.cells #[.int .u8 3, .slice (some ⟨w.heap.size, 0, none⟩) 2 2, .int .u8 2, .slice (some ⟨w.heap.size + 1, 0, none⟩) 1 1, .int .u8 1, .slice (some ⟨w.heap.size + 1 + 1, 0, none⟩) 2 2] 61) = wD at *
  generalize w.heap.size + 1 + 1 + 1 = gP at *
  have HPP := Lib.hid (walk_prepend (.slice (some ⟨gP, 0, none⟩) 3 3) tP 3 65003 (by decide) wD PD.out (by decide) hB)
  rw [t_pre] at HPP
  replace HPP : Hid (Calls Tryd.prog 25 #[.slice (some ⟨gP, 0, none⟩) 3 3, .int .u8 3, .int .u32 65003] wD fun e w' => ∃ v', e = .returned (.tuple #[v', .int .i64 0]) ∧ Pown w' wD.heap.size v' tQ ∧ Kept Nothing wD w') := HPP
  go_upto_region 3 with (go_at_call 25; refine (HPP.out).mono ?_; rintro e w5 ⟨v5, rfl, p5, k5⟩; (have P5 := Lib.hid p5); (have K5 := Lib.hid k5); clear p5 k5)
  go_upto_region 4 with fail
  obtain ⟨wE, hwE⟩ : ∃ wE, w5.alloc (.cells #[.int .u32 5] 25) = wE := ⟨_, rfl⟩
  have zE : wE.heap.size = w5.heap.size + 1 := by rw [← hwE]; exact World.size_alloc _ _
  have aE : As wE (.slice (some ⟨w5.heap.size, 0, none⟩) 1 1) [5] := by rw [← hwE]; exact as_made w5 _ [5] rfl (by simp) (by simp) (by simp)
  have kE : Kept Nothing w5 wE := by rw [← hwE]; exact (Kept.refl _ w5).alloc _
  rw [hwE]
  obtain ⟨wF, hwF⟩ : ∃ wF, wE.alloc (.cells #[.int .u32 6] 25) = wF := ⟨_, rfl⟩
  have zF : wF.heap.size = w5.heap.size + 1 + 1 := by rw [← hwF, World.size_alloc, zE]
  have aF : As wF (.slice (some ⟨w5.heap.size + 1, 0, none⟩) 1 1) [6] := by rw [← hwF, ← zE]; exact as_made wE _ [6] rfl (by simp) (by simp) (by simp)
  have kF : Kept Nothing wE wF := by rw [← hwF]; exact (Kept.refl _ wE).alloc _
  rw [hwF]
  have kG := (Kept.refl Nothing wF).alloc (.cells #[.int .u8 1, .slice (some ⟨w5.heap.size, 0, none⟩) 1 1, .int .u8 2, .slice (some ⟨w5.heap.size + 1, 0, none⟩) 1 1] 61)
  have RG := Lib.hid (pts_made wF #[.int .u8 1, .slice (some ⟨w5.heap.size, 0, none⟩) 1 1, .int .u8 2, .slice (some ⟨w5.heap.size + 1, 0, none⟩) 1 1] tR (by decide) rfl ⟨rfl, aE.old (kF.trans kG), rfl, aF.old kG, trivial⟩)
  rw [zF] at RG
  have K6 := Lib.hid (kE.trans (kF.trans kG))
  have KZ := Lib.hid (KD.out.trans (K5.out.trans K6.out))
  have PG := Lib.hid (PD.out.old (K5.out.trans K6.out))
  have QG := Lib.hid (P5.out.old K6.out).pts
  clear aE aF kE kF kG zE zF
  generalize wF.alloc (.cells #[.int .u8 1, .slice (some ⟨w5.heap.size, 0, none⟩) 1 1, .int .u8 2, .slice (some ⟨w5.heap.size + 1, 0, none⟩) 1 1] 61) = w6 at *
  generalize w5.heap.size + 1 + 1 = gR at *
  have C1 := Lib.hid (fun u (k : Kept Nothing w6 u) => walk_length (.slice (some ⟨gP, 0, none⟩) 3 3) tP u (PG.out.old k) (by decide) hB)
  have C2 := Lib.hid (fun u (k : Kept Nothing w6 u) => walk_neighbour (.slice (some ⟨gP, 0, none⟩) 3 3) tP u (PG.out.old k) (by decide) hB)
  have C3 := Lib.hid (fun u (k : Kept Nothing w6 u) => walk_ordered (.slice (some ⟨gP, 0, none⟩) 3 3) tP u (PG.out.old k) (by decide) hB)
  have C4 := Lib.hid (fun u (k : Kept Nothing w6 u) => walk_strip (.slice (some ⟨gP, 0, none⟩) 3 3) tP u (PG.out.old k) (by decide) hB)
  have C5 := Lib.hid (fun v u (k : Kept Nothing w6 u) (h : Pts u v [(2, [10]), (1, [20, 30])]) => path_text v [(2, [10]), (1, [20, 30])] u h (by decide) (HR.out.kept (KZ.out.trans k)) (HS.out.kept (KZ.out.trans k)))
  have C6 := Lib.hid (fun u (k : Kept Nothing w6 u) => path_text v5 tQ u (QG.out.old k) (by decide) (HR.out.kept (KZ.out.trans k)) (HS.out.kept (KZ.out.trans k)))
  have C7 := Lib.hid (fun u (k : Kept Nothing w6 u) => walk_neighbour (.slice (some ⟨gR, 0, none⟩) 2 2) tR u (RG.out.old k) (by decide) hBR)
  have C8 := Lib.hid (fun u (k : Kept Nothing w6 u) => walk_origin (.slice (some ⟨gR, 0, none⟩) 2 2) tR u (RG.out.old k) (by decide) hBR)
  have C9 := Lib.hid (fun u (k : Kept Nothing w6 u) => walk_length (.slice (some ⟨gR, 0, none⟩) 2 2) tR u (RG.out.old k) (by decide) hBR)
  rw [t_len.1] at C1
  rw [t_nb.1] at C2
  rw [t_ord] at C3
  rw [t_strip] at C4
  rw [t_text1] at C5
  rw [t_text2] at C6
  rw [t_nb.2] at C7
  rw [t_or] at C8
  rw [t_len.2] at C9
  clear hB hBR PD HPP P5 K5 K6
  go_wp2_with (first
    | (go_at_call 21; refine (C9.out _ (m7.trans q8)).mono ?_; rintro e u9 ⟨rfl, q9⟩)
    | (go_at_call 19; refine (C8.out _ m7).mono ?_; rintro e u8 ⟨rfl, q8⟩)
    | (go_at_call 17; refine (C7.out _ m6).mono ?_; rintro e u7 ⟨rfl, q7⟩; have m7 := m6.trans q7)
    | (go_at_call 42; refine (C6.out _ m5).mono ?_; rintro e u6 ⟨rfl, q6⟩; have m6 := m5.trans q6)
    | (go_at_call 42; refine (C5.out _ _ m4 p4.pts).mono ?_; rintro e u5 ⟨rfl, q5⟩; have m5 := m4.trans q5)
    | (go_at_call 27; refine (C4.out _ m3).mono ?_; rintro e u4 ⟨v4, rfl, p4, q4⟩; have m4 := m3.trans q4)
    | (go_at_call 13; refine (C3.out _ m2).mono ?_; rintro e u3 ⟨rfl, q3⟩; have m3 := m2.trans q3)
    | (go_at_call 17; refine (C2.out _ m1).mono ?_; rintro e u2 ⟨rfl, q2⟩; have m2 := m1.trans q2)
    | (go_at_call 21; refine (C1.out _ (Kept.refl _ _)).mono ?_; rintro e u1 ⟨rfl, m1⟩))
  go_ret
  exact ⟨rfl, KZ.out.trans ((m7.trans q8).trans q9)⟩
end Go.Proofs.YtdeblmolgmadiaaDoor
namespace Go.Proofs.YtdeblmolgmadiaaDoor
open Go.ChangeShapes Go.WideShapes Go.ChangeAt Go.RowKit

theorem tab_of {W : World} {x0 x1 : String × DataW Unit} {r : List (String × DataW Unit)}
    (h : laidMet Tryd.prog (x0 :: x1 :: ("internal/strconv.uint64pow10", Rows.laid_internal_strconv_uint64pow10) :: r) W) : Rdy W := by
  have h2 := laidMet.tail (laidMet.tail h)
  have hd : Rows.laid_internal_strconv_uint64pow10 (H := Unit) = Lib.tabData .u64 Lib.pow10Tab := by kernel_rfl
  rw [hd] at h2
  exact Lib.tabIs_of_head (g := 1) (t := 115) (by kernel_rfl) (by kernel_rfl) Tryd.underlying115 Tryd.underlying103 (by kernel_rfl) (by kernel_rfl) h2
theorem readableJ {ts : List TypeId} (h : (ts.all fun t => Tryd.prog.readableRec t && decide (t < Tryd.prog.types.size)) = true) : ∀ t ∈ ts, Tryd.prog.readableRec t = true ∧ t < Tryd.prog.types.size := fun t ht => by
  have := List.all_eq_true.1 h t ht
  simpa using this

/-- The table of brackets. -/
def bkD {H : Type} (i : Nat) : DataW H := .agg [.lit (.string (Pt.opens i)), .lit (.string (Pt.betw i)), .lit (.string (Pt.ends i))]
theorem bk_data {H : Type} : Rows.laid_consulate_path_brackets (H := H) = .agg ((List.range 5).map bkD) := by rfl
theorem str_of {s : ByteArray} {l : List UInt8} (h : l = s.data.toList) : (.string s : Value) = str l := by
  subst h
  rfl
theorem cells_of_bk {H : Type} {enc : TypeId × Value → H} {w : World} {base : Nat} {sp : Nat → Bool} {held : Bool} {fuel : Nat} {cs : List Value} {p : List MemPlace}
    (h : DataW.trod enc Tryd.prog w base sp held fuel 97 cs = some (Rows.laid_consulate_path_brackets, p)) : cs = bkc.toList := by
  rw [bk_data] at h
  have hce : Tryd.prog.cellsOf 96 = 3 := by kernel_rfl
  have hct : Tryd.prog.cellsOf 97 = 15 := by kernel_rfl
  have hc1 : Tryd.prog.cellsOf 9 = 1 := by kernel_rfl
  cases fuel with
  | zero => simp [DataW.trod] at h
  | succ fuel =>
    simp only [DataW.trod, Tryd.underlying97, hce, hct] at h
    split at h
    case isFalse => cases h
    next hl =>
    obtain ⟨xs, hm, hx⟩ := Option.map_eq_some_iff.1 h
    have hxs : xs.map (·.1) = (List.range 5).map (bkD (H := H)) := by
      have := congrArg Prod.fst hx
      simpa using this
    have key : ∀ i, i < 5 → cs[i * 3]? = some (str (Pt.opens i)) ∧ cs[i * 3 + 1]? = some (str (Pt.betw i)) ∧ cs[i * 3 + 2]? = some (str (Pt.ends i)) := fun i hi => by
      obtain ⟨b, hb, hf⟩ := Lib.mapM_at hm i i (by simp [hi])
      have h2 : (xs.map (·.1))[i]? = some b.1 := by simp [hb]
      rw [hxs] at h2
      have h3 : b.1 = bkD i := by simpa [hi] using h2.symm
      obtain ⟨y0, y1, y2, n, rfl, _, e0, e1, e2⟩ := Go.Deep.trod_struct3 Tryd.underlying96 hf
      obtain ⟨z0, q0, r0, _⟩ := DataW.trod_string Tryd.underlying9 e0
      obtain ⟨z1, q1, r1, _⟩ := DataW.trod_string Tryd.underlying9 e1
      obtain ⟨z2, q2, r2, _⟩ := DataW.trod_string Tryd.underlying9 e2
      subst r0 r1 r2
      simp only [bkD, DataW.agg.injEq, List.cons.injEq, DataW.lit.injEq, Lit.string.injEq, and_true] at h3
      obtain ⟨g0, g1, g2⟩ := h3
      simp only [hc1] at q0 q1 q2
      refine ⟨?_, ?_, ?_⟩
      · have := congrArg (·[0]?) q0
        rw [← str_of g0.symm]
        simpa [List.getElem?_take, List.getElem?_drop] using this
      · have := congrArg (·[0]?) q1
        rw [← str_of g1.symm]
        simpa [List.getElem?_take, List.getElem?_drop] using this
      · have := congrArg (·[0]?) q2
        rw [← str_of g2.symm]
        simpa [List.getElem?_take, List.getElem?_drop] using this
    apply List.ext_getElem?
    intro j
    by_cases hj : j < 15
    · have k := key (j / 3) (by omega)
      have s := bk_cells (j / 3) (by omega)
      rw [← Array.getElem?_toList, ← Array.getElem?_toList, ← Array.getElem?_toList] at s
      obtain e | e | e : j = j / 3 * 3 ∨ j = j / 3 * 3 + 1 ∨ j = j / 3 * 3 + 2 := by omega
      · rw [e, k.1, s.1]
      · rw [e, k.2.1, s.2.1]
      · rw [e, k.2.2, s.2.2]
    · rw [List.getElem?_eq_none (by omega), List.getElem?_eq_none (by have : bkc.toList.length = 15 := rfl; omega)]
theorem bkt_of {W : World} {r : List (String × DataW Unit)} (h : laidMet Tryd.prog (("consulate/path.brackets", Rows.laid_consulate_path_brackets) :: r) W) : Bkt W := by
  obtain ⟨ps, ⟨g', t', cs, fuel, p, q, hg', ht', hvar, hd, _, _⟩, _⟩ := h
  obtain rfl := Option.some.inj ((show Tryd.prog.globalNamed "consulate/path.brackets" = some 0 by kernel_rfl).symm.trans hg')
  obtain rfl := Option.some.inj ((show (Tryd.prog.globals[0]?).map (·.type) = some 97 by kernel_rfl).symm.trans ht')
  have hcs := cells_of_bk hd
  have e : cs = bkc := by cases cs; simp only at hcs; rw [hcs]
  subst e
  unfold World.var? at hvar
  rw [hg'] at hvar
  simp only [Option.bind_some] at hvar
  split at hvar
  next c t fr hh =>
    injection hvar with hvar
    subst hvar
    exact ⟨t, fr, hh⟩
  next => cases hvar
set_option maxRecDepth 100000 in
theorem open_as1 {H : Type} {enc : TypeId × Value → H} {W : World} {n : Nat} {v : Value} {y : DataW H × List MemPlace}
    (hf : DataW.trod enc Tryd.prog W 0 (fun _ => true) true n 59 [v] = some y) : ∃ l, As W v l := by
  rcases open_ints Tryd.underlying59 Tryd.underlying25 (by kernel_rfl) hf with ⟨hcs, hx⟩ | ⟨a, len', cap', zs, hcs, _, hl, hm, hz, hx, hcell, hwz⟩
  · obtain rfl : v = _ := by simpa using hcs
    exact ⟨[], As.nil W⟩
  · obtain rfl : v = _ := by simpa using hcs
    simp only [if_true] at hz
    have hr : ∀ z ∈ zs, 0 ≤ z ∧ z ≤ 4294967295 := fun z hz' => by
      have hw := hwz z hz'
      simpa [Lit.wf, IntKind.min, IntKind.max, IntKind.signed, IntKind.bits] using hw
    have hlen : ((zs.take len').map (fun z => z.toNat)).length = len' := by rw [List.length_map, List.length_take]; omega
    refine ⟨(zs.take len').map (fun z => z.toNat), fun n hn => ?_, some a, cap', by rw [hlen], by rw [hlen]; exact hl, hm, by rw [length_ass, Nat.mul_one], (fun h => by cases h), fun a' ha j u hu => ?_, fun u hu => ?_⟩
    · obtain ⟨z, hz', rfl⟩ := List.mem_map.1 hn
      have := hr z (List.mem_of_mem_take hz')
      omega
    · injection ha with ha
      subst ha
      have hj : j < len' := by
        have := (List.getElem?_eq_some_iff.1 hu).1
        rwa [length_ass, hlen] at this
      have hzj : zs[j]? = some (zs[j]'(by omega)) := List.getElem?_eq_getElem (by omega)
      have hc := hcell j (by omega)
      have h1 := hr (zs[j]'(by omega)) (List.getElem_mem _)
      rw [hc, ← hu]
      unfold ass
      rw [List.getElem?_map, List.getElem?_map, List.getElem?_take_of_lt hj, hzj]
      simp only [Option.map_some, List.getD_eq_getElem?_getD, hzj, Option.getD_some, Option.some.injEq, Value.int.injEq, true_and]
      omega
    · unfold ass at hu
      obtain ⟨b, _, rfl⟩ := List.mem_map.1 hu
      rfl
def w_seg (W : World) (a : Addr) (i : Nat) (z : Seg) : Prop := W.cell? (a.add (i * 2)) = some (by8 z.1) ∧ ∃ u, W.cell? (a.add (i * 2 + 1)) = some u ∧ As W u z.2
set_option maxRecDepth 100000 in
theorem open_pts {H : Type} {enc : TypeId × Value → H} {W : World} {base : Nat} {v : Value} {d : DataW H} {p : List MemPlace} (hv : Value.okWide Tryd.prog W .any base 23 v)
    (h : DataW.Trod enc Tryd.prog W 0 (fun _ => true) true 23 v d p) : ∃ l, Pts W v l := by
  obtain ⟨a0, len, cap, rfl⟩ := okWide_slice Tryd.underlying23 hv
  obtain ⟨fuel, hf⟩ := h
  rcases Go.Deep.open_slice_pairs Tryd.underlying23 Tryd.underlying61 (by kernel_rfl) rfl rfl (by kernel_rfl) (by kernel_rfl) hf with ⟨hcs, hx⟩ | ⟨a, len', cap', m, n, V0, V1, D0, D1, P0, P1, hcs, _, hl, hm, hmm, hx, hi⟩
  · simp [Value.cells] at hcs
    obtain ⟨rfl, rfl, rfl⟩ := hcs
    exact ⟨[], Pts.nil W⟩
  · simp [Value.cells] at hcs
    obtain ⟨rfl, rfl, rfl⟩ := hcs
    simp only [if_true] at hmm
    have num : ∀ i, i < m → ∃ z : Seg, w_seg W a i z := fun i hi' => by
      obtain ⟨h0, h1, t0, t1⟩ := hi i hi'
      obtain ⟨z0, e0, _, w0⟩ := DataW.trod_int Tryd.underlying5 t0
      injection e0 with e0
      rw [e0] at h0
      obtain ⟨l, hl⟩ := open_as1 t1
      have hr : 0 ≤ z0 ∧ z0 ≤ 255 := by simpa [Lit.wf, IntKind.min, IntKind.max, IntKind.signed, IntKind.bits] using w0
      refine ⟨(UInt8.ofNat z0.toNat, l), ?_, _, h1, hl⟩
      rw [h0]
      unfold by8
      have : ((UInt8.ofNat z0.toNat).toNat : Int) = z0 := by rw [UInt8.toNat_ofNat']; omega
      rw [this]
    obtain ⟨z, hz⟩ := Go.Deep.choose_lt num
    refine ⟨(List.range len).map z, some a, cap, by simp, by simp; omega, hm, fun h0 => ?_⟩
    simp only [List.length_map, List.length_range] at h0 ⊢
    obtain ⟨b, off, spot⟩ := a
    have hspot : spot = none := by simpa [Addr.add] using World.cell?_spot (hz 0 (by omega)).1
    subst hspot
    refine ⟨b, off, rfl, fun i hi' => ?_⟩
    have := hz i (by omega)
    unfold w_seg at this
    rw [add_none, add_none] at this
    simpa [Nat.add_assoc] using this
/-- What the rows list. -/
def laidW : List (String × DataW Unit) := Rows.walkTellsRow.laid
theorem door_metW (os : Os) (args : Array Value) : laidMetH Tryd.prog laidW ((World.doorLaid Tryd.prog 33 os).forCall (fun _ _ => 0) ⟨#[], args, []⟩).memory :=
  laidMetH_of_parts3 (fuel := 8) (laidMet_of_run' 8 (by kernel_rfl) (by kernel_rfl)) (by kernel_rfl) (by kernel_rfl)
theorem rdyW {W : World} (h : laidMetH Tryd.prog laidW W) : Rdy W ∧ Bkt W := by
  rw [MakeChecks.laidMetH_plain _ _ _ (by kernel_rfl)] at h
  exact ⟨tab_of h, bkt_of (laidMet.tail (laidMet.tail (laidMet.tail h)))⟩
theorem u32_natW {n : Int} (h : (Lit.int .u32 n).wf = true) : ∃ x : Nat, n = x ∧ x < 4294967296 := by
  have hr : 0 ≤ n ∧ n ≤ 4294967295 := by simpa [Lit.wf, IntKind.min, IntKind.max, IntKind.signed, IntKind.bits] using h
  exact ⟨n.toNat, by omega, by omega⟩
set_option maxRecDepth 100000 in
theorem open_asW {H : Type} {enc : TypeId × Value → H} {W : World} {base : Nat} {v : Value} {d : DataW H} {p : List MemPlace} (hv : Value.okWide Tryd.prog W .any base 25 v)
    (h : DataW.Trod enc Tryd.prog W 0 (fun _ => true) true 25 v d p) : ∃ x : Nat, v = .int .u32 (x : Int) ∧ x < 4294967296 := by
  obtain ⟨n, rfl, _, _, hw⟩ := open_int Tryd.underlying25 hv h
  obtain ⟨x, rfl, hx⟩ := u32_natW hw
  exact ⟨x, rfl, hx⟩
set_option maxRecDepth 100000 in
theorem open_u8W {H : Type} {enc : TypeId × Value → H} {W : World} {base : Nat} {v : Value} {d : DataW H} {p : List MemPlace} (hv : Value.okWide Tryd.prog W .any base 5 v)
    (h : DataW.Trod enc Tryd.prog W 0 (fun _ => true) true 5 v d p) : ∃ x : Nat, v = .int .u8 (x : Int) ∧ x < 256 := by
  obtain ⟨n, rfl, _, _, hw⟩ := open_int Tryd.underlying5 hv h
  have hr : 0 ≤ n ∧ n ≤ 255 := by simpa [Lit.wf, IntKind.min, IntKind.max, IntKind.signed, IntKind.bits] using hw
  exact ⟨n.toNat, by congr 1; omega, by omega⟩
set_option maxRecDepth 100000 in
theorem open_asked {H : Type} {enc : TypeId × Value → H} {W : World} {base : Nat} {v : Value} {d : DataW H} {p : List MemPlace} (hv : Value.okWide Tryd.prog W .any base 27 v)
    (h : DataW.Trod enc Tryd.prog W 0 (fun _ => true) true 27 v d p) : ∃ x y : Nat, v = .agg #[.int .u32 (x : Int), .int .u32 (y : Int)] ∧ x < 4294967296 ∧ y < 4294967296 := by
  obtain ⟨v0, v1, y0, y1, n, rfl, _, _, h0, h1⟩ := Joins.open_agg2 Tryd.underlying27 (by kernel_rfl) (by kernel_rfl) hv h
  obtain ⟨z0, e0, _, w0⟩ := DataW.trod_int Tryd.underlying25 h0
  obtain ⟨z1, e1, _, w1⟩ := DataW.trod_int Tryd.underlying25 h1
  injection e0 with e0
  injection e1 with e1
  obtain ⟨x, rfl, hx⟩ := u32_natW w0
  obtain ⟨y, rfl, hy⟩ := u32_natW w1
  exact ⟨x, y, by rw [e0, e1], hx, hy⟩
end Go.Proofs.YtdeblmolgmadiaaDoor
namespace Go.Proofs.YtdeblmolgmadiaaDoor
open Go.RowKit
attribute [local go_sem] Oper.semAt_some

set_option maxRecDepth 20000 in
set_option maxHeartbeats 4000000 in
theorem law_wtells (a : Value) (l : List Seg) (x y : Nat) (cl : Int) (W : World) (ha : Pts W a l) (hr : Rdy W) (hs : Bkt W) :
    Calls Tryd.prog 3 #[a, .agg #[.int .u32 (x : Int), .int .u32 (y : Int)], .int .i64 cl] W fun e w' => e = .returned (.bool true) ∧ Kept Nothing W w' := by
  have HA := Lib.hid ha
  have HR := Lib.hid hr
  have HS := Lib.hid hs
  have HP1 := Lib.hid (fewN_len 40 300 l)
  have HP2 := Lib.hid (fun s => @fewN_num 40 300 l s)
  have F1 := Lib.hid (fun u (k : Kept Nothing W u) => few8 a l u (HA.out.old k))
  generalize fewN 40 300 l = P at *
  obtain ⟨A, c, rfl, _, _⟩ := ha.form
  have KB := Lib.hid ((Kept.refl Nothing W).alloc (.cells #[.int .u32 (x : Int), .int .u32 (y : Int)] 27))
  have BX := Lib.hid (Blk.fresh W 27 #[.int .u32 (x : Int), .int .u32 (y : Int)])
  clear ha hr hs
  go_enter Tryd.func3, Tryd.ntmps3
  go_upto_region 2 with (go_at_call 5; refine (F1.out _ KB.out).mono ?_; rintro e w1 ⟨v1, rfl, p1, k1⟩)
  have PP := Lib.hid p1.pts
  obtain ⟨A1, c1, rfl, _, _⟩ := PP.out.form
  have K1 := Lib.hid (KB.out.trans k1)
  have B1 := Lib.hid (BX.out.kept k1 (fun x => x))
  clear p1 k1 BX
  go_upto_region 3 with (go_at_call 6; refine (of7 _ P _ PP.out (by have := HP1.out; omega) (fun s hs => by have := HP2.out s hs; omega)).mono ?_; rintro e w2 ⟨v2, rfl, o2, k2⟩)
  have RP := Lib.hid o2.rfs
  obtain ⟨A2, c2, rfl, _, _⟩ := RP.out.form
  have XP := Lib.hid (PP.out.old k2)
  have KW := Lib.hid (K1.out.trans k2)
  have B2 := Lib.hid (B1.out.kept k2 (fun x => x))
  have LP : Hid (P.length ≤ 1000000 ∧ ∀ s ∈ P, s.2.length ≤ 1000000) := Lib.hid ⟨by have := HP1.out; omega, fun s hs => by have := HP2.out s hs; omega⟩
  clear o2 k2 PP K1 B1 KB
  have C1 := Lib.hid (fun u (k : Kept Nothing w2 u) => walk_first _ P u (XP.out.old k) LP.out.1)
  have D1 := Lib.hid (fun u (k : Kept Nothing w2 u) => rs_first _ P u (RP.out.old k) LP.out.1)
  have C2 := Lib.hid (fun u (k : Kept Nothing w2 u) => walk_has _ P x u (XP.out.old k) LP.out.1 LP.out.2)
  have D2 := Lib.hid (fun u (k : Kept Nothing w2 u) => rs_has _ P x u (RP.out.old k) LP.out.1)
  have C3 := Lib.hid (fun u (k : Kept Nothing w2 u) => walk_loops _ P x y u (XP.out.old k) LP.out.1 LP.out.2)
  have D3 := Lib.hid (fun u (k : Kept Nothing w2 u) => rs_loops _ P x y u (RP.out.old k) LP.out.1)
  have C4 := Lib.hid (fun u (k : Kept Nothing w2 u) => walk_ordered _ P u (XP.out.old k) LP.out.1 LP.out.2)
  have D4 := Lib.hid (fun u (k : Kept Nothing w2 u) => rs_ordered _ P u (RP.out.old k) LP.out.1)
  have C5 := Lib.hid (fun u (k : Kept Nothing w2 u) => walk_right _ P cl x u (XP.out.old k) LP.out.1 LP.out.2)
  have D5 := Lib.hid (fun u (k : Kept Nothing w2 u) => rs_right _ P cl x u (RP.out.old k) LP.out.1)
  have C6 := Lib.hid (fun u (k : Kept Nothing w2 u) => walk_neighbour _ P u (XP.out.old k) LP.out.1 LP.out.2)
  have D6 := Lib.hid (fun u (k : Kept Nothing w2 u) => rs_neighbour _ P u (RP.out.old k) LP.out.1)
  have C7 := Lib.hid (fun u (k : Kept Nothing w2 u) => walk_origin _ P u (XP.out.old k) LP.out.1 LP.out.2)
  have D7 := Lib.hid (fun u (k : Kept Nothing w2 u) => rs_origin _ P u (RP.out.old k) LP.out.1)
  have C8 := Lib.hid (fun u (k : Kept Nothing w2 u) => walk_length _ P u (XP.out.old k) LP.out.1 LP.out.2)
  have D8 := Lib.hid (fun u (k : Kept Nothing w2 u) => rs_length _ P u (RP.out.old k) LP.out.1)
  have C9 := Lib.hid (fun u (k : Kept Nothing w2 u) => of7 _ P u (XP.out.old k) LP.out.1 LP.out.2)
  have D9 := Lib.hid (fun v u (k : Kept Nothing w2 u) (h : Rfs u v P) => rf_same v _ P P u h (RP.out.old k))
  have CT := Lib.hid (fun u (k : Kept Nothing w2 u) => tells_true u (HR.out.kept (KW.out.trans k)) (HS.out.kept (KW.out.trans k)))
  simp only [decide_true] at D9
  have hfi : (Wk.first P).1 < 256 := by
    unfold Wk.first
    split
    · cases P with
      | nil => simp
      | cons s r => exact s.1.toNat_lt
    · simp
  generalize Wk.first P = ff at *
  obtain ⟨fk, fn, fi⟩ := ff
  simp only at C1 D1 hfi
  generalize Wk.has P x = b2 at *
  generalize Wk.loops P x y = b3 at *
  generalize Wk.ordered P = b4 at *
  generalize Wk.right P cl x = b5 at *
  generalize Wk.neighbour P = n6 at *
  generalize Wk.origin P = n7 at *
  generalize Wk.length P = n8 at *
  clear F1 HA HP1 HP2 XP RP HR HS
  have e2 : (b2 == b2) = true := beq_self_eq_true _
  have e3 : (b3 == b3) = true := beq_self_eq_true _
  have e4 : (b4 == b4) = true := beq_self_eq_true _
  have e5 : (b5 == b5) = true := beq_self_eq_true _
  have e6 : (fi == fi) = true := beq_self_eq_true _
  go_upto_region 5 with (first
    | (go_at_call 8; refine (D1.out _ K4.out).mono ?_; rintro e w5 ⟨rfl, k5⟩; (have K5 := Lib.hid (K4.out.trans k5)); clear k5)
    | (go_at_call 7; refine (C1.out _ (Kept.refl _ _)).mono ?_; rintro e w4 ⟨rfl, k4⟩; (have K4 := Lib.hid k4); clear k4))
  have BV : Hid (∀ u, Kept Nothing w2 u → u.cell? ⟨W.heap.size, 0, none⟩ = some (.int .u32 (x : Int)) ∧ u.cell? ⟨W.heap.size, 1, none⟩ = some (.int .u32 (y : Int))) := Lib.hid (fun u hu => by
    have h := B2.out.kept hu (fun x => x)
    exact ⟨h.cell 0, h.cell 1⟩)
  obtain ⟨z0, z1⟩ := BV.out _ K5.out
  go_wp2_with fail
  go_region
  have K := Lib.hid K5.out.drew
  obtain ⟨z2, z3⟩ := BV.out _ K.out
  have hfw : IntKind.i64.wrap (fk : Int) = (fk : Int) := by rw [IntKind.wrap_i64]; omega
  clear z0 z1 K4 K5
  go_wp2_with (first
    | (go_at_call 24; refine (CT.out _ K.out).mono ?_; rintro e w39 ⟨rfl, k39⟩; (replace K := Lib.hid (K.out.trans k39)); (obtain ⟨z0, z1⟩ := BV.out _ K.out); clear k39)
    | (go_at_call 23; refine (D9.out _ _ K.out O9.out).mono ?_; rintro e w38 ⟨rfl, k38⟩; (replace K := Lib.hid (K.out.trans k38)); clear k38)
    | (go_at_call 6; refine (C9.out _ K.out).mono ?_; rintro e w37 ⟨v37, rfl, o37, k37⟩; (have O9 := Lib.hid o37.rfs); (replace K := Lib.hid (K.out.trans k37)); clear k37 o37)
    | (go_at_call 22; refine (D8.out _ K.out).mono ?_; rintro e w36 ⟨rfl, k36⟩; (replace K := Lib.hid (K.out.trans k36)); (obtain ⟨z0, z1⟩ := BV.out _ K.out); clear k36)
    | (go_at_call 21; refine (C8.out _ K.out).mono ?_; rintro e w35 ⟨rfl, k35⟩; (replace K := Lib.hid (K.out.trans k35)); (obtain ⟨z0, z1⟩ := BV.out _ K.out); clear k35)
    | (go_at_call 20; refine (D7.out _ K.out).mono ?_; rintro e w34 ⟨rfl, k34⟩; (replace K := Lib.hid (K.out.trans k34)); (obtain ⟨z0, z1⟩ := BV.out _ K.out); clear k34)
    | (go_at_call 19; refine (C7.out _ K.out).mono ?_; rintro e w33 ⟨rfl, k33⟩; (replace K := Lib.hid (K.out.trans k33)); (obtain ⟨z0, z1⟩ := BV.out _ K.out); clear k33)
    | (go_at_call 18; refine (D6.out _ K.out).mono ?_; rintro e w32 ⟨rfl, k32⟩; (replace K := Lib.hid (K.out.trans k32)); (obtain ⟨z0, z1⟩ := BV.out _ K.out); clear k32)
    | (go_at_call 17; refine (C6.out _ K.out).mono ?_; rintro e w31 ⟨rfl, k31⟩; (replace K := Lib.hid (K.out.trans k31)); (obtain ⟨z0, z1⟩ := BV.out _ K.out); clear k31)
    | (go_at_call 16; refine (D5.out _ K.out).mono ?_; rintro e w30 ⟨rfl, k30⟩; (replace K := Lib.hid (K.out.trans k30)); (obtain ⟨z0, z1⟩ := BV.out _ K.out); clear k30)
    | (go_at_call 15; refine (C5.out _ K.out).mono ?_; rintro e w29 ⟨rfl, k29⟩; (replace K := Lib.hid (K.out.trans k29)); (obtain ⟨z0, z1⟩ := BV.out _ K.out); clear k29)
    | (go_at_call 14; refine (D4.out _ K.out).mono ?_; rintro e w28 ⟨rfl, k28⟩; (replace K := Lib.hid (K.out.trans k28)); (obtain ⟨z0, z1⟩ := BV.out _ K.out); clear k28)
    | (go_at_call 13; refine (C4.out _ K.out).mono ?_; rintro e w27 ⟨rfl, k27⟩; (replace K := Lib.hid (K.out.trans k27)); (obtain ⟨z0, z1⟩ := BV.out _ K.out); clear k27)
    | (go_at_call 12; refine (D3.out _ K.out).mono ?_; rintro e w26 ⟨rfl, k26⟩; (replace K := Lib.hid (K.out.trans k26)); (obtain ⟨z0, z1⟩ := BV.out _ K.out); clear k26)
    | (go_at_call 11; refine (C3.out _ K.out).mono ?_; rintro e w25 ⟨rfl, k25⟩; (replace K := Lib.hid (K.out.trans k25)); (obtain ⟨z0, z1⟩ := BV.out _ K.out); clear k25)
    | (go_at_call 10; refine (D2.out _ K.out).mono ?_; rintro e w24 ⟨rfl, k24⟩; (replace K := Lib.hid (K.out.trans k24)); (obtain ⟨z0, z1⟩ := BV.out _ K.out); clear k24)
    | (go_at_call 9; refine (C2.out _ K.out).mono ?_; rintro e w23 ⟨rfl, k23⟩; (replace K := Lib.hid (K.out.trans k23)); (obtain ⟨z0, z1⟩ := BV.out _ K.out); clear k23))
  go_ret
  exact ⟨rfl, KW.out.trans K.out⟩
end Go.Proofs.YtdeblmolgmadiaaDoor
namespace Go.Proofs.YtdeblmolgmadiaaDoor
open Go.ChangeShapes Go.WideShapes Go.ChangeAt Go.RowKit

set_option maxRecDepth 100000 in
theorem walkTells_lifted (os : Os) (started : os.Started) (H : Type) (enc : TypeId × Value → H) :
    ReturnsInHanded {} Tryd.checked os 3 .any (fun w args => (Rows.walkTellsSpec.pre enc Tryd.prog Tryd.f3 [] false w args ∧ laidMetH Tryd.prog laidW w) ∧ sizedMet enc Tryd.prog Tryd.f3 (OpenSpec.ofChange Rows.walkTellsSpec) false w args)
      (Rows.walkTellsSpec.post enc Tryd.prog Tryd.f3 false true false false) := by
  refine returnsInHanded_of_change_and (C := Tryd.checked) (X := fun w _ => laidMetH Tryd.prog laidW w) (fun _ _ _ hh h => h.of_heap hh) ownKnob_none started (by kernel_rfl) Tryd.func3
    (ChangeSpec.witness_shaped (enc := enc) (C := Tryd.checked) (os := os) (X := fun w _ => laidMetH Tryd.prog laidW w) false (World.doorLaid Tryd.prog 33 os) #[.slice none 0 0, .agg #[.int .u32 0, .int .u32 0], .int .i64 0] 8 rfl (World.shaped_of_RefB (by kernel_rfl) (by kernel_rfl)) (by kernel_rfl) (by kernel_rfl) (by kernel_rfl) (door_metW os _)) ?_
  intro W base args ds gs before hval0 hW _ _ hL _
  have hval : ∀ (j : Nat) t v, Tryd.f3.params[j]? = some t → args[j]? = some v → Value.okWide Tryd.prog W .any base t v := hval0
  have hW' : DataW.Whole enc Tryd.prog Tryd.f3.params.toList Rows.walkTellsSpec.vars false W args.toList ds gs before := hW
  obtain ⟨p, q, hA0, hV, rfl, hfz, hnd⟩ := hW
  have hA : DataW.TrodAll enc Tryd.prog W 0 (fun _ => true) true Tryd.f3.params.toList args.toList ds p := hA0
  rw [Tryd.params3] at hA hval
  obtain ⟨v0, v1, v2, d0, d1, d2, p0, p1, p2, rfl, rfl, rfl, h0, h1, h2⟩ := trodAll_three hA
  obtain ⟨rfl, rfl⟩ := trodVars_none hV
  obtain ⟨hr, hs⟩ := rdyW hL
  obtain ⟨l, hl⟩ := open_pts (hval 0 23 v0 rfl rfl) h0
  obtain ⟨x, y, rfl, _, _⟩ := open_asked (hval 1 27 v1 rfl rfl) h1
  obtain ⟨n, rfl, _, _, _⟩ := open_int Tryd.underlying3 (hval 2 3 v2 rfl rfl) h2
  refine (law_wtells v0 l x y n W hl hr hs).mono fun e W' ⟨he, hk⟩ => ?_
  subst he
  exact ⟨_, rfl, law_post hW' rfl (by kernel_rfl) (by rw [Tryd.params3]; exact readableJ (by kernel_rfl)) rfl rfl rfl hk.under⟩
theorem walkTells_row : Rows.WalkTellsSaid :=
  OpenClaim.holds_of_wide 3 Tryd.f3 rfl rfl rfl rfl rfl rfl rfl ⟨rfl, rfl, rfl, rfl, rfl⟩ rfl rfl rfl rfl rfl (by kernel_rfl) Tryd.func3 (by kernel_rfl)
    (of_decide_eq_true (by kernel_rfl)) (by unfold Func.isWrapper; first | (rw [if_pos (by decide +kernel)]; kernel_rfl) | (rw [if_neg (by decide +kernel)]; exact ⟨rfl, rfl⟩))
    (fun os started H enc _ => walkTells_lifted os started H enc)
theorem walkTells_holds : Rows.WalkTellsCardSaid :=
  Claim7.holds_tied_plain_at .later [] [.data, .data, .data, .data] true Rows.walkTellsCard.stood.harness false
    walkTells_row (fun _ h => by cases h) (by kernel_rfl) (fun _ h => by cases h) walkTells_row_tie rfl ⟨rfl, rfl⟩ (by kernel_rfl) rfl
    (fun f fn hf hfn => by
      obtain rfl : f = 3 := Option.some.inj ((show Tryd.prog.funcNamed "consulate/consulatelaw08.WalkTells" = some 3 by kernel_rfl).symm.trans hf) |>.symm
      obtain rfl : fn = Tryd.f3 := (Option.some.inj (Tryd.func3.symm.trans hfn)).symm
      exact ⟨by kernel_rfl, fun j t ht => by
        rw [Tryd.params3] at ht
        have hm : t ∈ [23, 27, 3] := by simpa using Array.mem_of_getElem? ht
        have hall : ([23, 27, 3].all fun u => !Tryd.prog.wantsStandIn u) = true := by kernel_rfl
        exact (show Tryd.prog.wantsStandIn t = false by simpa using List.all_eq_true.1 hall t hm)⟩)
    (by kernel_rfl)
end Go.Proofs.YtdeblmolgmadiaaDoor
