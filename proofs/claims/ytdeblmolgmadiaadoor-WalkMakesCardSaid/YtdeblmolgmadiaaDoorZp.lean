
/-
  Proved here: the law WalkMakes returns true for every input, and each argument reads behind the call as it did before; the listed variables of Go's library and the program's own table of brackets hold what the program's text lays in them (tied). No other condition.
-/
import Derived.Test.YtdeblmolgmadiaaDoorZd
import Derived.Test.YtdeblmolgmadiaaDoorZb
import Derived.Test.YtdeblmolgmadiaaDoorLaw
import Derived.Test.YtdeblmolgmadiaaDoorJk
import Derived.Test.YtdeblmolgmadiaaDoorNa
import Derived.Test.YtdeblmolgmadiaaDoorTie
import Derived.Test.YtdeblmolgmadiaaDoorCards
import Derived.LaidMore
import Derived.ChangeMaps5
import Derived.Stop.Joined
import Derived.Stop.LaidErr
import Derived.SevenTiedAt
import Derived.Lib.LaidTab
import Derived.Deep.Strs
import Derived.Deep.SlicePairs
import Derived.Carry
import Derived.Test.YtdeblmolgmadiaaDoorZh
import Derived.Test.YtdeblmolgmadiaaDoorZo
import Derived.Test.YtdeblmolgmadiaaDoorZi
namespace Go.Proofs.YtdeblmolgmadiaaDoor
open Go.RowKit Go.Shelf

def tP : List Seg := [(3, [65001, 65002]), (2, [10]), (1, [20, 30])]
def tQ : List Seg := [(3, [65003, 65001, 65002]), (2, [10]), (1, [20, 30])]
def tR : List Seg := [(1, [5]), (2, [6])]
theorem t_pre : Wk.prepend tP 3 65003 = (tQ, 0) := by rfl
theorem t_len : Wk.length tP = 2 ∧ Wk.length tR = 2 := ⟨by rfl, by rfl⟩
theorem t_nb : Wk.neighbour tP = 10 ∧ Wk.neighbour tR = 0 := ⟨by rfl, by rfl⟩
theorem t_or : Wk.origin tR = 6 := by rfl
theorem t_ord : Wk.ordered tP = true := by rfl
theorem t_strip : Wk.strip tP = [(2, [10]), (1, [20, 30])] := by rfl
theorem d10 : Lib.decDigits 10 = [49, 48] := by rw [dec_step (by decide), dec_small (by decide)]; rfl
theorem d20 : Lib.decDigits 20 = [50, 48] := by rw [dec_step (by decide), dec_small (by decide)]; rfl
theorem d30 : Lib.decDigits 30 = [51, 48] := by rw [dec_step (by decide), dec_small (by decide)]; rfl
theorem d65 (k : Nat) (hk : k < 10) : Lib.decDigits (65000 + k) = [54, 53, 48, 48, UInt8.ofNat (48 + k)] := by
  rw [dec_step (by omega), show (65000 + k) / 10 = 6500 by omega, show (65000 + k) % 10 = k by omega, dec_step (by decide), dec_step (by decide), dec_step (by decide), dec_small (by decide)]
  rfl
theorem t_text1 : Pt.text [(2, [10]), (1, [20, 30])] = [49, 48, 32, 123, 50, 48, 44, 51, 48, 125] := by
  show Pt.tx [(2, [10]), (1, [20, 30])] 2 = _
  simp [Pt.tx, Pt.ahead, Pt.gap, Pt.segT, Pt.opens, Pt.betw, Pt.ends, d10, d20, d30, Lib.join, List.intercalate, List.intersperse]
theorem t_text2 : Pt.text tQ = [40, 54, 53, 48, 48, 51, 32, 54, 53, 48, 48, 49, 32, 54, 53, 48, 48, 50, 41, 32, 49, 48, 32, 123, 50, 48, 44, 51, 48, 125] := by
  have e1 : Lib.decDigits 65001 = [54, 53, 48, 48, 49] := d65 1 (by decide)
  have e2 : Lib.decDigits 65002 = [54, 53, 48, 48, 50] := d65 2 (by decide)
  have e3 : Lib.decDigits 65003 = [54, 53, 48, 48, 51] := d65 3 (by decide)
  show Pt.tx tQ 3 = _
  simp [tQ, Pt.tx, Pt.ahead, Pt.gap, Pt.segT, Pt.opens, Pt.betw, Pt.ends, d10, d20, d30, e1, e2, e3, Lib.join, List.intercalate, List.intersperse]

theorem as_made (w : World) (cs : Array Value) (l : List Nat) (h : cs.toList = ass l) (hm : l.length ≤ 100) (hl : ∀ n ∈ l, n < 4294967296) (hp : 0 < l.length) : As (w.alloc (.cells cs 25)) (.slice (some ⟨w.heap.size, 0, none⟩) l.length l.length) l := by
  have hs : cs.size = l.length := by rw [← Array.length_toList, h, length_ass]
  refine As.of_own (base := 0) (e := 25) ⟨by rw [length_ass, Nat.mul_one], .inr ⟨w.heap.size, l.length, cs, rfl, Nat.zero_le _, heap_alloc_new w _, Nat.le_refl _, by unfold maxLen; omega, by rw [hs, Nat.mul_one], ?_⟩⟩ hl
  rw [List.take_of_length_le (by simp [hs]), h]
theorem pts_made (w : World) (cs : Array Value) (l : List Seg) (hm : l.length ≤ 100) (hs : cs.size = l.length * 2) (h : PCells (As (w.alloc (.cells cs 61))) cs.toList l) : Pts (w.alloc (.cells cs 61)) (.slice (some ⟨w.heap.size, 0, none⟩) l.length l.length) l :=
  Pts.of_own (base := 0) (e := 61) ⟨by simp [hs], .inr ⟨w.heap.size, l.length, cs, rfl, Nat.zero_le _, heap_alloc_new w _, Nat.le_refl _, by unfold maxLen; omega, hs, by rw [List.take_of_length_le (by simp [hs])]⟩⟩ h

set_option maxRecDepth 20000 in
set_option maxHeartbeats 2000000 in
theorem tells_true (w : World) (hr : Rdy w) (hs : Bkt w) :
    Calls Tryd.prog 24 #[] w fun e w' => e = .returned (.bool true) ∧ Kept Nothing w w' := by
  have HR := Lib.hid hr
  have HS := Lib.hid hs
  clear hr hs
  have hB : ∀ s ∈ tP, s.2.length ≤ 1000000 := by unfold tP; simp
  have hBR : ∀ s ∈ tR, s.2.length ≤ 1000000 := by unfold tR; simp
  go_enter Tryd.func24, Tryd.ntmps24
  go_upto_region 2 with fail
  obtain ⟨wA, hwA⟩ : ∃ wA, w.alloc (.cells #[.int .u32 65001, .int .u32 65002] 25) = wA := ⟨_, rfl⟩
  have zA : wA.heap.size = w.heap.size + 1 := by rw [← hwA]; exact World.size_alloc _ _
  have aA : As wA (.slice (some ⟨w.heap.size, 0, none⟩) 2 2) [65001, 65002] := by rw [← hwA]; exact as_made w _ [65001, 65002] rfl (by simp) (by simp) (by simp)
  have kA : Kept Nothing w wA := by rw [← hwA]; exact (Kept.refl _ w).alloc _
  rw [hwA]
  obtain ⟨wB, hwB⟩ : ∃ wB, wA.alloc (.cells #[.int .u32 10] 25) = wB := ⟨_, rfl⟩
  have zB : wB.heap.size = w.heap.size + 1 + 1 := by rw [← hwB, World.size_alloc, zA]
  have aB : As wB (.slice (some ⟨w.heap.size + 1, 0, none⟩) 1 1) [10] := by rw [← hwB, ← zA]; exact as_made wA _ [10] rfl (by simp) (by simp) (by simp)
  have kB : Kept Nothing wA wB := by rw [← hwB]; exact (Kept.refl _ wA).alloc _
  rw [hwB]
  obtain ⟨wC, hwC⟩ : ∃ wC, wB.alloc (.cells #[.int .u32 20, .int .u32 30] 25) = wC := ⟨_, rfl⟩
  have zC : wC.heap.size = w.heap.size + 1 + 1 + 1 := by rw [← hwC, World.size_alloc, zB]
  have aC : As wC (.slice (some ⟨w.heap.size + 1 + 1, 0, none⟩) 2 2) [20, 30] := by rw [← hwC, ← zB]; exact as_made wB _ [20, 30] rfl (by simp) (by simp) (by simp)
  have kC : Kept Nothing wB wC := by rw [← hwC]; exact (Kept.refl _ wB).alloc _
  rw [hwC]
  have kD := (Kept.refl Nothing wC).alloc (.cells #[.int .u8 3, .slice (some ⟨w.heap.size, 0, none⟩) 2 2, .int .u8 2, .slice (some ⟨w.heap.size + 1, 0, none⟩) 1 1, .int .u8 1, .slice (some ⟨w.heap.size + 1 + 1, 0, none⟩) 2 2] 61)
  have PD := Lib.hid (pts_made wC #[.int .u8 3, .slice (some ⟨w.heap.size, 0, none⟩) 2 2, .int .u8 2, .slice (some ⟨w.heap.size + 1, 0, none⟩) 1 1, .int .u8 1, .slice (some ⟨w.heap.size + 1 + 1, 0, none⟩) 2 2] tP (by decide) rfl ⟨rfl, aA.old (kB.trans (kC.trans kD)), rfl, aB.old (kC.trans kD), rfl, aC.old kD, trivial⟩)
  rw [zC] at PD
  have KD := Lib.hid (kA.trans (kB.trans (kC.trans kD)))
  clear aA aB aC kA kB kC kD zA zB
  generalize wC.alloc (.cells #[.int .u8 3, .slice (some ⟨w.heap.size, 0, none⟩) 2 2, .int .u8 2, .slice (some ⟨w.heap.size + 1, 0, none⟩) 1 1, .int .u8 1, .slice (some ⟨w.heap.size + 1 + 1, 0, none⟩) 2 2] 61) = wD at *
  generalize w.heap.size + 1 + 1 + 1 = gP at *
  have HPP := Lib.hid (walk_prepend (.slice (some ⟨gP, 0, none⟩) 3 3) tP 3 65003 (by decide) wD PD.out (by decide) hB)
  rw [t_pre] at HPP
  replace HPP : Hid (Calls Tryd.prog 25 #[.slice (some ⟨gP, 0, none⟩) 3 3, .int .u8 3, .int .u32 65003] wD fun e w' => ∃ v', e = .returned (.tuple #[v', .int .i64 0]) ∧ Pown w' wD.heap.size v' tQ ∧ Kept Nothing wD w') := HPP
  go_upto_region 3 with (go_at_call 25; refine (HPP.out).mono ?_; rintro e w5 ⟨v5, rfl, p5, k5⟩; (have P5 := Lib.hid p5); (have K5 := Lib.hid k5); clear p5 k5)
  go_upto_region 4 with fail
  obtain ⟨wE, hwE⟩ : ∃ wE, w5.alloc (.cells #[.int .u32 5] 25) = wE := ⟨_, rfl⟩
  have zE : wE.heap.size = w5.heap.size + 1 := by rw [← hwE]; exact World.size_alloc _ _
  have aE : As wE (.slice (some ⟨w5.heap.size, 0, none⟩) 1 1) [5] := by rw [← hwE]; exact as_made w5 _ [5] rfl (by simp) (by simp) (by simp)
  have kE : Kept Nothing w5 wE := by rw [← hwE]; exact (Kept.refl _ w5).alloc _
  rw [hwE]
  obtain ⟨wF, hwF⟩ : ∃ wF, wE.alloc (.cells #[.int .u32 6] 25) = wF := ⟨_, rfl⟩
  have zF : wF.heap.size = w5.heap.size + 1 + 1 := by rw [← hwF, World.size_alloc, zE]
  have aF : As wF (.slice (some ⟨w5.heap.size + 1, 0, none⟩) 1 1) [6] := by rw [← hwF, ← zE]; exact as_made wE _ [6] rfl (by simp) (by simp) (by simp)
  have kF : Kept Nothing wE wF := by rw [← hwF]; exact (Kept.refl _ wE).alloc _
  rw [hwF]
  have kG := (Kept.refl Nothing wF).alloc (.cells #[.int .u8 1, .slice (some ⟨w5.heap.size, 0, none⟩) 1 1, .int .u8 2, .slice (some ⟨w5.heap.size + 1, 0, none⟩) 1 1] 61)
  have RG := Lib.hid (pts_made wF #[.int .u8 1, .slice (some ⟨w5.heap.size, 0, none⟩) 1 1, .int .u8 2, .slice (some ⟨w5.heap.size + 1, 0, none⟩) 1 1] tR (by decide) rfl ⟨rfl, aE.old (kF.trans kG), rfl, aF.old kG, trivial⟩)
  rw [zF] at RG
  have K6 := Lib.hid (kE.trans (kF.trans kG))
  have KZ := Lib.hid (KD.out.trans (K5.out.trans K6.out))
  have PG := Lib.hid (PD.out.old (K5.out.trans K6.out))
  have QG := Lib.hid (P5.out.old K6.out).pts
  clear aE aF kE kF kG zE zF
  generalize wF.alloc (.cells #[.int .u8 1, .slice (some ⟨w5.heap.size, 0, none⟩) 1 1, .int .u8 2, .slice (some ⟨w5.heap.size + 1, 0, none⟩) 1 1] 61) = w6 at *
  generalize w5.heap.size + 1 + 1 = gR at *
  have C1 := Lib.hid (fun u (k : Kept Nothing w6 u) => walk_length (.slice (some ⟨gP, 0, none⟩) 3 3) tP u (PG.out.old k) (by decide) hB)
  have C2 := Lib.hid (fun u (k : Kept Nothing w6 u) => walk_neighbour (.slice (some ⟨gP, 0, none⟩) 3 3) tP u (PG.out.old k) (by decide) hB)
  have C3 := Lib.hid (fun u (k : Kept Nothing w6 u) => walk_ordered (.slice (some ⟨gP, 0, none⟩) 3 3) tP u (PG.out.old k) (by decide) hB)
  have C4 := Lib.hid (fun u (k : Kept Nothing w6 u) => walk_strip (.slice (some ⟨gP, 0, none⟩) 3 3) tP u (PG.out.old k) (by decide) hB)
  have C5 := Lib.hid (fun v u (k : Kept Nothing w6 u) (h : Pts u v [(2, [10]), (1, [20, 30])]) => path_text v [(2, [10]), (1, [20, 30])] u h (by decide) (HR.out.kept (KZ.out.trans k)) (HS.out.kept (KZ.out.trans k)))
  have C6 := Lib.hid (fun u (k : Kept Nothing w6 u) => path_text v5 tQ u (QG.out.old k) (by decide) (HR.out.kept (KZ.out.trans k)) (HS.out.kept (KZ.out.trans k)))
  have C7 := Lib.hid (fun u (k : Kept Nothing w6 u) => walk_neighbour (.slice (some ⟨gR, 0, none⟩) 2 2) tR u (RG.out.old k) (by decide) hBR)
  have C8 := Lib.hid (fun u (k : Kept Nothing w6 u) => walk_origin (.slice (some ⟨gR, 0, none⟩) 2 2) tR u (RG.out.old k) (by decide) hBR)
  have C9 := Lib.hid (fun u (k : Kept Nothing w6 u) => walk_length (.slice (some ⟨gR, 0, none⟩) 2 2) tR u (RG.out.old k) (by decide) hBR)
  rw [t_len.1] at C1
  rw [t_nb.1] at C2
  rw [t_ord] at C3
  rw [t_strip] at C4
  rw [t_text1] at C5
  rw [t_text2] at C6
  rw [t_nb.2] at C7
  rw [t_or] at C8
  rw [t_len.2] at C9
  clear hB hBR PD HPP P5 K5 K6
  go_wp2_with (first
    | (go_at_call 21; refine (C9.out _ (m7.trans q8)).mono ?_; rintro e u9 ⟨rfl, q9⟩)
    | (go_at_call 19; refine (C8.out _ m7).mono ?_; rintro e u8 ⟨rfl, q8⟩)
    | (go_at_call 17; refine (C7.out _ m6).mono ?_; rintro e u7 ⟨rfl, q7⟩; have m7 := m6.trans q7)
    | (go_at_call 42; refine (C6.out _ m5).mono ?_; rintro e u6 ⟨rfl, q6⟩; have m6 := m5.trans q6)
    | (go_at_call 42; refine (C5.out _ _ m4 p4.pts).mono ?_; rintro e u5 ⟨rfl, q5⟩; have m5 := m4.trans q5)
    | (go_at_call 27; refine (C4.out _ m3).mono ?_; rintro e u4 ⟨v4, rfl, p4, q4⟩; have m4 := m3.trans q4)
    | (go_at_call 13; refine (C3.out _ m2).mono ?_; rintro e u3 ⟨rfl, q3⟩; have m3 := m2.trans q3)
    | (go_at_call 17; refine (C2.out _ m1).mono ?_; rintro e u2 ⟨rfl, q2⟩; have m2 := m1.trans q2)
    | (go_at_call 21; refine (C1.out _ (Kept.refl _ _)).mono ?_; rintro e u1 ⟨rfl, m1⟩))
  go_ret
  exact ⟨rfl, KZ.out.trans ((m7.trans q8).trans q9)⟩
end Go.Proofs.YtdeblmolgmadiaaDoor
namespace Go.Proofs.YtdeblmolgmadiaaDoor
open Go.ChangeShapes Go.WideShapes Go.ChangeAt Go.RowKit

theorem tab_of {W : World} {x0 x1 : String × DataW Unit} {r : List (String × DataW Unit)}
    (h : laidMet Tryd.prog (x0 :: x1 :: ("internal/strconv.uint64pow10", Rows.laid_internal_strconv_uint64pow10) :: r) W) : Rdy W := by
  have h2 := laidMet.tail (laidMet.tail h)
  have hd : Rows.laid_internal_strconv_uint64pow10 (H := Unit) = Lib.tabData .u64 Lib.pow10Tab := by kernel_rfl
  rw [hd] at h2
  exact Lib.tabIs_of_head (g := 1) (t := 115) (by kernel_rfl) (by kernel_rfl) Tryd.underlying115 Tryd.underlying103 (by kernel_rfl) (by kernel_rfl) h2
theorem readableJ {ts : List TypeId} (h : (ts.all fun t => Tryd.prog.readableRec t && decide (t < Tryd.prog.types.size)) = true) : ∀ t ∈ ts, Tryd.prog.readableRec t = true ∧ t < Tryd.prog.types.size := fun t ht => by
  have := List.all_eq_true.1 h t ht
  simpa using this

/-- The table of brackets. -/
def bkD {H : Type} (i : Nat) : DataW H := .agg [.lit (.string (Pt.opens i)), .lit (.string (Pt.betw i)), .lit (.string (Pt.ends i))]
theorem bk_data {H : Type} : Rows.laid_consulate_path_brackets (H := H) = .agg ((List.range 5).map bkD) := by rfl
theorem str_of {s : ByteArray} {l : List UInt8} (h : l = s.data.toList) : (.string s : Value) = str l := by
  subst h
  rfl
theorem cells_of_bk {H : Type} {enc : TypeId × Value → H} {w : World} {base : Nat} {sp : Nat → Bool} {held : Bool} {fuel : Nat} {cs : List Value} {p : List MemPlace}
    (h : DataW.trod enc Tryd.prog w base sp held fuel 97 cs = some (Rows.laid_consulate_path_brackets, p)) : cs = bkc.toList := by
  rw [bk_data] at h
  have hce : Tryd.prog.cellsOf 96 = 3 := by kernel_rfl
  have hct : Tryd.prog.cellsOf 97 = 15 := by kernel_rfl
  have hc1 : Tryd.prog.cellsOf 9 = 1 := by kernel_rfl
  cases fuel with
  | zero => simp [DataW.trod] at h
  | succ fuel =>
    simp only [DataW.trod, Tryd.underlying97, hce, hct] at h
    split at h
    case isFalse => cases h
    next hl =>
    obtain ⟨xs, hm, hx⟩ := Option.map_eq_some_iff.1 h
    have hxs : xs.map (·.1) = (List.range 5).map (bkD (H := H)) := by
      have := congrArg Prod.fst hx
      simpa using this
    have key : ∀ i, i < 5 → cs[i * 3]? = some (str (Pt.opens i)) ∧ cs[i * 3 + 1]? = some (str (Pt.betw i)) ∧ cs[i * 3 + 2]? = some (str (Pt.ends i)) := fun i hi => by
      obtain ⟨b, hb, hf⟩ := Lib.mapM_at hm i i (by simp [hi])
      have h2 : (xs.map (·.1))[i]? = some b.1 := by simp [hb]
      rw [hxs] at h2
      have h3 : b.1 = bkD i := by simpa [hi] using h2.symm
      obtain ⟨y0, y1, y2, n, rfl, _, e0, e1, e2⟩ := Go.Deep.trod_struct3 Tryd.underlying96 hf
      obtain ⟨z0, q0, r0, _⟩ := DataW.trod_string Tryd.underlying9 e0
      obtain ⟨z1, q1, r1, _⟩ := DataW.trod_string Tryd.underlying9 e1
      obtain ⟨z2, q2, r2, _⟩ := DataW.trod_string Tryd.underlying9 e2
      subst r0 r1 r2
      simp only [bkD, DataW.agg.injEq, List.cons.injEq, DataW.lit.injEq, Lit.string.injEq, and_true] at h3
      obtain ⟨g0, g1, g2⟩ := h3
      simp only [hc1] at q0 q1 q2
      refine ⟨?_, ?_, ?_⟩
      · have := congrArg (·[0]?) q0
        rw [← str_of g0.symm]
        simpa [List.getElem?_take, List.getElem?_drop] using this
      · have := congrArg (·[0]?) q1
        rw [← str_of g1.symm]
        simpa [List.getElem?_take, List.getElem?_drop] using this
      · have := congrArg (·[0]?) q2
        rw [← str_of g2.symm]
        simpa [List.getElem?_take, List.getElem?_drop] using this
    apply List.ext_getElem?
    intro j
    by_cases hj : j < 15
    · have k := key (j / 3) (by omega)
      have s := bk_cells (j / 3) (by omega)
      rw [← Array.getElem?_toList, ← Array.getElem?_toList, ← Array.getElem?_toList] at s
      obtain e | e | e : j = j / 3 * 3 ∨ j = j / 3 * 3 + 1 ∨ j = j / 3 * 3 + 2 := by omega
      · rw [e, k.1, s.1]
      · rw [e, k.2.1, s.2.1]
      · rw [e, k.2.2, s.2.2]
    · rw [List.getElem?_eq_none (by omega), List.getElem?_eq_none (by have : bkc.toList.length = 15 := rfl; omega)]
theorem bkt_of {W : World} {r : List (String × DataW Unit)} (h : laidMet Tryd.prog (("consulate/path.brackets", Rows.laid_consulate_path_brackets) :: r) W) : Bkt W := by
  obtain ⟨ps, ⟨g', t', cs, fuel, p, q, hg', ht', hvar, hd, _, _⟩, _⟩ := h
  obtain rfl := Option.some.inj ((show Tryd.prog.globalNamed "consulate/path.brackets" = some 0 by kernel_rfl).symm.trans hg')
  obtain rfl := Option.some.inj ((show (Tryd.prog.globals[0]?).map (·.type) = some 97 by kernel_rfl).symm.trans ht')
  have hcs := cells_of_bk hd
  have e : cs = bkc := by cases cs; simp only at hcs; rw [hcs]
  subst e
  unfold World.var? at hvar
  rw [hg'] at hvar
  simp only [Option.bind_some] at hvar
  split at hvar
  next c t fr hh =>
    injection hvar with hvar
    subst hvar
    exact ⟨t, fr, hh⟩
  next => cases hvar
set_option maxRecDepth 100000 in
theorem open_as1 {H : Type} {enc : TypeId × Value → H} {W : World} {n : Nat} {v : Value} {y : DataW H × List MemPlace}
    (hf : DataW.trod enc Tryd.prog W 0 (fun _ => true) true n 59 [v] = some y) : ∃ l, As W v l := by
  rcases open_ints Tryd.underlying59 Tryd.underlying25 (by kernel_rfl) hf with ⟨hcs, hx⟩ | ⟨a, len', cap', zs, hcs, _, hl, hm, hz, hx, hcell, hwz⟩
  · obtain rfl : v = _ := by simpa using hcs
    exact ⟨[], As.nil W⟩
  · obtain rfl : v = _ := by simpa using hcs
    simp only [if_true] at hz
    have hr : ∀ z ∈ zs, 0 ≤ z ∧ z ≤ 4294967295 := fun z hz' => by
      have hw := hwz z hz'
      simpa [Lit.wf, IntKind.min, IntKind.max, IntKind.signed, IntKind.bits] using hw
    have hlen : ((zs.take len').map (fun z => z.toNat)).length = len' := by rw [List.length_map, List.length_take]; omega
    refine ⟨(zs.take len').map (fun z => z.toNat), fun n hn => ?_, some a, cap', by rw [hlen], by rw [hlen]; exact hl, hm, by rw [length_ass, Nat.mul_one], (fun h => by cases h), fun a' ha j u hu => ?_, fun u hu => ?_⟩
    · obtain ⟨z, hz', rfl⟩ := List.mem_map.1 hn
      have := hr z (List.mem_of_mem_take hz')
      omega
    · injection ha with ha
      subst ha
      have hj : j < len' := by
        have := (List.getElem?_eq_some_iff.1 hu).1
        rwa [length_ass, hlen] at this
      have hzj : zs[j]? = some (zs[j]'(by omega)) := List.getElem?_eq_getElem (by omega)
      have hc := hcell j (by omega)
      have h1 := hr (zs[j]'(by omega)) (List.getElem_mem _)
      rw [hc, ← hu]
      unfold ass
      rw [List.getElem?_map, List.getElem?_map, List.getElem?_take_of_lt hj, hzj]
      simp only [Option.map_some, List.getD_eq_getElem?_getD, hzj, Option.getD_some, Option.some.injEq, Value.int.injEq, true_and]
      omega
    · unfold ass at hu
      obtain ⟨b, _, rfl⟩ := List.mem_map.1 hu
      rfl
def w_seg (W : World) (a : Addr) (i : Nat) (z : Seg) : Prop := W.cell? (a.add (i * 2)) = some (by8 z.1) ∧ ∃ u, W.cell? (a.add (i * 2 + 1)) = some u ∧ As W u z.2
set_option maxRecDepth 100000 in
theorem open_pts {H : Type} {enc : TypeId × Value → H} {W : World} {base : Nat} {v : Value} {d : DataW H} {p : List MemPlace} (hv : Value.okWide Tryd.prog W .any base 23 v)
    (h : DataW.Trod enc Tryd.prog W 0 (fun _ => true) true 23 v d p) : ∃ l, Pts W v l := by
  obtain ⟨a0, len, cap, rfl⟩ := okWide_slice Tryd.underlying23 hv
  obtain ⟨fuel, hf⟩ := h
  rcases Go.Deep.open_slice_pairs Tryd.underlying23 Tryd.underlying61 (by kernel_rfl) rfl rfl (by kernel_rfl) (by kernel_rfl) hf with ⟨hcs, hx⟩ | ⟨a, len', cap', m, n, V0, V1, D0, D1, P0, P1, hcs, _, hl, hm, hmm, hx, hi⟩
  · simp [Value.cells] at hcs
    obtain ⟨rfl, rfl, rfl⟩ := hcs
    exact ⟨[], Pts.nil W⟩
  · simp [Value.cells] at hcs
    obtain ⟨rfl, rfl, rfl⟩ := hcs
    simp only [if_true] at hmm
    have num : ∀ i, i < m → ∃ z : Seg, w_seg W a i z := fun i hi' => by
      obtain ⟨h0, h1, t0, t1⟩ := hi i hi'
      obtain ⟨z0, e0, _, w0⟩ := DataW.trod_int Tryd.underlying5 t0
      injection e0 with e0
      rw [e0] at h0
      obtain ⟨l, hl⟩ := open_as1 t1
      have hr : 0 ≤ z0 ∧ z0 ≤ 255 := by simpa [Lit.wf, IntKind.min, IntKind.max, IntKind.signed, IntKind.bits] using w0
      refine ⟨(UInt8.ofNat z0.toNat, l), ?_, _, h1, hl⟩
      rw [h0]
      unfold by8
      have : ((UInt8.ofNat z0.toNat).toNat : Int) = z0 := by rw [UInt8.toNat_ofNat']; omega
      rw [this]
    obtain ⟨z, hz⟩ := Go.Deep.choose_lt num
    refine ⟨(List.range len).map z, some a, cap, by simp, by simp; omega, hm, fun h0 => ?_⟩
    simp only [List.length_map, List.length_range] at h0 ⊢
    obtain ⟨b, off, spot⟩ := a
    have hspot : spot = none := by simpa [Addr.add] using World.cell?_spot (hz 0 (by omega)).1
    subst hspot
    refine ⟨b, off, rfl, fun i hi' => ?_⟩
    have := hz i (by omega)
    unfold w_seg at this
    rw [add_none, add_none] at this
    simpa [Nat.add_assoc] using this
/-- What the rows list. -/
def laidW : List (String × DataW Unit) := Rows.walkTellsRow.laid
theorem door_metW (os : Os) (args : Array Value) : laidMetH Tryd.prog laidW ((World.doorLaid Tryd.prog 33 os).forCall (fun _ _ => 0) ⟨#[], args, []⟩).memory :=
  laidMetH_of_parts3 (fuel := 8) (laidMet_of_run' 8 (by kernel_rfl) (by kernel_rfl)) (by kernel_rfl) (by kernel_rfl)
theorem rdyW {W : World} (h : laidMetH Tryd.prog laidW W) : Rdy W ∧ Bkt W := by
  rw [MakeChecks.laidMetH_plain _ _ _ (by kernel_rfl)] at h
  exact ⟨tab_of h, bkt_of (laidMet.tail (laidMet.tail (laidMet.tail h)))⟩
theorem u32_natW {n : Int} (h : (Lit.int .u32 n).wf = true) : ∃ x : Nat, n = x ∧ x < 4294967296 := by
  have hr : 0 ≤ n ∧ n ≤ 4294967295 := by simpa [Lit.wf, IntKind.min, IntKind.max, IntKind.signed, IntKind.bits] using h
  exact ⟨n.toNat, by omega, by omega⟩
set_option maxRecDepth 100000 in
theorem open_asW {H : Type} {enc : TypeId × Value → H} {W : World} {base : Nat} {v : Value} {d : DataW H} {p : List MemPlace} (hv : Value.okWide Tryd.prog W .any base 25 v)
    (h : DataW.Trod enc Tryd.prog W 0 (fun _ => true) true 25 v d p) : ∃ x : Nat, v = .int .u32 (x : Int) ∧ x < 4294967296 := by
  obtain ⟨n, rfl, _, _, hw⟩ := open_int Tryd.underlying25 hv h
  obtain ⟨x, rfl, hx⟩ := u32_natW hw
  exact ⟨x, rfl, hx⟩
set_option maxRecDepth 100000 in
theorem open_u8W {H : Type} {enc : TypeId × Value → H} {W : World} {base : Nat} {v : Value} {d : DataW H} {p : List MemPlace} (hv : Value.okWide Tryd.prog W .any base 5 v)
    (h : DataW.Trod enc Tryd.prog W 0 (fun _ => true) true 5 v d p) : ∃ x : Nat, v = .int .u8 (x : Int) ∧ x < 256 := by
  obtain ⟨n, rfl, _, _, hw⟩ := open_int Tryd.underlying5 hv h
  have hr : 0 ≤ n ∧ n ≤ 255 := by simpa [Lit.wf, IntKind.min, IntKind.max, IntKind.signed, IntKind.bits] using hw
  exact ⟨n.toNat, by congr 1; omega, by omega⟩
set_option maxRecDepth 100000 in
theorem open_asked {H : Type} {enc : TypeId × Value → H} {W : World} {base : Nat} {v : Value} {d : DataW H} {p : List MemPlace} (hv : Value.okWide Tryd.prog W .any base 27 v)
    (h : DataW.Trod enc Tryd.prog W 0 (fun _ => true) true 27 v d p) : ∃ x y : Nat, v = .agg #[.int .u32 (x : Int), .int .u32 (y : Int)] ∧ x < 4294967296 ∧ y < 4294967296 := by
  obtain ⟨v0, v1, y0, y1, n, rfl, _, _, h0, h1⟩ := Joins.open_agg2 Tryd.underlying27 (by kernel_rfl) (by kernel_rfl) hv h
  obtain ⟨z0, e0, _, w0⟩ := DataW.trod_int Tryd.underlying25 h0
  obtain ⟨z1, e1, _, w1⟩ := DataW.trod_int Tryd.underlying25 h1
  injection e0 with e0
  injection e1 with e1
  obtain ⟨x, rfl, hx⟩ := u32_natW w0
  obtain ⟨y, rfl, hy⟩ := u32_natW w1
  exact ⟨x, y, by rw [e0, e1], hx, hy⟩
end Go.Proofs.YtdeblmolgmadiaaDoor
namespace Go.Proofs.YtdeblmolgmadiaaDoor
open Go.RowKit
attribute [local go_sem] Oper.semAt_some

theorem xor1 (x : Nat) : ∃ m : Nat, m < 4294967296 ∧ bits .xor .u32 (x : Int) 1 = (m : Int) := by
  refine ⟨(BitVec.ofInt 32 (x : Int) ^^^ BitVec.ofInt 32 1).toNat, BitVec.isLt _, ?_⟩
  show IntKind.u32.wrap ((BitVec.ofInt 32 (x : Int) ^^^ BitVec.ofInt 32 1).toNat : Int) = _
  have hlt := (BitVec.ofInt 32 (x : Int) ^^^ BitVec.ofInt 32 1).isLt
  generalize (BitVec.ofInt 32 (x : Int) ^^^ BitVec.ofInt 32 1).toNat = m at *
  simp only [IntKind.wrap, IntKind.bits, IntKind.signed]
  simp
  omega
/-- A path of the call's own, whose cells are known, whatever its numbers. -/
def Pk (z : Nat) (v : Value) (xs : List Value) (n : Nat) (u : World) : Prop := ∃ l, l.length = n ∧ u.ownsRow z 61 2 v n xs ∧ Rws u z xs l
theorem Rws.poke {w : World} {B g j m : Nat} (hm : m < 4294967296) : ∀ {xs : List Value} {l : List Seg}, Rws w B xs l → ∃ l', l'.length = l.length ∧ Rws (w.setCell ⟨g, j, none⟩ (.int .u32 (m : Int))) B xs l'
  | [], [], _ => ⟨[], rfl, trivial⟩
  | a :: v :: xs, c :: l, ⟨h1, h2, h3, h4⟩ => by
    obtain ⟨l', e, h5⟩ := Rws.poke hm h4
    by_cases hv : v.ownBlock = some g
    · refine ⟨(c.1, c.2.set j m) :: l', by simp [e], h1, ?_, fun x hx => ?_, h5⟩
      · show World.ownsRow _ B _ 1 v (c.2.set j m).length (ass (c.2.set j m))
        rw [List.length_set, ass_set]
        exact own_setN h2 hv j
      · rcases List.mem_or_eq_of_mem_set hx with hx | rfl
        · exact h3 x hx
        · exact hm
    · exact ⟨c :: l', by simp [e], h1, ow_kept h2 (Kept.own w g j _) (fun g' hg' (e : g' = g) => hv (e ▸ hg')), h3, h5⟩
  | [], _ :: _, h => h.elim
  | [_], _, h => by unfold Rws at h; exact h.elim
  | _ :: _ :: _, [], h => by unfold Rws at h; exact h.elim
theorem Pk.poke {z : Nat} {v : Value} {xs : List Value} {n : Nat} {u : World} (h : Pk z v xs n u) {g j m : Nat} (hm : m < 4294967296) {cur : Array Value} (hg : Blk u g 25 cur) : Pk z v xs n (u.setCell ⟨g, j, none⟩ (.int .u32 (m : Int))) := by
  obtain ⟨l, h1, h2, h3⟩ := h
  obtain ⟨l', e, h4⟩ := h3.poke (g := g) (j := j) hm
  exact ⟨l', by rw [e, h1], ow_kept h2 (Kept.own u g j _) (ow_far h2 hg (by decide)), h4⟩
theorem Pk.old {z : Nat} {v : Value} {xs : List Value} {n : Nat} {u u' : World} (h : Pk z v xs n u) (k : Kept Nothing u u') : Pk z v xs n u' := by
  obtain ⟨l, h1, h2, h3⟩ := h
  exact ⟨l, h1, ow_kept h2 k (fun _ _ x => x), h3.old k⟩
theorem Pk.of {z B : Nat} {v : Value} {l : List Seg} {u : World} (h : Pown u B v l) (hz : z ≤ B) : ∃ xs, Pk z v xs l.length u := by
  obtain ⟨xs, h1, h2⟩ := h
  exact ⟨xs, l, rfl, own_weakA h1 hz, h2.weak hz⟩
/-- The three paths that the law changes. -/
structure Three (W : World) (z : Nat) (va vc vd : Value) (xa xc xd : List Value) (na nc nd : Nat) (u : World) : Prop where
  a : Pk z va xa na u
  c : Pk z vc xc nc u
  d : Pk z vd xd nd u
  k : Kept Nothing W u
theorem Three.poke {W : World} {z : Nat} {va vc vd : Value} {xa xc xd : List Value} {na nc nd : Nat} {u : World} (h : Three W z va vc vd xa xc xd na nc nd u) (hz : W.heap.size ≤ z) {g j m : Nat} (hm : m < 4294967296) {cur : Array Value} (hg : Blk u g 25 cur) (hgz : z ≤ g) : Three W z va vc vd xa xc xd na nc nd (u.setCell ⟨g, j, none⟩ (.int .u32 (m : Int))) :=
  ⟨h.a.poke hm hg, h.c.poke hm hg, h.d.poke hm hg, h.k.setCell (p := ⟨g, j, none⟩) (fun h => absurd h (by simp; omega)) _⟩
theorem Wk.bnd_prepend {l : List Seg} {k : UInt8} {n A B : Nat} (h1 : l.length ≤ A) (h2 : ∀ s ∈ l, s.2.length ≤ B) : (Wk.prepend l k n).1.length ≤ A + 1 ∧ ∀ s ∈ (Wk.prepend l k n).1, s.2.length ≤ B + 1 := by
  unfold Wk.prepend
  split
  · exact ⟨by simp, fun s hs => by cases hs⟩
  · split
    · cases l with
      | nil => exact ⟨by simp [Wk.ahead], fun s hs => by cases hs⟩
      | cons t r =>
        refine ⟨by simp [Wk.ahead] at h1 ⊢; omega, fun s hs => ?_⟩
        rcases List.mem_cons.1 hs with rfl | hs
        · have := h2 t (List.mem_cons_self ..)
          simp; omega
        · have := h2 s (List.mem_cons_of_mem _ hs)
          omega
    · split
      · exact ⟨by simp, fun s hs => by cases hs⟩
      · refine ⟨by simp; omega, fun s hs => ?_⟩
        rcases List.mem_cons.1 hs with rfl | hs
        · simp
        · have := h2 s hs
          omega
theorem Wk.bnd_strip {l : List Seg} {A B : Nat} (h1 : l.length ≤ A) (h2 : ∀ s ∈ l, s.2.length ≤ B) : (Wk.strip l).length ≤ A ∧ ∀ s ∈ Wk.strip l, s.2.length ≤ B := by
  unfold Wk.strip
  split
  · exact ⟨Nat.le_trans (List.length_filter_le _ _) h1, fun s hs => h2 s (List.mem_filter.1 hs).1⟩
  · exact ⟨by simp, fun s hs => by cases hs⟩
theorem Wk.bnd_replace {l : List Seg} {a b A B : Nat} (h1 : l.length ≤ A) (h2 : ∀ s ∈ l, s.2.length ≤ B) : (Wk.replace l a b).length ≤ A ∧ ∀ s ∈ Wk.replace l a b, s.2.length ≤ B := by
  unfold Wk.replace
  split
  · refine ⟨by rw [List.length_map]; exact h1, fun s hs => ?_⟩
    obtain ⟨t, ht, rfl⟩ := List.mem_map.1 hs
    have := h2 t ht
    simpa [Wk.reps] using this
  · exact ⟨by simp, fun s hs => by cases hs⟩
/-- What stands in the law's slots. -/
def ksM (XA XC XD : List Seg) : Nat → Value → World → Prop
  | 1, v, w => Rfs w v XA
  | 12, v, w => Rfs w v XC
  | 14, v, w => Rfs w v XC
  | 20, v, w => Rfs w v XD
  | 26, v, w => Rfs w v XD
  | _, _, _ => True
theorem ksM_stab (XA XC XD : List Seg) (k : Nat) (v : Value) (w w' : World) (kk : Kept Nothing w w') (h : ksM XA XC XD k v w) : ksM XA XC XD k v w' := by
  unfold ksM at h ⊢
  split at h
  all_goals first
    | exact h.old kk
    | trivial
theorem Three.old {W : World} {z : Nat} {va vc vd : Value} {xa xc xd : List Value} {na nc nd : Nat} {u u' : World} (h : Three W z va vc vd xa xc xd na nc nd u) (k : Kept Nothing u u') : Three W z va vc vd xa xc xd na nc nd u' :=
  ⟨h.a.old k, h.c.old k, h.d.old k, h.k.trans k⟩
theorem rf_same_t (v u : Value) (l : List Seg) (w : World) (h : Rfs w v l) (h2 : Rfs w u l) :
    Calls Tryd.prog 23 #[v, u] w fun e w' => e = .returned (.bool true) ∧ Kept Nothing w w' := by
  have := rf_same v u l l w h h2
  simpa using this

set_option maxRecDepth 20000 in
set_option maxHeartbeats 8000000 in
theorem law_wmakes (a : Value) (l : List Seg) (kd : UInt8) (x y : Nat) (hx : x < 4294967296) (hy : y < 4294967296) (W : World) (ha : Pts W a l) (hr : Rdy W) (hs : Bkt W) :
    Calls Tryd.prog 4 #[a, .int .u8 (kd.toNat : Int), .agg #[.int .u32 (x : Int), .int .u32 (y : Int)]] W fun e w' => e = .returned (.bool true) ∧ Kept Nothing W w' := by
  have HA := Lib.hid ha
  have HR := Lib.hid hr
  have HS := Lib.hid hs
  have HP1 := Lib.hid (fewN_len 40 300 l)
  have HP2 := Lib.hid (fun s => @fewN_num 40 300 l s)
  have F1 := Lib.hid (fun u (k : Kept Nothing W u) => few8 a l u (HA.out.old k))
  generalize fewN 40 300 l = P at *
  obtain ⟨A, c, rfl, _, _⟩ := ha.form
  have KB := Lib.hid ((Kept.refl Nothing W).alloc (.cells #[.int .u32 (x : Int), .int .u32 (y : Int)] 27))
  have BX := Lib.hid (Blk.fresh W 27 #[.int .u32 (x : Int), .int .u32 (y : Int)])
  clear ha hr hs
  go_enter Tryd.func4, Tryd.ntmps4
  go_upto_region 2 with (go_at_call 5; refine (F1.out _ KB.out).mono ?_; rintro e w1 ⟨v1, rfl, p1, k1⟩)
  have PP := Lib.hid p1.pts
  obtain ⟨A1, c1, rfl, _, _⟩ := PP.out.form
  have K1 := Lib.hid (KB.out.trans k1)
  have B1 := Lib.hid (BX.out.kept k1 (fun x => x))
  clear p1 k1 BX
  go_upto_region 3 with (go_at_call 6; refine (of7 _ P _ PP.out (by have := HP1.out; omega) (fun s hs => by have := HP2.out s hs; omega)).mono ?_; rintro e w2 ⟨v2, rfl, o2, k2⟩)
  have RP := Lib.hid o2.rfs
  obtain ⟨A2, c2, rfl, _, _⟩ := RP.out.form
  have XP := Lib.hid (PP.out.old k2)
  have KW := Lib.hid (K1.out.trans k2)
  have B2 := Lib.hid (B1.out.kept k2 (fun x => x))
  have LP : Hid (P.length ≤ 1000000 ∧ ∀ s ∈ P, s.2.length ≤ 1000000) := Lib.hid ⟨by have := HP1.out; omega, fun s hs => by have := HP2.out s hs; omega⟩
  have BA := Lib.hid (Wk.bnd_prepend (k := kd) (n := x) HP1.out (fun s hs => HP2.out s hs))
  have BC := Lib.hid (Wk.bnd_strip HP1.out (fun s hs => HP2.out s hs))
  have BD := Lib.hid (Wk.bnd_replace (a := x) (b := y) HP1.out (fun s hs => HP2.out s hs))
  clear o2 k2 PP K1 B1 KB
  have C1 := Lib.hid (fun u (k : Kept Nothing w2 u) => walk_prepend _ P kd x hx u (XP.out.old k) LP.out.1 LP.out.2)
  have D1 := Lib.hid (fun u (k : Kept Nothing w2 u) => rs_prepend _ P kd x hx u (RP.out.old k) LP.out.1 LP.out.2)
  have C2 := Lib.hid (fun u (k : Kept Nothing w2 u) => walk_strip _ P u (XP.out.old k) LP.out.1 LP.out.2)
  have D2 := Lib.hid (fun u (k : Kept Nothing w2 u) => rs_strip _ P u (RP.out.old k) LP.out.1 LP.out.2)
  have C3 := Lib.hid (fun u (k : Kept Nothing w2 u) => walk_replace _ P x y hy u (XP.out.old k) LP.out.1 LP.out.2)
  have D3 := Lib.hid (fun u (k : Kept Nothing w2 u) => rs_replace _ P x y hy u (RP.out.old k) LP.out.1 LP.out.2)
  have C9 := Lib.hid (fun u (k : Kept Nothing w2 u) => of7 _ P u (XP.out.old k) LP.out.1 LP.out.2)
  have D9 := Lib.hid (fun v u (k : Kept Nothing w2 u) (h : Rfs u v P) => rf_same_t v _ P u h (RP.out.old k))
  have CT := Lib.hid (fun u (k : Kept Nothing w2 u) => tells_true u (HR.out.kept (KW.out.trans k)) (HS.out.kept (KW.out.trans k)))
  have BV : Hid (∀ u, Kept Nothing w2 u → u.cell? ⟨W.heap.size, 0, none⟩ = some (.int .u32 (x : Int)) ∧ u.cell? ⟨W.heap.size, 1, none⟩ = some (.int .u32 (y : Int))) := Lib.hid (fun u hu => by
    have h := B2.out.kept hu (fun x => x)
    exact ⟨h.cell 0, h.cell 1⟩)
  generalize Wk.prepend P kd x = ff at *
  obtain ⟨XA, fe⟩ := ff
  simp only at C1 D1 BA
  generalize Wk.strip P = XC at *
  generalize Wk.replace P x y = XD at *
  clear F1 HA HP1 HP2 XP RP HR HS
  have hkw : IntKind.i64.wrap (kd.toNat : Int) = (kd.toNat : Int) := by have := kd.toNat_lt; rw [IntKind.wrap_i64]; omega
  obtain ⟨z0, z1⟩ := BV.out _ (Kept.refl _ _)
  go_upto_region 5 with (first
    | (go_at_call 26; refine (D1.out _ K3.out).mono ?_; rintro e w4 ⟨v4, rfl, r4, k4⟩; (have R4 := Lib.hid r4); (have K4 := Lib.hid k4); (obtain ⟨A4, c4, rfl, _, _⟩ := r4.form); clear r4 k4)
    | (go_at_call 25; refine (C1.out _ (Kept.refl _ _)).mono ?_; rintro e w3 ⟨v3, rfl, p3, k3⟩; (have P3 := Lib.hid p3); (have K3 := Lib.hid k3); (obtain ⟨A3, c3, rfl, _, _⟩ := p3.pts.form); (obtain ⟨y0, y1⟩ := BV.out _ k3); clear p3 k3 z0 z1))
  have K24 := Lib.hid (K3.out.trans K4.out).drew
  clear y0 y1
  go_wp2_with fail
  go_region_held3 (fun w' => w'.cell? ⟨W.heap.size, 0, none⟩ = some (.int .u32 (x : Int)) ∧ w'.cell? ⟨W.heap.size, 1, none⟩ = some (.int .u32 (y : Int))) (first | exact BV.out _ K26.out | exact BV.out _ K25.out | exact BV.out _ K24.out) (first
    | (go_simp; go_at_call 27; refine (C2.out _ K24.out).mono ?_; rintro e w5 ⟨v5, rfl, p5, k5⟩; (have P5 := Lib.hid p5); (have K45 := Lib.hid k5); (have K25 := Lib.hid (K24.out.trans k5)); (obtain ⟨A5, c5, rfl, _, _⟩ := p5.pts.form); clear p5 k5)
    | (go_simp; go_at_call 28; refine (C3.out _ K25.out).mono ?_; rintro e w6 ⟨v6, rfl, p6, k6⟩; (have P6 := Lib.hid p6); (have K56 := Lib.hid k6); (have K26 := Lib.hid (K25.out.trans k6)); (obtain ⟨A6, c6, rfl, _, _⟩ := p6.pts.form); clear p6 k6))
  all_goals
    have K36 := Lib.hid (K4.out.drew.trans (K45.out.trans K56.out))
    have RQB := Lib.hid (R4.out.old (((Kept.refl Nothing w4).drew).trans (K45.out.trans K56.out)))
    have PA := Lib.hid (P3.out.old K36.out)
    have PC := Lib.hid (P5.out.old K56.out)
    have PD := Lib.hid P6.out
    have z35 : Hid (w2.heap.size ≤ w4.drew.heap.size ∧ w2.heap.size ≤ w5.heap.size) := Lib.hid ⟨K24.out.size, K25.out.size⟩
    have E1 := Lib.hid (fun u (k : Kept Nothing w6 u) => of7 _ XA u (PA.out.pts.old k) (by have := BA.out.1; omega) (fun s hs => by have := BA.out.2 s hs; omega))
    have E2 := Lib.hid (fun u (k : Kept Nothing w6 u) => of7 _ XC u (PC.out.pts.old k) (by have := BC.out.1; omega) (fun s hs => by have := BC.out.2 s hs; omega))
    have E3 := Lib.hid (fun u (k : Kept Nothing w6 u) => of7 _ XD u (PD.out.pts.old k) (by have := BD.out.1; omega) (fun s hs => by have := BD.out.2 s hs; omega))
    have S1 := Lib.hid (fun v u (k : Kept Nothing w6 u) (h : Rfs u v XA) => rf_same_t v _ XA u h (RQB.out.old k))
    have G2 := Lib.hid (fun u (k : Kept Nothing w6 u) => D2.out u (K26.out.trans k))
    have G3 := Lib.hid (fun u (k : Kept Nothing w6 u) => D3.out u (K26.out.trans k))
    obtain ⟨xa, oa⟩ := Pk.of (z := w2.heap.size) PA.out (Nat.le_refl _)
    obtain ⟨xc, oc⟩ := Pk.of (z := w2.heap.size) PC.out z35.out.1
    obtain ⟨xd, od⟩ := Pk.of (z := w2.heap.size) PD.out z35.out.2
    have T0 : Hid (Three w2 w2.heap.size (.slice A3 XA.length c3) (.slice A5 XC.length c5) (.slice A6 XD.length c6) xa xc xd XA.length XC.length XD.length w6) := Lib.hid ⟨oa, oc, od, K26.out⟩
    clear oa oc od BA BC BD C1 D1 C2 D2 C3 D3 P3 P5 P6 K3 K4 K24 K45 K25 K56 K36 R4 PA PC PD RQB z35 LP
    generalize XA.length = na at *
    generalize XC.length = nc at *
    generalize XD.length = nd at *
    go_wp2_with fail
    refine wp_region_last3 w6 (Facts [some (.slice A3 na c3), none, some (.slice A4 na c4), some (.bool true), some (.bool false), some (.bool false), some (.int .i64 (fe : Int)), some (.int .i64 (fe : Int)), some (.bool false), some (.bool false), some (.bool false), some (.slice A5 nc c5), none, some (.slice A2 P.length c2), none, some (.bool true), some (.bool false), some (.bool false), some (.bool false), some (.slice A6 nd c6), none, some (.slice A2 P.length c2), some (.pointer (some ⟨W.heap.size, 0, none⟩)), some (.int .u32 (x : Int)), some (.pointer (some ⟨W.heap.size, 1, none⟩)), some (.int .u32 (y : Int)), none, some (.bool true), some (.bool false)] (ksM XA XC XD)) 29 _ (by rfl) (by rfl) (by kernel_rfl) (by rfl) (by kernel_rfl) (by decide +kernel) (by intro d hd; simp [dsts] at hd ⊢; omega) (ready_nil (by kernel_rfl)) (fun k => if k = 5 then false else if k = 10 then false else if k = 18 then false else true) (by kernel_rfl) ?_ (Facts.stab (ksM_stab XA XC XD)) ((Kept.refl Nothing w6).drew) ?_ ?_
    · refine Facts.guards2 (gv := fun k => if k = 5 then false else if k = 10 then false else if k = 18 then false else true) (E := [5, 10, 18]) (by kernel_rfl) ?_
      repeat (first | refine List.forall_mem_cons.2 ⟨by rfl, ?_⟩ | exact List.forall_mem_nil _)
    · refine OweTo.cons ?_ (by rfl) ?_
      · intro u a hk hf hfar
        have v8 : a.tmps.getD 8 undef = .slice A3 na c3 := hfar 8 (by decide)
        have w8 := v8
        rw [Array.getD_eq_getD_getElem?] at w8
        clear hf hfar
        go_simp
        exact ⟨_, rfl, Kept.refl _ _, rfl⟩
      refine OweTo.cons ?_ (by rfl) ?_
      · intro u a hk hf hfar
        have v47 : a.tmps.getD 47 undef = .slice A3 na c3 := hf 0 _ 47 rfl rfl ⟨⟨0, .data⟩, Array.mem_of_getElem? (i := 0) rfl, rfl, rfl⟩
        have w47 := v47
        rw [Array.getD_eq_getD_getElem?] at w47
        clear hf hfar
        go_simp
        refine (E1.out u hk).mono ?_
        rintro e u' ⟨v', rfl, o', hk'⟩
        exact ⟨_, rfl, hk', o'.rfs⟩
      refine OweTo.cons ?_ (by rfl) ?_
      · intro u a hk hf hfar
        have v10 : a.tmps.getD 10 undef = .slice A4 na c4 := hfar 10 (by decide)
        have w10 := v10
        rw [Array.getD_eq_getD_getElem?] at w10
        clear hf hfar
        go_simp
        exact ⟨_, rfl, Kept.refl _ _, rfl⟩
      refine OweTo.cons ?_ (by rfl) ?_
      · intro u a hk hf hfar
        have z48 : Rfs u (a.tmps.getD 48 undef) XA := hf 1 _ 48 rfl rfl ⟨⟨1, .data⟩, Array.mem_of_getElem? (i := 0) rfl, rfl, rfl⟩
        generalize hx48 : a.tmps.getD 48 undef = x48 at z48
        obtain ⟨B48, d48, hform48, _, _⟩ := z48.form
        have v48 := hx48.trans hform48
        rw [hform48] at z48
        have w48 := v48
        rw [Array.getD_eq_getD_getElem?] at w48
        have v49 : a.tmps.getD 49 undef = .slice A4 na c4 := hf 2 _ 49 rfl rfl ⟨⟨2, .data⟩, Array.mem_of_getElem? (i := 1) rfl, rfl, rfl⟩
        have w49 := v49
        rw [Array.getD_eq_getD_getElem?] at w49
        clear hf hfar
        go_simp
        refine (S1.out _ u hk z48).mono ?_
        rintro e u' ⟨rfl, hk'⟩
        exact ⟨_, rfl, hk', rfl⟩
      refine OweTo.cons ?_ (by rfl) ?_
      · intro u a hk hf hfar
        have v50 : a.tmps.getD 50 undef = .bool true := hf 3 _ 50 rfl rfl ⟨⟨3, .data⟩, Array.mem_of_getElem? (i := 0) rfl, rfl, rfl⟩
        have w50 := v50
        rw [Array.getD_eq_getD_getElem?] at w50
        clear hf hfar
        go_simp
        exact ⟨_, rfl, Kept.refl _ _, rfl⟩
      refine OweTo.cons ?_ (by rfl) ?_
      · intro u a hk hf hfar
        have v51 : a.tmps.getD 51 undef = .bool false := hf 4 _ 51 rfl rfl ⟨⟨4, .data⟩, Array.mem_of_getElem? (i := 0) rfl, rfl, rfl⟩
        have w51 := v51
        rw [Array.getD_eq_getD_getElem?] at w51
        clear hf hfar
        go_simp
        exact ⟨_, rfl, Kept.refl _ _, rfl⟩
      refine OweTo.cons ?_ (by rfl) ?_
      · intro u a hk hf hfar
        have v9 : a.tmps.getD 9 undef = .int .i64 (fe : Int) := hfar 9 (by decide)
        have w9 := v9
        rw [Array.getD_eq_getD_getElem?] at w9
        clear hf hfar
        go_simp
        exact ⟨_, rfl, Kept.refl _ _, rfl⟩
      refine OweTo.cons ?_ (by rfl) ?_
      · intro u a hk hf hfar
        have v11 : a.tmps.getD 11 undef = .int .i64 (fe : Int) := hfar 11 (by decide)
        have w11 := v11
        rw [Array.getD_eq_getD_getElem?] at w11
        clear hf hfar
        go_simp
        exact ⟨_, rfl, Kept.refl _ _, rfl⟩
      refine OweTo.cons ?_ (by rfl) ?_
      · intro u a hk hf hfar
        have v53 : a.tmps.getD 53 undef = .int .i64 (fe : Int) := hf 6 _ 53 rfl rfl ⟨⟨6, .data⟩, Array.mem_of_getElem? (i := 0) rfl, rfl, rfl⟩
        have w53 := v53
        rw [Array.getD_eq_getD_getElem?] at w53
        have v54 : a.tmps.getD 54 undef = .int .i64 (fe : Int) := hf 7 _ 54 rfl rfl ⟨⟨7, .data⟩, Array.mem_of_getElem? (i := 1) rfl, rfl, rfl⟩
        have w54 := v54
        rw [Array.getD_eq_getD_getElem?] at w54
        clear hf hfar
        go_simp
        exact ⟨_, rfl, Kept.refl _ _, rfl⟩
      refine OweTo.cons ?_ (by rfl) ?_
      · intro u a hk hf hfar
        have v52 : a.tmps.getD 52 undef = .bool false := hf 5 _ 52 rfl rfl ⟨⟨5, .data⟩, Array.mem_of_getElem? (i := 0) rfl, rfl, rfl⟩
        have w52 := v52
        rw [Array.getD_eq_getD_getElem?] at w52
        have v55 : a.tmps.getD 55 undef = .bool false := hf 8 _ 55 rfl rfl ⟨⟨8, .data⟩, Array.mem_of_getElem? (i := 1) rfl, rfl, rfl⟩
        have w55 := v55
        rw [Array.getD_eq_getD_getElem?] at w55
        clear hf hfar
        go_simp
        exact ⟨_, rfl, Kept.refl _ _, rfl⟩
      refine OweTo.cons ?_ (by rfl) ?_
      · intro u a hk hf hfar
        have v56 : a.tmps.getD 56 undef = .bool false := hf 9 _ 56 rfl rfl ⟨⟨9, .data⟩, Array.mem_of_getElem? (i := 0) rfl, rfl, rfl⟩
        have w56 := v56
        rw [Array.getD_eq_getD_getElem?] at w56
        clear hf hfar
        go_simp
        exact ⟨_, rfl, Kept.refl _ _, rfl⟩
      refine OweTo.cons ?_ (by rfl) ?_
      · intro u a hk hf hfar
        have v12 : a.tmps.getD 12 undef = .slice A5 nc c5 := hfar 12 (by decide)
        have w12 := v12
        rw [Array.getD_eq_getD_getElem?] at w12
        clear hf hfar
        go_simp
        exact ⟨_, rfl, Kept.refl _ _, rfl⟩
      refine OweTo.cons ?_ (by rfl) ?_
      · intro u a hk hf hfar
        have v58 : a.tmps.getD 58 undef = .slice A5 nc c5 := hf 11 _ 58 rfl rfl ⟨⟨11, .data⟩, Array.mem_of_getElem? (i := 0) rfl, rfl, rfl⟩
        have w58 := v58
        rw [Array.getD_eq_getD_getElem?] at w58
        clear hf hfar
        go_simp
        refine (E2.out u hk).mono ?_
        rintro e u' ⟨v', rfl, o', hk'⟩
        exact ⟨_, rfl, hk', o'.rfs⟩
      refine OweTo.cons ?_ (by rfl) ?_
      · intro u a hk hf hfar
        have v7 : a.tmps.getD 7 undef = .slice A2 P.length c2 := hfar 7 (by decide)
        have w7 := v7
        rw [Array.getD_eq_getD_getElem?] at w7
        clear hf hfar
        go_simp
        exact ⟨_, rfl, Kept.refl _ _, rfl⟩
      refine OweTo.cons ?_ (by rfl) ?_
      · intro u a hk hf hfar
        have v60 : a.tmps.getD 60 undef = .slice A2 P.length c2 := hf 13 _ 60 rfl rfl ⟨⟨13, .data⟩, Array.mem_of_getElem? (i := 0) rfl, rfl, rfl⟩
        have w60 := v60
        rw [Array.getD_eq_getD_getElem?] at w60
        clear hf hfar
        go_simp
        refine (G2.out u hk).mono ?_
        rintro e u' ⟨v', rfl, o', hk'⟩
        exact ⟨_, rfl, hk', o'⟩
      refine OweTo.cons ?_ (by rfl) ?_
      · intro u a hk hf hfar
        have z59 : Rfs u (a.tmps.getD 59 undef) XC := hf 12 _ 59 rfl rfl ⟨⟨12, .data⟩, Array.mem_of_getElem? (i := 0) rfl, rfl, rfl⟩
        generalize hx59 : a.tmps.getD 59 undef = x59 at z59
        obtain ⟨B59, d59, hform59, _, _⟩ := z59.form
        have v59 := hx59.trans hform59
        rw [hform59] at z59
        have w59 := v59
        rw [Array.getD_eq_getD_getElem?] at w59
        have z61 : Rfs u (a.tmps.getD 61 undef) XC := hf 14 _ 61 rfl rfl ⟨⟨14, .data⟩, Array.mem_of_getElem? (i := 1) rfl, rfl, rfl⟩
        generalize hx61 : a.tmps.getD 61 undef = x61 at z61
        obtain ⟨B61, d61, hform61, _, _⟩ := z61.form
        have v61 := hx61.trans hform61
        rw [hform61] at z61
        have w61 := v61
        rw [Array.getD_eq_getD_getElem?] at w61
        clear hf hfar
        go_simp
        refine (rf_same_t _ _ XC u z59 z61).mono ?_
        rintro e u' ⟨rfl, hk'⟩
        exact ⟨_, rfl, hk', rfl⟩
      refine OweTo.cons ?_ (by rfl) ?_
      · intro u a hk hf hfar
        have v62 : a.tmps.getD 62 undef = .bool true := hf 15 _ 62 rfl rfl ⟨⟨15, .data⟩, Array.mem_of_getElem? (i := 0) rfl, rfl, rfl⟩
        have w62 := v62
        rw [Array.getD_eq_getD_getElem?] at w62
        clear hf hfar
        go_simp
        exact ⟨_, rfl, Kept.refl _ _, rfl⟩
      refine OweTo.cons ?_ (by rfl) ?_
      · intro u a hk hf hfar
        have v57 : a.tmps.getD 57 undef = .bool false := hf 10 _ 57 rfl rfl ⟨⟨10, .data⟩, Array.mem_of_getElem? (i := 0) rfl, rfl, rfl⟩
        have w57 := v57
        rw [Array.getD_eq_getD_getElem?] at w57
        have v63 : a.tmps.getD 63 undef = .bool false := hf 16 _ 63 rfl rfl ⟨⟨16, .data⟩, Array.mem_of_getElem? (i := 1) rfl, rfl, rfl⟩
        have w63 := v63
        rw [Array.getD_eq_getD_getElem?] at w63
        clear hf hfar
        go_simp
        exact ⟨_, rfl, Kept.refl _ _, rfl⟩
      refine OweTo.cons ?_ (by rfl) ?_
      · intro u a hk hf hfar
        have v64 : a.tmps.getD 64 undef = .bool false := hf 17 _ 64 rfl rfl ⟨⟨17, .data⟩, Array.mem_of_getElem? (i := 0) rfl, rfl, rfl⟩
        have w64 := v64
        rw [Array.getD_eq_getD_getElem?] at w64
        clear hf hfar
        go_simp
        exact ⟨_, rfl, Kept.refl _ _, rfl⟩
      refine OweTo.cons ?_ (by rfl) ?_
      · intro u a hk hf hfar
        have v13 : a.tmps.getD 13 undef = .slice A6 nd c6 := hfar 13 (by decide)
        have w13 := v13
        rw [Array.getD_eq_getD_getElem?] at w13
        clear hf hfar
        go_simp
        exact ⟨_, rfl, Kept.refl _ _, rfl⟩
      refine OweTo.cons ?_ (by rfl) ?_
      · intro u a hk hf hfar
        have v66 : a.tmps.getD 66 undef = .slice A6 nd c6 := hf 19 _ 66 rfl rfl ⟨⟨19, .data⟩, Array.mem_of_getElem? (i := 0) rfl, rfl, rfl⟩
        have w66 := v66
        rw [Array.getD_eq_getD_getElem?] at w66
        clear hf hfar
        go_simp
        refine (E3.out u hk).mono ?_
        rintro e u' ⟨v', rfl, o', hk'⟩
        exact ⟨_, rfl, hk', o'.rfs⟩
      refine OweTo.cons ?_ (by rfl) ?_
      · intro u a hk hf hfar
        have v7 : a.tmps.getD 7 undef = .slice A2 P.length c2 := hfar 7 (by decide)
        have w7 := v7
        rw [Array.getD_eq_getD_getElem?] at w7
        clear hf hfar
        go_simp
        exact ⟨_, rfl, Kept.refl _ _, rfl⟩
      refine OweTo.cons ?_ (by rfl) ?_
      · intro u a hk hf hfar
        have v5 : a.tmps.getD 5 undef = .pointer (some ⟨W.heap.size, 0, none⟩) := hfar 5 (by decide)
        have w5 := v5
        rw [Array.getD_eq_getD_getElem?] at w5
        clear hf hfar
        go_simp
        exact ⟨_, rfl, Kept.refl _ _, rfl⟩
      refine OweTo.cons ?_ (by rfl) ?_
      · intro u a hk hf hfar
        have v69 : a.tmps.getD 69 undef = .pointer (some ⟨W.heap.size, 0, none⟩) := hf 22 _ 69 rfl rfl ⟨⟨22, .data⟩, Array.mem_of_getElem? (i := 0) rfl, rfl, rfl⟩
        have w69 := v69
        rw [Array.getD_eq_getD_getElem?] at w69
        obtain ⟨zc0, zc1⟩ := BV.out u (K26.out.trans hk)
        clear hf hfar
        go_simp
        exact ⟨_, rfl, Kept.refl _ _, rfl⟩
      refine OweTo.cons ?_ (by rfl) ?_
      · intro u a hk hf hfar
        have v5 : a.tmps.getD 5 undef = .pointer (some ⟨W.heap.size, 0, none⟩) := hfar 5 (by decide)
        have w5 := v5
        rw [Array.getD_eq_getD_getElem?] at w5
        clear hf hfar
        go_simp
        exact ⟨_, rfl, Kept.refl _ _, rfl⟩
      refine OweTo.cons ?_ (by rfl) ?_
      · intro u a hk hf hfar
        have v71 : a.tmps.getD 71 undef = .pointer (some ⟨W.heap.size, 1, none⟩) := hf 24 _ 71 rfl rfl ⟨⟨24, .data⟩, Array.mem_of_getElem? (i := 0) rfl, rfl, rfl⟩
        have w71 := v71
        rw [Array.getD_eq_getD_getElem?] at w71
        obtain ⟨zc0, zc1⟩ := BV.out u (K26.out.trans hk)
        clear hf hfar
        go_simp
        exact ⟨_, rfl, Kept.refl _ _, rfl⟩
      refine OweTo.cons ?_ (by rfl) ?_
      · intro u a hk hf hfar
        have v68 : a.tmps.getD 68 undef = .slice A2 P.length c2 := hf 21 _ 68 rfl rfl ⟨⟨21, .data⟩, Array.mem_of_getElem? (i := 0) rfl, rfl, rfl⟩
        have w68 := v68
        rw [Array.getD_eq_getD_getElem?] at w68
        have v70 : a.tmps.getD 70 undef = .int .u32 (x : Int) := hf 23 _ 70 rfl rfl ⟨⟨23, .data⟩, Array.mem_of_getElem? (i := 1) rfl, rfl, rfl⟩
        have w70 := v70
        rw [Array.getD_eq_getD_getElem?] at w70
        have v72 : a.tmps.getD 72 undef = .int .u32 (y : Int) := hf 25 _ 72 rfl rfl ⟨⟨25, .data⟩, Array.mem_of_getElem? (i := 2) rfl, rfl, rfl⟩
        have w72 := v72
        rw [Array.getD_eq_getD_getElem?] at w72
        clear hf hfar
        go_simp
        refine (G3.out u hk).mono ?_
        rintro e u' ⟨v', rfl, o', hk'⟩
        exact ⟨_, rfl, hk', o'⟩
      refine OweTo.cons ?_ (by rfl) ?_
      · intro u a hk hf hfar
        have z67 : Rfs u (a.tmps.getD 67 undef) XD := hf 20 _ 67 rfl rfl ⟨⟨20, .data⟩, Array.mem_of_getElem? (i := 0) rfl, rfl, rfl⟩
        generalize hx67 : a.tmps.getD 67 undef = x67 at z67
        obtain ⟨B67, d67, hform67, _, _⟩ := z67.form
        have v67 := hx67.trans hform67
        rw [hform67] at z67
        have w67 := v67
        rw [Array.getD_eq_getD_getElem?] at w67
        have z73 : Rfs u (a.tmps.getD 73 undef) XD := hf 26 _ 73 rfl rfl ⟨⟨26, .data⟩, Array.mem_of_getElem? (i := 1) rfl, rfl, rfl⟩
        generalize hx73 : a.tmps.getD 73 undef = x73 at z73
        obtain ⟨B73, d73, hform73, _, _⟩ := z73.form
        have v73 := hx73.trans hform73
        rw [hform73] at z73
        have w73 := v73
        rw [Array.getD_eq_getD_getElem?] at w73
        clear hf hfar
        go_simp
        refine (rf_same_t _ _ XD u z67 z73).mono ?_
        rintro e u' ⟨rfl, hk'⟩
        exact ⟨_, rfl, hk', rfl⟩
      refine OweTo.cons ?_ (by rfl) ?_
      · intro u a hk hf hfar
        have v74 : a.tmps.getD 74 undef = .bool true := hf 27 _ 74 rfl rfl ⟨⟨27, .data⟩, Array.mem_of_getElem? (i := 0) rfl, rfl, rfl⟩
        have w74 := v74
        rw [Array.getD_eq_getD_getElem?] at w74
        clear hf hfar
        go_simp
        exact ⟨_, rfl, Kept.refl _ _, rfl⟩
      exact OweTo.last (by decide)
    · intro A w14 hk2 hsz hdef hfar hfacts
      have x65 : A.tmps.getD 65 undef = .bool false := hfacts 18 _ 65 (by decide) rfl rfl
      have x75 : A.tmps.getD 75 undef = .bool false := hfacts 28 _ 75 (by decide) rfl rfl
      have hA := arr_put A.tmps [47, 48, 49, 50, 51, 52, 53, 54, 55, 56, 57, 58, 59, 60, 61, 62, 63, 64, 65, 66, 67, 68, 69, 70, 71, 72, 73, 74, 75, 76] _ hsz (fun t ht => hfar t ht)
      obtain ⟨At, Ad⟩ := A
      simp only at hdef x65 x75 hA
      subst hdef
      simp only [List.foldl_cons, List.foldl_nil, x65, x75] at hA
      clear x65 x75 hfar hfacts hsz
      generalize At.getD 47 undef = y47 at hA
      generalize At.getD 48 undef = y48 at hA
      generalize At.getD 49 undef = y49 at hA
      generalize At.getD 50 undef = y50 at hA
      generalize At.getD 51 undef = y51 at hA
      generalize At.getD 52 undef = y52 at hA
      generalize At.getD 53 undef = y53 at hA
      generalize At.getD 54 undef = y54 at hA
      generalize At.getD 55 undef = y55 at hA
      generalize At.getD 56 undef = y56 at hA
      generalize At.getD 57 undef = y57 at hA
      generalize At.getD 58 undef = y58 at hA
      generalize At.getD 59 undef = y59 at hA
      generalize At.getD 60 undef = y60 at hA
      generalize At.getD 61 undef = y61 at hA
      generalize At.getD 62 undef = y62 at hA
      generalize At.getD 63 undef = y63 at hA
      generalize At.getD 64 undef = y64 at hA
      generalize At.getD 66 undef = y66 at hA
      generalize At.getD 67 undef = y67 at hA
      generalize At.getD 68 undef = y68 at hA
      generalize At.getD 69 undef = y69 at hA
      generalize At.getD 70 undef = y70 at hA
      generalize At.getD 71 undef = y71 at hA
      generalize At.getD 72 undef = y72 at hA
      generalize At.getD 73 undef = y73 at hA
      generalize At.getD 74 undef = y74 at hA
      generalize At.getD 76 undef = y76 at hA
      simp only [List.setIfInBounds_toArray, List.set_cons_succ, List.set_cons_zero] at hA
      subst hA
      have K := Lib.hid hk2
      clear hk2
      go_simp
      have KK := Lib.hid (K26.out.trans K.out)
      have T1 := Lib.hid (T0.out.old K.out)
      have T2 := Lib.hid (T1.out.old ((Kept.refl Nothing _).alloc (.cells #[.slice A3 na c3, .slice A5 nc c5, .slice A6 nd c6] 23)))
      have GB := Lib.hid (Blk.fresh w14 23 #[.slice A3 na c3, .slice A5 nc c5, .slice A6 nd c6])
      clear T0 T1 K26 K E1 E2 E3 S1 G2 G3
      go_wp2_with fail
      go_loopw [82] (fun i wr => ∃ k : Nat, i = .int .i64 (k : Int) ∧ k ≤ 3 ∧ Hid (Three w2 w2.heap.size (.slice A3 na c3) (.slice A5 nc c5) (.slice A6 nd c6) xa xc xd na nc nd wr) ∧ Hid (Blk wr w14.heap.size 23 #[.slice A3 na c3, .slice A5 nc c5, .slice A6 nd c6])) (fun i _ => 3 - (intOf i).toNat)
      case atStart => exact ⟨0, rfl, by omega, T2, GB⟩
      case round =>
        clear T2 GB
        obtain ⟨k, rfl, hk, T, GB⟩ := hrel
        by_cases hlt : k < 3
        · have i1 : (0 : Int) ≤ (k : Int) := by omega
          have i2 : (k : Int) < 3 := by omega
          obtain ⟨q, xs, nq, hq, HPQ⟩ : ∃ q xs nq, wr.cell? ⟨w14.heap.size, k, none⟩ = some q ∧ Hid (∀ u, Three w2 w2.heap.size (.slice A3 na c3) (.slice A5 nc c5) (.slice A6 nd c6) xa xc xd na nc nd u → Pk w2.heap.size q xs nq u) := by
            obtain rfl | rfl | rfl : k = 0 ∨ k = 1 ∨ k = 2 := by omega
            · exact ⟨_, xa, na, GB.out.cell 0, Lib.hid (fun u h => h.a)⟩
            · exact ⟨_, xc, nc, GB.out.cell 1, Lib.hid (fun u h => h.c)⟩
            · exact ⟨_, xd, nd, GB.out.cell 2, Lib.hid (fun u h => h.d)⟩
          have hbs : w14.heap.size < wr.heap.size := GB.out.lt
          obtain ⟨Aq, cq, rfl⟩ : ∃ Aq cq, q = .slice Aq nq cq := by
            obtain ⟨l', _, h2, _⟩ := HPQ.out _ T.out
            obtain ⟨Aq, cq, e, _, _⟩ := ow_form h2
            exact ⟨Aq, cq, e⟩
          obtain ⟨hnq⟩ : Nonempty (nq ≤ 9223372036854775807) := by
            obtain ⟨l', _, h2, _⟩ := HPQ.out _ T.out
            obtain ⟨_, cq, e, h3, h4⟩ := ow_form h2
            exact ⟨by unfold maxLen at h4; omega⟩
          go_wp2_with fail
          go_loopw [16] (fun i wr => ∃ j : Nat, i = .int .i64 (j : Int) ∧ j ≤ nq ∧ Hid (Three w2 w2.heap.size (.slice A3 na c3) (.slice A5 nc c5) (.slice A6 nd c6) xa xc xd na nc nd wr) ∧ Hid (Blk wr w14.heap.size 23 #[.slice A3 na c3, .slice A5 nc c5, .slice A6 nd c6])) (fun i _ => nq - (intOf i).toNat)
          case atStart => exact ⟨0, rfl, Nat.zero_le _, T, GB⟩
          case round =>
            clear T GB hq hbs
            obtain ⟨j, rfl, hj, T, GB⟩ := hrel
            by_cases hjt : j < nq
            · have j1 : (0 : Int) ≤ (j : Int) := by omega
              have j2 : (j : Int) < (nq : Int) := by omega
              obtain ⟨g, m, Au, cu, rfl, E1, hm⟩ : ∃ g m Au cu, Aq = some ⟨g, 0, none⟩ ∧ xs[j * 2 + 1]? = some (.slice Au m cu) ∧ m ≤ 9223372036854775807 := by
                obtain ⟨l', hl', h2, h3⟩ := HPQ.out _ T.out
                obtain ⟨g, _, _, e, _, _⟩ := own_lies h2 (by omega)
                injection e with e _ _
                obtain ⟨nv, _, e1, no, _⟩ := h3.at j (by omega)
                obtain ⟨Au, cu, rfl, h5, h6⟩ := ow_form no
                exact ⟨g, _, Au, cu, e, e1, by unfold maxLen at h6; omega⟩
              have P1 : Hid (∀ u, Three w2 w2.heap.size (.slice A3 na c3) (.slice A5 nc c5) (.slice A6 nd c6) xa xc xd na nc nd u → u.cell? ⟨g, j * 2 + 1, none⟩ = some (.slice Au m cu)) := Lib.hid (fun u hu => by
                obtain ⟨l', hl', h2, h3⟩ := HPQ.out _ hu
                have := h2.cells (g := g) rfl _ _ E1
                rwa [add_none, Nat.zero_add] at this)
              have EE := Lib.hid E1
              clear E1
              go_wp2_with fail
              go_loopw [17] (fun i wr => ∃ t : Nat, i = .int .i64 (t : Int) ∧ t ≤ m ∧ Hid (Three w2 w2.heap.size (.slice A3 na c3) (.slice A5 nc c5) (.slice A6 nd c6) xa xc xd na nc nd wr) ∧ Hid (Blk wr w14.heap.size 23 #[.slice A3 na c3, .slice A5 nc c5, .slice A6 nd c6])) (fun i _ => m - (intOf i).toNat)
              case atStart => exact ⟨0, rfl, Nat.zero_le _, T, GB⟩
              case round =>
                clear T GB
                obtain ⟨t, rfl, ht, T, GB⟩ := hrel
                have c1 := P1.out _ T.out
                by_cases htt : t < m
                · have t1 : (0 : Int) ≤ (t : Int) := by omega
                  have t2 : (t : Int) < (m : Int) := by omega
                  obtain ⟨gn, x0, rfl, q0, qf, hgz, HPO⟩ : ∃ gn x0, Au = some ⟨gn, 0, none⟩ ∧ wr.cell? ⟨gn, t, none⟩ = some (.int .u32 ((x0 : Nat) : Int)) ∧ wr.frozen? ⟨gn, t, none⟩ = false ∧ gn < wr.heap.size ∧ Hid (∀ b : Nat, b < 4294967296 → Three w2 w2.heap.size (.slice A3 na c3) (.slice A5 nc c5) (.slice A6 nd c6) xa xc xd na nc nd (wr.setCell ⟨gn, t, none⟩ (.int .u32 (b : Int))) ∧ Blk (wr.setCell ⟨gn, t, none⟩ (.int .u32 (b : Int))) w14.heap.size 23 #[.slice A3 na c3, .slice A5 nc c5, .slice A6 nd c6]) := by
                    obtain ⟨l', hl', h2, h3⟩ := HPQ.out _ T.out
                    obtain ⟨nv, _, e1, no, _⟩ := h3.at j (by omega)
                    rw [EE.out] at e1
                    injection e1 with e1
                    subst e1
                    obtain ⟨_, _, e2, _, _⟩ := ow_form no
                    injection e2 with _ e2 _
                    obtain ⟨gn, _, cur, e3, hge, hbg⟩ := own_lies no (by omega)
                    injection e3 with e3 _ _
                    subst e3
                    have q0 := no.cells (g := gn) rfl t _ (ass_at (by omega))
                    rw [add_none, Nat.zero_add] at q0
                    exact ⟨gn, _, rfl, q0, hbg.free t, hbg.lt, Lib.hid (fun b hb => ⟨T.out.poke (Nat.le_refl _) hb hbg hge, GB.out.far (p := ⟨gn, t, none⟩) (GB.out.apart hbg (by decide)) _⟩)⟩
                  obtain ⟨b, hb, hxo⟩ := xor1 x0
                  have HF := Lib.hid (HPO.out b hb)
                  clear HPO T GB
                  go_wp2_with fail
                  go_roundw
                  case rel => exact ⟨t + 1, by go_num, by omega, Lib.hid HF.out.1, Lib.hid HF.out.2⟩
                  case measure => simp [intOf]; omega
                · obtain rfl : t = m := by omega
                  go_wp2_with fail
                  go_roundw
                  case rel => exact ⟨j + 1, by go_num, by omega, T, GB⟩
                  case measure => simp [intOf]; omega
            · obtain rfl : j = nq := by omega
              go_wp2_with fail
              go_roundw
              case rel => exact ⟨k + 1, by go_num, by omega, T, GB⟩
              case measure => simp [intOf]; omega
        · obtain rfl : k = 3 := by omega
          have K := Lib.hid T.out.k
          clear T GB
          go_wp2_with (first
            | (go_at_call 24; refine (CT.out _ K.out).mono ?_; rintro e w39 ⟨rfl, k39⟩; (replace K := Lib.hid (K.out.trans k39)); clear k39)
            | (go_at_call 23; refine (D9.out _ _ K.out O9.out).mono ?_; rintro e w38 ⟨rfl, k38⟩; (replace K := Lib.hid (K.out.trans k38)); clear k38)
            | (go_at_call 6; refine (C9.out _ K.out).mono ?_; rintro e w37 ⟨v37, rfl, o37, k37⟩; (have O9 := Lib.hid o37.rfs); (replace K := Lib.hid (K.out.trans k37)); clear k37 o37))
          go_ret
          exact ⟨rfl, KW.out.trans K.out⟩
end Go.Proofs.YtdeblmolgmadiaaDoor
namespace Go.Proofs.YtdeblmolgmadiaaDoor
open Go.ChangeShapes Go.WideShapes Go.ChangeAt Go.RowKit

set_option maxRecDepth 100000 in
theorem walkMakes_lifted (os : Os) (started : os.Started) (H : Type) (enc : TypeId × Value → H) :
    ReturnsInHanded {} Tryd.checked os 4 .any (fun w args => (Rows.walkMakesSpec.pre enc Tryd.prog Tryd.f4 [] false w args ∧ laidMetH Tryd.prog laidW w) ∧ sizedMet enc Tryd.prog Tryd.f4 (OpenSpec.ofChange Rows.walkMakesSpec) false w args)
      (Rows.walkMakesSpec.post enc Tryd.prog Tryd.f4 false true false false) := by
  refine returnsInHanded_of_change_and (C := Tryd.checked) (X := fun w _ => laidMetH Tryd.prog laidW w) (fun _ _ _ hh h => h.of_heap hh) ownKnob_none started (by kernel_rfl) Tryd.func4
    (ChangeSpec.witness_shaped (enc := enc) (C := Tryd.checked) (os := os) (X := fun w _ => laidMetH Tryd.prog laidW w) false (World.doorLaid Tryd.prog 33 os) #[.slice none 0 0, .int .u8 0, .agg #[.int .u32 0, .int .u32 0]] 8 rfl (World.shaped_of_RefB (by kernel_rfl) (by kernel_rfl)) (by kernel_rfl) (by kernel_rfl) (by kernel_rfl) (door_metW os _)) ?_
  intro W base args ds gs before hval0 hW _ _ hL _
  have hval : ∀ (j : Nat) t v, Tryd.f4.params[j]? = some t → args[j]? = some v → Value.okWide Tryd.prog W .any base t v := hval0
  have hW' : DataW.Whole enc Tryd.prog Tryd.f4.params.toList Rows.walkMakesSpec.vars false W args.toList ds gs before := hW
  obtain ⟨p, q, hA0, hV, rfl, hfz, hnd⟩ := hW
  have hA : DataW.TrodAll enc Tryd.prog W 0 (fun _ => true) true Tryd.f4.params.toList args.toList ds p := hA0
  rw [Tryd.params4] at hA hval
  obtain ⟨v0, v1, v2, d0, d1, d2, p0, p1, p2, rfl, rfl, rfl, h0, h1, h2⟩ := trodAll_three hA
  obtain ⟨rfl, rfl⟩ := trodVars_none hV
  obtain ⟨hr, hs⟩ := rdyW hL
  obtain ⟨l, hl⟩ := open_pts (hval 0 23 v0 rfl rfl) h0
  obtain ⟨z, rfl, hz⟩ := open_u8W (hval 1 5 v1 rfl rfl) h1
  obtain ⟨x, y, rfl, hx, hy⟩ := open_asked (hval 2 27 v2 rfl rfl) h2
  obtain ⟨kd, rfl⟩ : ∃ kd : UInt8, z = kd.toNat := ⟨UInt8.ofNat z, by simp; omega⟩
  refine (law_wmakes v0 l kd x y hx hy W hl hr hs).mono fun e W' ⟨he, hk⟩ => ?_
  subst he
  exact ⟨_, rfl, law_post hW' rfl (by kernel_rfl) (by rw [Tryd.params4]; exact readableJ (by kernel_rfl)) rfl rfl rfl hk.under⟩
theorem walkMakes_row : Rows.WalkMakesSaid :=
  OpenClaim.holds_of_wide 4 Tryd.f4 rfl rfl rfl rfl rfl rfl rfl ⟨rfl, rfl, rfl, rfl, rfl⟩ rfl rfl rfl rfl rfl (by kernel_rfl) Tryd.func4 (by kernel_rfl)
    (of_decide_eq_true (by kernel_rfl)) (by unfold Func.isWrapper; first | (rw [if_pos (by decide +kernel)]; kernel_rfl) | (rw [if_neg (by decide +kernel)]; exact ⟨rfl, rfl⟩))
    (fun os started H enc _ => walkMakes_lifted os started H enc)
theorem walkMakes_holds : Rows.WalkMakesCardSaid :=
  Claim7.holds_tied_plain_at .later [] [.data, .data, .data, .data] true Rows.walkMakesCard.stood.harness false
    walkMakes_row (fun _ h => by cases h) (by kernel_rfl) (fun _ h => by cases h) walkMakes_row_tie rfl ⟨rfl, rfl⟩ (by kernel_rfl) rfl
    (fun f fn hf hfn => by
      obtain rfl : f = 4 := Option.some.inj ((show Tryd.prog.funcNamed "consulate/consulatelaw08.WalkMakes" = some 4 by kernel_rfl).symm.trans hf) |>.symm
      obtain rfl : fn = Tryd.f4 := (Option.some.inj (Tryd.func4.symm.trans hfn)).symm
      exact ⟨by kernel_rfl, fun j t ht => by
        rw [Tryd.params4] at ht
        have hm : t ∈ [23, 5, 27] := by simpa using Array.mem_of_getElem? ht
        have hall : ([23, 5, 27].all fun u => !Tryd.prog.wantsStandIn u) = true := by kernel_rfl
        exact (show Tryd.prog.wantsStandIn t = false by simpa using List.all_eq_true.1 hall t hm)⟩)
    (by kernel_rfl)
end Go.Proofs.YtdeblmolgmadiaaDoor
