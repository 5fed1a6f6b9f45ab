
/-
  A text cut at a sign; an address's four fields.
-/
import Derived.Test.YtfjhpeijlhlaeaaDoorPc
import Derived.IntWalk
namespace Go.Proofs.YtfjhpeijlhlaeaaDoor
open Go.RowKit

/-- What stands ahead of the first sign c, and what behind it. -/
def cutAt (c : UInt8) : List UInt8 → List UInt8 × List UInt8
  | [] => ([], [])
  | b :: l => if b = c then ([], l) else (b :: (cutAt c l).1, (cutAt c l).2)
theorem cut_index (c : UInt8) : ∀ l : List UInt8, (l = (cutAt c l).1 ++ c :: (cutAt c l).2 ∧ Lib.indexByte l c = ((cutAt c l).1.length : Int)) ∨ (cutAt c l = (l, []) ∧ Lib.indexByte l c = -1)
  | [] => .inr ⟨rfl, rfl⟩
  | b :: l => by
    unfold Lib.indexByte cutAt
    by_cases hb : b = c
    · subst hb
      exact .inl ⟨by simp, by simp⟩
    · have h1 : (b == c) = false := by simpa using hb
      rw [h1, if_neg hb]
      rcases cut_index c l with ⟨hm, hi⟩ | ⟨hm, hi⟩
      · refine .inl ⟨by simp only [List.cons_append]; rw [← hm], ?_⟩
        rw [hi]
        have : (((cutAt c l).1.length : Int) == -1) = false := beq_eq_false_iff_ne.2 (by omega)
        simp only [Bool.false_eq_true, if_false, this, List.length_cons]
        omega
      · refine .inr ⟨by rw [hm], ?_⟩
        rw [hi]
        rfl
theorem cut_len (c : UInt8) (l : List UInt8) : (cutAt c l).1.length ≤ l.length ∧ (cutAt c l).2.length ≤ l.length := by
  rcases cut_index c l with ⟨hm, _⟩ | ⟨hm, _⟩
  · have := congrArg List.length hm
    simp only [List.length_append, List.length_cons] at this
    omega
  · rw [hm]; simp
def cutB (c : UInt8) (l : List UInt8) : Bool := decide (0 ≤ Lib.indexByte l c)
theorem ext_lo (l : List UInt8) (i : Nat) : (⟨l.toArray⟩ : ByteArray).extract 0 i = ⟨(l.take i).toArray⟩ := by
  apply ByteArray.ext
  rw [ByteArray.data_extract]
  simp
theorem ext_hi (l : List UInt8) (i : Nat) : (⟨l.toArray⟩ : ByteArray).extract i l.length = ⟨(l.drop i).toArray⟩ := by
  apply ByteArray.ext
  rw [ByteArray.data_extract]
  simp
  exact List.take_of_length_le (by simp)
theorem take_cut {l t d : List UInt8} {c : UInt8} (h : l = t ++ c :: d) : l.take t.length = t ∧ l.drop (t.length + 1) = d := by
  subst h
  exact ⟨List.take_left .., by rw [← List.drop_drop, List.drop_left]; rfl⟩
theorem cutl_any (c : UInt8) (l : List UInt8) (hl : l.length ≤ 100000) (w : World) :
    Calls Tryd.prog 61 #[.string ⟨l.toArray⟩, .string ⟨#[c]⟩] w fun e w' => e = .returned (.tuple #[.string ⟨(cutAt c l).1.toArray⟩, .string ⟨(cutAt c l).2.toArray⟩, .bool (cutB c l)]) ∧ Kept Nothing w w' := by
  have HI := Tryd.stringslite_Index_one ⟨l.toArray⟩ c
  have e0 : (⟨l.toArray⟩ : ByteArray).data.toList = l := rfl
  rw [e0] at HI
  rcases cut_index c l with ⟨hm, hi⟩ | ⟨hm, hi⟩
  · have hB := Lib.hid (show cutB c l = true by unfold cutB; rw [hi]; simp)
    have hlen : (cutAt c l).1.length + 1 ≤ l.length := by have := congrArg List.length hm; simp at this; omega
    have HT := Lib.hid (take_cut hm)
    rw [hi] at HI
    clear hm hi e0
    have HI := Lib.hid HI
    generalize (cutAt c l).1.length = n at HI hlen HT
    have h0 : (0 : Int) ≤ (n : Int) := by omega
    have h1 : (n : Int) ≤ (l.length : Int) := by omega
    have h2 : (n : Int) + 1 ≤ (l.length : Int) := by omega
    have hw : IntKind.i64.wrap ((n : Int) + 1) = (n : Int) + 1 := IntWalk.i64_in _ (by omega)
    go_enter Tryd.func61, Tryd.ntmps61
    go_wp2_with (go_at_call 65; refine (HI.out _).mono ?_; rintro e w' ⟨rfl, rfl⟩)
    go_quiet (fail)
    go_wp2
    rw [ext_lo, ext_hi, HT.out.1, HT.out.2]
    go_ret3
    exact ⟨by rw [hB.out]; rfl, (Kept.refl _ _).drewN _⟩
  · have hB := Lib.hid (show cutB c l = false by unfold cutB; rw [hi]; rfl)
    rw [hi] at HI
    have HI := Lib.hid HI
    have HM := Lib.hid hm
    clear hm hi e0
    rw [HM.out, hB.out]
    go_enter Tryd.func61, Tryd.ntmps61
    go_wp2_with (go_at_call 65; refine (HI.out _).mono ?_; rintro e w' ⟨rfl, rfl⟩)
    go_ret3
    exact ⟨rfl, Kept.refl _ _⟩
theorem cut_any (c : UInt8) (l : List UInt8) (hl : l.length ≤ 100000) (w : World) :
    Calls Tryd.prog 52 #[.string ⟨l.toArray⟩, .string ⟨#[c]⟩] w fun e w' => e = .returned (.tuple #[.string ⟨(cutAt c l).1.toArray⟩, .string ⟨(cutAt c l).2.toArray⟩, .bool (cutB c l)]) ∧ Kept Nothing w w' := by
  have HI := Lib.hid (cutl_any c l hl)
  go_enter Tryd.func52, Tryd.ntmps52
  go_wp2_with (go_at_call 61; refine (HI.out _).mono ?_; rintro e w1 ⟨rfl, hk⟩)
  go_ret3
  exact ⟨rfl, hk⟩

/-- What is left of the text behind k fields. -/
def rst (l : List UInt8) : Nat → List UInt8
  | 0 => l
  | k + 1 => (cutAt 46 (rst l k)).2
/-- Field number k of the first three. -/
def fld (l : List UInt8) (k : Nat) : List UInt8 := (cutAt 46 (rst l k)).1
theorem rst_len (l : List UInt8) : ∀ k, (rst l k).length ≤ l.length
  | 0 => Nat.le_refl _
  | k + 1 => Nat.le_trans (cut_len 46 _).2 (rst_len l k)
def fls (l : List UInt8) : Nat → Array Value
  | 0 => #[bstr [], bstr [], bstr [], bstr []]
  | 1 => #[bstr (fld l 0), bstr [], bstr [], bstr []]
  | 2 => #[bstr (fld l 0), bstr (fld l 1), bstr [], bstr []]
  | 3 => #[bstr (fld l 0), bstr (fld l 1), bstr (fld l 2), bstr []]
  | _ => #[bstr (fld l 0), bstr (fld l 1), bstr (fld l 2), bstr (rst l 3)]

theorem fields_any (l : List UInt8) (hl : l.length ≤ 100000) (w : World) :
    Calls Tryd.prog 48 #[.string ⟨l.toArray⟩] w fun e w' => e = .returned (.agg (fls l 4)) ∧ Kept Nothing w w' := by
  have hk0 : Kept Nothing w ((w.alloc (.cells (fls l 0) 81)).alloc (.cells (fls l 0) 81)) := ((Kept.refl _ w).alloc _).alloc _
  have hB0 : Blk ((w.alloc (.cells (fls l 0) 81)).alloc (.cells (fls l 0) 81)) w.heap.size 81 (fls l 0) := (Blk.fresh w _ _).alloc _
  have hC0 : Blk ((w.alloc (.cells (fls l 0) 81)).alloc (.cells (fls l 0) 81)) (w.heap.size + 1) 81 (fls l 0) := by
    have := Blk.fresh (w.alloc (.cells (fls l 0) 81)) 81 (fls l 0)
    simpa using this
  go_enter Tryd.func48, Tryd.ntmps48
  go_wp2
  go_loopw [0, 7] (fun v i wr => ∃ k : Nat, k ≤ 3 ∧ i = .int .i64 k ∧ v = .string ⟨(rst l k).toArray⟩ ∧ Blk wr w.heap.size 81 (fls l 0) ∧ Blk wr (w.heap.size + 1) 81 (fls l k) ∧ Kept Nothing w wr) (fun _ i _ => 3 - (intOf i).toNat)
  case atStart => exact ⟨0, by omega, rfl, rfl, hB0, hC0, hk0⟩
  case round =>
    obtain ⟨k, hk3, rfl, rfl, hB, hC, hk⟩ := hrel
    clear hB0 hC0 hk0
    obtain rfl | rfl | rfl | rfl : k = 0 ∨ k = 1 ∨ k = 2 ∨ k = 3 := by omega
    · have HB := Lib.hid hB
      have HC := Lib.hid hC
      clear hB hC
      go_wp2_with (go_at_call 52; refine (cut_any 46 (rst l 0) (Nat.le_trans (rst_len l 0) hl) _).mono ?_; rintro e w2 ⟨rfl, hk2⟩; have hC2 := HC.out.kept hk2 (fun x => x); have cC : w2.cell? ⟨w.heap.size + 1, 0, none⟩ = some (bstr []) := hC2.cell 0; have fC : w2.frozen? ⟨w.heap.size + 1, 0, none⟩ = false := hC2.free 0)
      go_roundw
      case rel => exact ⟨1, by omega, by go_num, rfl, (HB.out.kept hk2 (fun x => x)).far (by simp) _, hC2.put 0 _, (hk.trans hk2).setCell (p := ⟨w.heap.size + 1, 0, none⟩) (fun h => absurd h (by simp)) _⟩
      case measure => simp [intOf]
    · have HB := Lib.hid hB
      have HC := Lib.hid hC
      clear hB hC
      go_wp2_with (go_at_call 52; refine (cut_any 46 (rst l 1) (Nat.le_trans (rst_len l 1) hl) _).mono ?_; rintro e w2 ⟨rfl, hk2⟩; have hC2 := HC.out.kept hk2 (fun x => x); have cC : w2.cell? ⟨w.heap.size + 1, 1, none⟩ = some (bstr []) := hC2.cell 1; have fC : w2.frozen? ⟨w.heap.size + 1, 1, none⟩ = false := hC2.free 1)
      go_roundw
      case rel => exact ⟨2, by omega, by go_num, rfl, (HB.out.kept hk2 (fun x => x)).far (by simp) _, hC2.put 1 _, (hk.trans hk2).setCell (p := ⟨w.heap.size + 1, 1, none⟩) (fun h => absurd h (by simp)) _⟩
      case measure => simp [intOf]
    · have HB := Lib.hid hB
      have HC := Lib.hid hC
      clear hB hC
      go_wp2_with (go_at_call 52; refine (cut_any 46 (rst l 2) (Nat.le_trans (rst_len l 2) hl) _).mono ?_; rintro e w2 ⟨rfl, hk2⟩; have hC2 := HC.out.kept hk2 (fun x => x); have cC : w2.cell? ⟨w.heap.size + 1, 2, none⟩ = some (bstr []) := hC2.cell 2; have fC : w2.frozen? ⟨w.heap.size + 1, 2, none⟩ = false := hC2.free 2)
      go_roundw
      case rel => exact ⟨3, by omega, by go_num, rfl, (HB.out.kept hk2 (fun x => x)).far (by simp) _, hC2.put 2 _, (hk.trans hk2).setCell (p := ⟨w.heap.size + 1, 2, none⟩) (fun h => absurd h (by simp)) _⟩
      case measure => simp [intOf]
    · have f4 : wr.frozen? ⟨w.heap.size + 1, 3, none⟩ = false := hC.free 3
      have c0 : wr.cell? ⟨w.heap.size + 1, 0, none⟩ = some (.string ⟨(fld l 0).toArray⟩) := hC.cell 0
      have g0 : wr.cell? ⟨w.heap.size, 0, none⟩ = some (.string ⟨#[]⟩) := hB.cell 0
      have f0 : wr.frozen? ⟨w.heap.size, 0, none⟩ = false := hB.free 0
      have c1 : wr.cell? ⟨w.heap.size + 1, 1, none⟩ = some (.string ⟨(fld l 1).toArray⟩) := hC.cell 1
      have g1 : wr.cell? ⟨w.heap.size, 1, none⟩ = some (.string ⟨#[]⟩) := hB.cell 1
      have f1 : wr.frozen? ⟨w.heap.size, 1, none⟩ = false := hB.free 1
      have c2 : wr.cell? ⟨w.heap.size + 1, 2, none⟩ = some (.string ⟨(fld l 2).toArray⟩) := hC.cell 2
      have g2 : wr.cell? ⟨w.heap.size, 2, none⟩ = some (.string ⟨#[]⟩) := hB.cell 2
      have f2 : wr.frozen? ⟨w.heap.size, 2, none⟩ = false := hB.free 2
      have c3 : wr.cell? ⟨w.heap.size + 1, 3, none⟩ = some (.string ⟨([]).toArray⟩) := hC.cell 3
      have g3 : wr.cell? ⟨w.heap.size, 3, none⟩ = some (.string ⟨#[]⟩) := hB.cell 3
      have f3 : wr.frozen? ⟨w.heap.size, 3, none⟩ = false := hB.free 3
      have HB := Lib.hid hB
      have HC := Lib.hid hC
      clear hB hC
      go_wp2
      have ne : w.heap.size ≠ w.heap.size + 1 := by omega
      have k1 := hk.setCell (p := ⟨w.heap.size + 1, 3, none⟩) (fun h => absurd h (by simp)) (.string ⟨(rst l 3).toArray⟩)
      have b1 := HB.out.far (p := ⟨w.heap.size + 1, 3, none⟩) ne (.string ⟨(rst l 3).toArray⟩)
      generalize wr.setCell ⟨w.heap.size + 1, 3, none⟩ _ = w1 at k1 b1 ⊢
      have b2 := (((b1.put 0 (.string ⟨(fld l 0).toArray⟩)).put 1 (.string ⟨(fld l 1).toArray⟩)).put 2 (.string ⟨(fld l 2).toArray⟩)).put 3 (.string ⟨(rst l 3).toArray⟩)
      have k2 := (((k1.setCell (p := ⟨w.heap.size, 0, none⟩) (fun h => absurd h (by simp)) (.string ⟨(fld l 0).toArray⟩)).setCell (p := ⟨w.heap.size, 1, none⟩) (fun h => absurd h (by simp)) (.string ⟨(fld l 1).toArray⟩)).setCell (p := ⟨w.heap.size, 2, none⟩) (fun h => absurd h (by simp)) (.string ⟨(fld l 2).toArray⟩)).setCell (p := ⟨w.heap.size, 3, none⟩) (fun h => absurd h (by simp)) (.string ⟨(rst l 3).toArray⟩)
      generalize ((((w1.setCell ⟨w.heap.size, 0, none⟩ _).setCell ⟨w.heap.size, 1, none⟩ _).setCell ⟨w.heap.size, 2, none⟩ _).setCell ⟨w.heap.size, 3, none⟩ _) = w2 at b2 k2 ⊢
      have d0 : w2.cell? ⟨w.heap.size, 0, none⟩ = some (.string ⟨(fld l 0).toArray⟩) := b2.cell 0
      have d1 : w2.cell? ⟨w.heap.size, 1, none⟩ = some (.string ⟨(fld l 1).toArray⟩) := b2.cell 1
      have d2 : w2.cell? ⟨w.heap.size, 2, none⟩ = some (.string ⟨(fld l 2).toArray⟩) := b2.cell 2
      have d3 : w2.cell? ⟨w.heap.size, 3, none⟩ = some (.string ⟨(rst l 3).toArray⟩) := b2.cell 3
      exact bodyPost_ret (v := .agg #[.string ⟨(fld l 0).toArray⟩, .string ⟨(fld l 1).toArray⟩, .string ⟨(fld l 2).toArray⟩, .string ⟨(rst l 3).toArray⟩]) (by simp [results, Tryd.results48, go_sem, d0, d1, d2, d3]) rfl ⟨rfl, k2⟩
end Go.Proofs.YtfjhpeijlhlaeaaDoor
