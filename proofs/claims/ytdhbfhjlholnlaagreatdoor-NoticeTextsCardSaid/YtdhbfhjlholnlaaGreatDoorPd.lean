
/-
  A text cut at a sign; an address's four fields.
-/
import Derived.Test.YtdhbfhjlholnlaaGreatDoorPc
import Derived.IntWalk
namespace Go.Proofs.YtdhbfhjlholnlaaGreatDoor
open Go.RowKit

/-- What stands ahead of the first sign c, and what behind it. -/
def cutAt (c : UInt8) : List UInt8 → List UInt8 × List UInt8
  | [] => ([], [])
  | b :: l => if b = c then ([], l) else (b :: (cutAt c l).1, (cutAt c l).2)
theorem cut_index (c : UInt8) : ∀ l : List UInt8, (l = (cutAt c l).1 ++ c :: (cutAt c l).2 ∧ Lib.indexByte l c = ((cutAt c l).1.length : Int)) ∨ (cutAt c l = (l, []) ∧ Lib.indexByte l c = -1)
  | [] => .inr ⟨rfl, rfl⟩
  | b :: l => by
    unfold Lib.indexByte cutAt
    by_cases hb : b = c
    · subst hb
      exact .inl ⟨by simp, by simp⟩
    · have h1 : (b == c) = false := by simpa using hb
      rw [h1, if_neg hb]
      rcases cut_index c l with ⟨hm, hi⟩ | ⟨hm, hi⟩
      · refine .inl ⟨by simp only [List.cons_append]; rw [← hm], ?_⟩
        rw [hi]
        have : (((cutAt c l).1.length : Int) == -1) = false := beq_eq_false_iff_ne.2 (by omega)
        simp only [Bool.false_eq_true, if_false, this, List.length_cons]
        omega
      · refine .inr ⟨by rw [hm], ?_⟩
        rw [hi]
        rfl
theorem cut_len (c : UInt8) (l : List UInt8) : (cutAt c l).1.length ≤ l.length ∧ (cutAt c l).2.length ≤ l.length := by
  rcases cut_index c l with ⟨hm, _⟩ | ⟨hm, _⟩
  · have := congrArg List.length hm
    simp only [List.length_append, List.length_cons] at this
    omega
  · rw [hm]; simp
def cutB (c : UInt8) (l : List UInt8) : Bool := decide (0 ≤ Lib.indexByte l c)
theorem ext_lo (l : List UInt8) (i : Nat) : (⟨l.toArray⟩ : ByteArray).extract 0 i = ⟨(l.take i).toArray⟩ := by
  apply ByteArray.ext
  rw [ByteArray.data_extract]
  simp
theorem ext_hi (l : List UInt8) (i : Nat) : (⟨l.toArray⟩ : ByteArray).extract i l.length = ⟨(l.drop i).toArray⟩ := by
  apply ByteArray.ext
  rw [ByteArray.data_extract]
  simp
  exact List.take_of_length_le (by simp)
theorem take_cut {l t d : List UInt8} {c : UInt8} (h : l = t ++ c :: d) : l.take t.length = t ∧ l.drop (t.length + 1) = d := by
  subst h
  exact ⟨List.take_left .., by rw [← List.drop_drop, List.drop_left]; rfl⟩
theorem cutl_any (c : UInt8) (l : List UInt8) (hl : l.length ≤ 100000) (w : World) :
    Calls Tryz.prog 14 #[.string ⟨l.toArray⟩, .string ⟨#[c]⟩] w fun e w' => e = .returned (.tuple #[.string ⟨(cutAt c l).1.toArray⟩, .string ⟨(cutAt c l).2.toArray⟩, .bool (cutB c l)]) ∧ Kept Nothing w w' := by
  have HI := Tryz.stringslite_Index_one ⟨l.toArray⟩ c
  have e0 : (⟨l.toArray⟩ : ByteArray).data.toList = l := rfl
  rw [e0] at HI
  rcases cut_index c l with ⟨hm, hi⟩ | ⟨hm, hi⟩
  · have hB := Lib.hid (show cutB c l = true by unfold cutB; rw [hi]; simp)
    have hlen : (cutAt c l).1.length + 1 ≤ l.length := by have := congrArg List.length hm; simp at this; omega
    have HT := Lib.hid (take_cut hm)
    rw [hi] at HI
    clear hm hi e0
    have HI := Lib.hid HI
    generalize (cutAt c l).1.length = n at HI hlen HT
    have h0 : (0 : Int) ≤ (n : Int) := by omega
    have h1 : (n : Int) ≤ (l.length : Int) := by omega
    have h2 : (n : Int) + 1 ≤ (l.length : Int) := by omega
    have hw : IntKind.i64.wrap ((n : Int) + 1) = (n : Int) + 1 := IntWalk.i64_in _ (by omega)
    go_enter Tryz.func14, Tryz.ntmps14
    go_wp2_with (go_at_call 20; refine (HI.out _).mono ?_; rintro e w' ⟨rfl, rfl⟩)
    go_quiet (fail)
    go_wp2
    rw [ext_lo, ext_hi, HT.out.1, HT.out.2]
    go_ret3
    exact ⟨by rw [hB.out]; rfl, (Kept.refl _ _).drewN _⟩
  · have hB := Lib.hid (show cutB c l = false by unfold cutB; rw [hi]; rfl)
    rw [hi] at HI
    have HI := Lib.hid HI
    have HM := Lib.hid hm
    clear hm hi e0
    rw [HM.out, hB.out]
    go_enter Tryz.func14, Tryz.ntmps14
    go_wp2_with (go_at_call 20; refine (HI.out _).mono ?_; rintro e w' ⟨rfl, rfl⟩)
    go_ret3
    exact ⟨rfl, Kept.refl _ _⟩
theorem cut_any (c : UInt8) (l : List UInt8) (hl : l.length ≤ 100000) (w : World) :
    Calls Tryz.prog 7 #[.string ⟨l.toArray⟩, .string ⟨#[c]⟩] w fun e w' => e = .returned (.tuple #[.string ⟨(cutAt c l).1.toArray⟩, .string ⟨(cutAt c l).2.toArray⟩, .bool (cutB c l)]) ∧ Kept Nothing w w' := by
  have HI := Lib.hid (cutl_any c l hl)
  go_enter Tryz.func7, Tryz.ntmps7
  go_wp2_with (go_at_call 14; refine (HI.out _).mono ?_; rintro e w1 ⟨rfl, hk⟩)
  go_ret3
  exact ⟨rfl, hk⟩

/-- What is left of the text behind k fields. -/
def rst (l : List UInt8) : Nat → List UInt8
  | 0 => l
  | k + 1 => (cutAt 46 (rst l k)).2
/-- Field number k of the first three. -/
def fld (l : List UInt8) (k : Nat) : List UInt8 := (cutAt 46 (rst l k)).1
theorem rst_len (l : List UInt8) : ∀ k, (rst l k).length ≤ l.length
  | 0 => Nat.le_refl _
  | k + 1 => Nat.le_trans (cut_len 46 _).2 (rst_len l k)
def fls (l : List UInt8) : Nat → Array Value
  | 0 => #[bstr [], bstr [], bstr [], bstr []]
  | 1 => #[bstr (fld l 0), bstr [], bstr [], bstr []]
  | 2 => #[bstr (fld l 0), bstr (fld l 1), bstr [], bstr []]
  | 3 => #[bstr (fld l 0), bstr (fld l 1), bstr (fld l 2), bstr []]
  | _ => #[bstr (fld l 0), bstr (fld l 1), bstr (fld l 2), bstr (rst l 3)]

end Go.Proofs.YtdhbfhjlholnlaaGreatDoor
