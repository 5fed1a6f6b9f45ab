
/-
  A text cut at a sign; an address's four fields.
-/
import Derived.Test.YtdeblmolgmadiaaDoorPc
import Derived.IntWalk
namespace Go.Proofs.YtdeblmolgmadiaaDoor
open Go.RowKit

/-- What stands ahead of the first sign c, and what behind it. -/
def cutAt (c : UInt8) : List UInt8 → List UInt8 × List UInt8
  | [] => ([], [])
  | b :: l => if b = c then ([], l) else (b :: (cutAt c l).1, (cutAt c l).2)
theorem cut_index (c : UInt8) : ∀ l : List UInt8, (l = (cutAt c l).1 ++ c :: (cutAt c l).2 ∧ Lib.indexByte l c = ((cutAt c l).1.length : Int)) ∨ (cutAt c l = (l, []) ∧ Lib.indexByte l c = -1)
  | [] => .inr ⟨rfl, rfl⟩
  | b :: l => by
    unfold Lib.indexByte cutAt
    by_cases hb : b = c
    · subst hb
      exact .inl ⟨by simp, by simp⟩
    · have h1 : (b == c) = false := by simpa using hb
      rw [h1, if_neg hb]
      rcases cut_index c l with ⟨hm, hi⟩ | ⟨hm, hi⟩
      · refine .inl ⟨by simp only [List.cons_append]; rw [← hm], ?_⟩
        rw [hi]
        have : (((cutAt c l).1.length : Int) == -1) = false := beq_eq_false_iff_ne.2 (by omega)
        simp only [Bool.false_eq_true, if_false, this, List.length_cons]
        omega
      · refine .inr ⟨by rw [hm], ?_⟩
        rw [hi]
        rfl
theorem cut_len (c : UInt8) (l : List UInt8) : (cutAt c l).1.length ≤ l.length ∧ (cutAt c l).2.length ≤ l.length := by
  rcases cut_index c l with ⟨hm, _⟩ | ⟨hm, _⟩
  · have := congrArg List.length hm
    simp only [List.length_append, List.length_cons] at this
    omega
  · rw [hm]; simp
def cutB (c : UInt8) (l : List UInt8) : Bool := decide (0 ≤ Lib.indexByte l c)
theorem ext_lo (l : List UInt8) (i : Nat) : (⟨l.toArray⟩ : ByteArray).extract 0 i = ⟨(l.take i).toArray⟩ := by
  apply ByteArray.ext
  rw [ByteArray.data_extract]
  simp
theorem ext_hi (l : List UInt8) (i : Nat) : (⟨l.toArray⟩ : ByteArray).extract i l.length = ⟨(l.drop i).toArray⟩ := by
  apply ByteArray.ext
  rw [ByteArray.data_extract]
  simp
  exact List.take_of_length_le (by simp)
theorem take_cut {l t d : List UInt8} {c : UInt8} (h : l = t ++ c :: d) : l.take t.length = t ∧ l.drop (t.length + 1) = d := by
  subst h
  exact ⟨List.take_left .., by rw [← List.drop_drop, List.drop_left]; rfl⟩
/-- What is left of the text behind k fields. -/
def rst (l : List UInt8) : Nat → List UInt8
  | 0 => l
  | k + 1 => (cutAt 46 (rst l k)).2
/-- Field number k of the first three. -/
def fld (l : List UInt8) (k : Nat) : List UInt8 := (cutAt 46 (rst l k)).1
theorem rst_len (l : List UInt8) : ∀ k, (rst l k).length ≤ l.length
  | 0 => Nat.le_refl _
  | k + 1 => Nat.le_trans (cut_len 46 _).2 (rst_len l k)
def fls (l : List UInt8) : Nat → Array Value
  | 0 => #[bstr [], bstr [], bstr [], bstr []]
  | 1 => #[bstr (fld l 0), bstr [], bstr [], bstr []]
  | 2 => #[bstr (fld l 0), bstr (fld l 1), bstr [], bstr []]
  | 3 => #[bstr (fld l 0), bstr (fld l 1), bstr (fld l 2), bstr []]
  | _ => #[bstr (fld l 0), bstr (fld l 1), bstr (fld l 2), bstr (rst l 3)]

end Go.Proofs.YtdeblmolgmadiaaDoor
