
/-
  Texts read: digits, a text cut at a sign, an address.
-/
import Derived.Test.YtdhbfhjlholnlaaGreatDoorPb
namespace Go.Proofs.YtdhbfhjlholnlaaGreatDoor
open Go.RowKit

def isD (c : UInt8) : Bool := decide (48 ≤ c.toNat) && decide (c.toNat ≤ 57)
def numV (l : List UInt8) : Nat := l.foldl (fun n c => n * 10 + (c.toNat - 48)) 0
def numOk (l : List UInt8) : Bool := decide (0 < l.length) && decide (l.length ≤ 10) && !(decide (l.getD 0 0 = 48) && decide (1 < l.length)) && l.all isD
/-- The number that the digits tell, if they are one. -/
def num (l : List UInt8) : Option Nat := if numOk l = true then some (numV l) else none

theorem numV_snoc (l : List UInt8) (c : UInt8) : numV (l ++ [c]) = numV l * 10 + (c.toNat - 48) := by unfold numV; rw [List.foldl_append]; rfl
theorem numV_from : ∀ (l : List UInt8) (n : Nat), l.all isD = true → l.foldl (fun n c => n * 10 + (c.toNat - 48)) n < (n + 1) * 10 ^ l.length
  | [], n, _ => by simp
  | c :: l, n, h => by
    rw [List.all_cons, Bool.and_eq_true] at h
    have h1 := numV_from l (n * 10 + (c.toNat - 48)) h.2
    have h2 : c.toNat ≤ 57 := by have := h.1; simp [isD] at this; exact this.2
    have h3 : (n * 10 + (c.toNat - 48) + 1) * 10 ^ l.length ≤ (n + 1) * 10 * 10 ^ l.length := Nat.mul_le_mul_right _ (by omega)
    rw [List.length_cons, Nat.pow_succ, Nat.mul_comm (10 ^ l.length) 10, ← Nat.mul_assoc]
    exact Nat.lt_of_lt_of_le h1 h3
theorem numV_lt (l : List UInt8) (h : l.all isD = true) : numV l < 10 ^ l.length := by
  have := numV_from l 0 h
  unfold numV
  simpa using this
theorem take_snoc (s : ByteArray) (k : Nat) (h : k < s.size) : s.data.toList.take (k + 1) = s.data.toList.take k ++ [s[k]] := by
  rw [List.take_succ_eq_append_getElem (by simpa using h)]; rfl

theorem num_bad (s : ByteArray) (k : Nat) (hk : k < s.size) (h : s[k].toNat < 48 ∨ 57 < s[k].toNat) : num s.data.toList = none := by
  unfold num
  rw [if_neg]
  intro ho
  unfold numOk at ho
  simp only [Bool.and_eq_true] at ho
  have hm : s[k] ∈ s.data.toList := by
    have e : s[k] = s.data.toList[k]'(by simpa using hk) := rfl
    rw [e]
    exact List.getElem_mem _
  have := List.all_eq_true.1 ho.2 s[k] hm
  simp [isD] at this
  omega
theorem num_short (s : ByteArray) (h : s.size = 0 ∨ 10 < s.size) : num s.data.toList = none := by
  unfold num
  rw [if_neg]
  intro ho
  unfold numOk at ho
  simp at ho
  omega
theorem num_nought (s : ByteArray) (h1 : 1 < s.size) (h : s[0].toNat = 48) : num s.data.toList = none := by
  unfold num
  rw [if_neg]
  intro ho
  unfold numOk at ho
  have h2 : s.data.toList.getD 0 0 = s[0] := by rw [List.getD_eq_getElem?_getD, List.getElem?_eq_getElem (by simpa using (by omega : 0 < s.size))]; rfl
  rw [h2] at ho
  have h3 : s[0] = 48 := UInt8.toNat_inj.1 (by rw [h]; rfl)
  simp [h3] at ho
  omega
theorem num_good (s : ByteArray) (h0 : 0 < s.size) (h1 : s.size ≤ 10) (h2 : s[0].toNat ≠ 48 ∨ s.size ≤ 1) (h : s.data.toList.all isD = true) : num s.data.toList = some (numV s.data.toList) := by
  unfold num
  rw [if_pos]
  unfold numOk
  have h3 : s.data.toList.getD 0 0 = s[0] := by rw [List.getD_eq_getElem?_getD, List.getElem?_eq_getElem (by simpa using h0)]; rfl
  have h4 : s.data.toList.length = s.size := by simp
  rw [h3, h4, h]
  have h5 : (decide (s[0] = 48) && decide (1 < s.size)) = false := by
    rcases h2 with h2 | h2
    · have : s[0] ≠ 48 := fun e => h2 (by rw [e]; rfl)
      simp [this]
    · simp; omega
  rw [h5]
  simp [h0, h1]
end Go.Proofs.YtdhbfhjlholnlaaGreatDoor
