
/-
  Texts read: digits, a text cut at a sign, an address.
-/
import Derived.Test.YtfjhpeijlhlaeaaDoorPb
namespace Go.Proofs.YtfjhpeijlhlaeaaDoor
open Go.RowKit

def isD (c : UInt8) : Bool := decide (48 ≤ c.toNat) && decide (c.toNat ≤ 57)
def numV (l : List UInt8) : Nat := l.foldl (fun n c => n * 10 + (c.toNat - 48)) 0
def numOk (l : List UInt8) : Bool := decide (0 < l.length) && decide (l.length ≤ 10) && !(decide (l.getD 0 0 = 48) && decide (1 < l.length)) && l.all isD
/-- The number that the digits tell, if they are one. -/
def num (l : List UInt8) : Option Nat := if numOk l = true then some (numV l) else none

theorem numV_snoc (l : List UInt8) (c : UInt8) : numV (l ++ [c]) = numV l * 10 + (c.toNat - 48) := by unfold numV; rw [List.foldl_append]; rfl
theorem numV_from : ∀ (l : List UInt8) (n : Nat), l.all isD = true → l.foldl (fun n c => n * 10 + (c.toNat - 48)) n < (n + 1) * 10 ^ l.length
  | [], n, _ => by simp
  | c :: l, n, h => by
    rw [List.all_cons, Bool.and_eq_true] at h
    have h1 := numV_from l (n * 10 + (c.toNat - 48)) h.2
    have h2 : c.toNat ≤ 57 := by have := h.1; simp [isD] at this; exact this.2
    have h3 : (n * 10 + (c.toNat - 48) + 1) * 10 ^ l.length ≤ (n + 1) * 10 * 10 ^ l.length := Nat.mul_le_mul_right _ (by omega)
    rw [List.length_cons, Nat.pow_succ, Nat.mul_comm (10 ^ l.length) 10, ← Nat.mul_assoc]
    exact Nat.lt_of_lt_of_le h1 h3
theorem numV_lt (l : List UInt8) (h : l.all isD = true) : numV l < 10 ^ l.length := by
  have := numV_from l 0 h
  unfold numV
  simpa using this
theorem take_snoc (s : ByteArray) (k : Nat) (h : k < s.size) : s.data.toList.take (k + 1) = s.data.toList.take k ++ [s[k]] := by
  rw [List.take_succ_eq_append_getElem (by simpa using h)]; rfl

theorem num_bad (s : ByteArray) (k : Nat) (hk : k < s.size) (h : s[k].toNat < 48 ∨ 57 < s[k].toNat) : num s.data.toList = none := by
  unfold num
  rw [if_neg]
  intro ho
  unfold numOk at ho
  simp only [Bool.and_eq_true] at ho
  have hm : s[k] ∈ s.data.toList := by
    have e : s[k] = s.data.toList[k]'(by simpa using hk) := rfl
    rw [e]
    exact List.getElem_mem _
  have := List.all_eq_true.1 ho.2 s[k] hm
  simp [isD] at this
  omega
theorem num_short (s : ByteArray) (h : s.size = 0 ∨ 10 < s.size) : num s.data.toList = none := by
  unfold num
  rw [if_neg]
  intro ho
  unfold numOk at ho
  simp at ho
  omega
theorem num_nought (s : ByteArray) (h1 : 1 < s.size) (h : s[0].toNat = 48) : num s.data.toList = none := by
  unfold num
  rw [if_neg]
  intro ho
  unfold numOk at ho
  have h2 : s.data.toList.getD 0 0 = s[0] := by rw [List.getD_eq_getElem?_getD, List.getElem?_eq_getElem (by simpa using (by omega : 0 < s.size))]; rfl
  rw [h2] at ho
  have h3 : s[0] = 48 := UInt8.toNat_inj.1 (by rw [h]; rfl)
  simp [h3] at ho
  omega
theorem num_good (s : ByteArray) (h0 : 0 < s.size) (h1 : s.size ≤ 10) (h2 : s[0].toNat ≠ 48 ∨ s.size ≤ 1) (h : s.data.toList.all isD = true) : num s.data.toList = some (numV s.data.toList) := by
  unfold num
  rw [if_pos]
  unfold numOk
  have h3 : s.data.toList.getD 0 0 = s[0] := by rw [List.getD_eq_getElem?_getD, List.getElem?_eq_getElem (by simpa using h0)]; rfl
  have h4 : s.data.toList.length = s.size := by simp
  rw [h3, h4, h]
  have h5 : (decide (s[0] = 48) && decide (1 < s.size)) = false := by
    rcases h2 with h2 | h2
    · have : s[0] ≠ 48 := fun e => h2 (by rw [e]; rfl)
      simp [this]
    · simp; omega
  rw [h5]
  simp [h0, h1]
theorem number_any (s : ByteArray) (hs : s.size ≤ 100000) (w : World) :
    Calls Tryd.prog 49 #[.string s] w fun e w' => e = .returned (.tuple #[.int .u64 ((num s.data.toList).getD 0 : Nat), .bool (num s.data.toList).isSome]) ∧ w = w' := by
  by_cases h0 : s.size = 0
  · have hN := Lib.hid (num_short s (.inl h0))
    have h1 : s.toList = [] := List.eq_nil_of_length_eq_zero (by rw [ByteArray.toList_eq]; simpa using h0)
    have h2 : s.toList.isEmpty = true := by rw [h1]; rfl
    go_enter Tryd.func49, Tryd.ntmps49
    go_wp2
    go_ret2
    exact ⟨by rw [hN.out]; rfl, rfl⟩
  have hpos : 0 < s.size := by omega
  have hl : s.toList.length = s.size := by rw [ByteArray.toList_eq]; simp
  have hne : ¬ s.toList = [] := fun e => by rw [e] at hl; simp at hl; omega
  have hE : s.toList.isEmpty = false := by simpa using hne
  clear hl h0
  by_cases h10 : 10 < s.size
  · have hN := Lib.hid (num_short s (.inr h10))
    have hi : (10 : Int) < (s.size : Int) := by omega
    go_enter Tryd.func49, Tryd.ntmps49
    go_wp2
    go_ret2
    exact ⟨by rw [hN.out]; rfl, rfl⟩
  have hle : (s.size : Int) ≤ 10 := by omega
  by_cases hc : s[0].toNat = 48 ∧ 1 < s.size
  · have hN := Lib.hid (num_nought s hc.2 hc.1)
    have hi : (1 : Int) < (s.size : Int) := by omega
    have hz : ((s[0].toNat : Int) == 48) = true := by simp [hc.1]
    clear hc
    go_enter Tryd.func49, Tryd.ntmps49
    go_wp2
    go_ret2
    exact ⟨by rw [hN.out]; rfl, rfl⟩
  have HG := Lib.hid (num_good s hpos (by omega) (by omega))
  have hparts : (((s[0].toNat : Int) == 48) = true ∧ (s.size : Int) ≤ 1) ∨ ((s[0].toNat : Int) == 48) = false := by
    by_cases h : s[0].toNat = 48
    · exact .inl ⟨by simp [h], by omega⟩
    · exact .inr (by simp; omega)
  clear hc
  rcases hparts with ⟨hz, h1⟩ | hz
  all_goals
    go_enter Tryd.func49, Tryd.ntmps49
    go_wp2
    go_loop [4, 25] (fun n i => ∃ k : Nat, k ≤ s.size ∧ i = .int .i64 k ∧ n = .int .u64 (numV (s.data.toList.take k) : Nat) ∧ Hid ((s.data.toList.take k).all isD = true)) (fun _ i => s.size - (intOf i).toNat)
    case atStart => exact ⟨0, by omega, rfl, rfl, Lib.hid rfl⟩
    case round =>
      obtain ⟨k, hk, rfl, rfl, HA⟩ := hrel
      by_cases hlt : k < s.size
      · have HB := Lib.hid (num_bad s k hlt)
        have HT := Lib.hid (take_snoc s k hlt)
        have hv : numV (s.data.toList.take k) < 10000000000 := by
          have := numV_lt _ HA.out
          have h2 : (10:Nat) ^ (s.data.toList.take k).length ≤ 10 ^ 10 := Nat.pow_le_pow_right (by omega) (by simp; omega)
          omega
        have hu : s[k].toNat < 256 := s[k].toNat_lt
        go_wp2
        all_goals first
          | (go_ret2
             exact ⟨by rw [HB.out (by omega)]; rfl, rfl⟩)
          | (go_round
             case rel => exact ⟨k + 1, by omega, by go_num, by rw [HT.out, numV_snoc]; go_num, Lib.hid (by rw [HT.out, List.all_append, HA.out]; simp [isD]; omega)⟩
             case measure => simp [intOf]; omega)
      · have hall : s.data.toList.take k = s.data.toList := List.take_of_length_le (by simp; omega)
        rw [hall] at HA ⊢
        have HN := Lib.hid (HG.out HA.out)
        clear hall
        go_wp2
        go_ret2
        exact ⟨by rw [HN.out]; rfl, rfl⟩
end Go.Proofs.YtfjhpeijlhlaeaaDoor
