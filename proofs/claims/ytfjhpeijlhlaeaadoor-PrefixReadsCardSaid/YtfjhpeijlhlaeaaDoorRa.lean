
/-
  The document's prefixes: Octet, bit, Of, May, Bytes, each in whatever memory: the same plain answers as the program's.
-/
import Derived.Test.YtfjhpeijlhlaeaaDoorPl
namespace Go.Proofs.YtfjhpeijlhlaeaaDoor
open Go.RowKit

theorem div_next (x a j k : Nat) (h : k ≤ j) : x / a ^ (j - k) / a = x / a ^ (j + 1 - k) := by
  have e : j + 1 - k = (j - k) + 1 := by omega
  rw [e, Nat.pow_succ, Nat.div_div_eq_div_mul]
theorem octet_any (x k : Nat) (hx : x < 4294967296) (hk : k ≤ 3) (w : World) :
    Calls Tryd.prog 46 #[.int .u32 (x : Int), .int .i64 (k : Int)] w fun e w' => e = .returned (.int .i64 (oct x k : Nat)) ∧ w = w' := by
  go_enter Tryd.func46, Tryd.ntmps46
  go_wp2
  go_loop [0, 5] (fun v i => ∃ j y : Nat, k ≤ j ∧ j ≤ 3 ∧ i = .int .i64 j ∧ v = .int .u32 (y : Int) ∧ y < 4294967296 ∧ Hid (y = x / 256 ^ (j - k))) (fun _ i => 3 - (intOf i).toNat)
  case atStart => exact ⟨k, x, Nat.le_refl _, hk, rfl, rfl, hx, Lib.hid (by simp)⟩
  case round =>
    obtain ⟨j, y, hkj, hj, rfl, rfl, hy, HY⟩ := hrel
    by_cases hlt : j < 3
    · go_wp2
      go_round
      case rel => exact ⟨j + 1, y / 256, by omega, by omega, by go_num, by go_num, by omega, Lib.hid (by rw [HY.out, div_next x 256 j k hkj])⟩
      case measure => simp [intOf]; omega
    · obtain rfl : j = 3 := by omega
      have HE := Lib.hid (show y % 256 = oct x k by
        rw [HY.out]
        unfold oct
        rw [Nat.pow_mul])
      go_wp2
      go_ret
      exact ⟨ret_int (by rw [← HE.out]; omega), rfl⟩

theorem rbit_any (x k : Nat) (hx : x < 4294967296) (hk : k ≤ 31) (w : World) :
    Calls Tryd.prog 43 #[.int .u32 (x : Int), .int .i64 (k : Int)] w fun e w' => e = .returned (.bool (decide (x / 2 ^ (31 - k) % 2 = 1))) ∧ w = w' := by
  go_enter Tryd.func43, Tryd.ntmps43
  go_wp2
  go_loop [0, 5] (fun v i => ∃ j y : Nat, k ≤ j ∧ j ≤ 31 ∧ i = .int .i64 j ∧ v = .int .u32 (y : Int) ∧ y < 4294967296 ∧ Hid (y = x / 2 ^ (j - k))) (fun _ i => 31 - (intOf i).toNat)
  case atStart => exact ⟨k, x, Nat.le_refl _, hk, rfl, rfl, hx, Lib.hid (by simp)⟩
  case round =>
    obtain ⟨j, y, hkj, hj, rfl, rfl, hy, HY⟩ := hrel
    by_cases hlt : j < 31
    · go_wp2
      go_round
      case rel => exact ⟨j + 1, y / 2, by omega, by omega, by go_num, by go_num, by omega, Lib.hid (by rw [HY.out, div_next x 2 j k hkj])⟩
      case measure => simp [intOf]; omega
    · obtain rfl : j = 31 := by omega
      go_wp2
      go_ret
      refine ⟨ret_bool ?_, rfl⟩
      rw [← HY.out, Bool.eq_iff_iff]
      simp
      omega

/-- The first k bits of what is made, bit by bit. -/
def mk (x b : Nat) : Nat → Nat
  | 0 => 0
  | k + 1 => mk x b k * 2 + (if k < b ∧ x / 2 ^ (31 - k) % 2 = 1 then 1 else 0)
theorem mk_eq (x b : Nat) (hx : x < 4294967296) : ∀ k, k ≤ 32 → mk x b k = if k ≤ b then x / 2 ^ (32 - k) else x / 2 ^ (32 - b) * 2 ^ (k - b)
  | 0, _ => by
    have : x / 2 ^ 32 = 0 := Nat.div_eq_of_lt (by omega)
    simp [mk, this]
  | k + 1, hk => by
    have ih := mk_eq x b hx k (by omega)
    have e : x / 2 ^ (32 - k) = x / 2 ^ (31 - k) / 2 := by rw [show 32 - k = 31 - k + 1 from by omega, Nat.pow_succ, Nat.div_div_eq_div_mul]
    unfold mk
    by_cases h1 : k + 1 ≤ b
    · rw [ih, if_pos (by omega), if_pos h1, e, show 32 - (k + 1) = 31 - k from by omega]
      generalize x / 2 ^ (31 - k) = y
      by_cases h2 : y % 2 = 1
      · rw [if_pos ⟨by omega, h2⟩]; omega
      · rw [if_neg (fun h => h2 h.2)]; omega
    · rw [if_neg h1, if_neg (fun h => h1 (by omega)), ih]
      by_cases h3 : k ≤ b
      · obtain rfl : k = b := by omega
        rw [if_pos (Nat.le_refl _)]
        simp
      · rw [if_neg h3, Nat.mul_assoc, show k + 1 - b = k - b + 1 from by omega, Nat.pow_succ, Nat.add_zero]
theorem mk_low (x b : Nat) (hx : x < 4294967296) (hb : b ≤ 32) : mk x b 32 = low x b := by
  rw [mk_eq x b hx 32 (Nat.le_refl _)]
  unfold low
  by_cases h : 32 ≤ b
  · obtain rfl : b = 32 := by omega
    simp
  · rw [if_neg h]
theorem mk_lt (x b : Nat) (k : Nat) : mk x b k < 2 ^ k := by
  induction k with
  | zero => simp [mk]
  | succ k ih =>
    unfold mk
    rw [Nat.pow_succ]
    split <;> omega
end Go.Proofs.YtfjhpeijlhlaeaaDoor
