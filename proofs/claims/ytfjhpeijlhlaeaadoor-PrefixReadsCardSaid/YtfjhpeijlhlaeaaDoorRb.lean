
/-
  The document's Of and May.
-/
import Derived.Test.YtfjhpeijlhlaeaaDoorRa
namespace Go.Proofs.YtfjhpeijlhlaeaaDoor
open Go.RowKit

set_option maxHeartbeats 1000000 in
theorem rof_any (x : Nat) (b : Int) (hx : x < 4294967296) (w : World) :
    Calls Tryd.prog 25 #[.int .u32 (x : Int), .int .i64 b] w fun e w' => e = .returned (.agg #[.int .u32 (low x (cl b) : Nat), .int .i64 (cl b : Nat)]) ∧ Kept Nothing w w' := by
  by_cases h0 : b < 0
  · have hc : cl b = 0 := by unfold cl; rw [if_pos h0]
    rw [hc]
    clear hc
    go_enter Tryd.func25, Tryd.ntmps25
    go_wp2
    go_loop [5, 6] (fun v i => ∃ k : Nat, k ≤ 32 ∧ i = .int .i64 k ∧ v = .int .u32 (mk x 0 k : Nat)) (fun _ i => 32 - (intOf i).toNat)
    case atStart => exact ⟨0, by omega, rfl, rfl⟩
    case round =>
      obtain ⟨k, hk, rfl, rfl⟩ := hrel
      by_cases hlt : k < 32
      · have hmk : mk x 0 k < 2147483648 := by
          have h1 := mk_lt x 0 k
          have h2 : (2 : Nat) ^ k ≤ 2 ^ 31 := Nat.pow_le_pow_right (by omega) (by omega)
          omega
        have HB := rbit_any x k hx (by omega)
        have hkn : ¬ k < 0 := by omega
        have hkn2 : ¬ (k : Int) < 0 := by omega
        have HS := Lib.hid (show mk x 0 (k + 1) = mk x 0 k * 2 by rw [mk, if_neg (fun h => hkn h.1)]; rfl)
        clear HB
        go_wp2
        go_round
        case rel => exact ⟨k + 1, by omega, by go_num, by rw [HS.out]; go_num⟩
        case measure => simp [intOf]; omega
      · obtain rfl : k = 32 := by omega
        have HE := Lib.hid (mk_low x 0 hx (by omega))
        go_wp2
        generalize mk x 0 32 = r at HE ⊢
        exact bodyPost_ret (v := .agg #[.int .u32 (r : Nat), .int .i64 0]) (by simp [results, Tryd.results25, go_sem]) rfl ⟨by rw [HE.out]; try rfl, (Kept.refl _ w).alloc _⟩
  · by_cases h1 : 32 < b
    · have hc : cl b = 32 := by unfold cl; rw [if_neg h0, if_pos h1]
      rw [hc]
      clear hc
      go_enter Tryd.func25, Tryd.ntmps25
      go_wp2
      go_loop [5, 6] (fun v i => ∃ k : Nat, k ≤ 32 ∧ i = .int .i64 k ∧ v = .int .u32 (mk x 32 k : Nat)) (fun _ i => 32 - (intOf i).toNat)
      case atStart => exact ⟨0, by omega, rfl, rfl⟩
      case round =>
        obtain ⟨k, hk, rfl, rfl⟩ := hrel
        by_cases hlt : k < 32
        · have hmk : mk x 32 k < 2147483648 := by
            have h1 := mk_lt x 32 k
            have h2 : (2 : Nat) ^ k ≤ 2 ^ 31 := Nat.pow_le_pow_right (by omega) (by omega)
            omega
          have HB := rbit_any x k hx (by omega)
          have hkn : k < 32 := hlt
          have hkn2 : (k : Int) < 32 := by omega
          by_cases hbit : x / 2 ^ (31 - k) % 2 = 1
          · have HS := Lib.hid (show mk x 32 (k + 1) = mk x 32 k * 2 + 1 by rw [mk, if_pos ⟨hkn, hbit⟩])
            have e : decide (x / 2 ^ (31 - k) % 2 = 1) = true := by simpa using hbit
            rw [e] at HB
            have HB := Lib.hid HB
            clear e hbit
            go_wp2_with (go_at_call 43; refine (HB.out _).mono ?_; rintro e w' ⟨rfl, rfl⟩)
            go_round
            case rel => exact ⟨k + 1, by omega, by go_num, by rw [HS.out]; go_num⟩
            case measure => simp [intOf]; omega
          · have HS := Lib.hid (show mk x 32 (k + 1) = mk x 32 k * 2 by rw [mk, if_neg (fun h => hbit h.2)]; rfl)
            have e : decide (x / 2 ^ (31 - k) % 2 = 1) = false := by simpa using hbit
            rw [e] at HB
            have HB := Lib.hid HB
            clear e hbit
            go_wp2_with (go_at_call 43; refine (HB.out _).mono ?_; rintro e w' ⟨rfl, rfl⟩)
            go_round
            case rel => exact ⟨k + 1, by omega, by go_num, by rw [HS.out]; go_num⟩
            case measure => simp [intOf]; omega
        · obtain rfl : k = 32 := by omega
          have HE := Lib.hid (mk_low x 32 hx (by omega))
          go_wp2
          generalize mk x 32 32 = r at HE ⊢
          exact bodyPost_ret (v := .agg #[.int .u32 (r : Nat), .int .i64 32]) (by simp [results, Tryd.results25, go_sem]) rfl ⟨by rw [HE.out]; try rfl, (Kept.refl _ w).alloc _⟩
    · obtain ⟨n, rfl⟩ : ∃ n : Nat, b = n := ⟨b.toNat, by omega⟩
      have hc : cl (n : Int) = n := by unfold cl; rw [if_neg h0, if_neg h1]; omega
      rw [hc]
      clear hc
      go_enter Tryd.func25, Tryd.ntmps25
      go_wp2
      go_loop [5, 6] (fun v i => ∃ k : Nat, k ≤ 32 ∧ i = .int .i64 k ∧ v = .int .u32 (mk x n k : Nat)) (fun _ i => 32 - (intOf i).toNat)
      case atStart => exact ⟨0, by omega, rfl, rfl⟩
      case round =>
        obtain ⟨k, hk, rfl, rfl⟩ := hrel
        by_cases hlt : k < 32
        · have hmk : mk x n k < 2147483648 := by
            have h1 := mk_lt x n k
            have h2 : (2 : Nat) ^ k ≤ 2 ^ 31 := Nat.pow_le_pow_right (by omega) (by omega)
            omega
          have HB := rbit_any x k hx (by omega)
          by_cases hkn : k < n
          · have hkn1 : decide (k < n) = true := by simpa using hkn
            by_cases hbit : x / 2 ^ (31 - k) % 2 = 1
            · have HS := Lib.hid (show mk x n (k + 1) = mk x n k * 2 + 1 by rw [mk, if_pos ⟨hkn, hbit⟩])
              have e : decide (x / 2 ^ (31 - k) % 2 = 1) = true := by simpa using hbit
              rw [e] at HB
              have HB := Lib.hid HB
              clear e hbit
              go_wp2_with (go_at_call 43; refine (HB.out _).mono ?_; rintro e w' ⟨rfl, rfl⟩)
              go_round
              case rel => exact ⟨k + 1, by omega, by go_num, by rw [HS.out]; go_num⟩
              case measure => simp [intOf]; omega
            · have HS := Lib.hid (show mk x n (k + 1) = mk x n k * 2 by rw [mk, if_neg (fun h => hbit h.2)]; rfl)
              have e : decide (x / 2 ^ (31 - k) % 2 = 1) = false := by simpa using hbit
              rw [e] at HB
              have HB := Lib.hid HB
              clear e hbit
              go_wp2_with (go_at_call 43; refine (HB.out _).mono ?_; rintro e w' ⟨rfl, rfl⟩)
              go_round
              case rel => exact ⟨k + 1, by omega, by go_num, by rw [HS.out]; go_num⟩
              case measure => simp [intOf]; omega
          · have hkn1 : decide (k < n) = false := by simpa using hkn
            have HS := Lib.hid (show mk x n (k + 1) = mk x n k * 2 by rw [mk, if_neg (fun h => hkn h.1)]; rfl)
            clear HB
            go_wp2
            go_round
            case rel => exact ⟨k + 1, by omega, by go_num, by rw [HS.out]; go_num⟩
            case measure => simp [intOf]; omega
        · obtain rfl : k = 32 := by omega
          have HE := Lib.hid (mk_low x n hx (by omega))
          go_wp2
          generalize mk x n 32 = r at HE ⊢
          exact bodyPost_ret (v := .agg #[.int .u32 (r : Nat), .int .i64 ((n : Nat) : Int)]) (by simp [results, Tryd.results25, go_sem]) rfl ⟨by rw [HE.out]; try rfl, (Kept.refl _ w).alloc _⟩
end Go.Proofs.YtfjhpeijlhlaeaaDoor
