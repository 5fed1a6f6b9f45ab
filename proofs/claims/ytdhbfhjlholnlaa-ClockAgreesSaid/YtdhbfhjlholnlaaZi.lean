
/-
  The laws ClockAgrees and ClockThirds.
-/
import Derived.Test.YtdhbfhjlholnlaaZh
namespace Go.Proofs.Ytdhbfhjlholnlaa
open Go.RowKit

theorem Ck.agreed_comm (a b : Int) : Ck.agreed b a = Ck.agreed a b := by
  unfold Ck.agreed
  rw [show min b a = min a b by omega]

theorem agrees_law (a b : Int) (ha : a < 9223372036854775808) (hb : b < 9223372036854775808) (w : World) :
    Calls Try.prog 4 #[.int .i64 a, .int .i64 b] w fun r w' => r = .returned (.bool true) ∧ Kept Nothing w w' := by
  have H1 := Lib.hid (fun w => ck_agreed a b ha hb w)
  have H2 := Lib.hid (fun w => rc_agreed a b ha hb w)
  clear ha hb
  generalize Ck.agreed a b = R at H1 H2
  obtain ⟨x, y⟩ := R
  have HW := Lib.hid ck_wakes
  have hx : (x == x) = true := beq_self_eq_true x
  have hy : (y == y) = true := beq_self_eq_true y
  go_enter Try.func4, Try.ntmps4
  go_wp2_with (first
    | (go_at_call 24; refine (H1.out _).mono ?_; rintro e w' ⟨rfl, rfl⟩)
    | (go_at_call 25; refine (H2.out _).mono ?_; rintro e w' ⟨rfl, rfl⟩)
    | (go_at_call 11; refine (HW.out _).mono ?_; rintro e w1 ⟨rfl, hk⟩))
  go_ret
  exact ⟨rfl, hk⟩

set_option maxHeartbeats 1000000 in
theorem thirds_law (a b : Int) (ha : a < 9223372036854775808) (hb : b < 9223372036854775808) (w : World) :
    Calls Try.prog 7 #[.int .i64 a, .int .i64 b] w fun r w' => r = .returned (.bool true) ∧ Kept Nothing w w' := by
  have H1 := Lib.hid (fun w => ck_agreed a b ha hb w)
  have H2 := Lib.hid (fun w => ck_agreed b a hb ha w)
  rw [Ck.agreed_comm] at H2
  have HW := Lib.hid ck_wakes
  have HA : Hid (Ck.agreed a b = if min a b ≤ 0 then (0, 0) else (min a b, if min a b < 3 then 1 else min a b / 3)) := Lib.hid rfl
  generalize Ck.agreed a b = R at HA H1 H2
  by_cases h0 : min a b ≤ 0
  · rw [if_pos h0] at HA
    obtain rfl := HA.out
    have hs : a ≤ 0 ∨ 0 < a ∧ b ≤ 0 := by omega
    clear h0 ha hb
    rcases hs with hs | ⟨hs, hs2⟩
    all_goals
      go_enter Try.func7, Try.ntmps7
      go_upto_region 2 with (go_at_call 24; refine (H1.out _).mono ?_; rintro e w' ⟨rfl, rfl⟩)
      go_wp2_with (first
        | (go_at_call 24; refine (H2.out _).mono ?_; rintro e w' ⟨rfl, rfl⟩)
        | (go_at_call 11; refine (HW.out _).mono ?_; rintro e w1 ⟨rfl, hk⟩))
      go_ret
      exact ⟨rfl, hk⟩
  · rw [if_neg h0] at HA
    have hm : (a ≤ b ∧ (min a b == a) = true) ∨ (b < a ∧ (min a b == a) = false ∧ (min a b == b) = true) := by
      simp only [beq_iff_eq, beq_eq_false_iff_ne]
      omega
    have hp : 0 < min a b := by omega
    have hma : min a b ≤ a := by omega
    have hmb : min a b ≤ b := by omega
    have hmx : min a b < 9223372036854775808 := by omega
    clear h0 ha hb
    generalize min a b = m at HA hm hp hma hmb hmx
    have hm0 : (m == 0) = false := by simp; omega
    have hmm : (m == m) = true := beq_self_eq_true m
    have ht : Int.tdiv m 3 = m / 3 := Int.tdiv_eq_ediv_of_nonneg (by omega)
    have hw : wrap64 (m / 3) = m / 3 := (by unfold wrap64; omega)
    have hw1 : wrap64 (m / 3 + 1) = m / 3 + 1 := (by unfold wrap64; omega)
    by_cases h3 : m < 3
    · rw [if_pos h3] at HA
      obtain rfl := HA.out
      have h1m : 1 ≤ m := by omega
      rcases hm with ⟨hab, hm1⟩ | ⟨hab, hm1, hm2⟩
      all_goals
        go_enter Try.func7, Try.ntmps7
        go_upto_region 2 with (go_at_call 24; refine (H1.out _).mono ?_; rintro e w' ⟨rfl, rfl⟩)
        go_wp2_with (first
          | (go_at_call 24; refine (H2.out _).mono ?_; rintro e w' ⟨rfl, rfl⟩)
          | (go_at_call 11; refine (HW.out _).mono ?_; rintro e w1 ⟨rfl, hk⟩))
        go_ret
        exact ⟨rfl, hk⟩
    · rw [if_neg h3] at HA
      obtain rfl := HA.out
      have h3m : 3 ≤ m := by omega
      have hk0 : (m / 3 == 0) = false := by simp; omega
      have hkk : (m / 3 == m / 3) = true := beq_self_eq_true _
      have hkp : 0 ≤ m / 3 := by omega
      have hkm : m / 3 ≤ m := by omega
      have hkl : m / 3 < m / 3 + 1 := by omega
      clear h3
      generalize m / 3 = k at *
      rcases hm with ⟨hab, hm1⟩ | ⟨hab, hm1, hm2⟩
      all_goals
        go_enter Try.func7, Try.ntmps7
        go_upto_region 2 with (go_at_call 24; refine (H1.out _).mono ?_; rintro e w' ⟨rfl, rfl⟩)
        go_wp2_with (first
          | (go_at_call 24; refine (H2.out _).mono ?_; rintro e w' ⟨rfl, rfl⟩)
          | (go_at_call 11; refine (HW.out _).mono ?_; rintro e w1 ⟨rfl, hk⟩))
        go_ret
        exact ⟨rfl, hk⟩
end Go.Proofs.Ytdhbfhjlholnlaa
