
/-
  How prefixes contain one another, as plain numbers.
-/
import Derived.Test.YtfjhpeijlhlaeaaDoorRh2
import Derived.Test.YtfjhpeijlhlaeaaDoorPi
namespace Go.Proofs.YtfjhpeijlhlaeaaDoor
open Go.RowKit

theorem nlow (x n m : Nat) (hm : m ≤ n) (hn : n ≤ 32) : low (low x n) m = low x m := by
  unfold low
  have e : 2 ^ (32 - m) = 2 ^ (32 - n) * 2 ^ (n - m) := by rw [← Nat.pow_add]; congr 1; omega
  rw [e, ← Nat.div_div_eq_div_mul, ← Nat.div_div_eq_div_mul, Nat.mul_div_cancel _ (Nat.pow_pos (by omega))]
theorem ncl (n : Nat) (h : n ≤ 32) : cl (n : Int) = n := by unfold cl; rw [if_neg (by omega), if_neg (by omega)]; omega
theorem nhas (x n y : Nat) (h : n ≤ 32) : has x (n : Int) y = decide (x = low y n) := by
  unfold has
  rw [ncl n h, decide_eq_true (show ((n : Nat) : Int) = ((n : Nat) : Int) from rfl), Bool.and_true, decide_eq_decide]
  omega
theorem nmay (x n : Nat) (h : n ≤ 32) : may x (n : Int) = decide (x = low x n) := by
  unfold may
  rw [ncl n h, decide_eq_true (show ((n : Nat) : Int) = ((n : Nat) : Int) from rfl), Bool.and_true, decide_eq_decide]
  omega
theorem ncontains (x n y m : Nat) (hn : n ≤ 32) (hm : m ≤ 32) (hy : y = low y m) : contains x (n : Int) y (m : Int) = (decide (n ≤ m) && decide (x = low y n)) := by
  unfold contains
  rw [nmay y m hm, nhas x n y hn, decide_eq_true hy, Bool.true_and]
  congr 1
  rw [decide_eq_decide]
  omega
/-- Two prefixes that may be: x of n bits, y of m bits; z: an address. -/
structure Two (x n y m z : Nat) : Prop where
  hn : n ≤ 32
  hm : m ≤ 32
  hx : x = low x n
  hy : y = low y m
  x32 : x < 4294967296
  y32 : y < 4294967296
  z32 : z < 4294967296
theorem Two.swap {x n y m z : Nat} (h : Two x n y m z) : Two y m x n z := ⟨h.hm, h.hn, h.hy, h.hx, h.y32, h.x32, h.z32⟩
/-- Whoever both have, one has the other. -/
theorem Two.t1 {x n y m z : Nat} (h : Two x n y m z) (h1 : has x (n : Int) z = true) (h2 : has y (m : Int) z = true) : contains x (n : Int) y (m : Int) = true ∨ contains y (m : Int) x (n : Int) = true := by
  rw [nhas _ _ _ h.hn] at h1
  rw [nhas _ _ _ h.hm] at h2
  have h1 : x = low z n := by simpa using h1
  have h2 : y = low z m := by simpa using h2
  rw [ncontains _ _ _ _ h.hn h.hm h.hy, ncontains _ _ _ _ h.hm h.hn h.hx]
  by_cases hl : n ≤ m
  · left
    rw [h2, nlow z m n hl h.hm]
    simp [hl, h1]
  · right
    rw [h1, nlow z n m (by omega) h.hn]
    simp [h2]
    omega
theorem Two.t2 {x n y m z : Nat} (h : Two x n y m z) (h1 : contains x (n : Int) y (m : Int) = true) (h2 : has y (m : Int) z = true) : has x (n : Int) z = true := by
  rw [ncontains _ _ _ _ h.hn h.hm h.hy] at h1
  rw [nhas _ _ _ h.hm] at h2
  have h1 : n ≤ m ∧ x = low y n := by simpa using h1
  have h2 : y = low z m := by simpa using h2
  rw [nhas _ _ _ h.hn, h1.2, h2, nlow z m n h1.1 h.hm]
  simp
theorem Two.t3 {x n y m z : Nat} (h : Two x n y m z) : (contains x (n : Int) y (m : Int) && contains y (m : Int) x (n : Int)) = (decide ((x : Int) = (y : Int)) && decide ((n : Int) = (m : Int))) := by
  rw [ncontains _ _ _ _ h.hn h.hm h.hy, ncontains _ _ _ _ h.hm h.hn h.hx, Bool.eq_iff_iff]
  simp only [Bool.and_eq_true, decide_eq_true_eq]
  constructor
  · rintro ⟨⟨a1, a2⟩, a3, a4⟩
    obtain rfl : n = m := by omega
    rw [← h.hy] at a2
    omega
  · rintro ⟨a1, a2⟩
    obtain rfl : x = y := by omega
    obtain rfl : n = m := by omega
    exact ⟨⟨Nat.le_refl _, h.hx⟩, Nat.le_refl _, h.hx⟩
theorem Two.t4 {x n y m z : Nat} (h : Two x n y m z) (h1 : contains x (n : Int) y (m : Int) = true) : ¬ 0 < cmpP x n y m := by
  rw [ncontains _ _ _ _ h.hn h.hm h.hy] at h1
  have h1 : n ≤ m ∧ x = low y n := by simpa using h1
  have := low_le y n
  unfold cmpP cmpI
  repeat' split
  all_goals omega
theorem Two.t5 {x n y m z : Nat} (h : Two x n y m z) : has x (n : Int) x = true := by rw [nhas _ _ _ h.hn]; exact decide_eq_true h.hx
theorem Two.t6 {x n y m z : Nat} (h : Two x n y m z) : contains x (n : Int) x (n : Int) = true := by rw [ncontains _ _ _ _ h.hn h.hn h.hx]; simp [h.hx.symm]
theorem ncmp (x n y m : Int) : (decide (cmpP x n y m < 0)) = decide (0 < cmpP y m x n) ∧ (cmpP x n y m == 0) = (decide (x = y) && decide (n = m)) := by
  constructor
  · rw [decide_eq_decide]
    unfold cmpP cmpI
    repeat' split
    all_goals omega
  · rw [Bool.eq_iff_iff]
    simp only [beq_iff_eq, Bool.and_eq_true, decide_eq_true_eq]
    unfold cmpP cmpI
    repeat' split
    all_goals omega
/-- 32 bits: one address. -/
theorem n32 (x z : Nat) : has x 32 z = decide ((z : Int) = (x : Int)) := by
  have := nhas x 32 z (by omega)
  rw [show ((32 : Nat) : Int) = 32 from rfl] at this
  rw [this, decide_eq_decide]
  unfold low
  simp
  omega
/-- A prefix in halves: the upper half's first address. -/
def upper (x n : Nat) : Nat := x + 2 ^ (31 - n)
theorem low_form {x n : Nat} (h : x = low x n) : ∃ u, x = u * 2 ^ (32 - n) := ⟨x / 2 ^ (32 - n), h⟩
theorem pow_two (n : Nat) (hn : n < 32) : 2 ^ (32 - n) = 2 * 2 ^ (31 - n) := by rw [← Nat.pow_succ']; congr 1; omega
theorem low_mul (u k : Nat) : low (u * 2 ^ (32 - k)) k = u * 2 ^ (32 - k) := by
  unfold low
  rw [Nat.mul_div_cancel _ (Nat.pow_pos (by omega))]
structure Half (x n z : Nat) : Prop where
  lowMay : x = low x (n + 1)
  upMay : upper x n = low (upper x n) (n + 1)
  upLow : low (upper x n) n = x
  up32 : upper x n < 4294967296
  or_ : x ||| 2 ^ (31 - n) = upper x n
  bitUp : bitAt (upper x n) (n : Int) = true
  bitLow : bitAt x (n : Int) = false
  one : (decide (x = low z (n + 1)) != decide (upper x n = low z (n + 1))) = decide (x = low z n)
theorem half {x n z : Nat} (hn : n < 32) (hx : x = low x n) (x32 : x < 4294967296) : Half x n z := by
  obtain ⟨u, hu⟩ := low_form hx
  have e2 := pow_two n hn
  have e1 : 32 - (n + 1) = 31 - n := by omega
  have hd : 0 < 2 ^ (31 - n) := Nat.pow_pos (by omega)
  have hp : 2 ^ (31 - n) * 2 ^ (n + 1) = 4294967296 := by rw [← Nat.pow_add, show 31 - n + (n + 1) = 32 by omega]
  have hup : upper x n = (2 * u + 1) * 2 ^ (31 - n) := by
    unfold upper
    rw [hu, e2, ← Nat.mul_assoc, Nat.mul_comm u 2, Nat.add_mul, Nat.one_mul]
  have hxx : x = 2 * u * 2 ^ (31 - n) := by rw [hu, e2, ← Nat.mul_assoc, Nat.mul_comm u 2]
  have hbit : 2 * u + 1 < 2 ^ (n + 1) := by
    have h1 : 2 * u * 2 ^ (31 - n) < 2 ^ (n + 1) * 2 ^ (31 - n) := by rw [← hxx, Nat.mul_comm (2 ^ (n + 1)), hp]; exact x32
    have h2 := Nat.lt_of_mul_lt_mul_right h1
    have h3 : 2 ^ (n + 1) = 2 * 2 ^ n := by rw [Nat.pow_succ, Nat.mul_comm]
    omega
  have l1 : ∀ v, low (v * 2 ^ (31 - n)) (n + 1) = v * 2 ^ (31 - n) := fun v => by
    have := low_mul v (n + 1)
    rw [e1] at this
    exact this
  have zn : low z n = z / 2 ^ (31 - n) / 2 * (2 * 2 ^ (31 - n)) := by unfold low; rw [e2, Nat.mul_comm 2 (2 ^ (31 - n)), ← Nat.div_div_eq_div_mul]
  have zn1 : low z (n + 1) = z / 2 ^ (31 - n) * 2 ^ (31 - n) := by unfold low; rw [e1]
  refine ⟨by rw [hxx, l1], by rw [hup, l1], ?_, ?_, ?_, ?_, ?_, ?_⟩
  · rw [hup, hxx]
    unfold low
    rw [e2, Nat.mul_comm 2 (2 ^ (31 - n)), ← Nat.div_div_eq_div_mul, Nat.mul_div_cancel _ hd, show (2 * u + 1) / 2 = u by omega, Nat.mul_comm (2 ^ (31 - n)) 2, ← Nat.mul_assoc, Nat.mul_comm u 2]
  · rw [hup, ← hp, Nat.mul_comm (2 ^ (31 - n)) (2 ^ (n + 1))]
    exact Nat.mul_lt_mul_of_pos_right hbit hd
  · have hm : x % 2 ^ (32 - n) = 0 := by rw [hu]; exact Nat.mul_mod_left _ _
    exact nat_join (32 - n) x (2 ^ (31 - n)) hm (by omega)
  · unfold bitAt
    rw [show ((n : Int)).toNat = n from Int.toNat_natCast n, hup, Nat.mul_div_cancel _ hd]
    simp
    omega
  · unfold bitAt
    rw [show ((n : Int)).toNat = n from Int.toNat_natCast n, hxx, Nat.mul_div_cancel _ hd]
    simp
  · rw [zn, zn1, hup, hxx]
    generalize z / 2 ^ (31 - n) = t
    have q1 : (2 * u * 2 ^ (31 - n) = t * 2 ^ (31 - n)) = (2 * u = t) := propext ⟨fun e => Nat.eq_of_mul_eq_mul_right hd e, fun e => by rw [e]⟩
    have q2 : ((2 * u + 1) * 2 ^ (31 - n) = t * 2 ^ (31 - n)) = (2 * u + 1 = t) := propext ⟨fun e => Nat.eq_of_mul_eq_mul_right hd e, fun e => by rw [e]⟩
    have q3 : (2 * u * 2 ^ (31 - n) = t / 2 * (2 * 2 ^ (31 - n))) = (u = t / 2) := propext ⟨fun e => by
      rw [← Nat.mul_assoc, Nat.mul_comm (t / 2) 2] at e
      have := Nat.eq_of_mul_eq_mul_right hd e
      omega, fun e => by rw [e, ← Nat.mul_assoc, Nat.mul_comm (t / 2) 2]⟩
    simp only [q1, q2, q3]
    by_cases a : 2 * u = t
    · have b : ¬ 2 * u + 1 = t := by omega
      have c : u = t / 2 := by omega
      simp [a]
      omega
    · by_cases b : 2 * u + 1 = t
      · have c : u = t / 2 := by omega
        rw [decide_eq_false a, decide_eq_true b, decide_eq_true c]
        rfl
      · have c : ¬ u = t / 2 := by omega
        rw [decide_eq_false a, decide_eq_false b, decide_eq_false c]
        rfl
end Go.Proofs.YtfjhpeijlhlaeaaDoor
