
/-
  Prefixes: masks and the calls Of, May, Has, Contains, Bit, Compare, each in whatever memory.
-/
import Derived.Test.YtdhbfhjlholnlaaGreatDoorAp
import Derived.Test.YtdhbfhjlholnlaaGreatDoorUp
import Derived.Test.YtdhbfhjlholnlaaGreatDoorPe
import Derived.Laws.BitsAllLaws
import Derived.Deep.RegionHeld3
import Derived.WalkLawsBesides
import Derived.WalkSpells
namespace Go.Proofs.YtdhbfhjlholnlaaGreatDoor
open Go.RowKit

/-- The first b bits of x, the others 0. -/
def low (x b : Nat) : Nat := x / 2 ^ (32 - b) * 2 ^ (32 - b)
/-- Brought to 0 to 32. -/
def cl (b : Int) : Nat := if b < 0 then 0 else if 32 < b then 32 else b.toNat
theorem cl_le (b : Int) : cl b ≤ 32 := by unfold cl; split; omega; split; omega; omega
theorem low_le (x b : Nat) : low x b ≤ x := Nat.div_mul_le_self _ _

theorem and_high (x k : Nat) (hx : x < 4294967296) (hk : k ≤ 32) : x &&& (4294967296 - 2 ^ k) = x / 2 ^ k * 2 ^ k := by
  have hm : 4294967296 - 2 ^ k = (2 ^ (32 - k) - 1) * 2 ^ k := by
    rw [Nat.sub_mul, Nat.one_mul, ← Nat.pow_add, Nat.sub_add_cancel hk]
  rw [hm]
  apply Nat.eq_of_testBit_eq
  intro i
  rw [Nat.testBit_and, Nat.testBit_mul_two_pow, Nat.testBit_mul_two_pow, Nat.testBit_two_pow_sub_one, Nat.testBit_div_two_pow]
  by_cases hi : k ≤ i
  · by_cases h32 : i < 32
    · have h3 : i - k < 32 - k := by omega
      simp [hi, h3]
    · have hz : x.testBit i = false := Nat.testBit_lt_two_pow (Nat.lt_of_lt_of_le hx (by
        have : (2:Nat) ^ 32 ≤ 2 ^ i := Nat.pow_le_pow_right (by omega) (by omega)
        omega))
      simp [hi, hz]
  · simp [hi]

def msk (b : Nat) : Nat := 4294967296 - 2 ^ (32 - b)
theorem msk_eq : ∀ k : Fin 33, (4294967295 * 2 ^ k.val % 4294967296 : Int) = ((4294967296 - 2 ^ k.val : Nat) : Int) := by decide
theorem msk_and (x b : Nat) (hx : x < 4294967296) (hb : b ≤ 32) : bits .and .u32 (x : Int) (msk b : Int) = ((low x b : Nat) : Int) := by
  have hm : msk b < 4294967296 := by
    have : 0 < (2 : Nat) ^ (32 - b) := Nat.pow_pos (by omega)
    unfold msk; omega
  rw [u32_and_nat x (msk b) hx hm]
  unfold msk low
  rw [and_high x (32 - b) hx (by omega)]

theorem mask_any (b : Nat) (h1 : b ≤ 32) (w : World) :
    Calls Tryz.prog 122 #[.int .i64 (b : Int)] w fun e w' => e = .returned (.int .u32 (msk b : Int)) ∧ w = w' := by
  have HM := Lib.hid (msk_eq ⟨32 - b, by omega⟩)
  have h2 : (b : Int) ≤ 32 := by omega
  go_enter Tryz.func122, Tryz.ntmps122
  go_wp2
  go_ret
  exact ⟨ret_int HM.out, rfl⟩

theorem of_in (x b : Nat) (hx : x < 4294967296) (hb : b ≤ 32) (w : World) :
    Calls Tryz.prog 91 #[.int .u32 (x : Int), .int .i64 (b : Int)] w fun e w' => e = .returned (.agg #[.int .u32 (low x b : Nat), .int .i64 (b : Nat)]) ∧ Kept Nothing w w' := by
  have HA := Lib.hid (msk_and x b hx hb)
  have h2 : (b : Int) ≤ 32 := by omega
  go_enter Tryz.func91, Tryz.ntmps91
  go_wp2_with (go_at_call 122; refine (mask_any b hb _).mono ?_; rintro e w' ⟨rfl, rfl⟩)
  refine bodyPost_ret (v := .agg #[.int .u32 (low x b : Nat), .int .i64 (b : Nat)]) (by simp [results, Tryz.results91, go_sem, HA.out]) rfl ⟨rfl, (Kept.refl _ w).alloc _⟩
theorem of_any (x : Nat) (b : Int) (hx : x < 4294967296) (w : World) :
    Calls Tryz.prog 91 #[.int .u32 (x : Int), .int .i64 b] w fun e w' => e = .returned (.agg #[.int .u32 (low x (cl b) : Nat), .int .i64 (cl b : Nat)]) ∧ Kept Nothing w w' := by
  by_cases h0 : b < 0
  · have hc : cl b = 0 := by unfold cl; rw [if_pos h0]
    have HA := Lib.hid (msk_and x 0 hx (by omega))
    have h3 : ¬ (32 : Int) < 0 := by omega
    rw [hc]
    clear hc
    go_enter Tryz.func91, Tryz.ntmps91
    go_wp2_with (go_at_call 122; refine (mask_any 0 (by omega) _).mono ?_; rintro e w' ⟨rfl, rfl⟩)
    refine bodyPost_ret (v := .agg #[.int .u32 (low x 0 : Nat), .int .i64 ((0 : Nat) : Int)]) (by simp [results, Tryz.results91, go_sem, HA.out]) rfl ⟨rfl, (Kept.refl _ w).alloc _⟩
  · by_cases h1 : 32 < b
    · have hc : cl b = 32 := by unfold cl; rw [if_neg h0, if_pos h1]
      have HA := Lib.hid (msk_and x 32 hx (by omega))
      rw [hc]
      clear hc
      go_enter Tryz.func91, Tryz.ntmps91
      go_wp2_with (go_at_call 122; refine (mask_any 32 (by omega) _).mono ?_; rintro e w' ⟨rfl, rfl⟩)
      refine bodyPost_ret (v := .agg #[.int .u32 (low x 32 : Nat), .int .i64 ((32 : Nat) : Int)]) (by simp [results, Tryz.results91, go_sem, HA.out]) rfl ⟨rfl, (Kept.refl _ w).alloc _⟩
    · obtain ⟨n, rfl⟩ : ∃ n : Nat, b = n := ⟨b.toNat, by omega⟩
      have hc : cl (n : Int) = n := by unfold cl; rw [if_neg h0, if_neg h1]; omega
      rw [hc]
      exact of_in x n hx (by omega) w

def may (x : Nat) (b : Int) : Bool := decide ((x : Int) = (low x (cl b) : Nat)) && decide (b = (cl b : Nat))
def has (x : Nat) (b : Int) (y : Nat) : Bool := decide ((x : Int) = (low y (cl b) : Nat)) && decide (b = (cl b : Nat))
def contains (x : Nat) (b : Int) (y : Nat) (c : Int) : Bool := may y c && decide (b ≤ c) && has x b y
def bitAt (x : Nat) (k : Int) : Bool := decide (0 ≤ k) && decide (k < 32) && decide (x / 2 ^ (31 - k.toNat) % 2 = 1)
theorem isNaN_ip (x : Int) (w : World) : Calls Tryz.prog 180 #[.int .u32 x] w fun e w' => e = .returned (.bool false) ∧ w = w' := by
  go_enter Tryz.func180, Tryz.ntmps180
  go_wp2
  go_ret
  exact ⟨by simp, rfl⟩
theorem isNaN_int (x : Int) (w : World) : Calls Tryz.prog 181 #[.int .i64 x] w fun e w' => e = .returned (.bool false) ∧ w = w' := by
  go_enter Tryz.func181, Tryz.ntmps181
  go_wp2
  go_ret
  exact ⟨by simp, rfl⟩
def cmpI (x y : Int) : Int := if x < y then -1 else if y < x then 1 else 0
theorem cmp_ip (x y : Int) (w : World) : Calls Tryz.prog 153 #[.int .u32 x, .int .u32 y] w fun e w' => e = .returned (.int .i64 (cmpI x y)) ∧ w = w' := by
  go_enter Tryz.func153, Tryz.ntmps153
  go_wp2_with (go_at_call 180; refine (isNaN_ip _ _).mono ?_; rintro e w' ⟨rfl, rfl⟩)
  all_goals (go_ret; exact ⟨ret_int (by unfold cmpI; split <;> first | rfl | omega | (split <;> first | rfl | omega)), rfl⟩)
theorem cmp_int (x y : Int) (w : World) : Calls Tryz.prog 154 #[.int .i64 x, .int .i64 y] w fun e w' => e = .returned (.int .i64 (cmpI x y)) ∧ w = w' := by
  go_enter Tryz.func154, Tryz.ntmps154
  go_wp2_with (go_at_call 181; refine (isNaN_int _ _).mono ?_; rintro e w' ⟨rfl, rfl⟩)
  all_goals (go_ret; exact ⟨ret_int (by unfold cmpI; split <;> first | rfl | omega | (split <;> first | rfl | omega)), rfl⟩)
def cmpP (x : Int) (b : Int) (y : Int) (c : Int) : Int := if cmpI x y = 0 then cmpI b c else cmpI x y
theorem compare_any (x y b c : Int) (w : World) :
    Calls Tryz.prog 111 #[.agg #[.int .u32 x, .int .i64 b], .agg #[.int .u32 y, .int .i64 c]] w fun e w' => e = .returned (.int .i64 (cmpP x b y c)) ∧ Kept Nothing w w' := by
  by_cases h : cmpI x y = 0
  · have HR := Lib.hid (show cmpP x b y c = cmpI b c by unfold cmpP; rw [if_pos h])
    have hd : (cmpI x y != 0) = false := by simpa using h
    have hd2 : (cmpI x y == 0) = true := by simpa using h
    rw [HR.out]
    clear h
    go_enter Tryz.func111, Tryz.ntmps111
    go_wp2_with (first | (go_at_call 153; refine (cmp_ip _ _ _).mono ?_; rintro e w' ⟨rfl, rfl⟩) | (go_at_call 154; refine (cmp_int _ _ _).mono ?_; rintro e w' ⟨rfl, rfl⟩))
    go_ret
    exact ⟨rfl, ((Kept.refl _ w).alloc _).alloc _⟩
  · have HR := Lib.hid (show cmpP x b y c = cmpI x y by unfold cmpP; rw [if_neg h])
    have hd : (cmpI x y != 0) = true := by simpa using h
    have hd2 : (cmpI x y == 0) = false := by simpa using h
    rw [HR.out]
    clear h
    go_enter Tryz.func111, Tryz.ntmps111
    go_wp2_with (first | (go_at_call 153; refine (cmp_ip _ _ _).mono ?_; rintro e w' ⟨rfl, rfl⟩) | (go_at_call 154; refine (cmp_int _ _ _).mono ?_; rintro e w' ⟨rfl, rfl⟩))
    go_ret
    exact ⟨rfl, ((Kept.refl _ w).alloc _).alloc _⟩
end Go.Proofs.YtdhbfhjlholnlaaGreatDoor
