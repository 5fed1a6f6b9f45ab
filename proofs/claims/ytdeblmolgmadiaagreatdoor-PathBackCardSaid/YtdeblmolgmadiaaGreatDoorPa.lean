
/-
  Prefixes: masks and the calls Of, May, Has, Contains, Bit, Compare, each in whatever memory.
-/
import Derived.Test.YtdeblmolgmadiaaGreatDoorAp
import Derived.Test.YtdeblmolgmadiaaGreatDoorUp
import Derived.Test.YtdeblmolgmadiaaGreatDoorPe
import Derived.Laws.BitsAllLaws
import Derived.Deep.RegionHeld3
import Derived.WalkLawsBesides
import Derived.WalkSpells
namespace Go.Proofs.YtdeblmolgmadiaaGreatDoor
open Go.RowKit

/-- The first b bits of x, the others 0. -/
def low (x b : Nat) : Nat := x / 2 ^ (32 - b) * 2 ^ (32 - b)
/-- Brought to 0 to 32. -/
def cl (b : Int) : Nat := if b < 0 then 0 else if 32 < b then 32 else b.toNat
theorem cl_le (b : Int) : cl b ≤ 32 := by unfold cl; split; omega; split; omega; omega
theorem low_le (x b : Nat) : low x b ≤ x := Nat.div_mul_le_self _ _

theorem and_high (x k : Nat) (hx : x < 4294967296) (hk : k ≤ 32) : x &&& (4294967296 - 2 ^ k) = x / 2 ^ k * 2 ^ k := by
  have hm : 4294967296 - 2 ^ k = (2 ^ (32 - k) - 1) * 2 ^ k := by
    rw [Nat.sub_mul, Nat.one_mul, ← Nat.pow_add, Nat.sub_add_cancel hk]
  rw [hm]
  apply Nat.eq_of_testBit_eq
  intro i
  rw [Nat.testBit_and, Nat.testBit_mul_two_pow, Nat.testBit_mul_two_pow, Nat.testBit_two_pow_sub_one, Nat.testBit_div_two_pow]
  by_cases hi : k ≤ i
  · by_cases h32 : i < 32
    · have h3 : i - k < 32 - k := by omega
      simp [hi, h3]
    · have hz : x.testBit i = false := Nat.testBit_lt_two_pow (Nat.lt_of_lt_of_le hx (by
        have : (2:Nat) ^ 32 ≤ 2 ^ i := Nat.pow_le_pow_right (by omega) (by omega)
        omega))
      simp [hi, hz]
  · simp [hi]

def msk (b : Nat) : Nat := 4294967296 - 2 ^ (32 - b)
theorem msk_eq : ∀ k : Fin 33, (4294967295 * 2 ^ k.val % 4294967296 : Int) = ((4294967296 - 2 ^ k.val : Nat) : Int) := by decide
theorem msk_and (x b : Nat) (hx : x < 4294967296) (hb : b ≤ 32) : bits .and .u32 (x : Int) (msk b : Int) = ((low x b : Nat) : Int) := by
  have hm : msk b < 4294967296 := by
    have : 0 < (2 : Nat) ^ (32 - b) := Nat.pow_pos (by omega)
    unfold msk; omega
  rw [u32_and_nat x (msk b) hx hm]
  unfold msk low
  rw [and_high x (32 - b) hx (by omega)]

def may (x : Nat) (b : Int) : Bool := decide ((x : Int) = (low x (cl b) : Nat)) && decide (b = (cl b : Nat))
def has (x : Nat) (b : Int) (y : Nat) : Bool := decide ((x : Int) = (low y (cl b) : Nat)) && decide (b = (cl b : Nat))
def contains (x : Nat) (b : Int) (y : Nat) (c : Int) : Bool := may y c && decide (b ≤ c) && has x b y
def bitAt (x : Nat) (k : Int) : Bool := decide (0 ≤ k) && decide (k < 32) && decide (x / 2 ^ (31 - k.toNat) % 2 = 1)
def cmpI (x y : Int) : Int := if x < y then -1 else if y < x then 1 else 0
def cmpP (x : Int) (b : Int) (y : Int) (c : Int) : Int := if cmpI x y = 0 then cmpI b c else cmpI x y
end Go.Proofs.YtdeblmolgmadiaaGreatDoor
