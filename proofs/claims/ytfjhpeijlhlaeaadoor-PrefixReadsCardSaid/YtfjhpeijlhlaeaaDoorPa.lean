
/-
  Prefixes: masks and the calls Of, May, Has, Contains, Bit, Compare, each in whatever memory.
-/
import Derived.Test.YtfjhpeijlhlaeaaDoorAp
import Derived.Test.YtfjhpeijlhlaeaaDoorUp
import Derived.Test.YtfjhpeijlhlaeaaDoorPe
import Derived.Laws.BitsAllLaws
import Derived.Deep.RegionHeld3
import Derived.WalkLawsBesides
import Derived.WalkSpells
namespace Go.Proofs.YtfjhpeijlhlaeaaDoor
open Go.RowKit

/-- The first b bits of x, the others 0. -/
def low (x b : Nat) : Nat := x / 2 ^ (32 - b) * 2 ^ (32 - b)
/-- Brought to 0 to 32. -/
def cl (b : Int) : Nat := if b < 0 then 0 else if 32 < b then 32 else b.toNat
theorem cl_le (b : Int) : cl b ≤ 32 := by unfold cl; split; omega; split; omega; omega
theorem low_le (x b : Nat) : low x b ≤ x := Nat.div_mul_le_self _ _

theorem and_high (x k : Nat) (hx : x < 4294967296) (hk : k ≤ 32) : x &&& (4294967296 - 2 ^ k) = x / 2 ^ k * 2 ^ k := by
  have hm : 4294967296 - 2 ^ k = (2 ^ (32 - k) - 1) * 2 ^ k := by
    rw [Nat.sub_mul, Nat.one_mul, ← Nat.pow_add, Nat.sub_add_cancel hk]
  rw [hm]
  apply Nat.eq_of_testBit_eq
  intro i
  rw [Nat.testBit_and, Nat.testBit_mul_two_pow, Nat.testBit_mul_two_pow, Nat.testBit_two_pow_sub_one, Nat.testBit_div_two_pow]
  by_cases hi : k ≤ i
  · by_cases h32 : i < 32
    · have h3 : i - k < 32 - k := by omega
      simp [hi, h3]
    · have hz : x.testBit i = false := Nat.testBit_lt_two_pow (Nat.lt_of_lt_of_le hx (by
        have : (2:Nat) ^ 32 ≤ 2 ^ i := Nat.pow_le_pow_right (by omega) (by omega)
        omega))
      simp [hi, hz]
  · simp [hi]

def msk (b : Nat) : Nat := 4294967296 - 2 ^ (32 - b)
theorem msk_eq : ∀ k : Fin 33, (4294967295 * 2 ^ k.val % 4294967296 : Int) = ((4294967296 - 2 ^ k.val : Nat) : Int) := by decide
theorem msk_and (x b : Nat) (hx : x < 4294967296) (hb : b ≤ 32) : bits .and .u32 (x : Int) (msk b : Int) = ((low x b : Nat) : Int) := by
  have hm : msk b < 4294967296 := by
    have : 0 < (2 : Nat) ^ (32 - b) := Nat.pow_pos (by omega)
    unfold msk; omega
  rw [u32_and_nat x (msk b) hx hm]
  unfold msk low
  rw [and_high x (32 - b) hx (by omega)]

theorem mask_any (b : Nat) (h1 : b ≤ 32) (w : World) :
    Calls Tryd.prog 47 #[.int .i64 (b : Int)] w fun e w' => e = .returned (.int .u32 (msk b : Int)) ∧ w = w' := by
  have HM := Lib.hid (msk_eq ⟨32 - b, by omega⟩)
  have h2 : (b : Int) ≤ 32 := by omega
  go_enter Tryd.func47, Tryd.ntmps47
  go_wp2
  go_ret
  exact ⟨ret_int HM.out, rfl⟩

theorem of_in (x b : Nat) (hx : x < 4294967296) (hb : b ≤ 32) (w : World) :
    Calls Tryd.prog 24 #[.int .u32 (x : Int), .int .i64 (b : Int)] w fun e w' => e = .returned (.agg #[.int .u32 (low x b : Nat), .int .i64 (b : Nat)]) ∧ Kept Nothing w w' := by
  have HA := Lib.hid (msk_and x b hx hb)
  have h2 : (b : Int) ≤ 32 := by omega
  go_enter Tryd.func24, Tryd.ntmps24
  go_wp2_with (go_at_call 47; refine (mask_any b hb _).mono ?_; rintro e w' ⟨rfl, rfl⟩)
  refine bodyPost_ret (v := .agg #[.int .u32 (low x b : Nat), .int .i64 (b : Nat)]) (by simp [results, Tryd.results24, go_sem, HA.out]) rfl ⟨rfl, (Kept.refl _ w).alloc _⟩
theorem of_any (x : Nat) (b : Int) (hx : x < 4294967296) (w : World) :
    Calls Tryd.prog 24 #[.int .u32 (x : Int), .int .i64 b] w fun e w' => e = .returned (.agg #[.int .u32 (low x (cl b) : Nat), .int .i64 (cl b : Nat)]) ∧ Kept Nothing w w' := by
  by_cases h0 : b < 0
  · have hc : cl b = 0 := by unfold cl; rw [if_pos h0]
    have HA := Lib.hid (msk_and x 0 hx (by omega))
    have h3 : ¬ (32 : Int) < 0 := by omega
    rw [hc]
    clear hc
    go_enter Tryd.func24, Tryd.ntmps24
    go_wp2_with (go_at_call 47; refine (mask_any 0 (by omega) _).mono ?_; rintro e w' ⟨rfl, rfl⟩)
    refine bodyPost_ret (v := .agg #[.int .u32 (low x 0 : Nat), .int .i64 ((0 : Nat) : Int)]) (by simp [results, Tryd.results24, go_sem, HA.out]) rfl ⟨rfl, (Kept.refl _ w).alloc _⟩
  · by_cases h1 : 32 < b
    · have hc : cl b = 32 := by unfold cl; rw [if_neg h0, if_pos h1]
      have HA := Lib.hid (msk_and x 32 hx (by omega))
      rw [hc]
      clear hc
      go_enter Tryd.func24, Tryd.ntmps24
      go_wp2_with (go_at_call 47; refine (mask_any 32 (by omega) _).mono ?_; rintro e w' ⟨rfl, rfl⟩)
      refine bodyPost_ret (v := .agg #[.int .u32 (low x 32 : Nat), .int .i64 ((32 : Nat) : Int)]) (by simp [results, Tryd.results24, go_sem, HA.out]) rfl ⟨rfl, (Kept.refl _ w).alloc _⟩
    · obtain ⟨n, rfl⟩ : ∃ n : Nat, b = n := ⟨b.toNat, by omega⟩
      have hc : cl (n : Int) = n := by unfold cl; rw [if_neg h0, if_neg h1]; omega
      rw [hc]
      exact of_in x n hx (by omega) w

def may (x : Nat) (b : Int) : Bool := decide ((x : Int) = (low x (cl b) : Nat)) && decide (b = (cl b : Nat))
theorem may_any (x : Nat) (b : Int) (hx : x < 4294967296) (w : World) :
    Calls Tryd.prog 11 #[.agg #[.int .u32 (x : Int), .int .i64 b]] w fun e w' => e = .returned (.bool (may x b)) ∧ Kept Nothing w w' := by
  go_enter Tryd.func11, Tryd.ntmps11
  go_wp2_with fail
  have hk := (Kept.refl Nothing w).alloc (.cells #[.int .u32 (x : Int), .int .i64 b] 25)
  have hb := Blk.fresh w 25 #[.int .u32 (x : Int), .int .i64 b]
  generalize w.alloc _ = w0 at hk hb ⊢
  have d0 := up_cell (v := .int .u32 (x : Int)) (hb.cell 0)
  have d1 := up_cell (v := .int .i64 b) (hb.cell 1)
  clear hb
  have he := eq_pfx
  have hg := guard_pfx
  refine wp_region_up (by kernel_rfl) (by kernel_rfl) ?_
  repeat (go_big_quiet_step ((go_at_call 24; exact up_call (of_any x b hx _))))
  refine wpQuiet_nil ?_
  rintro _ ⟨⟨w1, hk1⟩, rfl⟩
  clear d0 d1 he hg
  go_wp2
  go_ret
  exact ⟨rfl, hk.trans hk1⟩

def has (x : Nat) (b : Int) (y : Nat) : Bool := decide ((x : Int) = (low y (cl b) : Nat)) && decide (b = (cl b : Nat))
theorem has_any (x y : Nat) (b : Int) (hy : y < 4294967296) (w : World) :
    Calls Tryd.prog 18 #[.agg #[.int .u32 (x : Int), .int .i64 b], .int .u32 (y : Int)] w fun e w' => e = .returned (.bool (has x b y)) ∧ Kept Nothing w w' := by
  go_enter Tryd.func18, Tryd.ntmps18
  go_wp2_with fail
  have hk := (Kept.refl Nothing w).alloc (.cells #[.int .u32 (x : Int), .int .i64 b] 25)
  have hb := Blk.fresh w 25 #[.int .u32 (x : Int), .int .i64 b]
  generalize w.alloc _ = w0 at hk hb ⊢
  have d0 := up_cell (v := .int .u32 (x : Int)) (hb.cell 0)
  have d1 := up_cell (v := .int .i64 b) (hb.cell 1)
  clear hb
  have he := eq_pfx
  have hg := guard_pfx
  refine wp_region_up (by kernel_rfl) (by kernel_rfl) ?_
  repeat (go_big_quiet_step ((go_at_call 24; exact up_call (of_any y b hy _))))
  refine wpQuiet_nil ?_
  rintro _ ⟨⟨w1, hk1⟩, rfl⟩
  clear d0 d1 he hg
  go_wp2
  go_ret
  exact ⟨rfl, hk.trans hk1⟩

def contains (x : Nat) (b : Int) (y : Nat) (c : Int) : Bool := may y c && decide (b ≤ c) && has x b y
theorem contains_any (x y : Nat) (b c : Int) (hy : y < 4294967296) (w : World) :
    Calls Tryd.prog 20 #[.agg #[.int .u32 (x : Int), .int .i64 b], .agg #[.int .u32 (y : Int), .int .i64 c]] w fun e w' => e = .returned (.bool (contains x b y c)) ∧ Kept Nothing w w' := by
  have HM := may_any y c hy
  have HH := has_any x y b hy
  cases hm : may y c with
  | false =>
    have HR := Lib.hid (show contains x b y c = false by unfold contains; rw [hm]; rfl)
    rw [hm] at HM
    have HM := Lib.hid HM
    clear hm
    rw [HR.out]
    go_enter Tryd.func20, Tryd.ntmps20
    go_wp2_with (go_at_call 11; refine (HM.out _).mono ?_; rintro e w1 ⟨rfl, hk1⟩)
    go_ret
    exact ⟨rfl, (((Kept.refl _ w).alloc _).alloc _).trans hk1⟩
  | true =>
    rw [hm] at HM
    have HM := Lib.hid HM
    by_cases hbc : b ≤ c
    · have HR := Lib.hid (show contains x b y c = has x b y by unfold contains; rw [hm]; simp [hbc])
      have HH := Lib.hid HH
      rw [HR.out]
      clear hm
      have hd : decide (b ≤ c) = true := by simpa using hbc
      go_enter Tryd.func20, Tryd.ntmps20
      go_wp2_with (first
        | (go_at_call 11; refine (HM.out _).mono ?_; rintro e w1 ⟨rfl, hk1⟩; have p0 : w1.cell? ⟨w.heap.size, 0, none⟩ = some (.int .u32 (x : Int)) := hk1.cell_some (by simp) (fun x => x); have p1 : w1.cell? ⟨w.heap.size, 1, none⟩ = some (.int .i64 b) := hk1.cell_some (by simp) (fun x => x); have q0 : w1.cell? ⟨w.heap.size + 1, 0, none⟩ = some (.int .u32 (y : Int)) := hk1.cell_some (by simp) (fun x => x); have q1 : w1.cell? ⟨w.heap.size + 1, 1, none⟩ = some (.int .i64 c) := hk1.cell_some (by simp) (fun x => x))
        | (go_at_call 18; refine (HH.out _).mono ?_; rintro e w2 ⟨rfl, hk2⟩))
      go_ret
      exact ⟨rfl, ((((Kept.refl _ w).alloc _).alloc _).trans hk1).trans hk2⟩
    · have HR := Lib.hid (show contains x b y c = false by unfold contains; simp [hbc])
      rw [HR.out]
      clear hm
      have hd : decide (b ≤ c) = false := by simpa using hbc
      go_enter Tryd.func20, Tryd.ntmps20
      go_wp2_with (go_at_call 11; refine (HM.out _).mono ?_; rintro e w1 ⟨rfl, hk1⟩; have p0 : w1.cell? ⟨w.heap.size, 0, none⟩ = some (.int .u32 (x : Int)) := hk1.cell_some (by simp) (fun x => x); have p1 : w1.cell? ⟨w.heap.size, 1, none⟩ = some (.int .i64 b) := hk1.cell_some (by simp) (fun x => x); have q0 : w1.cell? ⟨w.heap.size + 1, 0, none⟩ = some (.int .u32 (y : Int)) := hk1.cell_some (by simp) (fun x => x); have q1 : w1.cell? ⟨w.heap.size + 1, 1, none⟩ = some (.int .i64 c) := hk1.cell_some (by simp) (fun x => x))
      go_ret
      exact ⟨rfl, (((Kept.refl _ w).alloc _).alloc _).trans hk1⟩

def bitAt (x : Nat) (k : Int) : Bool := decide (0 ≤ k) && decide (k < 32) && decide (x / 2 ^ (31 - k.toNat) % 2 = 1)
theorem bit_any (x : Nat) (k : Int) (hx : x < 4294967296) (w : World) :
    Calls Tryd.prog 26 #[.int .u32 (x : Int), .int .i64 k] w fun e w' => e = .returned (.bool (bitAt x k)) ∧ w = w' := by
  by_cases h0 : 0 ≤ k
  · by_cases h1 : k < 32
    · obtain ⟨n, rfl⟩ : ∃ n : Nat, k = n := ⟨k.toNat, by omega⟩
      have HV := Lib.hid (show (bits .and .u32 ((x : Int) / 2 ^ (31 - n)) 1 == 1) = bitAt x (n : Int) by
        have h2 : x / 2 ^ (31 - n) ≤ x := Nat.div_le_self _ _
        have e1 : (x : Int) / 2 ^ (31 - n) = ((x / 2 ^ (31 - n) : Nat) : Int) := by simp
        rw [e1, show (1 : Int) = ((1 : Nat) : Int) from rfl, u32_and_nat _ 1 (by omega) (by omega), nat_mask1]
        unfold bitAt
        rw [Int.toNat_natCast]
        have h3 : ((n : Int) < 32) := h1
        simp only [h0, h3, decide_true, Bool.true_and]
        rw [Bool.eq_iff_iff]
        simp only [beq_iff_eq, decide_eq_true_eq]
        omega)
      rw [← HV.out]
      go_enter Tryd.func26, Tryd.ntmps26
      go_wp2
      go_ret
      exact ⟨rfl, rfl⟩
    · have HR := Lib.hid (show bitAt x k = false by unfold bitAt; simp [h1])
      rw [HR.out]
      have hd : decide (k < 32) = false := by simpa using h1
      go_enter Tryd.func26, Tryd.ntmps26
      go_wp2
      go_ret
      exact ⟨rfl, rfl⟩
  · have HR := Lib.hid (show bitAt x k = false by unfold bitAt; simp [h0])
    rw [HR.out]
    have hd : decide (0 ≤ k) = false := by simpa using h0
    go_enter Tryd.func26, Tryd.ntmps26
    go_wp2
    go_ret
    exact ⟨rfl, rfl⟩

theorem isNaN_ip (x : Int) (w : World) : Calls Tryd.prog 56 #[.int .u32 x] w fun e w' => e = .returned (.bool false) ∧ w = w' := by
  go_enter Tryd.func56, Tryd.ntmps56
  go_wp2
  go_ret
  exact ⟨by simp, rfl⟩
theorem isNaN_int (x : Int) (w : World) : Calls Tryd.prog 57 #[.int .i64 x] w fun e w' => e = .returned (.bool false) ∧ w = w' := by
  go_enter Tryd.func57, Tryd.ntmps57
  go_wp2
  go_ret
  exact ⟨by simp, rfl⟩
def cmpI (x y : Int) : Int := if x < y then -1 else if y < x then 1 else 0
theorem cmp_ip (x y : Int) (w : World) : Calls Tryd.prog 41 #[.int .u32 x, .int .u32 y] w fun e w' => e = .returned (.int .i64 (cmpI x y)) ∧ w = w' := by
  go_enter Tryd.func41, Tryd.ntmps41
  go_wp2_with (go_at_call 56; refine (isNaN_ip _ _).mono ?_; rintro e w' ⟨rfl, rfl⟩)
  all_goals (go_ret; exact ⟨ret_int (by unfold cmpI; split <;> first | rfl | omega | (split <;> first | rfl | omega)), rfl⟩)
theorem cmp_int (x y : Int) (w : World) : Calls Tryd.prog 42 #[.int .i64 x, .int .i64 y] w fun e w' => e = .returned (.int .i64 (cmpI x y)) ∧ w = w' := by
  go_enter Tryd.func42, Tryd.ntmps42
  go_wp2_with (go_at_call 57; refine (isNaN_int _ _).mono ?_; rintro e w' ⟨rfl, rfl⟩)
  all_goals (go_ret; exact ⟨ret_int (by unfold cmpI; split <;> first | rfl | omega | (split <;> first | rfl | omega)), rfl⟩)
def cmpP (x : Int) (b : Int) (y : Int) (c : Int) : Int := if cmpI x y = 0 then cmpI b c else cmpI x y
theorem compare_any (x y b c : Int) (w : World) :
    Calls Tryd.prog 16 #[.agg #[.int .u32 x, .int .i64 b], .agg #[.int .u32 y, .int .i64 c]] w fun e w' => e = .returned (.int .i64 (cmpP x b y c)) ∧ Kept Nothing w w' := by
  by_cases h : cmpI x y = 0
  · have HR := Lib.hid (show cmpP x b y c = cmpI b c by unfold cmpP; rw [if_pos h])
    have hd : (cmpI x y != 0) = false := by simpa using h
    have hd2 : (cmpI x y == 0) = true := by simpa using h
    rw [HR.out]
    clear h
    go_enter Tryd.func16, Tryd.ntmps16
    go_wp2_with (first | (go_at_call 41; refine (cmp_ip _ _ _).mono ?_; rintro e w' ⟨rfl, rfl⟩) | (go_at_call 42; refine (cmp_int _ _ _).mono ?_; rintro e w' ⟨rfl, rfl⟩))
    go_ret
    exact ⟨rfl, ((Kept.refl _ w).alloc _).alloc _⟩
  · have HR := Lib.hid (show cmpP x b y c = cmpI x y by unfold cmpP; rw [if_neg h])
    have hd : (cmpI x y != 0) = true := by simpa using h
    have hd2 : (cmpI x y == 0) = false := by simpa using h
    rw [HR.out]
    clear h
    go_enter Tryd.func16, Tryd.ntmps16
    go_wp2_with (first | (go_at_call 41; refine (cmp_ip _ _ _).mono ?_; rintro e w' ⟨rfl, rfl⟩) | (go_at_call 42; refine (cmp_int _ _ _).mono ?_; rintro e w' ⟨rfl, rfl⟩))
    go_ret
    exact ⟨rfl, ((Kept.refl _ w).alloc _).alloc _⟩
end Go.Proofs.YtfjhpeijlhlaeaaDoor
