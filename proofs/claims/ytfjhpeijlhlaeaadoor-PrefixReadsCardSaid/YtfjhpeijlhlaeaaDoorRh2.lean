
/-
  The document's Compare, Has, Contains; the law's sign.
-/
import Derived.Test.YtfjhpeijlhlaeaaDoorRg2
namespace Go.Proofs.YtfjhpeijlhlaeaaDoor
open Go.RowKit

theorem cmpP_in (x b y c : Int) : -1 ≤ cmpP x b y c ∧ cmpP x b y c ≤ 1 := by
  unfold cmpP cmpI
  split <;> (split <;> first | omega | (split <;> omega))
theorem sign_any (z : Int) (h : -1 ≤ z ∧ z ≤ 1) (w : World) : Calls Tryd.prog 15 #[.int .i64 z] w fun e w' => e = .returned (.int .i64 z) ∧ w = w' := by
  go_enter Tryd.func15, Tryd.ntmps15
  go_wp2
  go_ret
  exact ⟨ret_int (by first | omega | (split <;> omega) | (split <;> (split <;> omega))), rfl⟩

theorem rcompare_any (x y b c : Int) (w : World) :
    Calls Tryd.prog 17 #[.agg #[.int .u32 x, .int .i64 b], .agg #[.int .u32 y, .int .i64 c]] w fun e w' => e = .returned (.int .i64 (cmpP x b y c)) ∧ Kept Nothing w w' := by
  have he := eq_ref
  have hg := guard_ref
  have kk := ((Kept.refl Nothing w).alloc (.cells #[.int .u32 x, .int .i64 b] 27)).alloc (.cells #[.int .u32 y, .int .i64 c] 27)
  by_cases h1 : x < y
  · have HV := Lib.hid (show cmpP x b y c = -1 by unfold cmpP cmpI; rw [if_pos h1]; rfl)
    have hd : decide (x = y) = false := by simp; omega
    have hd2 : decide (x < y) = true := by simpa using h1
    rw [HV.out]
    go_enter Tryd.func17, Tryd.ntmps17
    go_wp2
    go_ret
    exact ⟨rfl, kk⟩
  · by_cases h2 : y < x
    · have HV := Lib.hid (show cmpP x b y c = 1 by unfold cmpP cmpI; rw [if_neg h1, if_pos h2]; rfl)
      have hd : decide (x = y) = false := by simp; omega
      have hd2 : decide (x < y) = false := by simpa using h1
      have hd3 : (x == y) = false := by simp; omega
      rw [HV.out]
      go_enter Tryd.func17, Tryd.ntmps17
      go_wp2
      go_ret
      exact ⟨rfl, kk⟩
    · obtain rfl : x = y := by omega
      have HC := Lib.hid (show cmpP x b x c = cmpI b c by unfold cmpP; rw [if_pos (by unfold cmpI; rw [if_neg h1, if_neg h1])])
      have hd2 : decide (x < x) = false := by simp
      rw [HC.out]
      by_cases h3 : b < c
      · have HV := Lib.hid (show cmpI b c = -1 by unfold cmpI; rw [if_pos h3])
        have hd : decide (b = c) = false := by simp; omega
        have hd3 : decide (b < c) = true := by simpa using h3
        rw [HV.out]
        go_enter Tryd.func17, Tryd.ntmps17
        go_wp2
        go_ret
        exact ⟨rfl, kk⟩
      · by_cases h4 : c < b
        · have HV := Lib.hid (show cmpI b c = 1 by unfold cmpI; rw [if_neg h3, if_pos h4])
          have hd : decide (b = c) = false := by simp; omega
          have hd3 : decide (b < c) = false := by simpa using h3
          rw [HV.out]
          go_enter Tryd.func17, Tryd.ntmps17
          go_wp2
          go_ret
          exact ⟨rfl, kk⟩
        · obtain rfl : b = c := by omega
          have HV := Lib.hid (show cmpI b b = 0 by unfold cmpI; rw [if_neg h3, if_neg h3])
          rw [HV.out]
          go_enter Tryd.func17, Tryd.ntmps17
          go_wp2
          go_ret
          exact ⟨rfl, kk⟩

theorem has_may {x : Nat} {b : Int} {z : Nat} (h : has x b z = true) : may x b = true := by
  unfold has at h
  simp only [Bool.and_eq_true, decide_eq_true_eq] at h
  have hx : x = low z (cl b) := Int.ofNat.inj h.1
  unfold may
  simp only [Bool.and_eq_true, decide_eq_true_eq]
  refine ⟨?_, h.2⟩
  rw [hx, low_low]
theorem has_iff {x n z : Nat} (hn : n ≤ 32) (hl : x = low x n) : has x (n : Int) z = decide (x / 2 ^ (32 - n) = z / 2 ^ (32 - n)) := by
  have hc : cl (n : Int) = n := by unfold cl; rw [if_neg (by omega), if_neg (by omega)]; omega
  unfold has
  rw [hc, Bool.eq_iff_iff]
  simp only [Bool.and_eq_true, decide_eq_true_eq, and_true]
  constructor
  · intro h
    have hx : x = low z n := Int.ofNat.inj h
    rw [hx]
    unfold low
    exact Nat.mul_div_cancel _ (Nat.pow_pos (by omega))
  · intro h
    congr 1
    rw [hl]
    unfold low
    rw [h]
theorem bit_step (x k : Nat) (hk : k < 32) : x / 2 ^ (31 - k) = 2 * (x / 2 ^ (32 - k)) + x / 2 ^ (31 - k) % 2 := by
  have e : x / 2 ^ (32 - k) = x / 2 ^ (31 - k) / 2 := by rw [show 32 - k = 31 - k + 1 from by omega, Nat.pow_succ, Nat.div_div_eq_div_mul]
  omega
theorem bits_apart {x z k n : Nat} (hk : k < n) (hn : n ≤ 32) (h : x / 2 ^ (31 - k) ≠ z / 2 ^ (31 - k)) : x / 2 ^ (32 - n) ≠ z / 2 ^ (32 - n) := fun e => h (by
  have e2 : ∀ y, y / 2 ^ (31 - k) = y / 2 ^ (32 - n) / 2 ^ (n - 1 - k) := fun y => by
    rw [Nat.div_div_eq_div_mul, ← Nat.pow_add, show 32 - n + (n - 1 - k) = 31 - k from by omega]
  rw [e2 x, e2 z, e])

set_option maxHeartbeats 1000000 in
theorem rhas_any (x z : Nat) (b : Int) (hx : x < 4294967296) (hz : z < 4294967296) (w : World) :
    Calls Tryd.prog 19 #[.agg #[.int .u32 (x : Int), .int .i64 b], .int .u32 (z : Int)] w fun e w' => e = .returned (.bool (has x b z)) ∧ Kept Nothing w w' := by
  have HM := rmay_any x b hx
  cases hm : may x b with
  | false =>
    have HR := Lib.hid (show has x b z = false by
      cases hh : has x b z with
      | false => rfl
      | true => rw [has_may hh] at hm; cases hm)
    rw [hm] at HM
    have HM := Lib.hid HM
    clear hm
    rw [HR.out]
    go_enter Tryd.func19, Tryd.ntmps19
    go_wp2_with (go_at_call 12; refine (HM.out _).mono ?_; rintro e w1 ⟨rfl, hk1⟩)
    go_ret
    exact ⟨rfl, ((Kept.refl _ w).alloc _).trans hk1⟩
  | true =>
    rw [hm] at HM
    have HM := Lib.hid HM
    obtain ⟨n, rfl, hn, hlow⟩ := may_spec hm
    have HI := Lib.hid (has_iff (z := z) hn hlow)
    clear hm hlow
    rw [HI.out]
    go_enter Tryd.func19, Tryd.ntmps19
    go_wp2_with (go_at_call 12; refine (HM.out _).mono ?_; rintro e w1 ⟨rfl, hk1⟩; have kk : Kept Nothing w w1 := ((Kept.refl _ w).alloc _).trans hk1; have d0 : w1.cell? ⟨w.heap.size, 0, none⟩ = some (.int .u32 (x : Int)) := hk1.cell_some (by simp) (fun x => x); have d1 : w1.cell? ⟨w.heap.size, 1, none⟩ = some (.int .i64 (n : Int)) := hk1.cell_some (by simp) (fun x => x))
    go_loop [5] (fun i => ∃ k : Nat, k ≤ n ∧ i = .int .i64 k ∧ Hid (x / 2 ^ (32 - k) = z / 2 ^ (32 - k))) (fun i => n - (intOf i).toNat)
    case atStart => exact ⟨0, by omega, rfl, Lib.hid (by rw [Nat.div_eq_of_lt (by omega), Nat.div_eq_of_lt (by omega)])⟩
    case round =>
      obtain ⟨k, hk, rfl, HE⟩ := hrel
      by_cases hlt : k < n
      · have B1 := rbit_any x k hx (by omega)
        have B2 := rbit_any z k hz (by omega)
        have s1 := bit_step x k (by omega)
        have s2 := bit_step z k (by omega)
        by_cases hb : x / 2 ^ (31 - k) % 2 = z / 2 ^ (31 - k) % 2
        · rw [hb] at B1
          have HE1 := Lib.hid (show x / 2 ^ (32 - (k + 1)) = z / 2 ^ (32 - (k + 1)) by rw [show 32 - (k + 1) = 31 - k from by omega, s1, s2, hb, HE.out])
          generalize decide (z / 2 ^ (31 - k) % 2 = 1) = bb at B1 B2
          have B1 := Lib.hid B1
          have B2 := Lib.hid B2
          clear s1 s2 hb
          cases bb
          all_goals
            go_wp2_with (first
              | (go_at_call 43; (with_reducible refine (B1.out _).mono ?_); rintro e w' ⟨rfl, rfl⟩)
              | (go_at_call 43; (with_reducible refine (B2.out _).mono ?_); rintro e w' ⟨rfl, rfl⟩))
            go_round
            case rel => exact ⟨k + 1, by omega, by go_num, HE1⟩
            case measure => simp [intOf]; omega
        · have HN := Lib.hid (show decide (x / 2 ^ (32 - n) = z / 2 ^ (32 - n)) = false by
            simp only [decide_eq_false_iff_not]
            exact bits_apart hlt hn (fun e => hb (by rw [e])))
          have hbb : decide (x / 2 ^ (31 - k) % 2 = 1) = !decide (z / 2 ^ (31 - k) % 2 = 1) := by
            rw [Bool.eq_iff_iff]; simp; omega
          rw [hbb] at B1
          generalize decide (z / 2 ^ (31 - k) % 2 = 1) = bb at B1 B2
          have B1 := Lib.hid B1
          have B2 := Lib.hid B2
          clear s1 s2 hb hbb
          cases bb
          all_goals
            go_wp2_with (first
              | (go_at_call 43; (with_reducible refine (B1.out _).mono ?_); rintro e w' ⟨rfl, rfl⟩)
              | (go_at_call 43; (with_reducible refine (B2.out _).mono ?_); rintro e w' ⟨rfl, rfl⟩))
            go_ret
            exact ⟨by rw [HN.out]; rfl, kk⟩
      · obtain rfl : k = n := by omega
        have HN := Lib.hid (show decide (x / 2 ^ (32 - k) = z / 2 ^ (32 - k)) = true by rw [HE.out]; simp)
        go_wp2
        go_ret
        exact ⟨by rw [HN.out]; rfl, kk⟩

theorem rcontains_any (x y : Nat) (b c : Int) (hx : x < 4294967296) (hy : y < 4294967296) (w : World) :
    Calls Tryd.prog 21 #[.agg #[.int .u32 (x : Int), .int .i64 b], .agg #[.int .u32 (y : Int), .int .i64 c]] w fun e w' => e = .returned (.bool (contains x b y c)) ∧ Kept Nothing w w' := by
  have HM := rmay_any y c hy
  have HH := rhas_any x y b hx hy
  cases hm : may y c with
  | false =>
    have HR := Lib.hid (show contains x b y c = false by unfold contains; rw [hm]; rfl)
    rw [hm] at HM
    have HM := Lib.hid HM
    clear hm
    rw [HR.out]
    go_enter Tryd.func21, Tryd.ntmps21
    go_wp2_with (go_at_call 12; refine (HM.out _).mono ?_; rintro e w1 ⟨rfl, hk1⟩)
    go_ret
    exact ⟨rfl, (((Kept.refl _ w).alloc _).alloc _).trans hk1⟩
  | true =>
    rw [hm] at HM
    have HM := Lib.hid HM
    by_cases hbc : b ≤ c
    · have HR := Lib.hid (show contains x b y c = has x b y by unfold contains; rw [hm]; simp [hbc])
      have HH := Lib.hid HH
      rw [HR.out]
      clear hm
      have hd : decide (b ≤ c) = true := by simpa using hbc
      go_enter Tryd.func21, Tryd.ntmps21
      go_wp2_with (first
        | (go_at_call 12; refine (HM.out _).mono ?_; rintro e w1 ⟨rfl, hk1⟩; have p0 : w1.cell? ⟨w.heap.size, 0, none⟩ = some (.int .u32 (x : Int)) := hk1.cell_some (by simp) (fun x => x); have p1 : w1.cell? ⟨w.heap.size, 1, none⟩ = some (.int .i64 b) := hk1.cell_some (by simp) (fun x => x); have q0 : w1.cell? ⟨w.heap.size + 1, 0, none⟩ = some (.int .u32 (y : Int)) := hk1.cell_some (by simp) (fun x => x); have q1 : w1.cell? ⟨w.heap.size + 1, 1, none⟩ = some (.int .i64 c) := hk1.cell_some (by simp) (fun x => x))
        | (go_at_call 19; refine (HH.out _).mono ?_; rintro e w2 ⟨rfl, hk2⟩))
      go_ret
      exact ⟨rfl, ((((Kept.refl _ w).alloc _).alloc _).trans hk1).trans hk2⟩
    · have HR := Lib.hid (show contains x b y c = false by unfold contains; simp [hbc])
      rw [HR.out]
      clear hm
      have hd : decide (b ≤ c) = false := by simpa using hbc
      go_enter Tryd.func21, Tryd.ntmps21
      go_wp2_with (go_at_call 12; refine (HM.out _).mono ?_; rintro e w1 ⟨rfl, hk1⟩; have p0 : w1.cell? ⟨w.heap.size, 0, none⟩ = some (.int .u32 (x : Int)) := hk1.cell_some (by simp) (fun x => x); have p1 : w1.cell? ⟨w.heap.size, 1, none⟩ = some (.int .i64 b) := hk1.cell_some (by simp) (fun x => x); have q0 : w1.cell? ⟨w.heap.size + 1, 0, none⟩ = some (.int .u32 (y : Int)) := hk1.cell_some (by simp) (fun x => x); have q1 : w1.cell? ⟨w.heap.size + 1, 1, none⟩ = some (.int .i64 c) := hk1.cell_some (by simp) (fun x => x))
      go_ret
      exact ⟨rfl, (((Kept.refl _ w).alloc _).alloc _).trans hk1⟩
end Go.Proofs.YtfjhpeijlhlaeaaDoor
