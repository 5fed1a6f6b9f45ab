
/-
  The document's IPText, Text, Bit, Compare; the law's sign.
-/
import Derived.Test.YtfjhpeijlhlaeaaDoorRf2
namespace Go.Proofs.YtfjhpeijlhlaeaaDoor
open Go.RowKit

theorem add_ex (x y : List UInt8) (hx : x.length ≤ 100000) (hy : y.length ≤ 100000) : ∃ z : List UInt8, Hid (z = x ++ y) ∧ z.length = x.length + y.length ∧ ∀ w, (Op.stringOp .add ⟨x.toArray⟩ ⟨y.toArray⟩).run Tryd.prog w = .ok (.string ⟨z.toArray⟩) w :=
  ⟨x ++ y, Lib.hid rfl, List.length_append, add_run x y hx hy⟩
set_option maxHeartbeats 1000000 in
theorem ripText_any (x : Nat) (hx : x < 4294967296) (w : World) :
    Calls Tryd.prog 23 #[.int .u32 (x : Int)] w fun e w' => e = .returned (.string ⟨(ipText x).toArray⟩) ∧ Kept Nothing w w' := by
  have hd : ∀ k, (Lib.decDigits (oct x k)).length ≤ 3 := fun k => dig_len _ (by have := oct_lt x k; omega)
  have HG : ∀ k, Hid (∀ w, Calls Tryd.prog 40 #[.int .i64 (oct x k : Nat)] w fun e w' => e = .returned (.string ⟨(Lib.decDigits (oct x k)).toArray⟩) ∧ Kept Nothing w w') := fun k => Lib.hid (rdigits_any (oct x k) (by have := oct_lt x k; omega))
  have HT := Lib.hid (show ipText x = Lib.decDigits (oct x 0) ++ [46] ++ Lib.decDigits (oct x 1) ++ [46] ++ Lib.decDigits (oct x 2) ++ [46] ++ Lib.decDigits (oct x 3) by unfold ipText; simp [Lib.join, List.intercalate])
  have g0 := HG 0
  have g1 := HG 1
  have g2 := HG 2
  have g3 := HG 3
  have l0 := hd 0
  have l1 := hd 1
  have l2 := hd 2
  have l3 := hd 3
  have o0 : Hid (∀ w, Calls Tryd.prog 46 #[.int .u32 (x : Int), .int .i64 0] w fun e w' => e = .returned (.int .i64 (oct x 0 : Nat)) ∧ w = w') := Lib.hid (octet_any x 0 hx (by omega))
  have o1 : Hid (∀ w, Calls Tryd.prog 46 #[.int .u32 (x : Int), .int .i64 1] w fun e w' => e = .returned (.int .i64 (oct x 1 : Nat)) ∧ w = w') := Lib.hid (octet_any x 1 hx (by omega))
  have o2 : Hid (∀ w, Calls Tryd.prog 46 #[.int .u32 (x : Int), .int .i64 2] w fun e w' => e = .returned (.int .i64 (oct x 2 : Nat)) ∧ w = w') := Lib.hid (octet_any x 2 hx (by omega))
  have o3 : Hid (∀ w, Calls Tryd.prog 46 #[.int .u32 (x : Int), .int .i64 3] w fun e w' => e = .returned (.int .i64 (oct x 3 : Nat)) ∧ w = w') := Lib.hid (octet_any x 3 hx (by omega))
  clear hd HG
  generalize Lib.decDigits (oct x 0) = a0 at g0 l0 HT
  generalize Lib.decDigits (oct x 1) = a1 at g1 l1 HT
  generalize Lib.decDigits (oct x 2) = a2 at g2 l2 HT
  generalize Lib.decDigits (oct x 3) = a3 at g3 l3 HT
  generalize oct x 0 = p0 at g0 o0
  generalize oct x 1 = p1 at g1 o1
  generalize oct x 2 = p2 at g2 o2
  generalize oct x 3 = p3 at g3 o3
  obtain ⟨z0, E0, n0, r0⟩ := add_ex a0 [46] (by omega) (by simp)
  simp only [List.length_singleton] at n0
  obtain ⟨z1, E1, n1, r1⟩ := add_ex z0 a1 (by omega) (by omega)
  obtain ⟨z2, E2, n2, r2⟩ := add_ex z1 [46] (by omega) (by simp)
  simp only [List.length_singleton] at n2
  obtain ⟨z3, E3, n3, r3⟩ := add_ex z2 a2 (by omega) (by omega)
  obtain ⟨z4, E4, n4, r4⟩ := add_ex z3 [46] (by omega) (by simp)
  simp only [List.length_singleton] at n4
  obtain ⟨z5, E5, n5, r5⟩ := add_ex z4 a3 (by omega) (by omega)
  have HZ := Lib.hid (show z5 = ipText x by rw [HT.out, E5.out, E4.out, E3.out, E2.out, E1.out, E0.out])
  clear n0 n1 n2 n3 n4 n5 HT E0 E1 E2 E3 E4 E5
  go_enter Tryd.func23, Tryd.ntmps23
  go_wp2_with (first
    | (go_at_call 46; (with_reducible first | refine (o0.out _).mono ?_ | refine (o1.out _).mono ?_ | refine (o2.out _).mono ?_ | refine (o3.out _).mono ?_); rintro e w' ⟨rfl, rfl⟩)
    | (go_at_call 40; (with_reducible refine (g0.out _).mono ?_); rintro e w1 ⟨rfl, hk1⟩)
    | (go_at_call 40; (with_reducible refine (g1.out _).mono ?_); rintro e w2 ⟨rfl, hk2⟩)
    | (go_at_call 40; (with_reducible refine (g2.out _).mono ?_); rintro e w3 ⟨rfl, hk3⟩)
    | (go_at_call 40; (with_reducible refine (g3.out _).mono ?_); rintro e w4 ⟨rfl, hk4⟩))
  go_ret
  exact ⟨by rw [← HZ.out]; rfl, ((hk1.trans hk2).trans hk3).trans hk4⟩

theorem rtext_any (x : Nat) (b : Int) (hx : x < 4294967296) (w : World) :
    Calls Tryd.prog 14 #[.agg #[.int .u32 (x : Int), .int .i64 b]] w fun e w' => e = .returned (.string ⟨(text x b).toArray⟩) ∧ Kept Nothing w w' := by
  have HM := rmay_any x b hx
  cases hm : may x b with
  | false =>
    have HR := Lib.hid (show text x b = [] by unfold text; rw [hm]; rfl)
    rw [hm] at HM
    have HM := Lib.hid HM
    clear hm
    rw [HR.out]
    go_enter Tryd.func14, Tryd.ntmps14
    go_wp2_with (go_at_call 12; refine (HM.out _).mono ?_; rintro e w1 ⟨rfl, hk1⟩)
    go_ret
    exact ⟨rfl, ((Kept.refl _ w).alloc _).trans hk1⟩
  | true =>
    rw [hm] at HM
    have HM := Lib.hid HM
    obtain ⟨n, rfl, hn, hlow⟩ := may_spec hm
    clear hlow
    have HR := Lib.hid (show text x (n : Int) = ipText x ++ 47 :: Lib.decDigits n by unfold text; rw [hm]; rfl)
    clear hm
    rw [HR.out]
    go_enter Tryd.func14, Tryd.ntmps14
    go_wp2_with (go_at_call 12; refine (HM.out _).mono ?_; rintro e w1 ⟨rfl, hk1⟩)
    have hk : Kept Nothing w w1 := ((Kept.refl _ w).alloc _).trans hk1
    have d0 := up_cell (v := .int .u32 (x : Int)) (hk1.cell_some (p := ⟨w.heap.size, 0, none⟩) (by simp) (fun x => x))
    have d1 := up_cell (v := .int .i64 (n : Int)) (hk1.cell_some (p := ⟨w.heap.size, 1, none⟩) (by simp) (fun x => x))
    clear hk1
    have hq := ipText_len x
    have hp := dig_len n (by omega)
    have s1 := add_run (ipText x) [47] (by omega) (by simp)
    have s2 := add_run (ipText x ++ [47]) (Lib.decDigits n) (by simp; omega) (by omega)
    refine wp_region_up (by kernel_rfl) (by kernel_rfl) ?_
    repeat (go_big_quiet_step ((first
      | (go_at_call 23; exact up_call (ripText_any x hx _))
      | (go_at_call 40; exact up_call (rdigits_any n (by omega) _)))))
    refine wpQuiet_nil ?_
    rintro _ ⟨⟨w2, hk2⟩, rfl⟩
    clear d0 d1 s1 s2
    go_wp2
    go_ret
    exact ⟨rfl, hk.trans hk2⟩

theorem rBit_any (x : Nat) (k : Int) (hx : x < 4294967296) (w : World) :
    Calls Tryd.prog 27 #[.int .u32 (x : Int), .int .i64 k] w fun e w' => e = .returned (.bool (bitAt x k)) ∧ w = w' := by
  by_cases h0 : 0 ≤ k
  · by_cases h1 : k ≤ 31
    · obtain ⟨n, rfl⟩ : ∃ n : Nat, k = n := ⟨k.toNat, by omega⟩
      have HB := Lib.hid (rbit_any x n hx (by omega))
      have HV := Lib.hid (show decide (x / 2 ^ (31 - n) % 2 = 1) = bitAt x (n : Int) by
        unfold bitAt
        rw [Int.toNat_natCast]
        have h3 : ((n : Int) < 32) := by omega
        simp only [h0, h3, decide_true, Bool.true_and])
      rw [← HV.out]
      go_enter Tryd.func27, Tryd.ntmps27
      go_wp2_with (go_at_call 43; refine (HB.out _).mono ?_; rintro e w' ⟨rfl, rfl⟩)
      go_ret
      exact ⟨rfl, rfl⟩
    · have HR := Lib.hid (show bitAt x k = false by unfold bitAt; have : ¬ k < 32 := by omega
                                                    simp [this])
      rw [HR.out]
      have hd : decide (k ≤ 31) = false := by simpa using h1
      go_enter Tryd.func27, Tryd.ntmps27
      go_wp2
      go_ret
      exact ⟨rfl, rfl⟩
  · have HR := Lib.hid (show bitAt x k = false by unfold bitAt; simp [h0])
    rw [HR.out]
    have hd : decide (0 ≤ k) = false := by simpa using h0
    go_enter Tryd.func27, Tryd.ntmps27
    go_wp2
    go_ret
    exact ⟨rfl, rfl⟩
end Go.Proofs.YtfjhpeijlhlaeaaDoor
