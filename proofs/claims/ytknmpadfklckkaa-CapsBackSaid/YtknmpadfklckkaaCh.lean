
/-
  The law CapsReads: it returns true, whatever it is given, and leaves what was there as it was.
-/
import Derived.Test.YtknmpadfklckkaaCg
import Derived.Test.YtknmpadfklckkaaLaw
namespace Go.Proofs.Ytknmpadfklckkaa
open Go.RowKit

theorem Cp.forms_ge : ∀ (m : List Cp), m.length ≤ (Cp.forms m).length
  | [] => Nat.zero_le _
  | c :: m => by
    have := Cp.forms_ge m
    rw [Cp.forms_cons, List.length_append, Cp.form_len, List.length_cons]
    omega
theorem Cp.out_small : ∀ (x : List UInt8) (acc : List Cp), (Cp.out acc x).1.length ≤ acc.length + x.length ∧ (Cp.out acc x).2.1 ≤ 2 ∧ (Cp.out acc x).2.2 ≤ 4 := by
  intro x acc
  by_cases h : (Cp.out acc x).2.1 = 0
  · have h2 := Cp.out_none x acc h
    obtain ⟨m, h3, _, h5⟩ := Cp.out_len x acc (Cp.out acc x).1 (Prod.ext rfl (Prod.ext h h2))
    refine ⟨?_, by omega, by omega⟩
    rw [h3, List.length_append]
    by_cases hm : m = []
    · subst hm; simp
    · have := h5 hm
      have : m.length ≤ (Cp.forms m).length := by
        exact Cp.forms_ge m
      omega
  · obtain ⟨h1, h2, h3⟩ := Cp.out_fault x acc h
    rw [h1]
    refine ⟨by simp, by omega, by omega⟩

set_option maxRecDepth 20000 in
set_option maxHeartbeats 2000000 in
theorem reads_law (v : Value) (b : List UInt8) (W : World) (hv : By W v b) :
    Calls Try.prog 3 #[v] W fun e w' => e = .returned (.bool true) ∧ Kept Nothing W w' := by
  obtain ⟨A, c, rfl, hc, hm⟩ := hv.form
  unfold maxLen at hm
  have hmin : (if (300 : Int) < (b.length : Int) then (300 : Int) else (b.length : Int)) = ((min b.length 300 : Nat) : Int) := by split <;> omega
  have hsl := slice_to A b.length c (min b.length 300) (by omega)
  have hp := hv.pre (m := min b.length 300) (by omega)
  have hlen : (b.take (min b.length 300)).length = min b.length 300 := by rw [List.length_take]; omega
  have hml : min b.length 300 ≤ 300 := by omega
  have hmc : min b.length 300 ≤ c := by omega
  generalize b.take (min b.length 300) = d at *
  generalize min b.length 300 = m at *
  subst hlen
  have HD := Lib.hid hp
  have HC := Lib.hid (by_clone _ d W hp (by omega))
  have HSM := Lib.hid (Cp.out_small d [])
  clear hv hp
  go_enter Try.func3, Try.ntmps3
  go_wp2_with fail
  refine HC.out.mono ?_
  rintro e w1 ⟨v1, rfl, ho1, hk1⟩
  have B1 := Lib.hid (Bs.of_own ho1)
  obtain ⟨A1, c1, rfl, _, _⟩ := ow_form ho1
  have K1 := Lib.hid hk1
  clear ho1 hk1
  go_wp2_with fail
  refine (cp_read _ d _ B1.out.by (by omega)).mono ?_
  rintro e w2 ⟨rv1, rfl, hp1, hk2⟩
  have K2 := Lib.hid (K1.out.trans hk2)
  have B2 := Lib.hid (B1.out.kept hk2 (NoBytes.nothing _))
  have P1 := Lib.hid hp1
  obtain ⟨A2, c2, rfl, _, _⟩ := hp1.form
  clear hp1 hk2 B1 K1
  have hs1 := HSM.out.1
  have hs2 := HSM.out.2.1
  have hs3 := HSM.out.2.2
  have C2 := Lib.hid (fun w h => rcp_read (.slice A d.length c) d w h (by omega))
  generalize Cp.out [] d = R at *
  have K2' := Lib.hid (K2.out.alloc (.cells #[.int .u8 (R.2.1 : Nat), .int .u8 (R.2.2 : Nat)] 26))
  have F2 := Lib.hid (Blk.fresh w2 26 #[.int .u8 (R.2.1 : Nat), .int .u8 (R.2.2 : Nat)])
  go_wp2_with fail
  refine (C2.out _ (HD.out.old K2'.out)).mono ?_
  rintro e w3 ⟨rv2, rfl, hp3, hk3⟩
  have K3 := Lib.hid (K2'.out.trans hk3)
  have P3 := Lib.hid (P1.out.old (((Kept.refl Nothing w2).alloc _).trans hk3))
  have B3 := Lib.hid (B2.out.kept (((Kept.refl Nothing w2).alloc (.cells #[.int .u8 (R.2.1 : Nat), .int .u8 (R.2.2 : Nat)] 26)).trans hk3) (NoBytes.nothing _))
  have F3 := Lib.hid (F2.out.kept hk3 (fun x => x))
  have Q3 := Lib.hid hp3
  obtain ⟨A3, c3, rfl, _, _⟩ := hp3.form
  clear hk3 hp3 K2 K2' P1 B2 F2
  go_wp2_with fail
  refine (cp_of _ R.1 _ P3.out (by simp at hs1; omega)).mono ?_
  rintro e w4 ⟨rv4, rfl, hp4, hk4⟩
  have hk34 := K3.out.trans hk4
  have K4 := Lib.hid hk34
  have F4 := Lib.hid (F3.out.kept hk4 (fun x => x))
  have B4 := Lib.hid (B3.out.kept hk4 (NoBytes.nothing _))
  have C4 := Lib.hid (cp_same rv4 _ R.1 _ hp4 (Q3.out.old hk4) (by simp at hs1; omega))
  obtain ⟨A4, c4, rfl, _, _⟩ := hp4.form
  clear hp4 hk4 K3 P3 F3 B3 Q3 hk34
  go_wp2_with fail
  refine C4.out.mono ?_
  rintro e w5 ⟨rfl, hk5⟩
  have K5 := Lib.hid (K4.out.trans hk5)
  obtain ⟨d0, d1⟩ := cells2 (F4.out.kept hk5 (fun x => x))
  have B5 := Lib.hid (B4.out.kept hk5 (NoBytes.nothing _))
  have hbe : (d == d) = true := beq_self_eq_true _
  have E5 := Lib.hid (by_equal _ _ d d _ B5.out.by (HD.out.old K5.out))
  rw [hbe] at E5
  have W5 := Lib.hid (cp_wakes w5)
  clear hk5 K4 F4 B4 C4 hbe
  go_wp2_with (first
    | (go_at_call 10; refine (E5.out).mono ?_; rintro e w6 ⟨rfl, rfl⟩)
    | (go_at_call 11; refine (W5.out).mono ?_; rintro e w6 ⟨rfl, hk6⟩))
  go_ret
  exact ⟨rfl, K5.out.trans hk6⟩
end Go.Proofs.Ytknmpadfklckkaa
