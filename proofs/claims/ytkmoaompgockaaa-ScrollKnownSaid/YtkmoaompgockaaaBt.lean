
/-
  For the law ScrollKnown: the closure that tells a reader's error behind a function, and the functions that it is given.
-/
import Derived.Test.YtkmoaompgockaaaBs
namespace Go.Proofs.Ytkmoaompgockaaa
open Go.RowKit

/-- What a given function does to a reader of 1, 2, 3. -/
def Acts (g : Nat) (x : Int) : Prop :=
  ∀ (w : World) (p : Nat), Rd w p ⟨[1, 2, 3], 0, [], 0⟩ → Calls Try.prog g #[.pointer (some ⟨p, 0, none⟩)] w fun r w' => r = .returned (.tuple #[]) ∧ (∃ s, Rd w' p s ∧ s.e = x) ∧ Kept (Only p) w w'

theorem acts2 : Acts 23 (4) := by
  intro w p h
  have R0 := Lib.hid h
  have K0 := Lib.hid (Kept.refl (Only p) w)
  clear h
  go_enter Try.func23, Try.ntmps23
  go_wp2_with fail
  refine (rd_four p _ _ R0.out).mono ?_
  rintro e w1 ⟨rfl, hr, hk⟩
  have R1 := Lib.hid hr
  have K1 := Lib.hid (K0.out.trans hk)
  clear hr hk R0 K0
  go_wp2
  go_end0
  exact ⟨rfl, ⟨_, R1.out, by decide +kernel⟩, K1.out⟩

theorem acts3 : Acts 24 (4) := by
  intro w p h
  have R0 := Lib.hid h
  have K0 := Lib.hid (Kept.refl (Only p) w)
  clear h
  go_enter Try.func24, Try.ntmps24
  go_wp2_with fail
  refine (rd_take p _ (-1) _ R0.out).mono ?_
  rintro e w1 ⟨v, rfl, hb, hr, hk⟩
  have R1 := Lib.hid hr
  have K1 := Lib.hid (K0.out.trans hk)
  clear hr hk R0 K0
  go_wp2
  go_end0
  exact ⟨rfl, ⟨_, R1.out, by decide +kernel⟩, K1.out⟩

theorem acts4 : Acts 26 (4) := by
  intro w p h
  have R0 := Lib.hid h
  have K0 := Lib.hid (Kept.refl (Only p) w)
  clear h
  go_enter Try.func26, Try.ntmps26
  go_wp2_with fail
  refine (rd_open p _ 4 _ R0.out (by decide)).mono ?_
  rintro e w1 ⟨rfl, hr, hk⟩
  have R1 := Lib.hid hr
  have K1 := Lib.hid (K0.out.trans hk)
  clear hr hk R0 K0
  go_wp2
  go_end0
  exact ⟨rfl, ⟨_, R1.out, by decide +kernel⟩, K1.out⟩

theorem acts5 : Acts 27 (26) := by
  intro w p h
  have R0 := Lib.hid h
  have K0 := Lib.hid (Kept.refl (Only p) w)
  clear h
  go_enter Try.func27, Try.ntmps27
  go_wp2_with fail
  refine (rd_close p _ _ R0.out).mono ?_
  rintro e w1 ⟨rfl, hr, hk⟩
  have R1 := Lib.hid hr
  have K1 := Lib.hid (K0.out.trans hk)
  clear hr hk R0 K0
  go_wp2
  go_end0
  exact ⟨rfl, ⟨_, R1.out, by decide +kernel⟩, K1.out⟩

theorem acts6 : Acts 28 (26) := by
  intro w p h
  have R0 := Lib.hid h
  have K0 := Lib.hid (Kept.refl (Only p) w)
  clear h
  go_enter Try.func28, Try.ntmps28
  go_wp2_with fail
  refine (rd_skip p _ _ R0.out).mono ?_
  rintro e w1 ⟨rfl, hr, hk⟩
  have R1 := Lib.hid hr
  have K1 := Lib.hid (K0.out.trans hk)
  clear hr hk R0 K0
  go_wp2
  go_end0
  exact ⟨rfl, ⟨_, R1.out, by decide +kernel⟩, K1.out⟩

theorem acts7 : Acts 30 (4) := by
  intro w p h
  have R0 := Lib.hid h
  have K0 := Lib.hid (Kept.refl (Only p) w)
  clear h
  go_enter Try.func30, Try.ntmps30
  go_wp2_with fail
  refine (rd_open p _ 1 _ R0.out (by decide)).mono ?_
  rintro e w1 ⟨rfl, hr, hk⟩
  have R1 := Lib.hid hr
  have K1 := Lib.hid (K0.out.trans hk)
  clear hr hk R0 K0
  go_wp2_with fail
  refine (rd_two p _ _ R1.out).mono ?_
  rintro e w2 ⟨rfl, hr, hk⟩
  have R2 := Lib.hid hr
  have K2 := Lib.hid (K1.out.trans hk)
  clear hr hk R1 K1
  go_wp2
  go_end0
  exact ⟨rfl, ⟨_, R2.out, by decide +kernel⟩, K2.out⟩

theorem acts8 : Acts 32 (0) := by
  intro w p h
  have R0 := Lib.hid h
  have K0 := Lib.hid (Kept.refl (Only p) w)
  clear h
  go_enter Try.func32, Try.ntmps32
  go_wp2_with fail
  refine (rd_open p _ 2 _ R0.out (by decide)).mono ?_
  rintro e w1 ⟨rfl, hr, hk⟩
  have R1 := Lib.hid hr
  have K1 := Lib.hid (K0.out.trans hk)
  clear hr hk R0 K0
  go_wp2_with fail
  refine (rd_open p _ 1 _ R1.out (by decide)).mono ?_
  rintro e w2 ⟨rfl, hr, hk⟩
  have R2 := Lib.hid hr
  have K2 := Lib.hid (K1.out.trans hk)
  clear hr hk R1 K1
  go_wp2_with fail
  refine (rd_byte p _ _ R2.out).mono ?_
  rintro e w3 ⟨rfl, hr, hk⟩
  have R3 := Lib.hid hr
  have K3 := Lib.hid (K2.out.trans hk)
  clear hr hk R2 K2
  go_wp2_with fail
  refine (rd_close p _ _ R3.out).mono ?_
  rintro e w4 ⟨rfl, hr, hk⟩
  have R4 := Lib.hid hr
  have K4 := Lib.hid (K3.out.trans hk)
  clear hr hk R3 K3
  go_wp2_with fail
  refine (rd_skip p _ _ R4.out).mono ?_
  rintro e w5 ⟨rfl, hr, hk⟩
  have R5 := Lib.hid hr
  have K5 := Lib.hid (K4.out.trans hk)
  clear hr hk R4 K4
  go_wp2_with fail
  refine (rd_byte p _ _ R5.out).mono ?_
  rintro e w6 ⟨rfl, hr, hk⟩
  have R6 := Lib.hid hr
  have K6 := Lib.hid (K5.out.trans hk)
  clear hr hk R5 K5
  go_wp2
  go_end0
  exact ⟨rfl, ⟨_, R6.out, by decide +kernel⟩, K6.out⟩

theorem acts9 : Acts 33 (23) := by
  intro w p h
  have R0 := Lib.hid h
  have K0 := Lib.hid (Kept.refl (Only p) w)
  clear h
  go_enter Try.func33, Try.ntmps33
  go_wp2_with fail
  refine (rd_fail p _ 0 _ R0.out).mono ?_
  rintro e w1 ⟨rfl, hr, hk⟩
  have R1 := Lib.hid hr
  have K1 := Lib.hid (K0.out.trans hk)
  clear hr hk R0 K0
  go_wp2_with fail
  refine (rd_fail p _ 23 _ R1.out).mono ?_
  rintro e w2 ⟨rfl, hr, hk⟩
  have R2 := Lib.hid hr
  have K2 := Lib.hid (K1.out.trans hk)
  clear hr hk R1 K1
  go_wp2_with fail
  refine (rd_fail p _ 1 _ R2.out).mono ?_
  rintro e w3 ⟨rfl, hr, hk⟩
  have R3 := Lib.hid hr
  have K3 := Lib.hid (K2.out.trans hk)
  clear hr hk R2 K2
  go_wp2
  go_end0
  exact ⟨rfl, ⟨_, R3.out, by decide +kernel⟩, K3.out⟩

theorem kn_run2 (w : World) :
    Calls Try.prog 21 #[.func (.func 23) #[] #[]] w fun r w' => r = .returned (.int .i64 4) ∧ Kept Nothing w w' := by
  have HG := Lib.hid acts2
  have K0 := Lib.hid ((Kept.refl Nothing w).alloc (.cells #[.int .u8 1, .int .u8 2, .int .u8 3] 5))
  have B0 := Lib.hid (Bs.made (l := [1, 2, 3]) (Blk.fresh w 5 #[.int .u8 1, .int .u8 2, .int .u8 3]) rfl (by decide))
  go_enter Try.func21, Try.ntmps21
  go_wp2_with fail
  refine (rd_new _ _ _ B0.out.by (by decide)).mono ?_
  rintro e w1 ⟨p, rfl, hr, hk, hp⟩
  have C := Lib.hid (HG.out _ _ hr)
  have K1 := Lib.hid (K0.out.trans hk)
  have P1 := Lib.hid (Sub.only (w := w) (Nat.le_trans K0.out.size hp))
  clear hr hk hp B0 K0 HG
  go_wp2_with fail
  refine C.out.mono ?_
  rintro e w2 ⟨rfl, ⟨s, hs, hx⟩, hk⟩
  have K2 := Lib.hid (K1.out.news hk P1.out)
  have E := Lib.hid (rd_err p s w2 hs)
  rw [hx] at E
  clear hs hx hk C K1 P1
  go_wp2_with fail
  refine E.out.mono ?_
  rintro e w3 ⟨rfl, rfl⟩
  go_wp2
  go_ret
  exact ⟨rfl, K2.out⟩
theorem kn_run3 (w : World) :
    Calls Try.prog 21 #[.func (.func 24) #[] #[]] w fun r w' => r = .returned (.int .i64 4) ∧ Kept Nothing w w' := by
  have HG := Lib.hid acts3
  have K0 := Lib.hid ((Kept.refl Nothing w).alloc (.cells #[.int .u8 1, .int .u8 2, .int .u8 3] 5))
  have B0 := Lib.hid (Bs.made (l := [1, 2, 3]) (Blk.fresh w 5 #[.int .u8 1, .int .u8 2, .int .u8 3]) rfl (by decide))
  go_enter Try.func21, Try.ntmps21
  go_wp2_with fail
  refine (rd_new _ _ _ B0.out.by (by decide)).mono ?_
  rintro e w1 ⟨p, rfl, hr, hk, hp⟩
  have C := Lib.hid (HG.out _ _ hr)
  have K1 := Lib.hid (K0.out.trans hk)
  have P1 := Lib.hid (Sub.only (w := w) (Nat.le_trans K0.out.size hp))
  clear hr hk hp B0 K0 HG
  go_wp2_with fail
  refine C.out.mono ?_
  rintro e w2 ⟨rfl, ⟨s, hs, hx⟩, hk⟩
  have K2 := Lib.hid (K1.out.news hk P1.out)
  have E := Lib.hid (rd_err p s w2 hs)
  rw [hx] at E
  clear hs hx hk C K1 P1
  go_wp2_with fail
  refine E.out.mono ?_
  rintro e w3 ⟨rfl, rfl⟩
  go_wp2
  go_ret
  exact ⟨rfl, K2.out⟩
theorem kn_run4 (w : World) :
    Calls Try.prog 21 #[.func (.func 26) #[] #[]] w fun r w' => r = .returned (.int .i64 4) ∧ Kept Nothing w w' := by
  have HG := Lib.hid acts4
  have K0 := Lib.hid ((Kept.refl Nothing w).alloc (.cells #[.int .u8 1, .int .u8 2, .int .u8 3] 5))
  have B0 := Lib.hid (Bs.made (l := [1, 2, 3]) (Blk.fresh w 5 #[.int .u8 1, .int .u8 2, .int .u8 3]) rfl (by decide))
  go_enter Try.func21, Try.ntmps21
  go_wp2_with fail
  refine (rd_new _ _ _ B0.out.by (by decide)).mono ?_
  rintro e w1 ⟨p, rfl, hr, hk, hp⟩
  have C := Lib.hid (HG.out _ _ hr)
  have K1 := Lib.hid (K0.out.trans hk)
  have P1 := Lib.hid (Sub.only (w := w) (Nat.le_trans K0.out.size hp))
  clear hr hk hp B0 K0 HG
  go_wp2_with fail
  refine C.out.mono ?_
  rintro e w2 ⟨rfl, ⟨s, hs, hx⟩, hk⟩
  have K2 := Lib.hid (K1.out.news hk P1.out)
  have E := Lib.hid (rd_err p s w2 hs)
  rw [hx] at E
  clear hs hx hk C K1 P1
  go_wp2_with fail
  refine E.out.mono ?_
  rintro e w3 ⟨rfl, rfl⟩
  go_wp2
  go_ret
  exact ⟨rfl, K2.out⟩
theorem kn_run5 (w : World) :
    Calls Try.prog 21 #[.func (.func 27) #[] #[]] w fun r w' => r = .returned (.int .i64 26) ∧ Kept Nothing w w' := by
  have HG := Lib.hid acts5
  have K0 := Lib.hid ((Kept.refl Nothing w).alloc (.cells #[.int .u8 1, .int .u8 2, .int .u8 3] 5))
  have B0 := Lib.hid (Bs.made (l := [1, 2, 3]) (Blk.fresh w 5 #[.int .u8 1, .int .u8 2, .int .u8 3]) rfl (by decide))
  go_enter Try.func21, Try.ntmps21
  go_wp2_with fail
  refine (rd_new _ _ _ B0.out.by (by decide)).mono ?_
  rintro e w1 ⟨p, rfl, hr, hk, hp⟩
  have C := Lib.hid (HG.out _ _ hr)
  have K1 := Lib.hid (K0.out.trans hk)
  have P1 := Lib.hid (Sub.only (w := w) (Nat.le_trans K0.out.size hp))
  clear hr hk hp B0 K0 HG
  go_wp2_with fail
  refine C.out.mono ?_
  rintro e w2 ⟨rfl, ⟨s, hs, hx⟩, hk⟩
  have K2 := Lib.hid (K1.out.news hk P1.out)
  have E := Lib.hid (rd_err p s w2 hs)
  rw [hx] at E
  clear hs hx hk C K1 P1
  go_wp2_with fail
  refine E.out.mono ?_
  rintro e w3 ⟨rfl, rfl⟩
  go_wp2
  go_ret
  exact ⟨rfl, K2.out⟩
theorem kn_run6 (w : World) :
    Calls Try.prog 21 #[.func (.func 28) #[] #[]] w fun r w' => r = .returned (.int .i64 26) ∧ Kept Nothing w w' := by
  have HG := Lib.hid acts6
  have K0 := Lib.hid ((Kept.refl Nothing w).alloc (.cells #[.int .u8 1, .int .u8 2, .int .u8 3] 5))
  have B0 := Lib.hid (Bs.made (l := [1, 2, 3]) (Blk.fresh w 5 #[.int .u8 1, .int .u8 2, .int .u8 3]) rfl (by decide))
  go_enter Try.func21, Try.ntmps21
  go_wp2_with fail
  refine (rd_new _ _ _ B0.out.by (by decide)).mono ?_
  rintro e w1 ⟨p, rfl, hr, hk, hp⟩
  have C := Lib.hid (HG.out _ _ hr)
  have K1 := Lib.hid (K0.out.trans hk)
  have P1 := Lib.hid (Sub.only (w := w) (Nat.le_trans K0.out.size hp))
  clear hr hk hp B0 K0 HG
  go_wp2_with fail
  refine C.out.mono ?_
  rintro e w2 ⟨rfl, ⟨s, hs, hx⟩, hk⟩
  have K2 := Lib.hid (K1.out.news hk P1.out)
  have E := Lib.hid (rd_err p s w2 hs)
  rw [hx] at E
  clear hs hx hk C K1 P1
  go_wp2_with fail
  refine E.out.mono ?_
  rintro e w3 ⟨rfl, rfl⟩
  go_wp2
  go_ret
  exact ⟨rfl, K2.out⟩
theorem kn_run7 (w : World) :
    Calls Try.prog 21 #[.func (.func 30) #[] #[]] w fun r w' => r = .returned (.int .i64 4) ∧ Kept Nothing w w' := by
  have HG := Lib.hid acts7
  have K0 := Lib.hid ((Kept.refl Nothing w).alloc (.cells #[.int .u8 1, .int .u8 2, .int .u8 3] 5))
  have B0 := Lib.hid (Bs.made (l := [1, 2, 3]) (Blk.fresh w 5 #[.int .u8 1, .int .u8 2, .int .u8 3]) rfl (by decide))
  go_enter Try.func21, Try.ntmps21
  go_wp2_with fail
  refine (rd_new _ _ _ B0.out.by (by decide)).mono ?_
  rintro e w1 ⟨p, rfl, hr, hk, hp⟩
  have C := Lib.hid (HG.out _ _ hr)
  have K1 := Lib.hid (K0.out.trans hk)
  have P1 := Lib.hid (Sub.only (w := w) (Nat.le_trans K0.out.size hp))
  clear hr hk hp B0 K0 HG
  go_wp2_with fail
  refine C.out.mono ?_
  rintro e w2 ⟨rfl, ⟨s, hs, hx⟩, hk⟩
  have K2 := Lib.hid (K1.out.news hk P1.out)
  have E := Lib.hid (rd_err p s w2 hs)
  rw [hx] at E
  clear hs hx hk C K1 P1
  go_wp2_with fail
  refine E.out.mono ?_
  rintro e w3 ⟨rfl, rfl⟩
  go_wp2
  go_ret
  exact ⟨rfl, K2.out⟩
theorem kn_run8 (w : World) :
    Calls Try.prog 21 #[.func (.func 32) #[] #[]] w fun r w' => r = .returned (.int .i64 0) ∧ Kept Nothing w w' := by
  have HG := Lib.hid acts8
  have K0 := Lib.hid ((Kept.refl Nothing w).alloc (.cells #[.int .u8 1, .int .u8 2, .int .u8 3] 5))
  have B0 := Lib.hid (Bs.made (l := [1, 2, 3]) (Blk.fresh w 5 #[.int .u8 1, .int .u8 2, .int .u8 3]) rfl (by decide))
  go_enter Try.func21, Try.ntmps21
  go_wp2_with fail
  refine (rd_new _ _ _ B0.out.by (by decide)).mono ?_
  rintro e w1 ⟨p, rfl, hr, hk, hp⟩
  have C := Lib.hid (HG.out _ _ hr)
  have K1 := Lib.hid (K0.out.trans hk)
  have P1 := Lib.hid (Sub.only (w := w) (Nat.le_trans K0.out.size hp))
  clear hr hk hp B0 K0 HG
  go_wp2_with fail
  refine C.out.mono ?_
  rintro e w2 ⟨rfl, ⟨s, hs, hx⟩, hk⟩
  have K2 := Lib.hid (K1.out.news hk P1.out)
  have E := Lib.hid (rd_err p s w2 hs)
  rw [hx] at E
  clear hs hx hk C K1 P1
  go_wp2_with fail
  refine E.out.mono ?_
  rintro e w3 ⟨rfl, rfl⟩
  go_wp2
  go_ret
  exact ⟨rfl, K2.out⟩
theorem kn_run9 (w : World) :
    Calls Try.prog 21 #[.func (.func 33) #[] #[]] w fun r w' => r = .returned (.int .i64 23) ∧ Kept Nothing w w' := by
  have HG := Lib.hid acts9
  have K0 := Lib.hid ((Kept.refl Nothing w).alloc (.cells #[.int .u8 1, .int .u8 2, .int .u8 3] 5))
  have B0 := Lib.hid (Bs.made (l := [1, 2, 3]) (Blk.fresh w 5 #[.int .u8 1, .int .u8 2, .int .u8 3]) rfl (by decide))
  go_enter Try.func21, Try.ntmps21
  go_wp2_with fail
  refine (rd_new _ _ _ B0.out.by (by decide)).mono ?_
  rintro e w1 ⟨p, rfl, hr, hk, hp⟩
  have C := Lib.hid (HG.out _ _ hr)
  have K1 := Lib.hid (K0.out.trans hk)
  have P1 := Lib.hid (Sub.only (w := w) (Nat.le_trans K0.out.size hp))
  clear hr hk hp B0 K0 HG
  go_wp2_with fail
  refine C.out.mono ?_
  rintro e w2 ⟨rfl, ⟨s, hs, hx⟩, hk⟩
  have K2 := Lib.hid (K1.out.news hk P1.out)
  have E := Lib.hid (rd_err p s w2 hs)
  rw [hx] at E
  clear hs hx hk C K1 P1
  go_wp2_with fail
  refine E.out.mono ?_
  rintro e w3 ⟨rfl, rfl⟩
  go_wp2
  go_ret
  exact ⟨rfl, K2.out⟩
end Go.Proofs.Ytkmoaompgockaaa
