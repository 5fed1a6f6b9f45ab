
/-
  The law FrameKnown: an intake that New did not make, the document's examples of heads and of messages.
-/
import Derived.Test.YtkfhnkikddmccaaGi
import Derived.Test.YtkfhnkikddmccaaIw
namespace Go.Proofs.Ytkfhnkikddmccaa
open Go.RowKit

theorem ones_hd (w : World) (g : Nat) (hg : w.heap.size = g) :
    Calls Try.prog 19 #[.int .i64 16, .slice (some ⟨g, 0, none⟩) 3 3] (w.alloc (.cells #[.int .u8 0, .int .u8 19, .int .u8 4] 5)) fun e w' => ∃ v, e = .returned v ∧ Kept Nothing w w' := by
  subst hg
  have hb3 : By (w.alloc (.cells #[.int .u8 0, .int .u8 19, .int .u8 4] 5)) (.slice (some ⟨w.heap.size, 0, none⟩) 3 3) [UInt8.ofNat 0, UInt8.ofNat 19, UInt8.ofNat 4] :=
    by3 0 19 4 (by omega) (by omega) (by omega) w
  exact (ones_some 16 _ _ _ (by decide) (by decide) hb3 (by simp) (by simp)).mono fun e w2 ⟨v2, h, _, _, hk⟩ => ⟨v2, h, ((Kept.refl Nothing w).alloc _).trans hk⟩

theorem kq18_4 (w : World) : Calls Try.prog 20 #[.int .i64 18, .int .u8 4] w fun e w' => e = .returned (.agg #[.int .u8 1, .int .u8 2]) ∧ Kept Nothing w w' := kn_code 18 4 (by decide) (by decide) 2 (by decide +kernel) w
theorem kq4097_2 (w : World) : Calls Try.prog 20 #[.int .i64 4097, .int .u8 2] w fun e w' => e = .returned (.agg #[.int .u8 1, .int .u8 2]) ∧ Kept Nothing w w' := kn_code 4097 2 (by decide) (by decide) 2 (by decide +kernel) w
theorem kq18_9 (w : World) : Calls Try.prog 20 #[.int .i64 18, .int .u8 9] w fun e w' => e = .returned (.agg #[.int .u8 1, .int .u8 2]) ∧ Kept Nothing w w' := kn_code 18 9 (by decide) (by decide) 2 (by decide +kernel) w
theorem kq19_0 (w : World) : Calls Try.prog 20 #[.int .i64 19, .int .u8 0] w fun e w' => e = .returned (.agg #[.int .u8 1, .int .u8 3]) ∧ Kept Nothing w w' := kn_code 19 0 (by decide) (by decide) 3 (by decide +kernel) w
theorem kq4096_6 (w : World) : Calls Try.prog 20 #[.int .i64 4096, .int .u8 6] w fun e w' => e = .returned (.agg #[.int .u8 1, .int .u8 3]) ∧ Kept Nothing w w' := kn_code 4096 6 (by decide) (by decide) 3 (by decide +kernel) w
theorem kq28_1 (w : World) : Calls Try.prog 20 #[.int .i64 28, .int .u8 1] w fun e w' => e = .returned (.agg #[.int .u8 1, .int .u8 2]) ∧ Kept Nothing w w' := kn_code 28 1 (by decide) (by decide) 2 (by decide +kernel) w
theorem kq29_1 (w : World) : Calls Try.prog 20 #[.int .i64 29, .int .u8 1] w fun e w' => e = .returned (.agg #[.int .u8 0, .int .u8 0]) ∧ Kept Nothing w w' := kn_code 29 1 (by decide) (by decide) 0 (by decide +kernel) w
theorem kq4096_1 (w : World) : Calls Try.prog 20 #[.int .i64 4096, .int .u8 1] w fun e w' => e = .returned (.agg #[.int .u8 0, .int .u8 0]) ∧ Kept Nothing w w' := kn_code 4096 1 (by decide) (by decide) 0 (by decide +kernel) w
theorem kq22_2 (w : World) : Calls Try.prog 20 #[.int .i64 22, .int .u8 2] w fun e w' => e = .returned (.agg #[.int .u8 1, .int .u8 2]) ∧ Kept Nothing w w' := kn_code 22 2 (by decide) (by decide) 2 (by decide +kernel) w
theorem kq23_2 (w : World) : Calls Try.prog 20 #[.int .i64 23, .int .u8 2] w fun e w' => e = .returned (.agg #[.int .u8 0, .int .u8 0]) ∧ Kept Nothing w w' := kn_code 23 2 (by decide) (by decide) 0 (by decide +kernel) w
theorem kq20_3 (w : World) : Calls Try.prog 20 #[.int .i64 20, .int .u8 3] w fun e w' => e = .returned (.agg #[.int .u8 1, .int .u8 2]) ∧ Kept Nothing w w' := kn_code 20 3 (by decide) (by decide) 2 (by decide +kernel) w
theorem kq21_3 (w : World) : Calls Try.prog 20 #[.int .i64 21, .int .u8 3] w fun e w' => e = .returned (.agg #[.int .u8 0, .int .u8 0]) ∧ Kept Nothing w w' := kn_code 21 3 (by decide) (by decide) 0 (by decide +kernel) w
theorem kq19_4 (w : World) : Calls Try.prog 20 #[.int .i64 19, .int .u8 4] w fun e w' => e = .returned (.agg #[.int .u8 0, .int .u8 0]) ∧ Kept Nothing w w' := kn_code 19 4 (by decide) (by decide) 0 (by decide +kernel) w
theorem kq20_4 (w : World) : Calls Try.prog 20 #[.int .i64 20, .int .u8 4] w fun e w' => e = .returned (.agg #[.int .u8 1, .int .u8 2]) ∧ Kept Nothing w w' := kn_code 20 4 (by decide) (by decide) 2 (by decide +kernel) w
theorem kq22_5 (w : World) : Calls Try.prog 20 #[.int .i64 22, .int .u8 5] w fun e w' => e = .returned (.agg #[.int .u8 1, .int .u8 2]) ∧ Kept Nothing w w' := kn_code 22 5 (by decide) (by decide) 2 (by decide +kernel) w
theorem kq23_5 (w : World) : Calls Try.prog 20 #[.int .i64 23, .int .u8 5] w fun e w' => e = .returned (.agg #[.int .u8 0, .int .u8 0]) ∧ Kept Nothing w w' := kn_code 23 5 (by decide) (by decide) 0 (by decide +kernel) w
theorem kq24_5 (w : World) : Calls Try.prog 20 #[.int .i64 24, .int .u8 5] w fun e w' => e = .returned (.agg #[.int .u8 1, .int .u8 2]) ∧ Kept Nothing w w' := kn_code 24 5 (by decide) (by decide) 2 (by decide +kernel) w
theorem kl0_5 (w : World) : Calls Try.prog 21 #[.int .u8 0, .int .i64 5] w fun e w' => e = .returned (.int .i64 1) ∧ Kept Nothing w w' := kn_lay 0 5 (by decide) 1 (by unfold Fr.bytes; rw [List.length_replicate]; rfl) w
theorem kl6_5 (w : World) : Calls Try.prog 21 #[.int .u8 6, .int .i64 5] w fun e w' => e = .returned (.int .i64 1) ∧ Kept Nothing w w' := kn_lay 6 5 (by decide) 1 (by unfold Fr.bytes; rw [List.length_replicate]; rfl) w
theorem kl1_9 (w : World) : Calls Try.prog 21 #[.int .u8 1, .int .i64 9] w fun e w' => e = .returned (.int .i64 1) ∧ Kept Nothing w w' := kn_lay 1 9 (by decide) 1 (by unfold Fr.bytes; rw [List.length_replicate]; rfl) w
theorem kl1_10 (w : World) : Calls Try.prog 21 #[.int .u8 1, .int .i64 10] w fun e w' => e = .returned (.int .i64 0) ∧ Kept Nothing w w' := kn_lay 1 10 (by decide) 0 (by unfold Fr.bytes; rw [List.length_replicate]; rfl) w
theorem kl2_4077 (w : World) : Calls Try.prog 21 #[.int .u8 2, .int .i64 4077] w fun e w' => e = .returned (.int .i64 0) ∧ Kept Nothing w w' := kn_lay 2 4077 (by decide) 0 (by unfold Fr.bytes; rw [List.length_replicate]; rfl) w
theorem kl2_4078 (w : World) : Calls Try.prog 21 #[.int .u8 2, .int .i64 4078] w fun e w' => e = .returned (.int .i64 3) ∧ Kept Nothing w w' := kn_lay 2 4078 (by decide) 3 (by unfold Fr.bytes; rw [List.length_replicate]; rfl) w
theorem kl4_0 (w : World) : Calls Try.prog 21 #[.int .u8 4, .int .i64 0] w fun e w' => e = .returned (.int .i64 0) ∧ Kept Nothing w w' := kn_lay 4 0 (by decide) 0 (by unfold Fr.bytes; rw [List.length_replicate]; rfl) w
theorem kl4_1 (w : World) : Calls Try.prog 21 #[.int .u8 4, .int .i64 1] w fun e w' => e = .returned (.int .i64 1) ∧ Kept Nothing w w' := kn_lay 4 1 (by decide) 1 (by unfold Fr.bytes; rw [List.length_replicate]; rfl) w
theorem kl4_5000 (w : World) : Calls Try.prog 21 #[.int .u8 4, .int .i64 5000] w fun e w' => e = .returned (.int .i64 1) ∧ Kept Nothing w w' := kn_lay 4 5000 (by decide) 1 (by unfold Fr.bytes; rw [List.length_replicate]; rfl) w
theorem kl5_4 (w : World) : Calls Try.prog 21 #[.int .u8 5, .int .i64 4] w fun e w' => e = .returned (.int .i64 0) ∧ Kept Nothing w w' := kn_lay 5 4 (by decide) 0 (by unfold Fr.bytes; rw [List.length_replicate]; rfl) w
theorem kl3_1 (w : World) : Calls Try.prog 21 #[.int .u8 3, .int .i64 1] w fun e w' => e = .returned (.int .i64 1) ∧ Kept Nothing w w' := kn_lay 3 1 (by decide) 1 (by unfold Fr.bytes; rw [List.length_replicate]; rfl) w
def kls : List (Option Value) := [some (.func (Fn.func 20) #[] #[]), some (.agg #[.int .u8 1, .int .u8 2]), some (.agg #[.int .u8 1, .int .u8 2]), some (.bool true), some (.bool true), some (.func (Fn.func 20) #[] #[]), some (.agg #[.int .u8 1, .int .u8 2]), some (.agg #[.int .u8 1, .int .u8 2]), some (.bool true), some (.bool true), some (.bool true), some (.func (Fn.func 20) #[] #[]), some (.agg #[.int .u8 1, .int .u8 2]), some (.agg #[.int .u8 1, .int .u8 2]), some (.bool true), some (.bool true), some (.bool true), some (.func (Fn.func 20) #[] #[]), some (.agg #[.int .u8 1, .int .u8 3]), some (.agg #[.int .u8 1, .int .u8 3]), some (.bool true), some (.bool true), some (.bool true), some (.func (Fn.func 20) #[] #[]), some (.agg #[.int .u8 1, .int .u8 3]), some (.agg #[.int .u8 1, .int .u8 3]), some (.bool true), some (.bool true), some (.bool true), some (.func (Fn.func 20) #[] #[]), some (.agg #[.int .u8 1, .int .u8 2]), some (.agg #[.int .u8 1, .int .u8 2]), some (.bool true), some (.bool true), some (.bool true), some (.func (Fn.func 20) #[] #[]), some (.agg #[.int .u8 0, .int .u8 0]), some (.agg #[.int .u8 0, .int .u8 0]), some (.bool true), some (.bool true), some (.bool true), some (.func (Fn.func 20) #[] #[]), some (.agg #[.int .u8 0, .int .u8 0]), some (.agg #[.int .u8 0, .int .u8 0]), some (.bool true), some (.bool true), some (.bool true), some (.func (Fn.func 20) #[] #[]), some (.agg #[.int .u8 1, .int .u8 2]), some (.agg #[.int .u8 1, .int .u8 2]), some (.bool true), some (.bool true), some (.bool true), some (.func (Fn.func 20) #[] #[]), some (.agg #[.int .u8 0, .int .u8 0]), some (.agg #[.int .u8 0, .int .u8 0]), some (.bool true), some (.bool true), some (.bool true), some (.func (Fn.func 20) #[] #[]), some (.agg #[.int .u8 1, .int .u8 2]), some (.agg #[.int .u8 1, .int .u8 2]), some (.bool true), some (.bool true), some (.bool true), some (.func (Fn.func 20) #[] #[]), some (.agg #[.int .u8 0, .int .u8 0]), some (.agg #[.int .u8 0, .int .u8 0]), some (.bool true), some (.bool true), some (.bool true), some (.func (Fn.func 20) #[] #[]), some (.agg #[.int .u8 0, .int .u8 0]), some (.agg #[.int .u8 0, .int .u8 0]), some (.bool true), some (.bool true), some (.bool true), some (.func (Fn.func 20) #[] #[]), some (.agg #[.int .u8 1, .int .u8 2]), some (.agg #[.int .u8 1, .int .u8 2]), some (.bool true), some (.bool true), some (.bool true), some (.func (Fn.func 20) #[] #[]), some (.agg #[.int .u8 1, .int .u8 2]), some (.agg #[.int .u8 1, .int .u8 2]), some (.bool true), some (.bool true), some (.bool true), some (.func (Fn.func 20) #[] #[]), some (.agg #[.int .u8 0, .int .u8 0]), some (.agg #[.int .u8 0, .int .u8 0]), some (.bool true), some (.bool true), some (.bool true), some (.func (Fn.func 20) #[] #[]), some (.agg #[.int .u8 1, .int .u8 2]), some (.agg #[.int .u8 1, .int .u8 2]), some (.bool true), some (.bool true), some (.bool true), some (.func (Fn.func 21) #[] #[]), some (.int .i64 1), some (.bool true), some (.bool true), some (.bool true), some (.func (Fn.func 21) #[] #[]), some (.int .i64 1), some (.bool true), some (.bool true), some (.bool true), some (.func (Fn.func 21) #[] #[]), some (.int .i64 1), some (.bool true), some (.bool true), some (.bool true), some (.func (Fn.func 21) #[] #[]), some (.int .i64 0), some (.bool true), some (.bool true), some (.bool true), some (.func (Fn.func 21) #[] #[]), some (.int .i64 0), some (.bool true), some (.bool true), some (.bool true), some (.func (Fn.func 21) #[] #[]), some (.int .i64 3), some (.bool true), some (.bool true), some (.bool true), some (.func (Fn.func 21) #[] #[]), some (.int .i64 0), some (.bool true), some (.bool true), some (.bool true), some (.func (Fn.func 21) #[] #[]), some (.int .i64 1), some (.bool true), some (.bool true), some (.bool true), some (.func (Fn.func 21) #[] #[]), some (.int .i64 1), some (.bool true), some (.bool true), some (.bool true), some (.func (Fn.func 21) #[] #[]), some (.int .i64 0), some (.bool true), some (.bool true), some (.bool true), some (.func (Fn.func 21) #[] #[]), some (.int .i64 1), some (.bool true), some (.bool true), some (.bool true), some (.bool true), some (.bool true), some (.bool true)]
def kss : Nat → Value → World → Prop := fun _ _ _ => True

set_option maxRecDepth 20000 in
set_option maxHeartbeats 8000000 in
theorem known_law (W : World) : Calls Try.prog 5 #[] W fun e w' => e = .returned (.bool true) ∧ Kept Nothing W w' := by
  have ZB := Lib.hid (Blk.fresh W 50 zeroI)
  have K0 := Lib.hid ((Kept.refl Nothing W).alloc (.cells zeroI 50))
  go_enter Try.func5, Try.ntmps5
  go_wp2_with fail
  generalize W.alloc (.cells zeroI 50) = w0 at *
  generalize W.heap.size = z at *
  refine (nil_fault _).mono ?_
  rintro e w1 ⟨rfl, hk1⟩
  have K1 := Lib.hid (K0.out.trans hk1)
  have ZB1 := Lib.hid (ZB.out.kept hk1 (fun x => x))
  have FB := Lib.hid (Blk.fresh w1 35 #[.int .u8 0, .int .u8 0])
  have K2 := Lib.hid (K1.out.alloc (.cells #[.int .u8 0, .int .u8 0] 35))
  have ZB2 := Lib.hid (ZB1.out.alloc (.cells #[.int .u8 0, .int .u8 0] 35))
  have SZ : (w1.alloc (.cells #[.int .u8 0, .int .u8 0] 35)).heap.size = w1.heap.size + 1 := by simp
  have SZ := Lib.hid SZ
  clear hk1 K0 ZB K1 ZB1
  go_wp2_with fail
  generalize w1.alloc (.cells #[.int .u8 0, .int .u8 0] 35) = w2 at *
  generalize w1.heap.size = f at *
  refine (ones_hd w2 _ SZ.out).mono ?_
  rintro e w3 ⟨v3, rfl, hk3⟩
  have K3 := Lib.hid hk3
  clear hk3
  go_wp2_with fail
  refine (nil_feed _ _).mono ?_
  rintro e w4 ⟨rfl, hk4⟩
  have K4 := Lib.hid (K3.out.trans hk4)
  clear hk4 K3
  go_wp2_with fail
  refine (ones_hd w4 _ rfl).mono ?_
  rintro e w5 ⟨v5, rfl, hk5⟩
  have K5 := Lib.hid (K4.out.trans hk5)
  clear hk5 K4
  go_wp2_with fail
  refine (zero_feed z _ _ (ZB2.out.kept K5.out (fun x => x))).mono ?_
  rintro e w6 ⟨rfl, hk6⟩
  have K6 := Lib.hid (K5.out.trans hk6)
  have c0 : w6.cell? ⟨f, 0, none⟩ = some (.int .u8 0) := (FB.out.kept K6.out (fun x => x)).cell 0
  have ZB6 := Lib.hid (ZB2.out.kept K6.out (fun x => x))
  have KK := Lib.hid (K2.out.trans K6.out)
  clear hk6 K5 K6 K2 ZB2 FB SZ
  go_wp2_with fail
  refine (nil_waits _).mono ?_
  rintro e w7 ⟨rfl, rfl⟩
  go_wp2_with fail
  refine (zero_waits z _ ZB6.out).mono ?_
  rintro e w8 ⟨rfl, rfl⟩
  go_wp2_with fail
  refine (nil_copy _).mono ?_
  rintro e w9 ⟨rfl, rfl⟩
  go_wp2_with fail
  refine (zero_copy z _ ZB6.out).mono ?_
  rintro e w10 ⟨rfl, rfl⟩
  clear ZB6 c0
  go_wp2_with fail
  have X7 := Lib.hid (show (((w6.alloc (.cells #[.int .u8 1, .int .u8 2] 35)).alloc (.cells #[.int .u8 1, .int .u8 3] 35)).alloc (.cells #[.int .u8 0, .int .u8 0] 35)).cell? ⟨w6.heap.size, 0, none⟩ = some (.int .u8 1) from (((Blk.fresh w6 _ _).alloc _).alloc _).cell 0)
  have Y7 := Lib.hid (show (((w6.alloc (.cells #[.int .u8 1, .int .u8 2] 35)).alloc (.cells #[.int .u8 1, .int .u8 3] 35)).alloc (.cells #[.int .u8 0, .int .u8 0] 35)).cell? ⟨w6.heap.size, 1, none⟩ = some (.int .u8 2) from (((Blk.fresh w6 _ _).alloc _).alloc _).cell 1)
  have s1 : (w6.alloc (.cells #[.int .u8 1, .int .u8 2] 35)).heap.size = w6.heap.size + 1 := by simp
  have b8 := (Blk.fresh (w6.alloc (.cells #[.int .u8 1, .int .u8 2] 35)) 35 #[.int .u8 1, .int .u8 3]).alloc (.cells #[.int .u8 0, .int .u8 0] 35)
  rw [s1] at b8
  have X8 := Lib.hid (b8.cell 0)
  have Y8 := Lib.hid (b8.cell 1)
  have s2 : ((w6.alloc (.cells #[.int .u8 1, .int .u8 2] 35)).alloc (.cells #[.int .u8 1, .int .u8 3] 35)).heap.size = w6.heap.size + 1 + 1 := by simp
  have b9 := Blk.fresh ((w6.alloc (.cells #[.int .u8 1, .int .u8 2] 35)).alloc (.cells #[.int .u8 1, .int .u8 3] 35)) 35 #[.int .u8 0, .int .u8 0]
  rw [s2] at b9
  have X9 := Lib.hid (b9.cell 0)
  have Y9 := Lib.hid (b9.cell 1)
  have KW := Lib.hid (((KK.out.alloc (.cells #[.int .u8 1, .int .u8 2] 35)).alloc (.cells #[.int .u8 1, .int .u8 3] 35)).alloc (.cells #[.int .u8 0, .int .u8 0] 35))
  clear s1 s2 b8 b9 KK
  generalize ((w6.alloc (.cells #[.int .u8 1, .int .u8 2] 35)).alloc (.cells #[.int .u8 1, .int .u8 3] 35)).alloc (.cells #[.int .u8 0, .int .u8 0] 35) = w9 at *
  generalize w6.heap.size = g at *
  replace X7 : Hid (w9.cell? ⟨g, 0, none⟩ = some (.int .u8 1)) := X7
  replace Y7 : Hid (w9.cell? ⟨g, 1, none⟩ = some (.int .u8 2)) := Y7
  replace X8 : Hid (w9.cell? ⟨g + 1, 0, none⟩ = some (.int .u8 1)) := X8
  replace Y8 : Hid (w9.cell? ⟨g + 1, 1, none⟩ = some (.int .u8 3)) := Y8
  replace X9 : Hid (w9.cell? ⟨g + 1 + 1, 0, none⟩ = some (.int .u8 0)) := X9
  replace Y9 : Hid (w9.cell? ⟨g + 1 + 1, 1, none⟩ = some (.int .u8 0)) := Y9
  simp only [List.append_eq, List.cons_append, List.nil_append]
  refine wp_region_grow1 w9 (Facts kls kss) 158 0 (by rfl) (by kernel_rfl) (by decide +kernel) (by intro d hd; simp [dsts] at hd ⊢; omega) (ready_nil (by kernel_rfl)) (by kernel_rfl) (Facts.guards (E := [(4, true), (10, true), (16, true), (22, true), (28, true), (34, true), (40, true), (46, true), (52, true), (58, true), (64, true), (70, true), (76, true), (82, true), (88, true), (94, true), (100, true), (105, true), (110, true), (115, true), (120, true), (125, true), (130, true), (135, true), (140, true), (145, true), (150, true), (155, true)]) (by kernel_rfl) ?_) (Facts.stab (fun _ _ _ _ _ _ => trivial)) (Kept.refl Nothing w9).drew ?_ ?_
  · repeat (first | refine List.forall_mem_cons.2 ⟨by rfl, ?_⟩ | exact List.forall_mem_nil _)
  · refine OweAll.cons ?_ ?_
    · intro u a hk hf hfar
      have v5 : a.tmps.getD 5 undef = .func (Fn.func 20) #[] #[] := hfar 5 (by decide)
      have w5 := v5
      rw [Array.getD_eq_getD_getElem?] at w5
      clear hf hfar
      go_simp
      exact ⟨_, rfl, Kept.refl _ _, rfl⟩
    refine OweAll.cons ?_ ?_
    · intro u a hk hf hfar
      have v59 : a.tmps.getD 59 undef = .func (Fn.func 20) #[] #[] := hf 0 _ 59 rfl rfl ⟨⟨0, .data⟩, Array.mem_of_getElem? (i := 0) rfl, rfl, rfl⟩
      have w59 := v59
      rw [Array.getD_eq_getD_getElem?] at w59
      clear hf hfar
      go_simp
      refine (kq18_4 _).mono ?_
      rintro e u' ⟨rfl, hk'⟩
      exact ⟨_, rfl, hk', rfl⟩
    refine OweAll.cons ?_ ?_
    · intro u a hk hf hfar
      have v7 : a.tmps.getD 7 undef = .pointer (some ⟨g, 0, none⟩) := hfar 7 (by decide)
      have w7 := v7
      rw [Array.getD_eq_getD_getElem?] at w7
      have ca := hk.cell_some X7.out (fun x => x)
      have cb := hk.cell_some Y7.out (fun x => x)
      clear hf hfar
      go_simp
      exact ⟨_, rfl, Kept.refl _ _, rfl⟩
    refine OweAll.cons ?_ ?_
    · intro u a hk hf hfar
      have v60 : a.tmps.getD 60 undef = .agg #[.int .u8 1, .int .u8 2] := hf 1 _ 60 rfl rfl ⟨⟨1, .data⟩, Array.mem_of_getElem? (i := 0) rfl, rfl, rfl⟩
      have w60 := v60
      rw [Array.getD_eq_getD_getElem?] at w60
      have v61 : a.tmps.getD 61 undef = .agg #[.int .u8 1, .int .u8 2] := hf 2 _ 61 rfl rfl ⟨⟨2, .data⟩, Array.mem_of_getElem? (i := 1) rfl, rfl, rfl⟩
      have w61 := v61
      rw [Array.getD_eq_getD_getElem?] at w61
      clear hf hfar
      go_simp
      exact ⟨_, rfl, Kept.refl _ _, rfl⟩
    refine OweAll.cons ?_ ?_
    · intro u a hk hf hfar
      have v62 : a.tmps.getD 62 undef = .bool true := hf 3 _ 62 rfl rfl ⟨⟨3, .data⟩, Array.mem_of_getElem? (i := 0) rfl, rfl, rfl⟩
      have w62 := v62
      rw [Array.getD_eq_getD_getElem?] at w62
      clear hf hfar
      go_simp
      exact ⟨_, rfl, Kept.refl _ _, rfl⟩
    refine OweAll.cons ?_ ?_
    · intro u a hk hf hfar
      have v5 : a.tmps.getD 5 undef = .func (Fn.func 20) #[] #[] := hfar 5 (by decide)
      have w5 := v5
      rw [Array.getD_eq_getD_getElem?] at w5
      clear hf hfar
      go_simp
      exact ⟨_, rfl, Kept.refl _ _, rfl⟩
    refine OweAll.cons ?_ ?_
    · intro u a hk hf hfar
      have v64 : a.tmps.getD 64 undef = .func (Fn.func 20) #[] #[] := hf 5 _ 64 rfl rfl ⟨⟨5, .data⟩, Array.mem_of_getElem? (i := 0) rfl, rfl, rfl⟩
      have w64 := v64
      rw [Array.getD_eq_getD_getElem?] at w64
      clear hf hfar
      go_simp
      refine (kq4097_2 _).mono ?_
      rintro e u' ⟨rfl, hk'⟩
      exact ⟨_, rfl, hk', rfl⟩
    refine OweAll.cons ?_ ?_
    · intro u a hk hf hfar
      have v7 : a.tmps.getD 7 undef = .pointer (some ⟨g, 0, none⟩) := hfar 7 (by decide)
      have w7 := v7
      rw [Array.getD_eq_getD_getElem?] at w7
      have ca := hk.cell_some X7.out (fun x => x)
      have cb := hk.cell_some Y7.out (fun x => x)
      clear hf hfar
      go_simp
      exact ⟨_, rfl, Kept.refl _ _, rfl⟩
    refine OweAll.cons ?_ ?_
    · intro u a hk hf hfar
      have v65 : a.tmps.getD 65 undef = .agg #[.int .u8 1, .int .u8 2] := hf 6 _ 65 rfl rfl ⟨⟨6, .data⟩, Array.mem_of_getElem? (i := 0) rfl, rfl, rfl⟩
      have w65 := v65
      rw [Array.getD_eq_getD_getElem?] at w65
      have v66 : a.tmps.getD 66 undef = .agg #[.int .u8 1, .int .u8 2] := hf 7 _ 66 rfl rfl ⟨⟨7, .data⟩, Array.mem_of_getElem? (i := 1) rfl, rfl, rfl⟩
      have w66 := v66
      rw [Array.getD_eq_getD_getElem?] at w66
      clear hf hfar
      go_simp
      exact ⟨_, rfl, Kept.refl _ _, rfl⟩
    refine OweAll.cons ?_ ?_
    · intro u a hk hf hfar
      have v63 : a.tmps.getD 63 undef = .bool true := hf 4 _ 63 rfl rfl ⟨⟨4, .data⟩, Array.mem_of_getElem? (i := 0) rfl, rfl, rfl⟩
      have w63 := v63
      rw [Array.getD_eq_getD_getElem?] at w63
      have v67 : a.tmps.getD 67 undef = .bool true := hf 8 _ 67 rfl rfl ⟨⟨8, .data⟩, Array.mem_of_getElem? (i := 1) rfl, rfl, rfl⟩
      have w67 := v67
      rw [Array.getD_eq_getD_getElem?] at w67
      clear hf hfar
      go_simp
      exact ⟨_, rfl, Kept.refl _ _, rfl⟩
    refine OweAll.cons ?_ ?_
    · intro u a hk hf hfar
      have v68 : a.tmps.getD 68 undef = .bool true := hf 9 _ 68 rfl rfl ⟨⟨9, .data⟩, Array.mem_of_getElem? (i := 0) rfl, rfl, rfl⟩
      have w68 := v68
      rw [Array.getD_eq_getD_getElem?] at w68
      clear hf hfar
      go_simp
      exact ⟨_, rfl, Kept.refl _ _, rfl⟩
    refine OweAll.cons ?_ ?_
    · intro u a hk hf hfar
      have v5 : a.tmps.getD 5 undef = .func (Fn.func 20) #[] #[] := hfar 5 (by decide)
      have w5 := v5
      rw [Array.getD_eq_getD_getElem?] at w5
      clear hf hfar
      go_simp
      exact ⟨_, rfl, Kept.refl _ _, rfl⟩
    refine OweAll.cons ?_ ?_
    · intro u a hk hf hfar
      have v70 : a.tmps.getD 70 undef = .func (Fn.func 20) #[] #[] := hf 11 _ 70 rfl rfl ⟨⟨11, .data⟩, Array.mem_of_getElem? (i := 0) rfl, rfl, rfl⟩
      have w70 := v70
      rw [Array.getD_eq_getD_getElem?] at w70
      clear hf hfar
      go_simp
      refine (kq18_9 _).mono ?_
      rintro e u' ⟨rfl, hk'⟩
      exact ⟨_, rfl, hk', rfl⟩
    refine OweAll.cons ?_ ?_
    · intro u a hk hf hfar
      have v7 : a.tmps.getD 7 undef = .pointer (some ⟨g, 0, none⟩) := hfar 7 (by decide)
      have w7 := v7
      rw [Array.getD_eq_getD_getElem?] at w7
      have ca := hk.cell_some X7.out (fun x => x)
      have cb := hk.cell_some Y7.out (fun x => x)
      clear hf hfar
      go_simp
      exact ⟨_, rfl, Kept.refl _ _, rfl⟩
    refine OweAll.cons ?_ ?_
    · intro u a hk hf hfar
      have v71 : a.tmps.getD 71 undef = .agg #[.int .u8 1, .int .u8 2] := hf 12 _ 71 rfl rfl ⟨⟨12, .data⟩, Array.mem_of_getElem? (i := 0) rfl, rfl, rfl⟩
      have w71 := v71
      rw [Array.getD_eq_getD_getElem?] at w71
      have v72 : a.tmps.getD 72 undef = .agg #[.int .u8 1, .int .u8 2] := hf 13 _ 72 rfl rfl ⟨⟨13, .data⟩, Array.mem_of_getElem? (i := 1) rfl, rfl, rfl⟩
      have w72 := v72
      rw [Array.getD_eq_getD_getElem?] at w72
      clear hf hfar
      go_simp
      exact ⟨_, rfl, Kept.refl _ _, rfl⟩
    refine OweAll.cons ?_ ?_
    · intro u a hk hf hfar
      have v69 : a.tmps.getD 69 undef = .bool true := hf 10 _ 69 rfl rfl ⟨⟨10, .data⟩, Array.mem_of_getElem? (i := 0) rfl, rfl, rfl⟩
      have w69 := v69
      rw [Array.getD_eq_getD_getElem?] at w69
      have v73 : a.tmps.getD 73 undef = .bool true := hf 14 _ 73 rfl rfl ⟨⟨14, .data⟩, Array.mem_of_getElem? (i := 1) rfl, rfl, rfl⟩
      have w73 := v73
      rw [Array.getD_eq_getD_getElem?] at w73
      clear hf hfar
      go_simp
      exact ⟨_, rfl, Kept.refl _ _, rfl⟩
    refine OweAll.cons ?_ ?_
    · intro u a hk hf hfar
      have v74 : a.tmps.getD 74 undef = .bool true := hf 15 _ 74 rfl rfl ⟨⟨15, .data⟩, Array.mem_of_getElem? (i := 0) rfl, rfl, rfl⟩
      have w74 := v74
      rw [Array.getD_eq_getD_getElem?] at w74
      clear hf hfar
      go_simp
      exact ⟨_, rfl, Kept.refl _ _, rfl⟩
    refine OweAll.cons ?_ ?_
    · intro u a hk hf hfar
      have v5 : a.tmps.getD 5 undef = .func (Fn.func 20) #[] #[] := hfar 5 (by decide)
      have w5 := v5
      rw [Array.getD_eq_getD_getElem?] at w5
      clear hf hfar
      go_simp
      exact ⟨_, rfl, Kept.refl _ _, rfl⟩
    refine OweAll.cons ?_ ?_
    · intro u a hk hf hfar
      have v76 : a.tmps.getD 76 undef = .func (Fn.func 20) #[] #[] := hf 17 _ 76 rfl rfl ⟨⟨17, .data⟩, Array.mem_of_getElem? (i := 0) rfl, rfl, rfl⟩
      have w76 := v76
      rw [Array.getD_eq_getD_getElem?] at w76
      clear hf hfar
      go_simp
      refine (kq19_0 _).mono ?_
      rintro e u' ⟨rfl, hk'⟩
      exact ⟨_, rfl, hk', rfl⟩
    refine OweAll.cons ?_ ?_
    · intro u a hk hf hfar
      have v8 : a.tmps.getD 8 undef = .pointer (some ⟨g + 1, 0, none⟩) := hfar 8 (by decide)
      have w8 := v8
      rw [Array.getD_eq_getD_getElem?] at w8
      have ca := hk.cell_some X8.out (fun x => x)
      have cb := hk.cell_some Y8.out (fun x => x)
      clear hf hfar
      go_simp
      exact ⟨_, rfl, Kept.refl _ _, rfl⟩
    refine OweAll.cons ?_ ?_
    · intro u a hk hf hfar
      have v77 : a.tmps.getD 77 undef = .agg #[.int .u8 1, .int .u8 3] := hf 18 _ 77 rfl rfl ⟨⟨18, .data⟩, Array.mem_of_getElem? (i := 0) rfl, rfl, rfl⟩
      have w77 := v77
      rw [Array.getD_eq_getD_getElem?] at w77
      have v78 : a.tmps.getD 78 undef = .agg #[.int .u8 1, .int .u8 3] := hf 19 _ 78 rfl rfl ⟨⟨19, .data⟩, Array.mem_of_getElem? (i := 1) rfl, rfl, rfl⟩
      have w78 := v78
      rw [Array.getD_eq_getD_getElem?] at w78
      clear hf hfar
      go_simp
      exact ⟨_, rfl, Kept.refl _ _, rfl⟩
    refine OweAll.cons ?_ ?_
    · intro u a hk hf hfar
      have v75 : a.tmps.getD 75 undef = .bool true := hf 16 _ 75 rfl rfl ⟨⟨16, .data⟩, Array.mem_of_getElem? (i := 0) rfl, rfl, rfl⟩
      have w75 := v75
      rw [Array.getD_eq_getD_getElem?] at w75
      have v79 : a.tmps.getD 79 undef = .bool true := hf 20 _ 79 rfl rfl ⟨⟨20, .data⟩, Array.mem_of_getElem? (i := 1) rfl, rfl, rfl⟩
      have w79 := v79
      rw [Array.getD_eq_getD_getElem?] at w79
      clear hf hfar
      go_simp
      exact ⟨_, rfl, Kept.refl _ _, rfl⟩
    refine OweAll.cons ?_ ?_
    · intro u a hk hf hfar
      have v80 : a.tmps.getD 80 undef = .bool true := hf 21 _ 80 rfl rfl ⟨⟨21, .data⟩, Array.mem_of_getElem? (i := 0) rfl, rfl, rfl⟩
      have w80 := v80
      rw [Array.getD_eq_getD_getElem?] at w80
      clear hf hfar
      go_simp
      exact ⟨_, rfl, Kept.refl _ _, rfl⟩
    refine OweAll.cons ?_ ?_
    · intro u a hk hf hfar
      have v5 : a.tmps.getD 5 undef = .func (Fn.func 20) #[] #[] := hfar 5 (by decide)
      have w5 := v5
      rw [Array.getD_eq_getD_getElem?] at w5
      clear hf hfar
      go_simp
      exact ⟨_, rfl, Kept.refl _ _, rfl⟩
    refine OweAll.cons ?_ ?_
    · intro u a hk hf hfar
      have v82 : a.tmps.getD 82 undef = .func (Fn.func 20) #[] #[] := hf 23 _ 82 rfl rfl ⟨⟨23, .data⟩, Array.mem_of_getElem? (i := 0) rfl, rfl, rfl⟩
      have w82 := v82
      rw [Array.getD_eq_getD_getElem?] at w82
      clear hf hfar
      go_simp
      refine (kq4096_6 _).mono ?_
      rintro e u' ⟨rfl, hk'⟩
      exact ⟨_, rfl, hk', rfl⟩
    refine OweAll.cons ?_ ?_
    · intro u a hk hf hfar
      have v8 : a.tmps.getD 8 undef = .pointer (some ⟨g + 1, 0, none⟩) := hfar 8 (by decide)
      have w8 := v8
      rw [Array.getD_eq_getD_getElem?] at w8
      have ca := hk.cell_some X8.out (fun x => x)
      have cb := hk.cell_some Y8.out (fun x => x)
      clear hf hfar
      go_simp
      exact ⟨_, rfl, Kept.refl _ _, rfl⟩
    refine OweAll.cons ?_ ?_
    · intro u a hk hf hfar
      have v83 : a.tmps.getD 83 undef = .agg #[.int .u8 1, .int .u8 3] := hf 24 _ 83 rfl rfl ⟨⟨24, .data⟩, Array.mem_of_getElem? (i := 0) rfl, rfl, rfl⟩
      have w83 := v83
      rw [Array.getD_eq_getD_getElem?] at w83
      have v84 : a.tmps.getD 84 undef = .agg #[.int .u8 1, .int .u8 3] := hf 25 _ 84 rfl rfl ⟨⟨25, .data⟩, Array.mem_of_getElem? (i := 1) rfl, rfl, rfl⟩
      have w84 := v84
      rw [Array.getD_eq_getD_getElem?] at w84
      clear hf hfar
      go_simp
      exact ⟨_, rfl, Kept.refl _ _, rfl⟩
    refine OweAll.cons ?_ ?_
    · intro u a hk hf hfar
      have v81 : a.tmps.getD 81 undef = .bool true := hf 22 _ 81 rfl rfl ⟨⟨22, .data⟩, Array.mem_of_getElem? (i := 0) rfl, rfl, rfl⟩
      have w81 := v81
      rw [Array.getD_eq_getD_getElem?] at w81
      have v85 : a.tmps.getD 85 undef = .bool true := hf 26 _ 85 rfl rfl ⟨⟨26, .data⟩, Array.mem_of_getElem? (i := 1) rfl, rfl, rfl⟩
      have w85 := v85
      rw [Array.getD_eq_getD_getElem?] at w85
      clear hf hfar
      go_simp
      exact ⟨_, rfl, Kept.refl _ _, rfl⟩
    refine OweAll.cons ?_ ?_
    · intro u a hk hf hfar
      have v86 : a.tmps.getD 86 undef = .bool true := hf 27 _ 86 rfl rfl ⟨⟨27, .data⟩, Array.mem_of_getElem? (i := 0) rfl, rfl, rfl⟩
      have w86 := v86
      rw [Array.getD_eq_getD_getElem?] at w86
      clear hf hfar
      go_simp
      exact ⟨_, rfl, Kept.refl _ _, rfl⟩
    refine OweAll.cons ?_ ?_
    · intro u a hk hf hfar
      have v5 : a.tmps.getD 5 undef = .func (Fn.func 20) #[] #[] := hfar 5 (by decide)
      have w5 := v5
      rw [Array.getD_eq_getD_getElem?] at w5
      clear hf hfar
      go_simp
      exact ⟨_, rfl, Kept.refl _ _, rfl⟩
    refine OweAll.cons ?_ ?_
    · intro u a hk hf hfar
      have v88 : a.tmps.getD 88 undef = .func (Fn.func 20) #[] #[] := hf 29 _ 88 rfl rfl ⟨⟨29, .data⟩, Array.mem_of_getElem? (i := 0) rfl, rfl, rfl⟩
      have w88 := v88
      rw [Array.getD_eq_getD_getElem?] at w88
      clear hf hfar
      go_simp
      refine (kq28_1 _).mono ?_
      rintro e u' ⟨rfl, hk'⟩
      exact ⟨_, rfl, hk', rfl⟩
    refine OweAll.cons ?_ ?_
    · intro u a hk hf hfar
      have v7 : a.tmps.getD 7 undef = .pointer (some ⟨g, 0, none⟩) := hfar 7 (by decide)
      have w7 := v7
      rw [Array.getD_eq_getD_getElem?] at w7
      have ca := hk.cell_some X7.out (fun x => x)
      have cb := hk.cell_some Y7.out (fun x => x)
      clear hf hfar
      go_simp
      exact ⟨_, rfl, Kept.refl _ _, rfl⟩
    refine OweAll.cons ?_ ?_
    · intro u a hk hf hfar
      have v89 : a.tmps.getD 89 undef = .agg #[.int .u8 1, .int .u8 2] := hf 30 _ 89 rfl rfl ⟨⟨30, .data⟩, Array.mem_of_getElem? (i := 0) rfl, rfl, rfl⟩
      have w89 := v89
      rw [Array.getD_eq_getD_getElem?] at w89
      have v90 : a.tmps.getD 90 undef = .agg #[.int .u8 1, .int .u8 2] := hf 31 _ 90 rfl rfl ⟨⟨31, .data⟩, Array.mem_of_getElem? (i := 1) rfl, rfl, rfl⟩
      have w90 := v90
      rw [Array.getD_eq_getD_getElem?] at w90
      clear hf hfar
      go_simp
      exact ⟨_, rfl, Kept.refl _ _, rfl⟩
    refine OweAll.cons ?_ ?_
    · intro u a hk hf hfar
      have v87 : a.tmps.getD 87 undef = .bool true := hf 28 _ 87 rfl rfl ⟨⟨28, .data⟩, Array.mem_of_getElem? (i := 0) rfl, rfl, rfl⟩
      have w87 := v87
      rw [Array.getD_eq_getD_getElem?] at w87
      have v91 : a.tmps.getD 91 undef = .bool true := hf 32 _ 91 rfl rfl ⟨⟨32, .data⟩, Array.mem_of_getElem? (i := 1) rfl, rfl, rfl⟩
      have w91 := v91
      rw [Array.getD_eq_getD_getElem?] at w91
      clear hf hfar
      go_simp
      exact ⟨_, rfl, Kept.refl _ _, rfl⟩
    refine OweAll.cons ?_ ?_
    · intro u a hk hf hfar
      have v92 : a.tmps.getD 92 undef = .bool true := hf 33 _ 92 rfl rfl ⟨⟨33, .data⟩, Array.mem_of_getElem? (i := 0) rfl, rfl, rfl⟩
      have w92 := v92
      rw [Array.getD_eq_getD_getElem?] at w92
      clear hf hfar
      go_simp
      exact ⟨_, rfl, Kept.refl _ _, rfl⟩
    refine OweAll.cons ?_ ?_
    · intro u a hk hf hfar
      have v5 : a.tmps.getD 5 undef = .func (Fn.func 20) #[] #[] := hfar 5 (by decide)
      have w5 := v5
      rw [Array.getD_eq_getD_getElem?] at w5
      clear hf hfar
      go_simp
      exact ⟨_, rfl, Kept.refl _ _, rfl⟩
    refine OweAll.cons ?_ ?_
    · intro u a hk hf hfar
      have v94 : a.tmps.getD 94 undef = .func (Fn.func 20) #[] #[] := hf 35 _ 94 rfl rfl ⟨⟨35, .data⟩, Array.mem_of_getElem? (i := 0) rfl, rfl, rfl⟩
      have w94 := v94
      rw [Array.getD_eq_getD_getElem?] at w94
      clear hf hfar
      go_simp
      refine (kq29_1 _).mono ?_
      rintro e u' ⟨rfl, hk'⟩
      exact ⟨_, rfl, hk', rfl⟩
    refine OweAll.cons ?_ ?_
    · intro u a hk hf hfar
      have v9 : a.tmps.getD 9 undef = .pointer (some ⟨g + 1 + 1, 0, none⟩) := hfar 9 (by decide)
      have w9 := v9
      rw [Array.getD_eq_getD_getElem?] at w9
      have ca := hk.cell_some X9.out (fun x => x)
      have cb := hk.cell_some Y9.out (fun x => x)
      clear hf hfar
      go_simp
      exact ⟨_, rfl, Kept.refl _ _, rfl⟩
    refine OweAll.cons ?_ ?_
    · intro u a hk hf hfar
      have v95 : a.tmps.getD 95 undef = .agg #[.int .u8 0, .int .u8 0] := hf 36 _ 95 rfl rfl ⟨⟨36, .data⟩, Array.mem_of_getElem? (i := 0) rfl, rfl, rfl⟩
      have w95 := v95
      rw [Array.getD_eq_getD_getElem?] at w95
      have v96 : a.tmps.getD 96 undef = .agg #[.int .u8 0, .int .u8 0] := hf 37 _ 96 rfl rfl ⟨⟨37, .data⟩, Array.mem_of_getElem? (i := 1) rfl, rfl, rfl⟩
      have w96 := v96
      rw [Array.getD_eq_getD_getElem?] at w96
      clear hf hfar
      go_simp
      exact ⟨_, rfl, Kept.refl _ _, rfl⟩
    refine OweAll.cons ?_ ?_
    · intro u a hk hf hfar
      have v93 : a.tmps.getD 93 undef = .bool true := hf 34 _ 93 rfl rfl ⟨⟨34, .data⟩, Array.mem_of_getElem? (i := 0) rfl, rfl, rfl⟩
      have w93 := v93
      rw [Array.getD_eq_getD_getElem?] at w93
      have v97 : a.tmps.getD 97 undef = .bool true := hf 38 _ 97 rfl rfl ⟨⟨38, .data⟩, Array.mem_of_getElem? (i := 1) rfl, rfl, rfl⟩
      have w97 := v97
      rw [Array.getD_eq_getD_getElem?] at w97
      clear hf hfar
      go_simp
      exact ⟨_, rfl, Kept.refl _ _, rfl⟩
    refine OweAll.cons ?_ ?_
    · intro u a hk hf hfar
      have v98 : a.tmps.getD 98 undef = .bool true := hf 39 _ 98 rfl rfl ⟨⟨39, .data⟩, Array.mem_of_getElem? (i := 0) rfl, rfl, rfl⟩
      have w98 := v98
      rw [Array.getD_eq_getD_getElem?] at w98
      clear hf hfar
      go_simp
      exact ⟨_, rfl, Kept.refl _ _, rfl⟩
    refine OweAll.cons ?_ ?_
    · intro u a hk hf hfar
      have v5 : a.tmps.getD 5 undef = .func (Fn.func 20) #[] #[] := hfar 5 (by decide)
      have w5 := v5
      rw [Array.getD_eq_getD_getElem?] at w5
      clear hf hfar
      go_simp
      exact ⟨_, rfl, Kept.refl _ _, rfl⟩
    refine OweAll.cons ?_ ?_
    · intro u a hk hf hfar
      have v100 : a.tmps.getD 100 undef = .func (Fn.func 20) #[] #[] := hf 41 _ 100 rfl rfl ⟨⟨41, .data⟩, Array.mem_of_getElem? (i := 0) rfl, rfl, rfl⟩
      have w100 := v100
      rw [Array.getD_eq_getD_getElem?] at w100
      clear hf hfar
      go_simp
      refine (kq4096_1 _).mono ?_
      rintro e u' ⟨rfl, hk'⟩
      exact ⟨_, rfl, hk', rfl⟩
    refine OweAll.cons ?_ ?_
    · intro u a hk hf hfar
      have v9 : a.tmps.getD 9 undef = .pointer (some ⟨g + 1 + 1, 0, none⟩) := hfar 9 (by decide)
      have w9 := v9
      rw [Array.getD_eq_getD_getElem?] at w9
      have ca := hk.cell_some X9.out (fun x => x)
      have cb := hk.cell_some Y9.out (fun x => x)
      clear hf hfar
      go_simp
      exact ⟨_, rfl, Kept.refl _ _, rfl⟩
    refine OweAll.cons ?_ ?_
    · intro u a hk hf hfar
      have v101 : a.tmps.getD 101 undef = .agg #[.int .u8 0, .int .u8 0] := hf 42 _ 101 rfl rfl ⟨⟨42, .data⟩, Array.mem_of_getElem? (i := 0) rfl, rfl, rfl⟩
      have w101 := v101
      rw [Array.getD_eq_getD_getElem?] at w101
      have v102 : a.tmps.getD 102 undef = .agg #[.int .u8 0, .int .u8 0] := hf 43 _ 102 rfl rfl ⟨⟨43, .data⟩, Array.mem_of_getElem? (i := 1) rfl, rfl, rfl⟩
      have w102 := v102
      rw [Array.getD_eq_getD_getElem?] at w102
      clear hf hfar
      go_simp
      exact ⟨_, rfl, Kept.refl _ _, rfl⟩
    refine OweAll.cons ?_ ?_
    · intro u a hk hf hfar
      have v99 : a.tmps.getD 99 undef = .bool true := hf 40 _ 99 rfl rfl ⟨⟨40, .data⟩, Array.mem_of_getElem? (i := 0) rfl, rfl, rfl⟩
      have w99 := v99
      rw [Array.getD_eq_getD_getElem?] at w99
      have v103 : a.tmps.getD 103 undef = .bool true := hf 44 _ 103 rfl rfl ⟨⟨44, .data⟩, Array.mem_of_getElem? (i := 1) rfl, rfl, rfl⟩
      have w103 := v103
      rw [Array.getD_eq_getD_getElem?] at w103
      clear hf hfar
      go_simp
      exact ⟨_, rfl, Kept.refl _ _, rfl⟩
    refine OweAll.cons ?_ ?_
    · intro u a hk hf hfar
      have v104 : a.tmps.getD 104 undef = .bool true := hf 45 _ 104 rfl rfl ⟨⟨45, .data⟩, Array.mem_of_getElem? (i := 0) rfl, rfl, rfl⟩
      have w104 := v104
      rw [Array.getD_eq_getD_getElem?] at w104
      clear hf hfar
      go_simp
      exact ⟨_, rfl, Kept.refl _ _, rfl⟩
    refine OweAll.cons ?_ ?_
    · intro u a hk hf hfar
      have v5 : a.tmps.getD 5 undef = .func (Fn.func 20) #[] #[] := hfar 5 (by decide)
      have w5 := v5
      rw [Array.getD_eq_getD_getElem?] at w5
      clear hf hfar
      go_simp
      exact ⟨_, rfl, Kept.refl _ _, rfl⟩
    refine OweAll.cons ?_ ?_
    · intro u a hk hf hfar
      have v106 : a.tmps.getD 106 undef = .func (Fn.func 20) #[] #[] := hf 47 _ 106 rfl rfl ⟨⟨47, .data⟩, Array.mem_of_getElem? (i := 0) rfl, rfl, rfl⟩
      have w106 := v106
      rw [Array.getD_eq_getD_getElem?] at w106
      clear hf hfar
      go_simp
      refine (kq22_2 _).mono ?_
      rintro e u' ⟨rfl, hk'⟩
      exact ⟨_, rfl, hk', rfl⟩
    refine OweAll.cons ?_ ?_
    · intro u a hk hf hfar
      have v7 : a.tmps.getD 7 undef = .pointer (some ⟨g, 0, none⟩) := hfar 7 (by decide)
      have w7 := v7
      rw [Array.getD_eq_getD_getElem?] at w7
      have ca := hk.cell_some X7.out (fun x => x)
      have cb := hk.cell_some Y7.out (fun x => x)
      clear hf hfar
      go_simp
      exact ⟨_, rfl, Kept.refl _ _, rfl⟩
    refine OweAll.cons ?_ ?_
    · intro u a hk hf hfar
      have v107 : a.tmps.getD 107 undef = .agg #[.int .u8 1, .int .u8 2] := hf 48 _ 107 rfl rfl ⟨⟨48, .data⟩, Array.mem_of_getElem? (i := 0) rfl, rfl, rfl⟩
      have w107 := v107
      rw [Array.getD_eq_getD_getElem?] at w107
      have v108 : a.tmps.getD 108 undef = .agg #[.int .u8 1, .int .u8 2] := hf 49 _ 108 rfl rfl ⟨⟨49, .data⟩, Array.mem_of_getElem? (i := 1) rfl, rfl, rfl⟩
      have w108 := v108
      rw [Array.getD_eq_getD_getElem?] at w108
      clear hf hfar
      go_simp
      exact ⟨_, rfl, Kept.refl _ _, rfl⟩
    refine OweAll.cons ?_ ?_
    · intro u a hk hf hfar
      have v105 : a.tmps.getD 105 undef = .bool true := hf 46 _ 105 rfl rfl ⟨⟨46, .data⟩, Array.mem_of_getElem? (i := 0) rfl, rfl, rfl⟩
      have w105 := v105
      rw [Array.getD_eq_getD_getElem?] at w105
      have v109 : a.tmps.getD 109 undef = .bool true := hf 50 _ 109 rfl rfl ⟨⟨50, .data⟩, Array.mem_of_getElem? (i := 1) rfl, rfl, rfl⟩
      have w109 := v109
      rw [Array.getD_eq_getD_getElem?] at w109
      clear hf hfar
      go_simp
      exact ⟨_, rfl, Kept.refl _ _, rfl⟩
    refine OweAll.cons ?_ ?_
    · intro u a hk hf hfar
      have v110 : a.tmps.getD 110 undef = .bool true := hf 51 _ 110 rfl rfl ⟨⟨51, .data⟩, Array.mem_of_getElem? (i := 0) rfl, rfl, rfl⟩
      have w110 := v110
      rw [Array.getD_eq_getD_getElem?] at w110
      clear hf hfar
      go_simp
      exact ⟨_, rfl, Kept.refl _ _, rfl⟩
    refine OweAll.cons ?_ ?_
    · intro u a hk hf hfar
      have v5 : a.tmps.getD 5 undef = .func (Fn.func 20) #[] #[] := hfar 5 (by decide)
      have w5 := v5
      rw [Array.getD_eq_getD_getElem?] at w5
      clear hf hfar
      go_simp
      exact ⟨_, rfl, Kept.refl _ _, rfl⟩
    refine OweAll.cons ?_ ?_
    · intro u a hk hf hfar
      have v112 : a.tmps.getD 112 undef = .func (Fn.func 20) #[] #[] := hf 53 _ 112 rfl rfl ⟨⟨53, .data⟩, Array.mem_of_getElem? (i := 0) rfl, rfl, rfl⟩
      have w112 := v112
      rw [Array.getD_eq_getD_getElem?] at w112
      clear hf hfar
      go_simp
      refine (kq23_2 _).mono ?_
      rintro e u' ⟨rfl, hk'⟩
      exact ⟨_, rfl, hk', rfl⟩
    refine OweAll.cons ?_ ?_
    · intro u a hk hf hfar
      have v9 : a.tmps.getD 9 undef = .pointer (some ⟨g + 1 + 1, 0, none⟩) := hfar 9 (by decide)
      have w9 := v9
      rw [Array.getD_eq_getD_getElem?] at w9
      have ca := hk.cell_some X9.out (fun x => x)
      have cb := hk.cell_some Y9.out (fun x => x)
      clear hf hfar
      go_simp
      exact ⟨_, rfl, Kept.refl _ _, rfl⟩
    refine OweAll.cons ?_ ?_
    · intro u a hk hf hfar
      have v113 : a.tmps.getD 113 undef = .agg #[.int .u8 0, .int .u8 0] := hf 54 _ 113 rfl rfl ⟨⟨54, .data⟩, Array.mem_of_getElem? (i := 0) rfl, rfl, rfl⟩
      have w113 := v113
      rw [Array.getD_eq_getD_getElem?] at w113
      have v114 : a.tmps.getD 114 undef = .agg #[.int .u8 0, .int .u8 0] := hf 55 _ 114 rfl rfl ⟨⟨55, .data⟩, Array.mem_of_getElem? (i := 1) rfl, rfl, rfl⟩
      have w114 := v114
      rw [Array.getD_eq_getD_getElem?] at w114
      clear hf hfar
      go_simp
      exact ⟨_, rfl, Kept.refl _ _, rfl⟩
    refine OweAll.cons ?_ ?_
    · intro u a hk hf hfar
      have v111 : a.tmps.getD 111 undef = .bool true := hf 52 _ 111 rfl rfl ⟨⟨52, .data⟩, Array.mem_of_getElem? (i := 0) rfl, rfl, rfl⟩
      have w111 := v111
      rw [Array.getD_eq_getD_getElem?] at w111
      have v115 : a.tmps.getD 115 undef = .bool true := hf 56 _ 115 rfl rfl ⟨⟨56, .data⟩, Array.mem_of_getElem? (i := 1) rfl, rfl, rfl⟩
      have w115 := v115
      rw [Array.getD_eq_getD_getElem?] at w115
      clear hf hfar
      go_simp
      exact ⟨_, rfl, Kept.refl _ _, rfl⟩
    refine OweAll.cons ?_ ?_
    · intro u a hk hf hfar
      have v116 : a.tmps.getD 116 undef = .bool true := hf 57 _ 116 rfl rfl ⟨⟨57, .data⟩, Array.mem_of_getElem? (i := 0) rfl, rfl, rfl⟩
      have w116 := v116
      rw [Array.getD_eq_getD_getElem?] at w116
      clear hf hfar
      go_simp
      exact ⟨_, rfl, Kept.refl _ _, rfl⟩
    refine OweAll.cons ?_ ?_
    · intro u a hk hf hfar
      have v5 : a.tmps.getD 5 undef = .func (Fn.func 20) #[] #[] := hfar 5 (by decide)
      have w5 := v5
      rw [Array.getD_eq_getD_getElem?] at w5
      clear hf hfar
      go_simp
      exact ⟨_, rfl, Kept.refl _ _, rfl⟩
    refine OweAll.cons ?_ ?_
    · intro u a hk hf hfar
      have v118 : a.tmps.getD 118 undef = .func (Fn.func 20) #[] #[] := hf 59 _ 118 rfl rfl ⟨⟨59, .data⟩, Array.mem_of_getElem? (i := 0) rfl, rfl, rfl⟩
      have w118 := v118
      rw [Array.getD_eq_getD_getElem?] at w118
      clear hf hfar
      go_simp
      refine (kq20_3 _).mono ?_
      rintro e u' ⟨rfl, hk'⟩
      exact ⟨_, rfl, hk', rfl⟩
    refine OweAll.cons ?_ ?_
    · intro u a hk hf hfar
      have v7 : a.tmps.getD 7 undef = .pointer (some ⟨g, 0, none⟩) := hfar 7 (by decide)
      have w7 := v7
      rw [Array.getD_eq_getD_getElem?] at w7
      have ca := hk.cell_some X7.out (fun x => x)
      have cb := hk.cell_some Y7.out (fun x => x)
      clear hf hfar
      go_simp
      exact ⟨_, rfl, Kept.refl _ _, rfl⟩
    refine OweAll.cons ?_ ?_
    · intro u a hk hf hfar
      have v119 : a.tmps.getD 119 undef = .agg #[.int .u8 1, .int .u8 2] := hf 60 _ 119 rfl rfl ⟨⟨60, .data⟩, Array.mem_of_getElem? (i := 0) rfl, rfl, rfl⟩
      have w119 := v119
      rw [Array.getD_eq_getD_getElem?] at w119
      have v120 : a.tmps.getD 120 undef = .agg #[.int .u8 1, .int .u8 2] := hf 61 _ 120 rfl rfl ⟨⟨61, .data⟩, Array.mem_of_getElem? (i := 1) rfl, rfl, rfl⟩
      have w120 := v120
      rw [Array.getD_eq_getD_getElem?] at w120
      clear hf hfar
      go_simp
      exact ⟨_, rfl, Kept.refl _ _, rfl⟩
    refine OweAll.cons ?_ ?_
    · intro u a hk hf hfar
      have v117 : a.tmps.getD 117 undef = .bool true := hf 58 _ 117 rfl rfl ⟨⟨58, .data⟩, Array.mem_of_getElem? (i := 0) rfl, rfl, rfl⟩
      have w117 := v117
      rw [Array.getD_eq_getD_getElem?] at w117
      have v121 : a.tmps.getD 121 undef = .bool true := hf 62 _ 121 rfl rfl ⟨⟨62, .data⟩, Array.mem_of_getElem? (i := 1) rfl, rfl, rfl⟩
      have w121 := v121
      rw [Array.getD_eq_getD_getElem?] at w121
      clear hf hfar
      go_simp
      exact ⟨_, rfl, Kept.refl _ _, rfl⟩
    refine OweAll.cons ?_ ?_
    · intro u a hk hf hfar
      have v122 : a.tmps.getD 122 undef = .bool true := hf 63 _ 122 rfl rfl ⟨⟨63, .data⟩, Array.mem_of_getElem? (i := 0) rfl, rfl, rfl⟩
      have w122 := v122
      rw [Array.getD_eq_getD_getElem?] at w122
      clear hf hfar
      go_simp
      exact ⟨_, rfl, Kept.refl _ _, rfl⟩
    refine OweAll.cons ?_ ?_
    · intro u a hk hf hfar
      have v5 : a.tmps.getD 5 undef = .func (Fn.func 20) #[] #[] := hfar 5 (by decide)
      have w5 := v5
      rw [Array.getD_eq_getD_getElem?] at w5
      clear hf hfar
      go_simp
      exact ⟨_, rfl, Kept.refl _ _, rfl⟩
    refine OweAll.cons ?_ ?_
    · intro u a hk hf hfar
      have v124 : a.tmps.getD 124 undef = .func (Fn.func 20) #[] #[] := hf 65 _ 124 rfl rfl ⟨⟨65, .data⟩, Array.mem_of_getElem? (i := 0) rfl, rfl, rfl⟩
      have w124 := v124
      rw [Array.getD_eq_getD_getElem?] at w124
      clear hf hfar
      go_simp
      refine (kq21_3 _).mono ?_
      rintro e u' ⟨rfl, hk'⟩
      exact ⟨_, rfl, hk', rfl⟩
    refine OweAll.cons ?_ ?_
    · intro u a hk hf hfar
      have v9 : a.tmps.getD 9 undef = .pointer (some ⟨g + 1 + 1, 0, none⟩) := hfar 9 (by decide)
      have w9 := v9
      rw [Array.getD_eq_getD_getElem?] at w9
      have ca := hk.cell_some X9.out (fun x => x)
      have cb := hk.cell_some Y9.out (fun x => x)
      clear hf hfar
      go_simp
      exact ⟨_, rfl, Kept.refl _ _, rfl⟩
    refine OweAll.cons ?_ ?_
    · intro u a hk hf hfar
      have v125 : a.tmps.getD 125 undef = .agg #[.int .u8 0, .int .u8 0] := hf 66 _ 125 rfl rfl ⟨⟨66, .data⟩, Array.mem_of_getElem? (i := 0) rfl, rfl, rfl⟩
      have w125 := v125
      rw [Array.getD_eq_getD_getElem?] at w125
      have v126 : a.tmps.getD 126 undef = .agg #[.int .u8 0, .int .u8 0] := hf 67 _ 126 rfl rfl ⟨⟨67, .data⟩, Array.mem_of_getElem? (i := 1) rfl, rfl, rfl⟩
      have w126 := v126
      rw [Array.getD_eq_getD_getElem?] at w126
      clear hf hfar
      go_simp
      exact ⟨_, rfl, Kept.refl _ _, rfl⟩
    refine OweAll.cons ?_ ?_
    · intro u a hk hf hfar
      have v123 : a.tmps.getD 123 undef = .bool true := hf 64 _ 123 rfl rfl ⟨⟨64, .data⟩, Array.mem_of_getElem? (i := 0) rfl, rfl, rfl⟩
      have w123 := v123
      rw [Array.getD_eq_getD_getElem?] at w123
      have v127 : a.tmps.getD 127 undef = .bool true := hf 68 _ 127 rfl rfl ⟨⟨68, .data⟩, Array.mem_of_getElem? (i := 1) rfl, rfl, rfl⟩
      have w127 := v127
      rw [Array.getD_eq_getD_getElem?] at w127
      clear hf hfar
      go_simp
      exact ⟨_, rfl, Kept.refl _ _, rfl⟩
    refine OweAll.cons ?_ ?_
    · intro u a hk hf hfar
      have v128 : a.tmps.getD 128 undef = .bool true := hf 69 _ 128 rfl rfl ⟨⟨69, .data⟩, Array.mem_of_getElem? (i := 0) rfl, rfl, rfl⟩
      have w128 := v128
      rw [Array.getD_eq_getD_getElem?] at w128
      clear hf hfar
      go_simp
      exact ⟨_, rfl, Kept.refl _ _, rfl⟩
    refine OweAll.cons ?_ ?_
    · intro u a hk hf hfar
      have v5 : a.tmps.getD 5 undef = .func (Fn.func 20) #[] #[] := hfar 5 (by decide)
      have w5 := v5
      rw [Array.getD_eq_getD_getElem?] at w5
      clear hf hfar
      go_simp
      exact ⟨_, rfl, Kept.refl _ _, rfl⟩
    refine OweAll.cons ?_ ?_
    · intro u a hk hf hfar
      have v130 : a.tmps.getD 130 undef = .func (Fn.func 20) #[] #[] := hf 71 _ 130 rfl rfl ⟨⟨71, .data⟩, Array.mem_of_getElem? (i := 0) rfl, rfl, rfl⟩
      have w130 := v130
      rw [Array.getD_eq_getD_getElem?] at w130
      clear hf hfar
      go_simp
      refine (kq19_4 _).mono ?_
      rintro e u' ⟨rfl, hk'⟩
      exact ⟨_, rfl, hk', rfl⟩
    refine OweAll.cons ?_ ?_
    · intro u a hk hf hfar
      have v9 : a.tmps.getD 9 undef = .pointer (some ⟨g + 1 + 1, 0, none⟩) := hfar 9 (by decide)
      have w9 := v9
      rw [Array.getD_eq_getD_getElem?] at w9
      have ca := hk.cell_some X9.out (fun x => x)
      have cb := hk.cell_some Y9.out (fun x => x)
      clear hf hfar
      go_simp
      exact ⟨_, rfl, Kept.refl _ _, rfl⟩
    refine OweAll.cons ?_ ?_
    · intro u a hk hf hfar
      have v131 : a.tmps.getD 131 undef = .agg #[.int .u8 0, .int .u8 0] := hf 72 _ 131 rfl rfl ⟨⟨72, .data⟩, Array.mem_of_getElem? (i := 0) rfl, rfl, rfl⟩
      have w131 := v131
      rw [Array.getD_eq_getD_getElem?] at w131
      have v132 : a.tmps.getD 132 undef = .agg #[.int .u8 0, .int .u8 0] := hf 73 _ 132 rfl rfl ⟨⟨73, .data⟩, Array.mem_of_getElem? (i := 1) rfl, rfl, rfl⟩
      have w132 := v132
      rw [Array.getD_eq_getD_getElem?] at w132
      clear hf hfar
      go_simp
      exact ⟨_, rfl, Kept.refl _ _, rfl⟩
    refine OweAll.cons ?_ ?_
    · intro u a hk hf hfar
      have v129 : a.tmps.getD 129 undef = .bool true := hf 70 _ 129 rfl rfl ⟨⟨70, .data⟩, Array.mem_of_getElem? (i := 0) rfl, rfl, rfl⟩
      have w129 := v129
      rw [Array.getD_eq_getD_getElem?] at w129
      have v133 : a.tmps.getD 133 undef = .bool true := hf 74 _ 133 rfl rfl ⟨⟨74, .data⟩, Array.mem_of_getElem? (i := 1) rfl, rfl, rfl⟩
      have w133 := v133
      rw [Array.getD_eq_getD_getElem?] at w133
      clear hf hfar
      go_simp
      exact ⟨_, rfl, Kept.refl _ _, rfl⟩
    refine OweAll.cons ?_ ?_
    · intro u a hk hf hfar
      have v134 : a.tmps.getD 134 undef = .bool true := hf 75 _ 134 rfl rfl ⟨⟨75, .data⟩, Array.mem_of_getElem? (i := 0) rfl, rfl, rfl⟩
      have w134 := v134
      rw [Array.getD_eq_getD_getElem?] at w134
      clear hf hfar
      go_simp
      exact ⟨_, rfl, Kept.refl _ _, rfl⟩
    refine OweAll.cons ?_ ?_
    · intro u a hk hf hfar
      have v5 : a.tmps.getD 5 undef = .func (Fn.func 20) #[] #[] := hfar 5 (by decide)
      have w5 := v5
      rw [Array.getD_eq_getD_getElem?] at w5
      clear hf hfar
      go_simp
      exact ⟨_, rfl, Kept.refl _ _, rfl⟩
    refine OweAll.cons ?_ ?_
    · intro u a hk hf hfar
      have v136 : a.tmps.getD 136 undef = .func (Fn.func 20) #[] #[] := hf 77 _ 136 rfl rfl ⟨⟨77, .data⟩, Array.mem_of_getElem? (i := 0) rfl, rfl, rfl⟩
      have w136 := v136
      rw [Array.getD_eq_getD_getElem?] at w136
      clear hf hfar
      go_simp
      refine (kq20_4 _).mono ?_
      rintro e u' ⟨rfl, hk'⟩
      exact ⟨_, rfl, hk', rfl⟩
    refine OweAll.cons ?_ ?_
    · intro u a hk hf hfar
      have v7 : a.tmps.getD 7 undef = .pointer (some ⟨g, 0, none⟩) := hfar 7 (by decide)
      have w7 := v7
      rw [Array.getD_eq_getD_getElem?] at w7
      have ca := hk.cell_some X7.out (fun x => x)
      have cb := hk.cell_some Y7.out (fun x => x)
      clear hf hfar
      go_simp
      exact ⟨_, rfl, Kept.refl _ _, rfl⟩
    refine OweAll.cons ?_ ?_
    · intro u a hk hf hfar
      have v137 : a.tmps.getD 137 undef = .agg #[.int .u8 1, .int .u8 2] := hf 78 _ 137 rfl rfl ⟨⟨78, .data⟩, Array.mem_of_getElem? (i := 0) rfl, rfl, rfl⟩
      have w137 := v137
      rw [Array.getD_eq_getD_getElem?] at w137
      have v138 : a.tmps.getD 138 undef = .agg #[.int .u8 1, .int .u8 2] := hf 79 _ 138 rfl rfl ⟨⟨79, .data⟩, Array.mem_of_getElem? (i := 1) rfl, rfl, rfl⟩
      have w138 := v138
      rw [Array.getD_eq_getD_getElem?] at w138
      clear hf hfar
      go_simp
      exact ⟨_, rfl, Kept.refl _ _, rfl⟩
    refine OweAll.cons ?_ ?_
    · intro u a hk hf hfar
      have v135 : a.tmps.getD 135 undef = .bool true := hf 76 _ 135 rfl rfl ⟨⟨76, .data⟩, Array.mem_of_getElem? (i := 0) rfl, rfl, rfl⟩
      have w135 := v135
      rw [Array.getD_eq_getD_getElem?] at w135
      have v139 : a.tmps.getD 139 undef = .bool true := hf 80 _ 139 rfl rfl ⟨⟨80, .data⟩, Array.mem_of_getElem? (i := 1) rfl, rfl, rfl⟩
      have w139 := v139
      rw [Array.getD_eq_getD_getElem?] at w139
      clear hf hfar
      go_simp
      exact ⟨_, rfl, Kept.refl _ _, rfl⟩
    refine OweAll.cons ?_ ?_
    · intro u a hk hf hfar
      have v140 : a.tmps.getD 140 undef = .bool true := hf 81 _ 140 rfl rfl ⟨⟨81, .data⟩, Array.mem_of_getElem? (i := 0) rfl, rfl, rfl⟩
      have w140 := v140
      rw [Array.getD_eq_getD_getElem?] at w140
      clear hf hfar
      go_simp
      exact ⟨_, rfl, Kept.refl _ _, rfl⟩
    refine OweAll.cons ?_ ?_
    · intro u a hk hf hfar
      have v5 : a.tmps.getD 5 undef = .func (Fn.func 20) #[] #[] := hfar 5 (by decide)
      have w5 := v5
      rw [Array.getD_eq_getD_getElem?] at w5
      clear hf hfar
      go_simp
      exact ⟨_, rfl, Kept.refl _ _, rfl⟩
    refine OweAll.cons ?_ ?_
    · intro u a hk hf hfar
      have v142 : a.tmps.getD 142 undef = .func (Fn.func 20) #[] #[] := hf 83 _ 142 rfl rfl ⟨⟨83, .data⟩, Array.mem_of_getElem? (i := 0) rfl, rfl, rfl⟩
      have w142 := v142
      rw [Array.getD_eq_getD_getElem?] at w142
      clear hf hfar
      go_simp
      refine (kq22_5 _).mono ?_
      rintro e u' ⟨rfl, hk'⟩
      exact ⟨_, rfl, hk', rfl⟩
    refine OweAll.cons ?_ ?_
    · intro u a hk hf hfar
      have v7 : a.tmps.getD 7 undef = .pointer (some ⟨g, 0, none⟩) := hfar 7 (by decide)
      have w7 := v7
      rw [Array.getD_eq_getD_getElem?] at w7
      have ca := hk.cell_some X7.out (fun x => x)
      have cb := hk.cell_some Y7.out (fun x => x)
      clear hf hfar
      go_simp
      exact ⟨_, rfl, Kept.refl _ _, rfl⟩
    refine OweAll.cons ?_ ?_
    · intro u a hk hf hfar
      have v143 : a.tmps.getD 143 undef = .agg #[.int .u8 1, .int .u8 2] := hf 84 _ 143 rfl rfl ⟨⟨84, .data⟩, Array.mem_of_getElem? (i := 0) rfl, rfl, rfl⟩
      have w143 := v143
      rw [Array.getD_eq_getD_getElem?] at w143
      have v144 : a.tmps.getD 144 undef = .agg #[.int .u8 1, .int .u8 2] := hf 85 _ 144 rfl rfl ⟨⟨85, .data⟩, Array.mem_of_getElem? (i := 1) rfl, rfl, rfl⟩
      have w144 := v144
      rw [Array.getD_eq_getD_getElem?] at w144
      clear hf hfar
      go_simp
      exact ⟨_, rfl, Kept.refl _ _, rfl⟩
    refine OweAll.cons ?_ ?_
    · intro u a hk hf hfar
      have v141 : a.tmps.getD 141 undef = .bool true := hf 82 _ 141 rfl rfl ⟨⟨82, .data⟩, Array.mem_of_getElem? (i := 0) rfl, rfl, rfl⟩
      have w141 := v141
      rw [Array.getD_eq_getD_getElem?] at w141
      have v145 : a.tmps.getD 145 undef = .bool true := hf 86 _ 145 rfl rfl ⟨⟨86, .data⟩, Array.mem_of_getElem? (i := 1) rfl, rfl, rfl⟩
      have w145 := v145
      rw [Array.getD_eq_getD_getElem?] at w145
      clear hf hfar
      go_simp
      exact ⟨_, rfl, Kept.refl _ _, rfl⟩
    refine OweAll.cons ?_ ?_
    · intro u a hk hf hfar
      have v146 : a.tmps.getD 146 undef = .bool true := hf 87 _ 146 rfl rfl ⟨⟨87, .data⟩, Array.mem_of_getElem? (i := 0) rfl, rfl, rfl⟩
      have w146 := v146
      rw [Array.getD_eq_getD_getElem?] at w146
      clear hf hfar
      go_simp
      exact ⟨_, rfl, Kept.refl _ _, rfl⟩
    refine OweAll.cons ?_ ?_
    · intro u a hk hf hfar
      have v5 : a.tmps.getD 5 undef = .func (Fn.func 20) #[] #[] := hfar 5 (by decide)
      have w5 := v5
      rw [Array.getD_eq_getD_getElem?] at w5
      clear hf hfar
      go_simp
      exact ⟨_, rfl, Kept.refl _ _, rfl⟩
    refine OweAll.cons ?_ ?_
    · intro u a hk hf hfar
      have v148 : a.tmps.getD 148 undef = .func (Fn.func 20) #[] #[] := hf 89 _ 148 rfl rfl ⟨⟨89, .data⟩, Array.mem_of_getElem? (i := 0) rfl, rfl, rfl⟩
      have w148 := v148
      rw [Array.getD_eq_getD_getElem?] at w148
      clear hf hfar
      go_simp
      refine (kq23_5 _).mono ?_
      rintro e u' ⟨rfl, hk'⟩
      exact ⟨_, rfl, hk', rfl⟩
    refine OweAll.cons ?_ ?_
    · intro u a hk hf hfar
      have v9 : a.tmps.getD 9 undef = .pointer (some ⟨g + 1 + 1, 0, none⟩) := hfar 9 (by decide)
      have w9 := v9
      rw [Array.getD_eq_getD_getElem?] at w9
      have ca := hk.cell_some X9.out (fun x => x)
      have cb := hk.cell_some Y9.out (fun x => x)
      clear hf hfar
      go_simp
      exact ⟨_, rfl, Kept.refl _ _, rfl⟩
    refine OweAll.cons ?_ ?_
    · intro u a hk hf hfar
      have v149 : a.tmps.getD 149 undef = .agg #[.int .u8 0, .int .u8 0] := hf 90 _ 149 rfl rfl ⟨⟨90, .data⟩, Array.mem_of_getElem? (i := 0) rfl, rfl, rfl⟩
      have w149 := v149
      rw [Array.getD_eq_getD_getElem?] at w149
      have v150 : a.tmps.getD 150 undef = .agg #[.int .u8 0, .int .u8 0] := hf 91 _ 150 rfl rfl ⟨⟨91, .data⟩, Array.mem_of_getElem? (i := 1) rfl, rfl, rfl⟩
      have w150 := v150
      rw [Array.getD_eq_getD_getElem?] at w150
      clear hf hfar
      go_simp
      exact ⟨_, rfl, Kept.refl _ _, rfl⟩
    refine OweAll.cons ?_ ?_
    · intro u a hk hf hfar
      have v147 : a.tmps.getD 147 undef = .bool true := hf 88 _ 147 rfl rfl ⟨⟨88, .data⟩, Array.mem_of_getElem? (i := 0) rfl, rfl, rfl⟩
      have w147 := v147
      rw [Array.getD_eq_getD_getElem?] at w147
      have v151 : a.tmps.getD 151 undef = .bool true := hf 92 _ 151 rfl rfl ⟨⟨92, .data⟩, Array.mem_of_getElem? (i := 1) rfl, rfl, rfl⟩
      have w151 := v151
      rw [Array.getD_eq_getD_getElem?] at w151
      clear hf hfar
      go_simp
      exact ⟨_, rfl, Kept.refl _ _, rfl⟩
    refine OweAll.cons ?_ ?_
    · intro u a hk hf hfar
      have v152 : a.tmps.getD 152 undef = .bool true := hf 93 _ 152 rfl rfl ⟨⟨93, .data⟩, Array.mem_of_getElem? (i := 0) rfl, rfl, rfl⟩
      have w152 := v152
      rw [Array.getD_eq_getD_getElem?] at w152
      clear hf hfar
      go_simp
      exact ⟨_, rfl, Kept.refl _ _, rfl⟩
    refine OweAll.cons ?_ ?_
    · intro u a hk hf hfar
      have v5 : a.tmps.getD 5 undef = .func (Fn.func 20) #[] #[] := hfar 5 (by decide)
      have w5 := v5
      rw [Array.getD_eq_getD_getElem?] at w5
      clear hf hfar
      go_simp
      exact ⟨_, rfl, Kept.refl _ _, rfl⟩
    refine OweAll.cons ?_ ?_
    · intro u a hk hf hfar
      have v154 : a.tmps.getD 154 undef = .func (Fn.func 20) #[] #[] := hf 95 _ 154 rfl rfl ⟨⟨95, .data⟩, Array.mem_of_getElem? (i := 0) rfl, rfl, rfl⟩
      have w154 := v154
      rw [Array.getD_eq_getD_getElem?] at w154
      clear hf hfar
      go_simp
      refine (kq24_5 _).mono ?_
      rintro e u' ⟨rfl, hk'⟩
      exact ⟨_, rfl, hk', rfl⟩
    refine OweAll.cons ?_ ?_
    · intro u a hk hf hfar
      have v7 : a.tmps.getD 7 undef = .pointer (some ⟨g, 0, none⟩) := hfar 7 (by decide)
      have w7 := v7
      rw [Array.getD_eq_getD_getElem?] at w7
      have ca := hk.cell_some X7.out (fun x => x)
      have cb := hk.cell_some Y7.out (fun x => x)
      clear hf hfar
      go_simp
      exact ⟨_, rfl, Kept.refl _ _, rfl⟩
    refine OweAll.cons ?_ ?_
    · intro u a hk hf hfar
      have v155 : a.tmps.getD 155 undef = .agg #[.int .u8 1, .int .u8 2] := hf 96 _ 155 rfl rfl ⟨⟨96, .data⟩, Array.mem_of_getElem? (i := 0) rfl, rfl, rfl⟩
      have w155 := v155
      rw [Array.getD_eq_getD_getElem?] at w155
      have v156 : a.tmps.getD 156 undef = .agg #[.int .u8 1, .int .u8 2] := hf 97 _ 156 rfl rfl ⟨⟨97, .data⟩, Array.mem_of_getElem? (i := 1) rfl, rfl, rfl⟩
      have w156 := v156
      rw [Array.getD_eq_getD_getElem?] at w156
      clear hf hfar
      go_simp
      exact ⟨_, rfl, Kept.refl _ _, rfl⟩
    refine OweAll.cons ?_ ?_
    · intro u a hk hf hfar
      have v153 : a.tmps.getD 153 undef = .bool true := hf 94 _ 153 rfl rfl ⟨⟨94, .data⟩, Array.mem_of_getElem? (i := 0) rfl, rfl, rfl⟩
      have w153 := v153
      rw [Array.getD_eq_getD_getElem?] at w153
      have v157 : a.tmps.getD 157 undef = .bool true := hf 98 _ 157 rfl rfl ⟨⟨98, .data⟩, Array.mem_of_getElem? (i := 1) rfl, rfl, rfl⟩
      have w157 := v157
      rw [Array.getD_eq_getD_getElem?] at w157
      clear hf hfar
      go_simp
      exact ⟨_, rfl, Kept.refl _ _, rfl⟩
    refine OweAll.cons ?_ ?_
    · intro u a hk hf hfar
      have v158 : a.tmps.getD 158 undef = .bool true := hf 99 _ 158 rfl rfl ⟨⟨99, .data⟩, Array.mem_of_getElem? (i := 0) rfl, rfl, rfl⟩
      have w158 := v158
      rw [Array.getD_eq_getD_getElem?] at w158
      clear hf hfar
      go_simp
      exact ⟨_, rfl, Kept.refl _ _, rfl⟩
    refine OweAll.cons ?_ ?_
    · intro u a hk hf hfar
      have v6 : a.tmps.getD 6 undef = .func (Fn.func 21) #[] #[] := hfar 6 (by decide)
      have w6 := v6
      rw [Array.getD_eq_getD_getElem?] at w6
      clear hf hfar
      go_simp
      exact ⟨_, rfl, Kept.refl _ _, rfl⟩
    refine OweAll.cons ?_ ?_
    · intro u a hk hf hfar
      have v160 : a.tmps.getD 160 undef = .func (Fn.func 21) #[] #[] := hf 101 _ 160 rfl rfl ⟨⟨101, .data⟩, Array.mem_of_getElem? (i := 0) rfl, rfl, rfl⟩
      have w160 := v160
      rw [Array.getD_eq_getD_getElem?] at w160
      clear hf hfar
      go_simp
      refine (kl0_5 _).mono ?_
      rintro e u' ⟨rfl, hk'⟩
      exact ⟨_, rfl, hk', rfl⟩
    refine OweAll.cons ?_ ?_
    · intro u a hk hf hfar
      have v161 : a.tmps.getD 161 undef = .int .i64 1 := hf 102 _ 161 rfl rfl ⟨⟨102, .data⟩, Array.mem_of_getElem? (i := 0) rfl, rfl, rfl⟩
      have w161 := v161
      rw [Array.getD_eq_getD_getElem?] at w161
      clear hf hfar
      go_simp
      exact ⟨_, rfl, Kept.refl _ _, rfl⟩
    refine OweAll.cons ?_ ?_
    · intro u a hk hf hfar
      have v159 : a.tmps.getD 159 undef = .bool true := hf 100 _ 159 rfl rfl ⟨⟨100, .data⟩, Array.mem_of_getElem? (i := 0) rfl, rfl, rfl⟩
      have w159 := v159
      rw [Array.getD_eq_getD_getElem?] at w159
      have v162 : a.tmps.getD 162 undef = .bool true := hf 103 _ 162 rfl rfl ⟨⟨103, .data⟩, Array.mem_of_getElem? (i := 1) rfl, rfl, rfl⟩
      have w162 := v162
      rw [Array.getD_eq_getD_getElem?] at w162
      clear hf hfar
      go_simp
      exact ⟨_, rfl, Kept.refl _ _, rfl⟩
    refine OweAll.cons ?_ ?_
    · intro u a hk hf hfar
      have v163 : a.tmps.getD 163 undef = .bool true := hf 104 _ 163 rfl rfl ⟨⟨104, .data⟩, Array.mem_of_getElem? (i := 0) rfl, rfl, rfl⟩
      have w163 := v163
      rw [Array.getD_eq_getD_getElem?] at w163
      clear hf hfar
      go_simp
      exact ⟨_, rfl, Kept.refl _ _, rfl⟩
    refine OweAll.cons ?_ ?_
    · intro u a hk hf hfar
      have v6 : a.tmps.getD 6 undef = .func (Fn.func 21) #[] #[] := hfar 6 (by decide)
      have w6 := v6
      rw [Array.getD_eq_getD_getElem?] at w6
      clear hf hfar
      go_simp
      exact ⟨_, rfl, Kept.refl _ _, rfl⟩
    refine OweAll.cons ?_ ?_
    · intro u a hk hf hfar
      have v165 : a.tmps.getD 165 undef = .func (Fn.func 21) #[] #[] := hf 106 _ 165 rfl rfl ⟨⟨106, .data⟩, Array.mem_of_getElem? (i := 0) rfl, rfl, rfl⟩
      have w165 := v165
      rw [Array.getD_eq_getD_getElem?] at w165
      clear hf hfar
      go_simp
      refine (kl6_5 _).mono ?_
      rintro e u' ⟨rfl, hk'⟩
      exact ⟨_, rfl, hk', rfl⟩
    refine OweAll.cons ?_ ?_
    · intro u a hk hf hfar
      have v166 : a.tmps.getD 166 undef = .int .i64 1 := hf 107 _ 166 rfl rfl ⟨⟨107, .data⟩, Array.mem_of_getElem? (i := 0) rfl, rfl, rfl⟩
      have w166 := v166
      rw [Array.getD_eq_getD_getElem?] at w166
      clear hf hfar
      go_simp
      exact ⟨_, rfl, Kept.refl _ _, rfl⟩
    refine OweAll.cons ?_ ?_
    · intro u a hk hf hfar
      have v164 : a.tmps.getD 164 undef = .bool true := hf 105 _ 164 rfl rfl ⟨⟨105, .data⟩, Array.mem_of_getElem? (i := 0) rfl, rfl, rfl⟩
      have w164 := v164
      rw [Array.getD_eq_getD_getElem?] at w164
      have v167 : a.tmps.getD 167 undef = .bool true := hf 108 _ 167 rfl rfl ⟨⟨108, .data⟩, Array.mem_of_getElem? (i := 1) rfl, rfl, rfl⟩
      have w167 := v167
      rw [Array.getD_eq_getD_getElem?] at w167
      clear hf hfar
      go_simp
      exact ⟨_, rfl, Kept.refl _ _, rfl⟩
    refine OweAll.cons ?_ ?_
    · intro u a hk hf hfar
      have v168 : a.tmps.getD 168 undef = .bool true := hf 109 _ 168 rfl rfl ⟨⟨109, .data⟩, Array.mem_of_getElem? (i := 0) rfl, rfl, rfl⟩
      have w168 := v168
      rw [Array.getD_eq_getD_getElem?] at w168
      clear hf hfar
      go_simp
      exact ⟨_, rfl, Kept.refl _ _, rfl⟩
    refine OweAll.cons ?_ ?_
    · intro u a hk hf hfar
      have v6 : a.tmps.getD 6 undef = .func (Fn.func 21) #[] #[] := hfar 6 (by decide)
      have w6 := v6
      rw [Array.getD_eq_getD_getElem?] at w6
      clear hf hfar
      go_simp
      exact ⟨_, rfl, Kept.refl _ _, rfl⟩
    refine OweAll.cons ?_ ?_
    · intro u a hk hf hfar
      have v170 : a.tmps.getD 170 undef = .func (Fn.func 21) #[] #[] := hf 111 _ 170 rfl rfl ⟨⟨111, .data⟩, Array.mem_of_getElem? (i := 0) rfl, rfl, rfl⟩
      have w170 := v170
      rw [Array.getD_eq_getD_getElem?] at w170
      clear hf hfar
      go_simp
      refine (kl1_9 _).mono ?_
      rintro e u' ⟨rfl, hk'⟩
      exact ⟨_, rfl, hk', rfl⟩
    refine OweAll.cons ?_ ?_
    · intro u a hk hf hfar
      have v171 : a.tmps.getD 171 undef = .int .i64 1 := hf 112 _ 171 rfl rfl ⟨⟨112, .data⟩, Array.mem_of_getElem? (i := 0) rfl, rfl, rfl⟩
      have w171 := v171
      rw [Array.getD_eq_getD_getElem?] at w171
      clear hf hfar
      go_simp
      exact ⟨_, rfl, Kept.refl _ _, rfl⟩
    refine OweAll.cons ?_ ?_
    · intro u a hk hf hfar
      have v169 : a.tmps.getD 169 undef = .bool true := hf 110 _ 169 rfl rfl ⟨⟨110, .data⟩, Array.mem_of_getElem? (i := 0) rfl, rfl, rfl⟩
      have w169 := v169
      rw [Array.getD_eq_getD_getElem?] at w169
      have v172 : a.tmps.getD 172 undef = .bool true := hf 113 _ 172 rfl rfl ⟨⟨113, .data⟩, Array.mem_of_getElem? (i := 1) rfl, rfl, rfl⟩
      have w172 := v172
      rw [Array.getD_eq_getD_getElem?] at w172
      clear hf hfar
      go_simp
      exact ⟨_, rfl, Kept.refl _ _, rfl⟩
    refine OweAll.cons ?_ ?_
    · intro u a hk hf hfar
      have v173 : a.tmps.getD 173 undef = .bool true := hf 114 _ 173 rfl rfl ⟨⟨114, .data⟩, Array.mem_of_getElem? (i := 0) rfl, rfl, rfl⟩
      have w173 := v173
      rw [Array.getD_eq_getD_getElem?] at w173
      clear hf hfar
      go_simp
      exact ⟨_, rfl, Kept.refl _ _, rfl⟩
    refine OweAll.cons ?_ ?_
    · intro u a hk hf hfar
      have v6 : a.tmps.getD 6 undef = .func (Fn.func 21) #[] #[] := hfar 6 (by decide)
      have w6 := v6
      rw [Array.getD_eq_getD_getElem?] at w6
      clear hf hfar
      go_simp
      exact ⟨_, rfl, Kept.refl _ _, rfl⟩
    refine OweAll.cons ?_ ?_
    · intro u a hk hf hfar
      have v175 : a.tmps.getD 175 undef = .func (Fn.func 21) #[] #[] := hf 116 _ 175 rfl rfl ⟨⟨116, .data⟩, Array.mem_of_getElem? (i := 0) rfl, rfl, rfl⟩
      have w175 := v175
      rw [Array.getD_eq_getD_getElem?] at w175
      clear hf hfar
      go_simp
      refine (kl1_10 _).mono ?_
      rintro e u' ⟨rfl, hk'⟩
      exact ⟨_, rfl, hk', rfl⟩
    refine OweAll.cons ?_ ?_
    · intro u a hk hf hfar
      have v176 : a.tmps.getD 176 undef = .int .i64 0 := hf 117 _ 176 rfl rfl ⟨⟨117, .data⟩, Array.mem_of_getElem? (i := 0) rfl, rfl, rfl⟩
      have w176 := v176
      rw [Array.getD_eq_getD_getElem?] at w176
      clear hf hfar
      go_simp
      exact ⟨_, rfl, Kept.refl _ _, rfl⟩
    refine OweAll.cons ?_ ?_
    · intro u a hk hf hfar
      have v174 : a.tmps.getD 174 undef = .bool true := hf 115 _ 174 rfl rfl ⟨⟨115, .data⟩, Array.mem_of_getElem? (i := 0) rfl, rfl, rfl⟩
      have w174 := v174
      rw [Array.getD_eq_getD_getElem?] at w174
      have v177 : a.tmps.getD 177 undef = .bool true := hf 118 _ 177 rfl rfl ⟨⟨118, .data⟩, Array.mem_of_getElem? (i := 1) rfl, rfl, rfl⟩
      have w177 := v177
      rw [Array.getD_eq_getD_getElem?] at w177
      clear hf hfar
      go_simp
      exact ⟨_, rfl, Kept.refl _ _, rfl⟩
    refine OweAll.cons ?_ ?_
    · intro u a hk hf hfar
      have v178 : a.tmps.getD 178 undef = .bool true := hf 119 _ 178 rfl rfl ⟨⟨119, .data⟩, Array.mem_of_getElem? (i := 0) rfl, rfl, rfl⟩
      have w178 := v178
      rw [Array.getD_eq_getD_getElem?] at w178
      clear hf hfar
      go_simp
      exact ⟨_, rfl, Kept.refl _ _, rfl⟩
    refine OweAll.cons ?_ ?_
    · intro u a hk hf hfar
      have v6 : a.tmps.getD 6 undef = .func (Fn.func 21) #[] #[] := hfar 6 (by decide)
      have w6 := v6
      rw [Array.getD_eq_getD_getElem?] at w6
      clear hf hfar
      go_simp
      exact ⟨_, rfl, Kept.refl _ _, rfl⟩
    refine OweAll.cons ?_ ?_
    · intro u a hk hf hfar
      have v180 : a.tmps.getD 180 undef = .func (Fn.func 21) #[] #[] := hf 121 _ 180 rfl rfl ⟨⟨121, .data⟩, Array.mem_of_getElem? (i := 0) rfl, rfl, rfl⟩
      have w180 := v180
      rw [Array.getD_eq_getD_getElem?] at w180
      clear hf hfar
      go_simp
      refine (kl2_4077 _).mono ?_
      rintro e u' ⟨rfl, hk'⟩
      exact ⟨_, rfl, hk', rfl⟩
    refine OweAll.cons ?_ ?_
    · intro u a hk hf hfar
      have v181 : a.tmps.getD 181 undef = .int .i64 0 := hf 122 _ 181 rfl rfl ⟨⟨122, .data⟩, Array.mem_of_getElem? (i := 0) rfl, rfl, rfl⟩
      have w181 := v181
      rw [Array.getD_eq_getD_getElem?] at w181
      clear hf hfar
      go_simp
      exact ⟨_, rfl, Kept.refl _ _, rfl⟩
    refine OweAll.cons ?_ ?_
    · intro u a hk hf hfar
      have v179 : a.tmps.getD 179 undef = .bool true := hf 120 _ 179 rfl rfl ⟨⟨120, .data⟩, Array.mem_of_getElem? (i := 0) rfl, rfl, rfl⟩
      have w179 := v179
      rw [Array.getD_eq_getD_getElem?] at w179
      have v182 : a.tmps.getD 182 undef = .bool true := hf 123 _ 182 rfl rfl ⟨⟨123, .data⟩, Array.mem_of_getElem? (i := 1) rfl, rfl, rfl⟩
      have w182 := v182
      rw [Array.getD_eq_getD_getElem?] at w182
      clear hf hfar
      go_simp
      exact ⟨_, rfl, Kept.refl _ _, rfl⟩
    refine OweAll.cons ?_ ?_
    · intro u a hk hf hfar
      have v183 : a.tmps.getD 183 undef = .bool true := hf 124 _ 183 rfl rfl ⟨⟨124, .data⟩, Array.mem_of_getElem? (i := 0) rfl, rfl, rfl⟩
      have w183 := v183
      rw [Array.getD_eq_getD_getElem?] at w183
      clear hf hfar
      go_simp
      exact ⟨_, rfl, Kept.refl _ _, rfl⟩
    refine OweAll.cons ?_ ?_
    · intro u a hk hf hfar
      have v6 : a.tmps.getD 6 undef = .func (Fn.func 21) #[] #[] := hfar 6 (by decide)
      have w6 := v6
      rw [Array.getD_eq_getD_getElem?] at w6
      clear hf hfar
      go_simp
      exact ⟨_, rfl, Kept.refl _ _, rfl⟩
    refine OweAll.cons ?_ ?_
    · intro u a hk hf hfar
      have v185 : a.tmps.getD 185 undef = .func (Fn.func 21) #[] #[] := hf 126 _ 185 rfl rfl ⟨⟨126, .data⟩, Array.mem_of_getElem? (i := 0) rfl, rfl, rfl⟩
      have w185 := v185
      rw [Array.getD_eq_getD_getElem?] at w185
      clear hf hfar
      go_simp
      refine (kl2_4078 _).mono ?_
      rintro e u' ⟨rfl, hk'⟩
      exact ⟨_, rfl, hk', rfl⟩
    refine OweAll.cons ?_ ?_
    · intro u a hk hf hfar
      have v186 : a.tmps.getD 186 undef = .int .i64 3 := hf 127 _ 186 rfl rfl ⟨⟨127, .data⟩, Array.mem_of_getElem? (i := 0) rfl, rfl, rfl⟩
      have w186 := v186
      rw [Array.getD_eq_getD_getElem?] at w186
      clear hf hfar
      go_simp
      exact ⟨_, rfl, Kept.refl _ _, rfl⟩
    refine OweAll.cons ?_ ?_
    · intro u a hk hf hfar
      have v184 : a.tmps.getD 184 undef = .bool true := hf 125 _ 184 rfl rfl ⟨⟨125, .data⟩, Array.mem_of_getElem? (i := 0) rfl, rfl, rfl⟩
      have w184 := v184
      rw [Array.getD_eq_getD_getElem?] at w184
      have v187 : a.tmps.getD 187 undef = .bool true := hf 128 _ 187 rfl rfl ⟨⟨128, .data⟩, Array.mem_of_getElem? (i := 1) rfl, rfl, rfl⟩
      have w187 := v187
      rw [Array.getD_eq_getD_getElem?] at w187
      clear hf hfar
      go_simp
      exact ⟨_, rfl, Kept.refl _ _, rfl⟩
    refine OweAll.cons ?_ ?_
    · intro u a hk hf hfar
      have v188 : a.tmps.getD 188 undef = .bool true := hf 129 _ 188 rfl rfl ⟨⟨129, .data⟩, Array.mem_of_getElem? (i := 0) rfl, rfl, rfl⟩
      have w188 := v188
      rw [Array.getD_eq_getD_getElem?] at w188
      clear hf hfar
      go_simp
      exact ⟨_, rfl, Kept.refl _ _, rfl⟩
    refine OweAll.cons ?_ ?_
    · intro u a hk hf hfar
      have v6 : a.tmps.getD 6 undef = .func (Fn.func 21) #[] #[] := hfar 6 (by decide)
      have w6 := v6
      rw [Array.getD_eq_getD_getElem?] at w6
      clear hf hfar
      go_simp
      exact ⟨_, rfl, Kept.refl _ _, rfl⟩
    refine OweAll.cons ?_ ?_
    · intro u a hk hf hfar
      have v190 : a.tmps.getD 190 undef = .func (Fn.func 21) #[] #[] := hf 131 _ 190 rfl rfl ⟨⟨131, .data⟩, Array.mem_of_getElem? (i := 0) rfl, rfl, rfl⟩
      have w190 := v190
      rw [Array.getD_eq_getD_getElem?] at w190
      clear hf hfar
      go_simp
      refine (kl4_0 _).mono ?_
      rintro e u' ⟨rfl, hk'⟩
      exact ⟨_, rfl, hk', rfl⟩
    refine OweAll.cons ?_ ?_
    · intro u a hk hf hfar
      have v191 : a.tmps.getD 191 undef = .int .i64 0 := hf 132 _ 191 rfl rfl ⟨⟨132, .data⟩, Array.mem_of_getElem? (i := 0) rfl, rfl, rfl⟩
      have w191 := v191
      rw [Array.getD_eq_getD_getElem?] at w191
      clear hf hfar
      go_simp
      exact ⟨_, rfl, Kept.refl _ _, rfl⟩
    refine OweAll.cons ?_ ?_
    · intro u a hk hf hfar
      have v189 : a.tmps.getD 189 undef = .bool true := hf 130 _ 189 rfl rfl ⟨⟨130, .data⟩, Array.mem_of_getElem? (i := 0) rfl, rfl, rfl⟩
      have w189 := v189
      rw [Array.getD_eq_getD_getElem?] at w189
      have v192 : a.tmps.getD 192 undef = .bool true := hf 133 _ 192 rfl rfl ⟨⟨133, .data⟩, Array.mem_of_getElem? (i := 1) rfl, rfl, rfl⟩
      have w192 := v192
      rw [Array.getD_eq_getD_getElem?] at w192
      clear hf hfar
      go_simp
      exact ⟨_, rfl, Kept.refl _ _, rfl⟩
    refine OweAll.cons ?_ ?_
    · intro u a hk hf hfar
      have v193 : a.tmps.getD 193 undef = .bool true := hf 134 _ 193 rfl rfl ⟨⟨134, .data⟩, Array.mem_of_getElem? (i := 0) rfl, rfl, rfl⟩
      have w193 := v193
      rw [Array.getD_eq_getD_getElem?] at w193
      clear hf hfar
      go_simp
      exact ⟨_, rfl, Kept.refl _ _, rfl⟩
    refine OweAll.cons ?_ ?_
    · intro u a hk hf hfar
      have v6 : a.tmps.getD 6 undef = .func (Fn.func 21) #[] #[] := hfar 6 (by decide)
      have w6 := v6
      rw [Array.getD_eq_getD_getElem?] at w6
      clear hf hfar
      go_simp
      exact ⟨_, rfl, Kept.refl _ _, rfl⟩
    refine OweAll.cons ?_ ?_
    · intro u a hk hf hfar
      have v195 : a.tmps.getD 195 undef = .func (Fn.func 21) #[] #[] := hf 136 _ 195 rfl rfl ⟨⟨136, .data⟩, Array.mem_of_getElem? (i := 0) rfl, rfl, rfl⟩
      have w195 := v195
      rw [Array.getD_eq_getD_getElem?] at w195
      clear hf hfar
      go_simp
      refine (kl4_1 _).mono ?_
      rintro e u' ⟨rfl, hk'⟩
      exact ⟨_, rfl, hk', rfl⟩
    refine OweAll.cons ?_ ?_
    · intro u a hk hf hfar
      have v196 : a.tmps.getD 196 undef = .int .i64 1 := hf 137 _ 196 rfl rfl ⟨⟨137, .data⟩, Array.mem_of_getElem? (i := 0) rfl, rfl, rfl⟩
      have w196 := v196
      rw [Array.getD_eq_getD_getElem?] at w196
      clear hf hfar
      go_simp
      exact ⟨_, rfl, Kept.refl _ _, rfl⟩
    refine OweAll.cons ?_ ?_
    · intro u a hk hf hfar
      have v194 : a.tmps.getD 194 undef = .bool true := hf 135 _ 194 rfl rfl ⟨⟨135, .data⟩, Array.mem_of_getElem? (i := 0) rfl, rfl, rfl⟩
      have w194 := v194
      rw [Array.getD_eq_getD_getElem?] at w194
      have v197 : a.tmps.getD 197 undef = .bool true := hf 138 _ 197 rfl rfl ⟨⟨138, .data⟩, Array.mem_of_getElem? (i := 1) rfl, rfl, rfl⟩
      have w197 := v197
      rw [Array.getD_eq_getD_getElem?] at w197
      clear hf hfar
      go_simp
      exact ⟨_, rfl, Kept.refl _ _, rfl⟩
    refine OweAll.cons ?_ ?_
    · intro u a hk hf hfar
      have v198 : a.tmps.getD 198 undef = .bool true := hf 139 _ 198 rfl rfl ⟨⟨139, .data⟩, Array.mem_of_getElem? (i := 0) rfl, rfl, rfl⟩
      have w198 := v198
      rw [Array.getD_eq_getD_getElem?] at w198
      clear hf hfar
      go_simp
      exact ⟨_, rfl, Kept.refl _ _, rfl⟩
    refine OweAll.cons ?_ ?_
    · intro u a hk hf hfar
      have v6 : a.tmps.getD 6 undef = .func (Fn.func 21) #[] #[] := hfar 6 (by decide)
      have w6 := v6
      rw [Array.getD_eq_getD_getElem?] at w6
      clear hf hfar
      go_simp
      exact ⟨_, rfl, Kept.refl _ _, rfl⟩
    refine OweAll.cons ?_ ?_
    · intro u a hk hf hfar
      have v200 : a.tmps.getD 200 undef = .func (Fn.func 21) #[] #[] := hf 141 _ 200 rfl rfl ⟨⟨141, .data⟩, Array.mem_of_getElem? (i := 0) rfl, rfl, rfl⟩
      have w200 := v200
      rw [Array.getD_eq_getD_getElem?] at w200
      clear hf hfar
      go_simp
      refine (kl4_5000 _).mono ?_
      rintro e u' ⟨rfl, hk'⟩
      exact ⟨_, rfl, hk', rfl⟩
    refine OweAll.cons ?_ ?_
    · intro u a hk hf hfar
      have v201 : a.tmps.getD 201 undef = .int .i64 1 := hf 142 _ 201 rfl rfl ⟨⟨142, .data⟩, Array.mem_of_getElem? (i := 0) rfl, rfl, rfl⟩
      have w201 := v201
      rw [Array.getD_eq_getD_getElem?] at w201
      clear hf hfar
      go_simp
      exact ⟨_, rfl, Kept.refl _ _, rfl⟩
    refine OweAll.cons ?_ ?_
    · intro u a hk hf hfar
      have v199 : a.tmps.getD 199 undef = .bool true := hf 140 _ 199 rfl rfl ⟨⟨140, .data⟩, Array.mem_of_getElem? (i := 0) rfl, rfl, rfl⟩
      have w199 := v199
      rw [Array.getD_eq_getD_getElem?] at w199
      have v202 : a.tmps.getD 202 undef = .bool true := hf 143 _ 202 rfl rfl ⟨⟨143, .data⟩, Array.mem_of_getElem? (i := 1) rfl, rfl, rfl⟩
      have w202 := v202
      rw [Array.getD_eq_getD_getElem?] at w202
      clear hf hfar
      go_simp
      exact ⟨_, rfl, Kept.refl _ _, rfl⟩
    refine OweAll.cons ?_ ?_
    · intro u a hk hf hfar
      have v203 : a.tmps.getD 203 undef = .bool true := hf 144 _ 203 rfl rfl ⟨⟨144, .data⟩, Array.mem_of_getElem? (i := 0) rfl, rfl, rfl⟩
      have w203 := v203
      rw [Array.getD_eq_getD_getElem?] at w203
      clear hf hfar
      go_simp
      exact ⟨_, rfl, Kept.refl _ _, rfl⟩
    refine OweAll.cons ?_ ?_
    · intro u a hk hf hfar
      have v6 : a.tmps.getD 6 undef = .func (Fn.func 21) #[] #[] := hfar 6 (by decide)
      have w6 := v6
      rw [Array.getD_eq_getD_getElem?] at w6
      clear hf hfar
      go_simp
      exact ⟨_, rfl, Kept.refl _ _, rfl⟩
    refine OweAll.cons ?_ ?_
    · intro u a hk hf hfar
      have v205 : a.tmps.getD 205 undef = .func (Fn.func 21) #[] #[] := hf 146 _ 205 rfl rfl ⟨⟨146, .data⟩, Array.mem_of_getElem? (i := 0) rfl, rfl, rfl⟩
      have w205 := v205
      rw [Array.getD_eq_getD_getElem?] at w205
      clear hf hfar
      go_simp
      refine (kl5_4 _).mono ?_
      rintro e u' ⟨rfl, hk'⟩
      exact ⟨_, rfl, hk', rfl⟩
    refine OweAll.cons ?_ ?_
    · intro u a hk hf hfar
      have v206 : a.tmps.getD 206 undef = .int .i64 0 := hf 147 _ 206 rfl rfl ⟨⟨147, .data⟩, Array.mem_of_getElem? (i := 0) rfl, rfl, rfl⟩
      have w206 := v206
      rw [Array.getD_eq_getD_getElem?] at w206
      clear hf hfar
      go_simp
      exact ⟨_, rfl, Kept.refl _ _, rfl⟩
    refine OweAll.cons ?_ ?_
    · intro u a hk hf hfar
      have v204 : a.tmps.getD 204 undef = .bool true := hf 145 _ 204 rfl rfl ⟨⟨145, .data⟩, Array.mem_of_getElem? (i := 0) rfl, rfl, rfl⟩
      have w204 := v204
      rw [Array.getD_eq_getD_getElem?] at w204
      have v207 : a.tmps.getD 207 undef = .bool true := hf 148 _ 207 rfl rfl ⟨⟨148, .data⟩, Array.mem_of_getElem? (i := 1) rfl, rfl, rfl⟩
      have w207 := v207
      rw [Array.getD_eq_getD_getElem?] at w207
      clear hf hfar
      go_simp
      exact ⟨_, rfl, Kept.refl _ _, rfl⟩
    refine OweAll.cons ?_ ?_
    · intro u a hk hf hfar
      have v208 : a.tmps.getD 208 undef = .bool true := hf 149 _ 208 rfl rfl ⟨⟨149, .data⟩, Array.mem_of_getElem? (i := 0) rfl, rfl, rfl⟩
      have w208 := v208
      rw [Array.getD_eq_getD_getElem?] at w208
      clear hf hfar
      go_simp
      exact ⟨_, rfl, Kept.refl _ _, rfl⟩
    refine OweAll.cons ?_ ?_
    · intro u a hk hf hfar
      have v6 : a.tmps.getD 6 undef = .func (Fn.func 21) #[] #[] := hfar 6 (by decide)
      have w6 := v6
      rw [Array.getD_eq_getD_getElem?] at w6
      clear hf hfar
      go_simp
      exact ⟨_, rfl, Kept.refl _ _, rfl⟩
    refine OweAll.cons ?_ ?_
    · intro u a hk hf hfar
      have v210 : a.tmps.getD 210 undef = .func (Fn.func 21) #[] #[] := hf 151 _ 210 rfl rfl ⟨⟨151, .data⟩, Array.mem_of_getElem? (i := 0) rfl, rfl, rfl⟩
      have w210 := v210
      rw [Array.getD_eq_getD_getElem?] at w210
      clear hf hfar
      go_simp
      refine (kl3_1 _).mono ?_
      rintro e u' ⟨rfl, hk'⟩
      exact ⟨_, rfl, hk', rfl⟩
    refine OweAll.cons ?_ ?_
    · intro u a hk hf hfar
      have v211 : a.tmps.getD 211 undef = .int .i64 1 := hf 152 _ 211 rfl rfl ⟨⟨152, .data⟩, Array.mem_of_getElem? (i := 0) rfl, rfl, rfl⟩
      have w211 := v211
      rw [Array.getD_eq_getD_getElem?] at w211
      clear hf hfar
      go_simp
      exact ⟨_, rfl, Kept.refl _ _, rfl⟩
    refine OweAll.cons ?_ ?_
    · intro u a hk hf hfar
      have v209 : a.tmps.getD 209 undef = .bool true := hf 150 _ 209 rfl rfl ⟨⟨150, .data⟩, Array.mem_of_getElem? (i := 0) rfl, rfl, rfl⟩
      have w209 := v209
      rw [Array.getD_eq_getD_getElem?] at w209
      have v212 : a.tmps.getD 212 undef = .bool true := hf 153 _ 212 rfl rfl ⟨⟨153, .data⟩, Array.mem_of_getElem? (i := 1) rfl, rfl, rfl⟩
      have w212 := v212
      rw [Array.getD_eq_getD_getElem?] at w212
      clear hf hfar
      go_simp
      exact ⟨_, rfl, Kept.refl _ _, rfl⟩
    refine OweAll.cons ?_ ?_
    · intro u a hk hf hfar
      have v213 : a.tmps.getD 213 undef = .bool true := hf 154 _ 213 rfl rfl ⟨⟨154, .data⟩, Array.mem_of_getElem? (i := 0) rfl, rfl, rfl⟩
      have w213 := v213
      rw [Array.getD_eq_getD_getElem?] at w213
      clear hf hfar
      go_simp
      exact ⟨_, rfl, Kept.refl _ _, rfl⟩
    refine OweAll.cons ?_ ?_
    · intro u a hk hf hfar
      clear hf hfar
      go_simp
      refine (wakes3 _).mono ?_
      rintro e u' ⟨rfl, hk'⟩
      exact ⟨_, rfl, hk', rfl⟩
    refine OweAll.cons ?_ ?_
    · intro u a hk hf hfar
      have v214 : a.tmps.getD 214 undef = .bool true := hf 155 _ 214 rfl rfl ⟨⟨155, .data⟩, Array.mem_of_getElem? (i := 0) rfl, rfl, rfl⟩
      have w214 := v214
      rw [Array.getD_eq_getD_getElem?] at w214
      have v215 : a.tmps.getD 215 undef = .bool true := hf 156 _ 215 rfl rfl ⟨⟨156, .data⟩, Array.mem_of_getElem? (i := 1) rfl, rfl, rfl⟩
      have w215 := v215
      rw [Array.getD_eq_getD_getElem?] at w215
      clear hf hfar
      go_simp
      exact ⟨_, rfl, Kept.refl _ _, rfl⟩
    refine OweAll.cons ?_ ?_
    · intro u a hk hf hfar
      have v216 : a.tmps.getD 216 undef = .bool true := hf 157 _ 216 rfl rfl ⟨⟨157, .data⟩, Array.mem_of_getElem? (i := 0) rfl, rfl, rfl⟩
      have w216 := v216
      rw [Array.getD_eq_getD_getElem?] at w216
      clear hf hfar
      go_simp
      exact ⟨_, rfl, Kept.refl _ _, rfl⟩
    exact OweAll.nil
  · intro A u hku hA hdef
    have hA' : A.tmps.getD 0 undef = .bool true := hA
    have hr := results_tmp (fn := Try.f5) (t := 0) (by rfl) A.tmps Try.prog u
    rw [hA'] at hr
    go_wp2
    exact bodyPost_ret hr (hdef.trans rfl) ⟨rfl, KW.out.trans hku⟩
end Go.Proofs.Ytkfhnkikddmccaa
