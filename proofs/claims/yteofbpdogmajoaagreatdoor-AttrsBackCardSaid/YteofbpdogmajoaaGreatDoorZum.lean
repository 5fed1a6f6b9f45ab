
/-
  The law's tells: seven rows are read as they must be (printed by wip/gen_um.py).
-/
import Derived.Test.YteofbpdogmajoaaGreatDoorZui
import Derived.Test.YteofbpdogmajoaaGreatDoorZyx
namespace Go.Proofs.YteofbpdogmajoaaGreatDoor
open Go.RowKit

theorem get_0 : Ax.get [64, 1, 1, 0] true true = (⟨2, 0, [], 0, 0, 0, 0, 0, [], [], 0, 0, []⟩, 0, []) := by rfl
theorem get_1 : Ax.get [64, 1, 1, 3] true true = (Ax.zeroA, 2, []) := by rfl
theorem get_2 : Ax.get [128, 1, 1, 0] true true = (Ax.zeroA, 2, []) := by rfl
theorem get_3 : Ax.get [64, 1, 2, 0] true true = (Ax.zeroA, 2, []) := by rfl
theorem get_4 : Ax.get [64, 5, 1, 7] true true = (Ax.zeroA, 1, []) := by rfl
theorem get_5 : Ax.get [64, 99, 0] true true = (Ax.zeroA, 3, [64, 99, 0]) := by rfl
theorem get_6 : Ax.get [192, 99, 1, 7] true true = (⟨0, 0, [], 0, 0, 0, 0, 0, [], [], 0, 0, [⟨224, 99, [7]⟩]⟩, 0, []) := by rfl
theorem row_0 (u : World) (ht : Wtd u) :
    Calls Tryz.prog 8 #[.slice (some ⟨u.heap.size, 0, none⟩) 4 4, .bool true, .bool true] (u.alloc (.cells #[.int .u8 64, .int .u8 1, .int .u8 1, .int .u8 0] 5)) fun e w' => ∃ Ap np Ac nc Aq nq Ao no Ad nd, e = .returned (.tuple #[.agg #[.int .u32 2, .int .u8 0, .slice Ap 0 np, .int .u32 0, .int .u32 0, .int .u32 0, .int .u32 0, .int .u32 0, .slice Ac 0 nc, .slice Aq 0 nq, .int .u32 0, .int .u32 0, .slice Ao 0 no], .agg #[.int .i64 0, .int .u8 0, .int .u8 0, .slice Ad 0 nd]]) ∧ Atp w' (⟨2, 0, [], 0, 0, 0, 0, 0, [], [], 0, 0, []⟩ : At) (.slice Ap 0 np) (.slice Ac 0 nc) (.slice Aq 0 nq) (.slice Ao 0 no) ∧ By w' (.slice Ad 0 nd) [] ∧ Kept Nothing u w' := by
  have hby := (Bs.made (l := [64, 1, 1, 0]) (Blk.fresh u 5 #[.int .u8 64, .int .u8 1, .int .u8 1, .int .u8 0]) (by rfl) (by simp [maxLen])).by
  have h := at_get _ [64, 1, 1, 0] true true _ hby (by simp) (ht.kept ((Kept.refl Nothing u).alloc _))
  rw [get_0] at h
  refine h.mono ?_
  rintro e w' ⟨pv, cv, qv, ov, dv, rfl, h1, h2, h3⟩
  have h4 := h1.atp (Oown.ots h1.2.2.2.1)
  have h5 := (Bs.of_own h2).by
  obtain ⟨Ap, np, rfl, -, -⟩ := (show ∃ A c, pv = .slice A 0 c ∧ _ ∧ _ from h4.1.form)
  obtain ⟨Ac, nc, rfl, -, -⟩ := h4.2.1.form
  obtain ⟨Aq, nq, rfl, -, -⟩ := (show ∃ A c, qv = .slice A 0 c ∧ _ ∧ _ from h4.2.2.1.form)
  obtain ⟨Ao, no, rfl, -, -⟩ := h4.2.2.2.1.form
  obtain ⟨Ad, nd, rfl, -, -⟩ := h5.form
  exact ⟨Ap, np, Ac, nc, Aq, nq, Ao, no, Ad, nd, rfl, h4, h5, ((Kept.refl Nothing u).alloc _).trans h3⟩
theorem row_1 (u : World) (ht : Wtd u) :
    Calls Tryz.prog 8 #[.slice (some ⟨u.heap.size, 0, none⟩) 4 4, .bool true, .bool true] (u.alloc (.cells #[.int .u8 64, .int .u8 1, .int .u8 1, .int .u8 3] 5)) fun e w' => ∃ Ap np Ac nc Aq nq Ao no Ad nd, e = .returned (.tuple #[.agg #[.int .u32 0, .int .u8 0, .slice Ap 0 np, .int .u32 0, .int .u32 0, .int .u32 0, .int .u32 0, .int .u32 0, .slice Ac 0 nc, .slice Aq 0 nq, .int .u32 0, .int .u32 0, .slice Ao 0 no], .agg #[.int .i64 2, .int .u8 0, .int .u8 0, .slice Ad 0 nd]]) ∧ Atp w' (Ax.zeroA : At) (.slice Ap 0 np) (.slice Ac 0 nc) (.slice Aq 0 nq) (.slice Ao 0 no) ∧ By w' (.slice Ad 0 nd) [] ∧ Kept Nothing u w' := by
  have hby := (Bs.made (l := [64, 1, 1, 3]) (Blk.fresh u 5 #[.int .u8 64, .int .u8 1, .int .u8 1, .int .u8 3]) (by rfl) (by simp [maxLen])).by
  have h := at_get _ [64, 1, 1, 3] true true _ hby (by simp) (ht.kept ((Kept.refl Nothing u).alloc _))
  rw [get_1] at h
  refine h.mono ?_
  rintro e w' ⟨pv, cv, qv, ov, dv, rfl, h1, h2, h3⟩
  have h4 := h1.atp (Oown.ots h1.2.2.2.1)
  have h5 := (Bs.of_own h2).by
  obtain ⟨Ap, np, rfl, -, -⟩ := (show ∃ A c, pv = .slice A 0 c ∧ _ ∧ _ from h4.1.form)
  obtain ⟨Ac, nc, rfl, -, -⟩ := h4.2.1.form
  obtain ⟨Aq, nq, rfl, -, -⟩ := (show ∃ A c, qv = .slice A 0 c ∧ _ ∧ _ from h4.2.2.1.form)
  obtain ⟨Ao, no, rfl, -, -⟩ := h4.2.2.2.1.form
  obtain ⟨Ad, nd, rfl, -, -⟩ := h5.form
  exact ⟨Ap, np, Ac, nc, Aq, nq, Ao, no, Ad, nd, rfl, h4, h5, ((Kept.refl Nothing u).alloc _).trans h3⟩
theorem row_2 (u : World) (ht : Wtd u) :
    Calls Tryz.prog 8 #[.slice (some ⟨u.heap.size, 0, none⟩) 4 4, .bool true, .bool true] (u.alloc (.cells #[.int .u8 128, .int .u8 1, .int .u8 1, .int .u8 0] 5)) fun e w' => ∃ Ap np Ac nc Aq nq Ao no Ad nd, e = .returned (.tuple #[.agg #[.int .u32 0, .int .u8 0, .slice Ap 0 np, .int .u32 0, .int .u32 0, .int .u32 0, .int .u32 0, .int .u32 0, .slice Ac 0 nc, .slice Aq 0 nq, .int .u32 0, .int .u32 0, .slice Ao 0 no], .agg #[.int .i64 2, .int .u8 0, .int .u8 0, .slice Ad 0 nd]]) ∧ Atp w' (Ax.zeroA : At) (.slice Ap 0 np) (.slice Ac 0 nc) (.slice Aq 0 nq) (.slice Ao 0 no) ∧ By w' (.slice Ad 0 nd) [] ∧ Kept Nothing u w' := by
  have hby := (Bs.made (l := [128, 1, 1, 0]) (Blk.fresh u 5 #[.int .u8 128, .int .u8 1, .int .u8 1, .int .u8 0]) (by rfl) (by simp [maxLen])).by
  have h := at_get _ [128, 1, 1, 0] true true _ hby (by simp) (ht.kept ((Kept.refl Nothing u).alloc _))
  rw [get_2] at h
  refine h.mono ?_
  rintro e w' ⟨pv, cv, qv, ov, dv, rfl, h1, h2, h3⟩
  have h4 := h1.atp (Oown.ots h1.2.2.2.1)
  have h5 := (Bs.of_own h2).by
  obtain ⟨Ap, np, rfl, -, -⟩ := (show ∃ A c, pv = .slice A 0 c ∧ _ ∧ _ from h4.1.form)
  obtain ⟨Ac, nc, rfl, -, -⟩ := h4.2.1.form
  obtain ⟨Aq, nq, rfl, -, -⟩ := (show ∃ A c, qv = .slice A 0 c ∧ _ ∧ _ from h4.2.2.1.form)
  obtain ⟨Ao, no, rfl, -, -⟩ := h4.2.2.2.1.form
  obtain ⟨Ad, nd, rfl, -, -⟩ := h5.form
  exact ⟨Ap, np, Ac, nc, Aq, nq, Ao, no, Ad, nd, rfl, h4, h5, ((Kept.refl Nothing u).alloc _).trans h3⟩
theorem row_3 (u : World) (ht : Wtd u) :
    Calls Tryz.prog 8 #[.slice (some ⟨u.heap.size, 0, none⟩) 4 4, .bool true, .bool true] (u.alloc (.cells #[.int .u8 64, .int .u8 1, .int .u8 2, .int .u8 0] 5)) fun e w' => ∃ Ap np Ac nc Aq nq Ao no Ad nd, e = .returned (.tuple #[.agg #[.int .u32 0, .int .u8 0, .slice Ap 0 np, .int .u32 0, .int .u32 0, .int .u32 0, .int .u32 0, .int .u32 0, .slice Ac 0 nc, .slice Aq 0 nq, .int .u32 0, .int .u32 0, .slice Ao 0 no], .agg #[.int .i64 2, .int .u8 0, .int .u8 0, .slice Ad 0 nd]]) ∧ Atp w' (Ax.zeroA : At) (.slice Ap 0 np) (.slice Ac 0 nc) (.slice Aq 0 nq) (.slice Ao 0 no) ∧ By w' (.slice Ad 0 nd) [] ∧ Kept Nothing u w' := by
  have hby := (Bs.made (l := [64, 1, 2, 0]) (Blk.fresh u 5 #[.int .u8 64, .int .u8 1, .int .u8 2, .int .u8 0]) (by rfl) (by simp [maxLen])).by
  have h := at_get _ [64, 1, 2, 0] true true _ hby (by simp) (ht.kept ((Kept.refl Nothing u).alloc _))
  rw [get_3] at h
  refine h.mono ?_
  rintro e w' ⟨pv, cv, qv, ov, dv, rfl, h1, h2, h3⟩
  have h4 := h1.atp (Oown.ots h1.2.2.2.1)
  have h5 := (Bs.of_own h2).by
  obtain ⟨Ap, np, rfl, -, -⟩ := (show ∃ A c, pv = .slice A 0 c ∧ _ ∧ _ from h4.1.form)
  obtain ⟨Ac, nc, rfl, -, -⟩ := h4.2.1.form
  obtain ⟨Aq, nq, rfl, -, -⟩ := (show ∃ A c, qv = .slice A 0 c ∧ _ ∧ _ from h4.2.2.1.form)
  obtain ⟨Ao, no, rfl, -, -⟩ := h4.2.2.2.1.form
  obtain ⟨Ad, nd, rfl, -, -⟩ := h5.form
  exact ⟨Ap, np, Ac, nc, Aq, nq, Ao, no, Ad, nd, rfl, h4, h5, ((Kept.refl Nothing u).alloc _).trans h3⟩
theorem row_4 (u : World) (ht : Wtd u) :
    Calls Tryz.prog 8 #[.slice (some ⟨u.heap.size, 0, none⟩) 4 4, .bool true, .bool true] (u.alloc (.cells #[.int .u8 64, .int .u8 5, .int .u8 1, .int .u8 7] 5)) fun e w' => ∃ Ap np Ac nc Aq nq Ao no Ad nd, e = .returned (.tuple #[.agg #[.int .u32 0, .int .u8 0, .slice Ap 0 np, .int .u32 0, .int .u32 0, .int .u32 0, .int .u32 0, .int .u32 0, .slice Ac 0 nc, .slice Aq 0 nq, .int .u32 0, .int .u32 0, .slice Ao 0 no], .agg #[.int .i64 1, .int .u8 0, .int .u8 0, .slice Ad 0 nd]]) ∧ Atp w' (Ax.zeroA : At) (.slice Ap 0 np) (.slice Ac 0 nc) (.slice Aq 0 nq) (.slice Ao 0 no) ∧ By w' (.slice Ad 0 nd) [] ∧ Kept Nothing u w' := by
  have hby := (Bs.made (l := [64, 5, 1, 7]) (Blk.fresh u 5 #[.int .u8 64, .int .u8 5, .int .u8 1, .int .u8 7]) (by rfl) (by simp [maxLen])).by
  have h := at_get _ [64, 5, 1, 7] true true _ hby (by simp) (ht.kept ((Kept.refl Nothing u).alloc _))
  rw [get_4] at h
  refine h.mono ?_
  rintro e w' ⟨pv, cv, qv, ov, dv, rfl, h1, h2, h3⟩
  have h4 := h1.atp (Oown.ots h1.2.2.2.1)
  have h5 := (Bs.of_own h2).by
  obtain ⟨Ap, np, rfl, -, -⟩ := (show ∃ A c, pv = .slice A 0 c ∧ _ ∧ _ from h4.1.form)
  obtain ⟨Ac, nc, rfl, -, -⟩ := h4.2.1.form
  obtain ⟨Aq, nq, rfl, -, -⟩ := (show ∃ A c, qv = .slice A 0 c ∧ _ ∧ _ from h4.2.2.1.form)
  obtain ⟨Ao, no, rfl, -, -⟩ := h4.2.2.2.1.form
  obtain ⟨Ad, nd, rfl, -, -⟩ := h5.form
  exact ⟨Ap, np, Ac, nc, Aq, nq, Ao, no, Ad, nd, rfl, h4, h5, ((Kept.refl Nothing u).alloc _).trans h3⟩
theorem row_5 (u : World) (ht : Wtd u) :
    Calls Tryz.prog 8 #[.slice (some ⟨u.heap.size, 0, none⟩) 3 3, .bool true, .bool true] (u.alloc (.cells #[.int .u8 64, .int .u8 99, .int .u8 0] 5)) fun e w' => ∃ Ap np Ac nc Aq nq Ao no Ad nd, e = .returned (.tuple #[.agg #[.int .u32 0, .int .u8 0, .slice Ap 0 np, .int .u32 0, .int .u32 0, .int .u32 0, .int .u32 0, .int .u32 0, .slice Ac 0 nc, .slice Aq 0 nq, .int .u32 0, .int .u32 0, .slice Ao 0 no], .agg #[.int .i64 3, .int .u8 3, .int .u8 2, .slice Ad 3 nd]]) ∧ Atp w' (Ax.zeroA : At) (.slice Ap 0 np) (.slice Ac 0 nc) (.slice Aq 0 nq) (.slice Ao 0 no) ∧ By w' (.slice Ad 3 nd) [64, 99, 0] ∧ Kept Nothing u w' := by
  have hby := (Bs.made (l := [64, 99, 0]) (Blk.fresh u 5 #[.int .u8 64, .int .u8 99, .int .u8 0]) (by rfl) (by simp [maxLen])).by
  have h := at_get _ [64, 99, 0] true true _ hby (by simp) (ht.kept ((Kept.refl Nothing u).alloc _))
  rw [get_5] at h
  refine h.mono ?_
  rintro e w' ⟨pv, cv, qv, ov, dv, rfl, h1, h2, h3⟩
  have h4 := h1.atp (Oown.ots h1.2.2.2.1)
  have h5 := (Bs.of_own h2).by
  obtain ⟨Ap, np, rfl, -, -⟩ := (show ∃ A c, pv = .slice A 0 c ∧ _ ∧ _ from h4.1.form)
  obtain ⟨Ac, nc, rfl, -, -⟩ := h4.2.1.form
  obtain ⟨Aq, nq, rfl, -, -⟩ := (show ∃ A c, qv = .slice A 0 c ∧ _ ∧ _ from h4.2.2.1.form)
  obtain ⟨Ao, no, rfl, -, -⟩ := h4.2.2.2.1.form
  obtain ⟨Ad, nd, rfl, -, -⟩ := h5.form
  exact ⟨Ap, np, Ac, nc, Aq, nq, Ao, no, Ad, nd, rfl, h4, h5, ((Kept.refl Nothing u).alloc _).trans h3⟩
theorem row_6 (u : World) (ht : Wtd u) :
    Calls Tryz.prog 8 #[.slice (some ⟨u.heap.size, 0, none⟩) 4 4, .bool true, .bool true] (u.alloc (.cells #[.int .u8 192, .int .u8 99, .int .u8 1, .int .u8 7] 5)) fun e w' => ∃ Ap np Ac nc Aq nq Ao no Ad nd, e = .returned (.tuple #[.agg #[.int .u32 0, .int .u8 0, .slice Ap 0 np, .int .u32 0, .int .u32 0, .int .u32 0, .int .u32 0, .int .u32 0, .slice Ac 0 nc, .slice Aq 0 nq, .int .u32 0, .int .u32 0, .slice Ao 1 no], .agg #[.int .i64 0, .int .u8 0, .int .u8 0, .slice Ad 0 nd]]) ∧ Atp w' (⟨0, 0, [], 0, 0, 0, 0, 0, [], [], 0, 0, [⟨224, 99, [7]⟩]⟩ : At) (.slice Ap 0 np) (.slice Ac 0 nc) (.slice Aq 0 nq) (.slice Ao 1 no) ∧ By w' (.slice Ad 0 nd) [] ∧ Kept Nothing u w' := by
  have hby := (Bs.made (l := [192, 99, 1, 7]) (Blk.fresh u 5 #[.int .u8 192, .int .u8 99, .int .u8 1, .int .u8 7]) (by rfl) (by simp [maxLen])).by
  have h := at_get _ [192, 99, 1, 7] true true _ hby (by simp) (ht.kept ((Kept.refl Nothing u).alloc _))
  rw [get_6] at h
  refine h.mono ?_
  rintro e w' ⟨pv, cv, qv, ov, dv, rfl, h1, h2, h3⟩
  have h4 := h1.atp (Oown.ots h1.2.2.2.1)
  have h5 := (Bs.of_own h2).by
  obtain ⟨Ap, np, rfl, -, -⟩ := (show ∃ A c, pv = .slice A 0 c ∧ _ ∧ _ from h4.1.form)
  obtain ⟨Ac, nc, rfl, -, -⟩ := h4.2.1.form
  obtain ⟨Aq, nq, rfl, -, -⟩ := (show ∃ A c, qv = .slice A 0 c ∧ _ ∧ _ from h4.2.2.1.form)
  obtain ⟨Ao, no, rfl, -, -⟩ := h4.2.2.2.1.form
  obtain ⟨Ad, nd, rfl, -, -⟩ := h5.form
  exact ⟨Ap, np, Ac, nc, Aq, nq, Ao, no, Ad, nd, rfl, h4, h5, ((Kept.refl Nothing u).alloc _).trans h3⟩

set_option maxRecDepth 20000 in
set_option maxHeartbeats 4000000 in
theorem tells10 (w : World) (ht : Wtd w) : Calls Tryz.prog 12 #[] w fun e w' => e = .returned (.bool true) ∧ Kept Nothing w w' := by
  have HT := Lib.hid ht
  clear ht
  have K0 := Lib.hid (Kept.refl Nothing w)
  go_enter Tryz.func12, Tryz.ntmps12
  go_upto_region 2 with (go_at_call 8; refine (row_0 _ (HT.out.kept K0.out)).mono ?_; rintro e x1 ⟨Ap1, np1, Ac1, nc1, Aq1, nq1, Ao1, no1, Ad1, nd1, rfl, ha1, hd1, hk1⟩)
  obtain ⟨W1, hW1⟩ : ∃ W, (x1.alloc (.cells #[.int .u32 2, .int .u8 0, .slice Ap1 0 np1, .int .u32 0, .int .u32 0, .int .u32 0, .int .u32 0, .int .u32 0, .slice Ac1 0 nc1, .slice Aq1 0 nq1, .int .u32 0, .int .u32 0, .slice Ao1 0 no1] 33)).alloc (.cells #[.int .i64 0, .int .u8 0, .int .u8 0, .slice Ad1 0 nd1] 37) = W := ⟨_, rfl⟩
  have BA1 : Hid (Blk W1 x1.heap.size 33 #[.int .u32 2, .int .u8 0, .slice Ap1 0 np1, .int .u32 0, .int .u32 0, .int .u32 0, .int .u32 0, .int .u32 0, .slice Ac1 0 nc1, .slice Aq1 0 nq1, .int .u32 0, .int .u32 0, .slice Ao1 0 no1]) := Lib.hid (by rw [← hW1]; exact (Blk.fresh x1 _ _).alloc _)
  have BF1 : Hid (Blk W1 (x1.heap.size + 1) 37 #[.int .i64 0, .int .u8 0, .int .u8 0, .slice Ad1 0 nd1]) := Lib.hid (by
    have h := Blk.fresh (x1.alloc (.cells #[.int .u32 2, .int .u8 0, .slice Ap1 0 np1, .int .u32 0, .int .u32 0, .int .u32 0, .int .u32 0, .int .u32 0, .slice Ac1 0 nc1, .slice Aq1 0 nq1, .int .u32 0, .int .u32 0, .slice Ao1 0 no1] 33)) 37 #[.int .i64 0, .int .u8 0, .int .u8 0, .slice Ad1 0 nd1]
    rw [World.size_alloc] at h
    rw [← hW1]
    exact h)
  have kz : Kept Nothing x1 W1 := by rw [← hW1]; exact ((Kept.refl Nothing _).alloc _).alloc _
  have J1 : Hid (Kept Nothing w W1) := Lib.hid (hk1.trans kz)
  have K1 := Lib.hid (K0.out.trans J1.out)
  have HA1 := Lib.hid (ha1.old kz)
  have HD1 := Lib.hid (hd1.old kz)
  rw [hW1]
  clear hW1 ha1 hd1 hk1 kz
  generalize x1.heap.size = q1 at *
  go_upto_region 3 with (go_at_call 8; refine (row_1 _ (HT.out.kept K1.out)).mono ?_; rintro e x2 ⟨Ap2, np2, Ac2, nc2, Aq2, nq2, Ao2, no2, Ad2, nd2, rfl, ha2, hd2, hk2⟩)
  obtain ⟨W2, hW2⟩ : ∃ W, (x2.alloc (.cells #[.int .u32 0, .int .u8 0, .slice Ap2 0 np2, .int .u32 0, .int .u32 0, .int .u32 0, .int .u32 0, .int .u32 0, .slice Ac2 0 nc2, .slice Aq2 0 nq2, .int .u32 0, .int .u32 0, .slice Ao2 0 no2] 33)).alloc (.cells #[.int .i64 2, .int .u8 0, .int .u8 0, .slice Ad2 0 nd2] 37) = W := ⟨_, rfl⟩
  have BA2 : Hid (Blk W2 x2.heap.size 33 #[.int .u32 0, .int .u8 0, .slice Ap2 0 np2, .int .u32 0, .int .u32 0, .int .u32 0, .int .u32 0, .int .u32 0, .slice Ac2 0 nc2, .slice Aq2 0 nq2, .int .u32 0, .int .u32 0, .slice Ao2 0 no2]) := Lib.hid (by rw [← hW2]; exact (Blk.fresh x2 _ _).alloc _)
  have BF2 : Hid (Blk W2 (x2.heap.size + 1) 37 #[.int .i64 2, .int .u8 0, .int .u8 0, .slice Ad2 0 nd2]) := Lib.hid (by
    have h := Blk.fresh (x2.alloc (.cells #[.int .u32 0, .int .u8 0, .slice Ap2 0 np2, .int .u32 0, .int .u32 0, .int .u32 0, .int .u32 0, .int .u32 0, .slice Ac2 0 nc2, .slice Aq2 0 nq2, .int .u32 0, .int .u32 0, .slice Ao2 0 no2] 33)) 37 #[.int .i64 2, .int .u8 0, .int .u8 0, .slice Ad2 0 nd2]
    rw [World.size_alloc] at h
    rw [← hW2]
    exact h)
  have kz : Kept Nothing x2 W2 := by rw [← hW2]; exact ((Kept.refl Nothing _).alloc _).alloc _
  have J2 : Hid (Kept Nothing W1 W2) := Lib.hid (hk2.trans kz)
  have K2 := Lib.hid (K1.out.trans J2.out)
  have HA2 := Lib.hid (ha2.old kz)
  have HD2 := Lib.hid (hd2.old kz)
  rw [hW2]
  clear hW2 ha2 hd2 hk2 kz
  generalize x2.heap.size = q2 at *
  go_upto_region 4 with (go_at_call 8; refine (row_2 _ (HT.out.kept K2.out)).mono ?_; rintro e x3 ⟨Ap3, np3, Ac3, nc3, Aq3, nq3, Ao3, no3, Ad3, nd3, rfl, ha3, hd3, hk3⟩)
  obtain ⟨W3, hW3⟩ : ∃ W, (x3.alloc (.cells #[.int .u32 0, .int .u8 0, .slice Ap3 0 np3, .int .u32 0, .int .u32 0, .int .u32 0, .int .u32 0, .int .u32 0, .slice Ac3 0 nc3, .slice Aq3 0 nq3, .int .u32 0, .int .u32 0, .slice Ao3 0 no3] 33)).alloc (.cells #[.int .i64 2, .int .u8 0, .int .u8 0, .slice Ad3 0 nd3] 37) = W := ⟨_, rfl⟩
  have BA3 : Hid (Blk W3 x3.heap.size 33 #[.int .u32 0, .int .u8 0, .slice Ap3 0 np3, .int .u32 0, .int .u32 0, .int .u32 0, .int .u32 0, .int .u32 0, .slice Ac3 0 nc3, .slice Aq3 0 nq3, .int .u32 0, .int .u32 0, .slice Ao3 0 no3]) := Lib.hid (by rw [← hW3]; exact (Blk.fresh x3 _ _).alloc _)
  have BF3 : Hid (Blk W3 (x3.heap.size + 1) 37 #[.int .i64 2, .int .u8 0, .int .u8 0, .slice Ad3 0 nd3]) := Lib.hid (by
    have h := Blk.fresh (x3.alloc (.cells #[.int .u32 0, .int .u8 0, .slice Ap3 0 np3, .int .u32 0, .int .u32 0, .int .u32 0, .int .u32 0, .int .u32 0, .slice Ac3 0 nc3, .slice Aq3 0 nq3, .int .u32 0, .int .u32 0, .slice Ao3 0 no3] 33)) 37 #[.int .i64 2, .int .u8 0, .int .u8 0, .slice Ad3 0 nd3]
    rw [World.size_alloc] at h
    rw [← hW3]
    exact h)
  have kz : Kept Nothing x3 W3 := by rw [← hW3]; exact ((Kept.refl Nothing _).alloc _).alloc _
  have J3 : Hid (Kept Nothing W2 W3) := Lib.hid (hk3.trans kz)
  have K3 := Lib.hid (K2.out.trans J3.out)
  have HA3 := Lib.hid (ha3.old kz)
  have HD3 := Lib.hid (hd3.old kz)
  rw [hW3]
  clear hW3 ha3 hd3 hk3 kz
  generalize x3.heap.size = q3 at *
  go_upto_region 5 with (go_at_call 8; refine (row_3 _ (HT.out.kept K3.out)).mono ?_; rintro e x4 ⟨Ap4, np4, Ac4, nc4, Aq4, nq4, Ao4, no4, Ad4, nd4, rfl, ha4, hd4, hk4⟩)
  obtain ⟨W4, hW4⟩ : ∃ W, (x4.alloc (.cells #[.int .u32 0, .int .u8 0, .slice Ap4 0 np4, .int .u32 0, .int .u32 0, .int .u32 0, .int .u32 0, .int .u32 0, .slice Ac4 0 nc4, .slice Aq4 0 nq4, .int .u32 0, .int .u32 0, .slice Ao4 0 no4] 33)).alloc (.cells #[.int .i64 2, .int .u8 0, .int .u8 0, .slice Ad4 0 nd4] 37) = W := ⟨_, rfl⟩
  have BA4 : Hid (Blk W4 x4.heap.size 33 #[.int .u32 0, .int .u8 0, .slice Ap4 0 np4, .int .u32 0, .int .u32 0, .int .u32 0, .int .u32 0, .int .u32 0, .slice Ac4 0 nc4, .slice Aq4 0 nq4, .int .u32 0, .int .u32 0, .slice Ao4 0 no4]) := Lib.hid (by rw [← hW4]; exact (Blk.fresh x4 _ _).alloc _)
  have BF4 : Hid (Blk W4 (x4.heap.size + 1) 37 #[.int .i64 2, .int .u8 0, .int .u8 0, .slice Ad4 0 nd4]) := Lib.hid (by
    have h := Blk.fresh (x4.alloc (.cells #[.int .u32 0, .int .u8 0, .slice Ap4 0 np4, .int .u32 0, .int .u32 0, .int .u32 0, .int .u32 0, .int .u32 0, .slice Ac4 0 nc4, .slice Aq4 0 nq4, .int .u32 0, .int .u32 0, .slice Ao4 0 no4] 33)) 37 #[.int .i64 2, .int .u8 0, .int .u8 0, .slice Ad4 0 nd4]
    rw [World.size_alloc] at h
    rw [← hW4]
    exact h)
  have kz : Kept Nothing x4 W4 := by rw [← hW4]; exact ((Kept.refl Nothing _).alloc _).alloc _
  have J4 : Hid (Kept Nothing W3 W4) := Lib.hid (hk4.trans kz)
  have K4 := Lib.hid (K3.out.trans J4.out)
  have HA4 := Lib.hid (ha4.old kz)
  have HD4 := Lib.hid (hd4.old kz)
  rw [hW4]
  clear hW4 ha4 hd4 hk4 kz
  generalize x4.heap.size = q4 at *
  go_upto_region 6 with (go_at_call 8; refine (row_4 _ (HT.out.kept K4.out)).mono ?_; rintro e x5 ⟨Ap5, np5, Ac5, nc5, Aq5, nq5, Ao5, no5, Ad5, nd5, rfl, ha5, hd5, hk5⟩)
  obtain ⟨W5, hW5⟩ : ∃ W, (x5.alloc (.cells #[.int .u32 0, .int .u8 0, .slice Ap5 0 np5, .int .u32 0, .int .u32 0, .int .u32 0, .int .u32 0, .int .u32 0, .slice Ac5 0 nc5, .slice Aq5 0 nq5, .int .u32 0, .int .u32 0, .slice Ao5 0 no5] 33)).alloc (.cells #[.int .i64 1, .int .u8 0, .int .u8 0, .slice Ad5 0 nd5] 37) = W := ⟨_, rfl⟩
  have BA5 : Hid (Blk W5 x5.heap.size 33 #[.int .u32 0, .int .u8 0, .slice Ap5 0 np5, .int .u32 0, .int .u32 0, .int .u32 0, .int .u32 0, .int .u32 0, .slice Ac5 0 nc5, .slice Aq5 0 nq5, .int .u32 0, .int .u32 0, .slice Ao5 0 no5]) := Lib.hid (by rw [← hW5]; exact (Blk.fresh x5 _ _).alloc _)
  have BF5 : Hid (Blk W5 (x5.heap.size + 1) 37 #[.int .i64 1, .int .u8 0, .int .u8 0, .slice Ad5 0 nd5]) := Lib.hid (by
    have h := Blk.fresh (x5.alloc (.cells #[.int .u32 0, .int .u8 0, .slice Ap5 0 np5, .int .u32 0, .int .u32 0, .int .u32 0, .int .u32 0, .int .u32 0, .slice Ac5 0 nc5, .slice Aq5 0 nq5, .int .u32 0, .int .u32 0, .slice Ao5 0 no5] 33)) 37 #[.int .i64 1, .int .u8 0, .int .u8 0, .slice Ad5 0 nd5]
    rw [World.size_alloc] at h
    rw [← hW5]
    exact h)
  have kz : Kept Nothing x5 W5 := by rw [← hW5]; exact ((Kept.refl Nothing _).alloc _).alloc _
  have J5 : Hid (Kept Nothing W4 W5) := Lib.hid (hk5.trans kz)
  have K5 := Lib.hid (K4.out.trans J5.out)
  have HA5 := Lib.hid (ha5.old kz)
  have HD5 := Lib.hid (hd5.old kz)
  rw [hW5]
  clear hW5 ha5 hd5 hk5 kz
  generalize x5.heap.size = q5 at *
  go_upto_region 7 with (go_at_call 8; refine (row_5 _ (HT.out.kept K5.out)).mono ?_; rintro e x6 ⟨Ap6, np6, Ac6, nc6, Aq6, nq6, Ao6, no6, Ad6, nd6, rfl, ha6, hd6, hk6⟩)
  obtain ⟨W6, hW6⟩ : ∃ W, (x6.alloc (.cells #[.int .u32 0, .int .u8 0, .slice Ap6 0 np6, .int .u32 0, .int .u32 0, .int .u32 0, .int .u32 0, .int .u32 0, .slice Ac6 0 nc6, .slice Aq6 0 nq6, .int .u32 0, .int .u32 0, .slice Ao6 0 no6] 33)).alloc (.cells #[.int .i64 3, .int .u8 3, .int .u8 2, .slice Ad6 3 nd6] 37) = W := ⟨_, rfl⟩
  have BA6 : Hid (Blk W6 x6.heap.size 33 #[.int .u32 0, .int .u8 0, .slice Ap6 0 np6, .int .u32 0, .int .u32 0, .int .u32 0, .int .u32 0, .int .u32 0, .slice Ac6 0 nc6, .slice Aq6 0 nq6, .int .u32 0, .int .u32 0, .slice Ao6 0 no6]) := Lib.hid (by rw [← hW6]; exact (Blk.fresh x6 _ _).alloc _)
  have BF6 : Hid (Blk W6 (x6.heap.size + 1) 37 #[.int .i64 3, .int .u8 3, .int .u8 2, .slice Ad6 3 nd6]) := Lib.hid (by
    have h := Blk.fresh (x6.alloc (.cells #[.int .u32 0, .int .u8 0, .slice Ap6 0 np6, .int .u32 0, .int .u32 0, .int .u32 0, .int .u32 0, .int .u32 0, .slice Ac6 0 nc6, .slice Aq6 0 nq6, .int .u32 0, .int .u32 0, .slice Ao6 0 no6] 33)) 37 #[.int .i64 3, .int .u8 3, .int .u8 2, .slice Ad6 3 nd6]
    rw [World.size_alloc] at h
    rw [← hW6]
    exact h)
  have kz : Kept Nothing x6 W6 := by rw [← hW6]; exact ((Kept.refl Nothing _).alloc _).alloc _
  have J6 : Hid (Kept Nothing W5 W6) := Lib.hid (hk6.trans kz)
  have K6 := Lib.hid (K5.out.trans J6.out)
  have HA6 := Lib.hid (ha6.old kz)
  have HD6 := Lib.hid (hd6.old kz)
  rw [hW6]
  clear hW6 ha6 hd6 hk6 kz
  generalize x6.heap.size = q6 at *
  go_upto_region 8 with (go_at_call 8; refine (row_6 _ (HT.out.kept K6.out)).mono ?_; rintro e x7 ⟨Ap7, np7, Ac7, nc7, Aq7, nq7, Ao7, no7, Ad7, nd7, rfl, ha7, hd7, hk7⟩)
  obtain ⟨W7, hW7⟩ : ∃ W, (x7.alloc (.cells #[.int .u32 0, .int .u8 0, .slice Ap7 0 np7, .int .u32 0, .int .u32 0, .int .u32 0, .int .u32 0, .int .u32 0, .slice Ac7 0 nc7, .slice Aq7 0 nq7, .int .u32 0, .int .u32 0, .slice Ao7 1 no7] 33)).alloc (.cells #[.int .i64 0, .int .u8 0, .int .u8 0, .slice Ad7 0 nd7] 37) = W := ⟨_, rfl⟩
  have BA7 : Hid (Blk W7 x7.heap.size 33 #[.int .u32 0, .int .u8 0, .slice Ap7 0 np7, .int .u32 0, .int .u32 0, .int .u32 0, .int .u32 0, .int .u32 0, .slice Ac7 0 nc7, .slice Aq7 0 nq7, .int .u32 0, .int .u32 0, .slice Ao7 1 no7]) := Lib.hid (by rw [← hW7]; exact (Blk.fresh x7 _ _).alloc _)
  have BF7 : Hid (Blk W7 (x7.heap.size + 1) 37 #[.int .i64 0, .int .u8 0, .int .u8 0, .slice Ad7 0 nd7]) := Lib.hid (by
    have h := Blk.fresh (x7.alloc (.cells #[.int .u32 0, .int .u8 0, .slice Ap7 0 np7, .int .u32 0, .int .u32 0, .int .u32 0, .int .u32 0, .int .u32 0, .slice Ac7 0 nc7, .slice Aq7 0 nq7, .int .u32 0, .int .u32 0, .slice Ao7 1 no7] 33)) 37 #[.int .i64 0, .int .u8 0, .int .u8 0, .slice Ad7 0 nd7]
    rw [World.size_alloc] at h
    rw [← hW7]
    exact h)
  have kz : Kept Nothing x7 W7 := by rw [← hW7]; exact ((Kept.refl Nothing _).alloc _).alloc _
  have J7 : Hid (Kept Nothing W6 W7) := Lib.hid (hk7.trans kz)
  have K7 := Lib.hid (K6.out.trans J7.out)
  have HA7 := Lib.hid (ha7.old kz)
  have HD7 := Lib.hid (hd7.old kz)
  rw [hW7]
  clear hW7 ha7 hd7 hk7 kz
  generalize x7.heap.size = q7 at *
  have T7 := Lib.hid (Kept.refl Nothing W7)
  have T6 := Lib.hid (J7.out.trans T7.out)
  have T5 := Lib.hid (J6.out.trans T6.out)
  have T4 := Lib.hid (J5.out.trans T5.out)
  have T3 := Lib.hid (J4.out.trans T4.out)
  have T2 := Lib.hid (J3.out.trans T3.out)
  have T1 := Lib.hid (J2.out.trans T2.out)
  have s0 := (BF1.out.kept T1.out (fun x => x)).cell 0
  have a0 := (BA1.out.kept T1.out (fun x => x)).cell 0
  have a1 := (BA1.out.kept T1.out (fun x => x)).cell 1
  have a2 := (BA1.out.kept T1.out (fun x => x)).cell 2
  have a3 := (BA1.out.kept T1.out (fun x => x)).cell 3
  have a4 := (BA1.out.kept T1.out (fun x => x)).cell 4
  have a5 := (BA1.out.kept T1.out (fun x => x)).cell 5
  have a6 := (BA1.out.kept T1.out (fun x => x)).cell 6
  have a7 := (BA1.out.kept T1.out (fun x => x)).cell 7
  have a8 := (BA1.out.kept T1.out (fun x => x)).cell 8
  have a9 := (BA1.out.kept T1.out (fun x => x)).cell 9
  have a10 := (BA1.out.kept T1.out (fun x => x)).cell 10
  have a11 := (BA1.out.kept T1.out (fun x => x)).cell 11
  have a12 := (BA1.out.kept T1.out (fun x => x)).cell 12
  have HI := Lib.hid (at_is _ _ _ _ _ 1 W7 (HA1.out.old T1.out) (HT.out.kept K7.out))
  rw [show Ax.is (⟨2, 0, [], 0, 0, 0, 0, 0, [], [], 0, 0, []⟩ : At) 1 = true by decide] at HI
  obtain ⟨b7, o7, rfl, hc7⟩ := HA7.out.2.2.2.1.at (by omega)
  have HC7 := Lib.hid (hc7 0 (by simp)).1
  clear hc7
  unfold Ax.agg at HI
  go_wp2_with (go_at_call 18; refine (HI.out).mono ?_; rintro e y ⟨rfl, hy⟩; (have z1 : y.cell? ⟨q1, 1, none⟩ = some (.int .u8 0) := (BA1.out.kept (T1.out.trans hy) (fun x => x)).cell 1); (have z2 : y.cell? ⟨q2 + 1, 0, none⟩ = some (.int .i64 2) := (BF2.out.kept (T2.out.trans hy) (fun x => x)).cell 0); (have z3 : y.cell? ⟨q3 + 1, 0, none⟩ = some (.int .i64 2) := (BF3.out.kept (T3.out.trans hy) (fun x => x)).cell 0); (have z4 : y.cell? ⟨q4 + 1, 0, none⟩ = some (.int .i64 2) := (BF4.out.kept (T4.out.trans hy) (fun x => x)).cell 0); (have z5 : y.cell? ⟨q5 + 1, 0, none⟩ = some (.int .i64 1) := (BF5.out.kept (T5.out.trans hy) (fun x => x)).cell 0); (have z6 : y.cell? ⟨q5, 0, none⟩ = some (.int .u32 0) := (BA5.out.kept (T5.out.trans hy) (fun x => x)).cell 0); (have g0 : y.cell? ⟨q6 + 1, 0, none⟩ = some (.int .i64 3) := (BF6.out.kept (T6.out.trans hy) (fun x => x)).cell 0); (have g1 : y.cell? ⟨q6 + 1, 1, none⟩ = some (.int .u8 3) := (BF6.out.kept (T6.out.trans hy) (fun x => x)).cell 1); (have g2 : y.cell? ⟨q6 + 1, 2, none⟩ = some (.int .u8 2) := (BF6.out.kept (T6.out.trans hy) (fun x => x)).cell 2); (have g3 : y.cell? ⟨q6 + 1, 3, none⟩ = some (.slice Ad6 3 nd6) := (BF6.out.kept (T6.out.trans hy) (fun x => x)).cell 3); (have g4 := run_conv (HD6.out.old (T6.out.trans hy))); (have g5 : y.cell? ⟨q7 + 1, 0, none⟩ = some (.int .i64 0) := (BF7.out.kept (T7.out.trans hy) (fun x => x)).cell 0); (have g6 : y.cell? ⟨q7, 12, none⟩ = some (.slice (some ⟨b7, o7, none⟩) 1 no7) := (BA7.out.kept (T7.out.trans hy) (fun x => x)).cell 12); (have g7 : y.cell? ⟨b7, o7, none⟩ = some (.int .u8 224) := hy.cell_some HC7.out (fun x => x)); (have HY := Lib.hid hy); clear hy)
  go_ret
  exact ⟨rfl, K7.out.trans HY.out⟩
end Go.Proofs.YteofbpdogmajoaaGreatDoor
