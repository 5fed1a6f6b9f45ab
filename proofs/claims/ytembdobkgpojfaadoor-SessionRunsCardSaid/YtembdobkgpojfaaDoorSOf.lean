
/-
  session: the document's Do, an event that may be.
-/
import Derived.Test.YtembdobkgpojfaaDoorSOd
namespace Go.Proofs.YtembdobkgpojfaaDoor
open Go.RowKit

set_option maxRecDepth 100000 in
set_option maxHeartbeats 16000000 in
theorem rs_do_lt4_n (st : Nat) (kd : Int) (x : Nat) (ho : Int) (c s : Nat) (A : Option Addr) (n cc : Nat) (w : World) (i1 : (1 : Int) ≤ (st : Int)) (i4 : (st : Int) < 4) (k5 : (kd == 5) = false) :
    Calls Tryd.prog 11 #[.agg #[.int .i64 st, .int .i64 0], .agg #[.int .i64 kd, .int .i64 x, .int .i64 ho, .int .i64 c, .int .i64 s, .slice A n cc]] w fun e w' => RR (.slice A n cc) w w' e (Sm.step ⟨st, 0⟩ ⟨kd, x, ho, c, s⟩) := by
  have HP : Hid (Sm.step ⟨st, 0⟩ ⟨kd, x, ho, c, s⟩ = Sm.early ⟨st, 0⟩ kd x) := Lib.hid (by
    simp only [beq_eq_false_iff_ne] at k5
    have h4 : st < 4 := by omega
    simp only [Sm.step, k5, if_false, h4, if_true])
  have B0 : Hid (Bxr w (((w.alloc (.cells #[.int .i64 st, .int .i64 0] 26)).alloc (.cells #[.int .i64 kd, .int .i64 x, .int .i64 ho, .int .i64 c, .int .i64 s, .slice A n cc] 39)).alloc (.cells #[.int .i64 0, .int .i64 0] 26)) st 0 kd ho x c s A n cc) := Lib.hid Bxr.make
  have HG : Hid (w.heap.size ≤ w.heap.size + 1 + 1) := Lib.hid (by omega)
  go_enter Tryd.func11, Tryd.ntmps11
  go_upto_region 1 with fail
  change Code.wp _ _ _ _ ((((w.alloc (.cells #[.int .i64 st, .int .i64 0] 26)).alloc (.cells #[.int .i64 kd, .int .i64 x, .int .i64 ho, .int .i64 c, .int .i64 s, .slice A n cc] 39)).alloc (.cells #[.int .i64 0, .int .i64 0] 26)))
  generalize ((w.alloc (.cells #[.int .i64 st, .int .i64 0] 26)).alloc (.cells #[.int .i64 kd, .int .i64 x, .int .i64 ho, .int .i64 c, .int .i64 s, .slice A n cc] 39)).alloc (.cells #[.int .i64 0, .int .i64 0] 26) = W0 at *
  obtain ⟨⟨m0, m1⟩, ⟨e0, e1, e2, e3, e4, e5⟩, r0, r1, f0, f1⟩ := B0.out.cells
  have fm := B0.out.m.free 1
  go_upto_region 5 with fail
  clear fm
  have B1 := Lib.hid (B0.out.hold 0)
  clear B0 m0 m1 e0 e1 e2 e3 e4 e5 r0 r1 f0 f1
  generalize W0.setCell ⟨w.heap.size, 1, none⟩ (.int .i64 0) = W1 at *
  obtain ⟨⟨m0, m1⟩, ⟨e0, e1, e2, e3, e4, e5⟩, r0, r1, f0, f1⟩ := B1.out.cells
  have HC := Lib.hid (rs_early st 0 kd ho x c s A n cc A n cc W1)
  go_upto_region 10 with fail
  go_wp2_with (go_at_call 59; refine (HC.out).mono ?_; rintro e w2 ⟨A2, n2, c2, rfl, hn2, ho2, hk2⟩; (have B2 := Lib.hid (B1.out.old hk2)); (have H2 := Lib.hid (And.intro hn2 (ow_weak ho2 B1.out.k.size))); (obtain ⟨-, -, r0', r1', f0', f1'⟩ := B2.out.cells); clear hn2 ho2 hk2)
  rw [HP.out]
  refine bodyPost_ret (ret_machR rfl _ _ (w.heap.size + 1 + 1) _ _ _ rfl rfl (fin_blkR B2.out.r)) rfl ?_
  exact rr_own H2.out.1 H2.out.2 B2.out.r B2.out.k HG.out
set_option maxRecDepth 100000 in
set_option maxHeartbeats 16000000 in
theorem rs_do_lt4_m1 (st : Nat) (ho : Int) (c s : Nat) (A : Option Addr) (n cc : Nat) (w : World) (i1 : (1 : Int) ≤ (st : Int)) (i4 : (st : Int) < 4) (hh0 : 0 ≤ ho) (hh1 : (ho == 1) = false) (hh2 : (ho == 2) = false) (hh : ho ≤ 65535) :
    Calls Tryd.prog 11 #[.agg #[.int .i64 st, .int .i64 0], .agg #[.int .i64 5, .int .i64 1, .int .i64 ho, .int .i64 c, .int .i64 s, .slice A n cc]] w fun e w' => RR (.slice A n cc) w w' e (Sm.step ⟨st, 0⟩ ⟨5, 1, ho, c, s⟩) := by
  have HP : Hid (Sm.step ⟨st, 0⟩ ⟨5, 1, ho, c, s⟩ = Sm.early ⟨st, 0⟩ 5 1) := Lib.hid (by
    simp only [beq_eq_false_iff_ne] at hh1 hh2
    have hb : ¬ (ho < 0 ∨ ho = 1 ∨ ho = 2 ∨ 65535 < ho) := by omega
    have h4 : st < 4 := by omega
    by_cases h1 : st = 1 <;> simp [Sm.step, Sm.early, hb, h1, h4])
  have B0 : Hid (Bxr w (((w.alloc (.cells #[.int .i64 st, .int .i64 0] 26)).alloc (.cells #[.int .i64 5, .int .i64 1, .int .i64 ho, .int .i64 c, .int .i64 s, .slice A n cc] 39)).alloc (.cells #[.int .i64 0, .int .i64 0] 26)) st 0 5 ho 1 c s A n cc) := Lib.hid Bxr.make
  have HG : Hid (w.heap.size ≤ w.heap.size + 1 + 1) := Lib.hid (by omega)
  go_enter Tryd.func11, Tryd.ntmps11
  go_upto_region 1 with fail
  change Code.wp _ _ _ _ ((((w.alloc (.cells #[.int .i64 st, .int .i64 0] 26)).alloc (.cells #[.int .i64 5, .int .i64 1, .int .i64 ho, .int .i64 c, .int .i64 s, .slice A n cc] 39)).alloc (.cells #[.int .i64 0, .int .i64 0] 26)))
  generalize ((w.alloc (.cells #[.int .i64 st, .int .i64 0] 26)).alloc (.cells #[.int .i64 5, .int .i64 1, .int .i64 ho, .int .i64 c, .int .i64 s, .slice A n cc] 39)).alloc (.cells #[.int .i64 0, .int .i64 0] 26) = W0 at *
  obtain ⟨⟨m0, m1⟩, ⟨e0, e1, e2, e3, e4, e5⟩, r0, r1, f0, f1⟩ := B0.out.cells
  have fm := B0.out.m.free 1
  go_upto_region 5 with fail
  clear fm
  have B1 := Lib.hid (B0.out.hold 0)
  clear B0 m0 m1 e0 e1 e2 e3 e4 e5 r0 r1 f0 f1
  generalize W0.setCell ⟨w.heap.size, 1, none⟩ (.int .i64 0) = W1 at *
  obtain ⟨⟨m0, m1⟩, ⟨e0, e1, e2, e3, e4, e5⟩, r0, r1, f0, f1⟩ := B1.out.cells
  have HC := Lib.hid (rs_early st 0 5 ho 1 c s A n cc A n cc W1)
  go_upto_region 10 with fail
  go_wp2_with (go_at_call 59; refine (HC.out).mono ?_; rintro e w2 ⟨A2, n2, c2, rfl, hn2, ho2, hk2⟩; (have B2 := Lib.hid (B1.out.old hk2)); (have H2 := Lib.hid (And.intro hn2 (ow_weak ho2 B1.out.k.size))); (obtain ⟨-, -, r0', r1', f0', f1'⟩ := B2.out.cells); clear hn2 ho2 hk2)
  rw [HP.out]
  refine bodyPost_ret (ret_machR rfl _ _ (w.heap.size + 1 + 1) _ _ _ rfl rfl (fin_blkR B2.out.r)) rfl ?_
  exact rr_own H2.out.1 H2.out.2 B2.out.r B2.out.k HG.out
set_option maxRecDepth 100000 in
set_option maxHeartbeats 16000000 in
theorem rs_do_lt4_mx (st : Nat) (x : Nat) (ho : Int) (c s : Nat) (A : Option Addr) (n cc : Nat) (w : World) (i1 : (1 : Int) ≤ (st : Int)) (i4 : (st : Int) < 4) (hx0 : (1 : Int) ≤ (x : Int)) (hx5 : (x : Int) ≤ 5) (hx1 : ((x : Int) == 1) = false) :
    Calls Tryd.prog 11 #[.agg #[.int .i64 st, .int .i64 0], .agg #[.int .i64 5, .int .i64 x, .int .i64 ho, .int .i64 c, .int .i64 s, .slice A n cc]] w fun e w' => RR (.slice A n cc) w w' e (Sm.step ⟨st, 0⟩ ⟨5, x, ho, c, s⟩) := by
  have HP : Hid (Sm.step ⟨st, 0⟩ ⟨5, x, ho, c, s⟩ = Sm.early ⟨st, 0⟩ 5 x) := Lib.hid (by
    simp only [beq_eq_false_iff_ne] at hx1
    have hy : ¬ 5 < x := by omega
    have hy0 : ¬ x = 0 := by omega
    have hy1 : ¬ x = 1 := by omega
    have h4 : st < 4 := by omega
    by_cases h1 : st = 1 <;> simp [Sm.step, Sm.early, hy, hy0, hy1, h1, h4])
  have B0 : Hid (Bxr w (((w.alloc (.cells #[.int .i64 st, .int .i64 0] 26)).alloc (.cells #[.int .i64 5, .int .i64 x, .int .i64 ho, .int .i64 c, .int .i64 s, .slice A n cc] 39)).alloc (.cells #[.int .i64 0, .int .i64 0] 26)) st 0 5 ho x c s A n cc) := Lib.hid Bxr.make
  have HG : Hid (w.heap.size ≤ w.heap.size + 1 + 1) := Lib.hid (by omega)
  go_enter Tryd.func11, Tryd.ntmps11
  go_upto_region 1 with fail
  change Code.wp _ _ _ _ ((((w.alloc (.cells #[.int .i64 st, .int .i64 0] 26)).alloc (.cells #[.int .i64 5, .int .i64 x, .int .i64 ho, .int .i64 c, .int .i64 s, .slice A n cc] 39)).alloc (.cells #[.int .i64 0, .int .i64 0] 26)))
  generalize ((w.alloc (.cells #[.int .i64 st, .int .i64 0] 26)).alloc (.cells #[.int .i64 5, .int .i64 x, .int .i64 ho, .int .i64 c, .int .i64 s, .slice A n cc] 39)).alloc (.cells #[.int .i64 0, .int .i64 0] 26) = W0 at *
  obtain ⟨⟨m0, m1⟩, ⟨e0, e1, e2, e3, e4, e5⟩, r0, r1, f0, f1⟩ := B0.out.cells
  have fm := B0.out.m.free 1
  go_upto_region 5 with fail
  clear fm
  have B1 := Lib.hid (B0.out.hold 0)
  clear B0 m0 m1 e0 e1 e2 e3 e4 e5 r0 r1 f0 f1
  generalize W0.setCell ⟨w.heap.size, 1, none⟩ (.int .i64 0) = W1 at *
  obtain ⟨⟨m0, m1⟩, ⟨e0, e1, e2, e3, e4, e5⟩, r0, r1, f0, f1⟩ := B1.out.cells
  have HC := Lib.hid (rs_early st 0 5 ho x c s A n cc A n cc W1)
  go_upto_region 10 with fail
  go_wp2_with (go_at_call 59; refine (HC.out).mono ?_; rintro e w2 ⟨A2, n2, c2, rfl, hn2, ho2, hk2⟩; (have B2 := Lib.hid (B1.out.old hk2)); (have H2 := Lib.hid (And.intro hn2 (ow_weak ho2 B1.out.k.size))); (obtain ⟨-, -, r0', r1', f0', f1'⟩ := B2.out.cells); clear hn2 ho2 hk2)
  rw [HP.out]
  refine bodyPost_ret (ret_machR rfl _ _ (w.heap.size + 1 + 1) _ _ _ rfl rfl (fin_blkR B2.out.r)) rfl ?_
  exact rr_own H2.out.1 H2.out.2 B2.out.r B2.out.k HG.out
set_option maxRecDepth 100000 in
set_option maxHeartbeats 16000000 in
theorem rs_do_eq4_k2 (x : Nat) (ho : Int) (c s : Nat) (A : Option Addr) (n cc : Nat) (w : World) :
    Calls Tryd.prog 11 #[.agg #[.int .i64 4, .int .i64 0], .agg #[.int .i64 2, .int .i64 x, .int .i64 ho, .int .i64 c, .int .i64 s, .slice A n cc]] w fun e w' => RR (.slice A n cc) w w' e (Sm.step ⟨4, 0⟩ ⟨2, x, ho, c, s⟩) := by
  have HP : Hid (Sm.step ⟨4, 0⟩ ⟨2, x, ho, c, s⟩ = Sm.ends 4 (decide ((2 : Int) = 2)) 6 2 false) := Lib.hid (by
    simp [Sm.step])
  have B0 : Hid (Bxr w (((w.alloc (.cells #[.int .i64 4, .int .i64 0] 26)).alloc (.cells #[.int .i64 2, .int .i64 x, .int .i64 ho, .int .i64 c, .int .i64 s, .slice A n cc] 39)).alloc (.cells #[.int .i64 0, .int .i64 0] 26)) 4 0 2 ho x c s A n cc) := Lib.hid Bxr.make
  have HG : Hid (w.heap.size ≤ w.heap.size + 1 + 1) := Lib.hid (by omega)
  go_enter Tryd.func11, Tryd.ntmps11
  go_upto_region 1 with fail
  change Code.wp _ _ _ _ ((((w.alloc (.cells #[.int .i64 4, .int .i64 0] 26)).alloc (.cells #[.int .i64 2, .int .i64 x, .int .i64 ho, .int .i64 c, .int .i64 s, .slice A n cc] 39)).alloc (.cells #[.int .i64 0, .int .i64 0] 26)))
  generalize ((w.alloc (.cells #[.int .i64 4, .int .i64 0] 26)).alloc (.cells #[.int .i64 2, .int .i64 x, .int .i64 ho, .int .i64 c, .int .i64 s, .slice A n cc] 39)).alloc (.cells #[.int .i64 0, .int .i64 0] 26) = W0 at *
  obtain ⟨⟨m0, m1⟩, ⟨e0, e1, e2, e3, e4, e5⟩, r0, r1, f0, f1⟩ := B0.out.cells
  have fm := B0.out.m.free 1
  go_upto_region 5 with fail
  clear fm
  have B1 := Lib.hid (B0.out.hold 0)
  clear B0 m0 m1 e0 e1 e2 e3 e4 e5 r0 r1 f0 f1
  generalize W0.setCell ⟨w.heap.size, 1, none⟩ (.int .i64 0) = W1 at *
  obtain ⟨⟨m0, m1⟩, ⟨e0, e1, e2, e3, e4, e5⟩, r0, r1, f0, f1⟩ := B1.out.cells
  have HC := Lib.hid (rs_ends 4 2 6 2 false A n cc none 0 0 rfl W1)
  go_upto_region 13 with fail
  go_wp2_with (go_at_call 60; refine (HC.out).mono ?_; rintro e w2 ⟨A2, n2, c2, rfl, hn2, ho2, hk2⟩; (have B2 := Lib.hid (B1.out.old hk2)); (have H2 := Lib.hid (And.intro hn2 (ow_weak ho2 B1.out.k.size))); (obtain ⟨-, -, r0', r1', f0', f1'⟩ := B2.out.cells); clear hn2 ho2 hk2)
  rw [HP.out]
  refine bodyPost_ret (ret_machR rfl _ _ (w.heap.size + 1 + 1) _ _ _ rfl rfl (fin_blkR B2.out.r)) rfl ?_
  exact rr_own H2.out.1 H2.out.2 B2.out.r B2.out.k HG.out
set_option maxRecDepth 100000 in
set_option maxHeartbeats 16000000 in
theorem rs_do_eq4_k4 (x : Nat) (ho : Int) (c s : Nat) (A : Option Addr) (n cc : Nat) (w : World) :
    Calls Tryd.prog 11 #[.agg #[.int .i64 4, .int .i64 0], .agg #[.int .i64 4, .int .i64 x, .int .i64 ho, .int .i64 c, .int .i64 s, .slice A n cc]] w fun e w' => RR (.slice A n cc) w w' e (Sm.step ⟨4, 0⟩ ⟨4, x, ho, c, s⟩) := by
  have HP : Hid (Sm.step ⟨4, 0⟩ ⟨4, x, ho, c, s⟩ = (⟨3, 0⟩, [Sm.a0 5, Sm.unset 2, Sm.set 1 120])) := Lib.hid (by
    simp [Sm.step])
  have B0 : Hid (Bxr w (((w.alloc (.cells #[.int .i64 4, .int .i64 0] 26)).alloc (.cells #[.int .i64 4, .int .i64 x, .int .i64 ho, .int .i64 c, .int .i64 s, .slice A n cc] 39)).alloc (.cells #[.int .i64 0, .int .i64 0] 26)) 4 0 4 ho x c s A n cc) := Lib.hid Bxr.make
  have HG : Hid (w.heap.size ≤ w.heap.size + 1 + 1) := Lib.hid (by omega)
  go_enter Tryd.func11, Tryd.ntmps11
  go_upto_region 1 with fail
  change Code.wp _ _ _ _ ((((w.alloc (.cells #[.int .i64 4, .int .i64 0] 26)).alloc (.cells #[.int .i64 4, .int .i64 x, .int .i64 ho, .int .i64 c, .int .i64 s, .slice A n cc] 39)).alloc (.cells #[.int .i64 0, .int .i64 0] 26)))
  generalize ((w.alloc (.cells #[.int .i64 4, .int .i64 0] 26)).alloc (.cells #[.int .i64 4, .int .i64 x, .int .i64 ho, .int .i64 c, .int .i64 s, .slice A n cc] 39)).alloc (.cells #[.int .i64 0, .int .i64 0] 26) = W0 at *
  obtain ⟨⟨m0, m1⟩, ⟨e0, e1, e2, e3, e4, e5⟩, r0, r1, f0, f1⟩ := B0.out.cells
  have fm := B0.out.m.free 1
  go_upto_region 5 with fail
  clear fm
  have B1 := Lib.hid (B0.out.hold 0)
  clear B0 m0 m1 e0 e1 e2 e3 e4 e5 r0 r1 f0 f1
  generalize W0.setCell ⟨w.heap.size, 1, none⟩ (.int .i64 0) = W1 at *
  obtain ⟨⟨m0, m1⟩, ⟨e0, e1, e2, e3, e4, e5⟩, r0, r1, f0, f1⟩ := B1.out.cells
  have k2 := (Kept.refl Nothing W1).alloc (.cells #[.int .i64 5, .int .i64 0, .int .i64 0, .int .i64 0, .int .i64 0, .slice none 0 0, .int .i64 4, .int .i64 2, .int .i64 0, .int .i64 0, .int .i64 0, .slice none 0 0, .int .i64 3, .int .i64 1, .int .i64 120, .int .i64 0, .int .i64 0, .slice none 0 0] 107)
  have B2 := Lib.hid (B1.out.old k2)
  have D2 := Lib.hid (own_blkR w B1.out.k.size (.slice A n cc) [Sm.a0 5, Sm.unset 2, Sm.set 1 120] _ 3 rfl rfl (by decide) (Blk.fresh W1 107 #[.int .i64 5, .int .i64 0, .int .i64 0, .int .i64 0, .int .i64 0, .slice none 0 0, .int .i64 4, .int .i64 2, .int .i64 0, .int .i64 0, .int .i64 0, .slice none 0 0, .int .i64 3, .int .i64 1, .int .i64 120, .int .i64 0, .int .i64 0, .slice none 0 0]))
  obtain ⟨⟨n0, n1⟩, -, s0, s1, s2, s3⟩ := B2.out.cells
  go_upto_region 16 with fail
  clear k2 B1
  go_wp2
  rw [HP.out]
  refine bodyPost_ret (ret_machR rfl _ _ (w.heap.size + 1 + 1) _ _ _ rfl rfl (fin_blkR B2.out.r)) rfl ?_
  exact rr_own rfl D2.out B2.out.r B2.out.k HG.out
set_option maxRecDepth 100000 in
set_option maxHeartbeats 16000000 in
theorem rs_do_eq4_k62 (ho : Int) (c s : Nat) (A : Option Addr) (n cc : Nat) (w : World) :
    Calls Tryd.prog 11 #[.agg #[.int .i64 4, .int .i64 0], .agg #[.int .i64 6, .int .i64 2, .int .i64 ho, .int .i64 c, .int .i64 s, .slice A n cc]] w fun e w' => RR (.slice A n cc) w w' e (Sm.step ⟨4, 0⟩ ⟨6, 2, ho, c, s⟩) := by
  have HP : Hid (Sm.step ⟨4, 0⟩ ⟨6, 2, ho, c, s⟩ = Sm.ends 4 (decide ((6 : Int) = 2)) 4 0 false) := Lib.hid (by
    simp [Sm.step])
  have B0 : Hid (Bxr w (((w.alloc (.cells #[.int .i64 4, .int .i64 0] 26)).alloc (.cells #[.int .i64 6, .int .i64 2, .int .i64 ho, .int .i64 c, .int .i64 s, .slice A n cc] 39)).alloc (.cells #[.int .i64 0, .int .i64 0] 26)) 4 0 6 ho 2 c s A n cc) := Lib.hid Bxr.make
  have HG : Hid (w.heap.size ≤ w.heap.size + 1 + 1) := Lib.hid (by omega)
  go_enter Tryd.func11, Tryd.ntmps11
  go_upto_region 1 with fail
  change Code.wp _ _ _ _ ((((w.alloc (.cells #[.int .i64 4, .int .i64 0] 26)).alloc (.cells #[.int .i64 6, .int .i64 2, .int .i64 ho, .int .i64 c, .int .i64 s, .slice A n cc] 39)).alloc (.cells #[.int .i64 0, .int .i64 0] 26)))
  generalize ((w.alloc (.cells #[.int .i64 4, .int .i64 0] 26)).alloc (.cells #[.int .i64 6, .int .i64 2, .int .i64 ho, .int .i64 c, .int .i64 s, .slice A n cc] 39)).alloc (.cells #[.int .i64 0, .int .i64 0] 26) = W0 at *
  obtain ⟨⟨m0, m1⟩, ⟨e0, e1, e2, e3, e4, e5⟩, r0, r1, f0, f1⟩ := B0.out.cells
  have fm := B0.out.m.free 1
  go_upto_region 5 with fail
  clear fm
  have B1 := Lib.hid (B0.out.hold 0)
  clear B0 m0 m1 e0 e1 e2 e3 e4 e5 r0 r1 f0 f1
  generalize W0.setCell ⟨w.heap.size, 1, none⟩ (.int .i64 0) = W1 at *
  obtain ⟨⟨m0, m1⟩, ⟨e0, e1, e2, e3, e4, e5⟩, r0, r1, f0, f1⟩ := B1.out.cells
  have HC := Lib.hid (rs_ends 4 6 4 0 false A n cc none 0 0 rfl W1)
  go_upto_region 24 with fail
  go_wp2_with (go_at_call 60; refine (HC.out).mono ?_; rintro e w2 ⟨A2, n2, c2, rfl, hn2, ho2, hk2⟩; (have B2 := Lib.hid (B1.out.old hk2)); (have H2 := Lib.hid (And.intro hn2 (ow_weak ho2 B1.out.k.size))); (obtain ⟨-, -, r0', r1', f0', f1'⟩ := B2.out.cells); clear hn2 ho2 hk2)
  rw [HP.out]
  refine bodyPost_ret (ret_machR rfl _ _ (w.heap.size + 1 + 1) _ _ _ rfl rfl (fin_blkR B2.out.r)) rfl ?_
  exact rr_own H2.out.1 H2.out.2 B2.out.r B2.out.k HG.out
set_option maxRecDepth 100000 in
set_option maxHeartbeats 16000000 in
theorem rs_do_eq4_k63 (ho : Int) (c s : Nat) (A : Option Addr) (n cc : Nat) (w : World) :
    Calls Tryd.prog 11 #[.agg #[.int .i64 4, .int .i64 0], .agg #[.int .i64 6, .int .i64 3, .int .i64 ho, .int .i64 c, .int .i64 s, .slice A n cc]] w fun e w' => RR (.slice A n cc) w w' e (Sm.step ⟨4, 0⟩ ⟨6, 3, ho, c, s⟩) := by
  have HP : Hid (Sm.step ⟨4, 0⟩ ⟨6, 3, ho, c, s⟩ = (⟨4, 0⟩, [])) := Lib.hid (by
    simp [Sm.step])
  have B0 : Hid (Bxr w (((w.alloc (.cells #[.int .i64 4, .int .i64 0] 26)).alloc (.cells #[.int .i64 6, .int .i64 3, .int .i64 ho, .int .i64 c, .int .i64 s, .slice A n cc] 39)).alloc (.cells #[.int .i64 0, .int .i64 0] 26)) 4 0 6 ho 3 c s A n cc) := Lib.hid Bxr.make
  have HG : Hid (w.heap.size ≤ w.heap.size + 1 + 1) := Lib.hid (by omega)
  go_enter Tryd.func11, Tryd.ntmps11
  go_upto_region 1 with fail
  change Code.wp _ _ _ _ ((((w.alloc (.cells #[.int .i64 4, .int .i64 0] 26)).alloc (.cells #[.int .i64 6, .int .i64 3, .int .i64 ho, .int .i64 c, .int .i64 s, .slice A n cc] 39)).alloc (.cells #[.int .i64 0, .int .i64 0] 26)))
  generalize ((w.alloc (.cells #[.int .i64 4, .int .i64 0] 26)).alloc (.cells #[.int .i64 6, .int .i64 3, .int .i64 ho, .int .i64 c, .int .i64 s, .slice A n cc] 39)).alloc (.cells #[.int .i64 0, .int .i64 0] 26) = W0 at *
  obtain ⟨⟨m0, m1⟩, ⟨e0, e1, e2, e3, e4, e5⟩, r0, r1, f0, f1⟩ := B0.out.cells
  have fm := B0.out.m.free 1
  go_upto_region 5 with fail
  clear fm
  have B1 := Lib.hid (B0.out.hold 0)
  clear B0 m0 m1 e0 e1 e2 e3 e4 e5 r0 r1 f0 f1
  generalize W0.setCell ⟨w.heap.size, 1, none⟩ (.int .i64 0) = W1 at *
  obtain ⟨⟨m0, m1⟩, ⟨e0, e1, e2, e3, e4, e5⟩, r0, r1, f0, f1⟩ := B1.out.cells
  go_upto_region 30 with fail
  go_wp2
  rw [HP.out]
  refine bodyPost_ret (ret_machR rfl _ _ (w.heap.size + 1 + 1) _ _ _ rfl rfl (fin_blkR B1.out.r)) rfl ?_
  exact rr_nil B1.out.r B1.out.k HG.out
set_option maxRecDepth 100000 in
set_option maxHeartbeats 16000000 in
theorem rs_do_eq4_k6x (x : Nat) (ho : Int) (c s : Nat) (A : Option Addr) (n cc : Nat) (w : World) (hx2 : ((x : Int) == 2) = false) (hx3 : ((x : Int) == 3) = false) :
    Calls Tryd.prog 11 #[.agg #[.int .i64 4, .int .i64 0], .agg #[.int .i64 6, .int .i64 x, .int .i64 ho, .int .i64 c, .int .i64 s, .slice A n cc]] w fun e w' => RR (.slice A n cc) w w' e (Sm.step ⟨4, 0⟩ ⟨6, x, ho, c, s⟩) := by
  have HP : Hid (Sm.step ⟨4, 0⟩ ⟨6, x, ho, c, s⟩ = (⟨4, 0⟩, [])) := Lib.hid (by
    simp only [beq_eq_false_iff_ne] at hx2 hx3
    have hy2 : ¬ x = 2 := by omega
    have hy3 : ¬ x = 3 := by omega
    simp [Sm.step, hy2, hy3])
  have B0 : Hid (Bxr w (((w.alloc (.cells #[.int .i64 4, .int .i64 0] 26)).alloc (.cells #[.int .i64 6, .int .i64 x, .int .i64 ho, .int .i64 c, .int .i64 s, .slice A n cc] 39)).alloc (.cells #[.int .i64 0, .int .i64 0] 26)) 4 0 6 ho x c s A n cc) := Lib.hid Bxr.make
  have HG : Hid (w.heap.size ≤ w.heap.size + 1 + 1) := Lib.hid (by omega)
  go_enter Tryd.func11, Tryd.ntmps11
  go_upto_region 1 with fail
  change Code.wp _ _ _ _ ((((w.alloc (.cells #[.int .i64 4, .int .i64 0] 26)).alloc (.cells #[.int .i64 6, .int .i64 x, .int .i64 ho, .int .i64 c, .int .i64 s, .slice A n cc] 39)).alloc (.cells #[.int .i64 0, .int .i64 0] 26)))
  generalize ((w.alloc (.cells #[.int .i64 4, .int .i64 0] 26)).alloc (.cells #[.int .i64 6, .int .i64 x, .int .i64 ho, .int .i64 c, .int .i64 s, .slice A n cc] 39)).alloc (.cells #[.int .i64 0, .int .i64 0] 26) = W0 at *
  obtain ⟨⟨m0, m1⟩, ⟨e0, e1, e2, e3, e4, e5⟩, r0, r1, f0, f1⟩ := B0.out.cells
  have fm := B0.out.m.free 1
  go_upto_region 5 with fail
  clear fm
  have B1 := Lib.hid (B0.out.hold 0)
  clear B0 m0 m1 e0 e1 e2 e3 e4 e5 r0 r1 f0 f1
  generalize W0.setCell ⟨w.heap.size, 1, none⟩ (.int .i64 0) = W1 at *
  obtain ⟨⟨m0, m1⟩, ⟨e0, e1, e2, e3, e4, e5⟩, r0, r1, f0, f1⟩ := B1.out.cells
  go_upto_region 30 with fail
  go_wp2
  rw [HP.out]
  refine bodyPost_ret (ret_machR rfl _ _ (w.heap.size + 1 + 1) _ _ _ rfl rfl (fin_blkR B1.out.r)) rfl ?_
  exact rr_nil B1.out.r B1.out.k HG.out
set_option maxRecDepth 100000 in
set_option maxHeartbeats 16000000 in
theorem rs_do_eq4_k7 (x : Nat) (ho : Int) (c s : Nat) (A : Option Addr) (n cc : Nat) (w : World) :
    Calls Tryd.prog 11 #[.agg #[.int .i64 4, .int .i64 0], .agg #[.int .i64 7, .int .i64 x, .int .i64 ho, .int .i64 c, .int .i64 s, .slice A n cc]] w fun e w' => RR (.slice A n cc) w w' e (Sm.step ⟨4, 0⟩ ⟨7, x, ho, c, s⟩) := by
  have HP : Hid (Sm.step ⟨4, 0⟩ ⟨7, x, ho, c, s⟩ = Sm.ends 4 (decide ((7 : Int) = 2)) c s true) := Lib.hid (by
    simp [Sm.step])
  have B0 : Hid (Bxr w (((w.alloc (.cells #[.int .i64 4, .int .i64 0] 26)).alloc (.cells #[.int .i64 7, .int .i64 x, .int .i64 ho, .int .i64 c, .int .i64 s, .slice A n cc] 39)).alloc (.cells #[.int .i64 0, .int .i64 0] 26)) 4 0 7 ho x c s A n cc) := Lib.hid Bxr.make
  have HG : Hid (w.heap.size ≤ w.heap.size + 1 + 1) := Lib.hid (by omega)
  go_enter Tryd.func11, Tryd.ntmps11
  go_upto_region 1 with fail
  change Code.wp _ _ _ _ ((((w.alloc (.cells #[.int .i64 4, .int .i64 0] 26)).alloc (.cells #[.int .i64 7, .int .i64 x, .int .i64 ho, .int .i64 c, .int .i64 s, .slice A n cc] 39)).alloc (.cells #[.int .i64 0, .int .i64 0] 26)))
  generalize ((w.alloc (.cells #[.int .i64 4, .int .i64 0] 26)).alloc (.cells #[.int .i64 7, .int .i64 x, .int .i64 ho, .int .i64 c, .int .i64 s, .slice A n cc] 39)).alloc (.cells #[.int .i64 0, .int .i64 0] 26) = W0 at *
  obtain ⟨⟨m0, m1⟩, ⟨e0, e1, e2, e3, e4, e5⟩, r0, r1, f0, f1⟩ := B0.out.cells
  have fm := B0.out.m.free 1
  go_upto_region 5 with fail
  clear fm
  have B1 := Lib.hid (B0.out.hold 0)
  clear B0 m0 m1 e0 e1 e2 e3 e4 e5 r0 r1 f0 f1
  generalize W0.setCell ⟨w.heap.size, 1, none⟩ (.int .i64 0) = W1 at *
  obtain ⟨⟨m0, m1⟩, ⟨e0, e1, e2, e3, e4, e5⟩, r0, r1, f0, f1⟩ := B1.out.cells
  have HC := Lib.hid (rs_ends 4 7 c s true A n cc A n cc rfl W1)
  go_upto_region 29 with fail
  go_wp2_with (go_at_call 60; refine (HC.out).mono ?_; rintro e w2 ⟨A2, n2, c2, rfl, hn2, ho2, hk2⟩; (have B2 := Lib.hid (B1.out.old hk2)); (have H2 := Lib.hid (And.intro hn2 (ow_weak ho2 B1.out.k.size))); (obtain ⟨-, -, r0', r1', f0', f1'⟩ := B2.out.cells); clear hn2 ho2 hk2)
  rw [HP.out]
  refine bodyPost_ret (ret_machR rfl _ _ (w.heap.size + 1 + 1) _ _ _ rfl rfl (fin_blkR B2.out.r)) rfl ?_
  exact rr_own H2.out.1 H2.out.2 B2.out.r B2.out.k HG.out
set_option maxRecDepth 100000 in
set_option maxHeartbeats 16000000 in
theorem rs_do_eq4_k8 (x : Nat) (ho : Int) (c s : Nat) (A : Option Addr) (n cc : Nat) (w : World) :
    Calls Tryd.prog 11 #[.agg #[.int .i64 4, .int .i64 0], .agg #[.int .i64 8, .int .i64 x, .int .i64 ho, .int .i64 c, .int .i64 s, .slice A n cc]] w fun e w' => RR (.slice A n cc) w w' e (Sm.step ⟨4, 0⟩ ⟨8, x, ho, c, s⟩) := by
  have HP : Hid (Sm.step ⟨4, 0⟩ ⟨8, x, ho, c, s⟩ = Sm.ends 4 (decide ((8 : Int) = 2)) c s true) := Lib.hid (by
    simp [Sm.step])
  have B0 : Hid (Bxr w (((w.alloc (.cells #[.int .i64 4, .int .i64 0] 26)).alloc (.cells #[.int .i64 8, .int .i64 x, .int .i64 ho, .int .i64 c, .int .i64 s, .slice A n cc] 39)).alloc (.cells #[.int .i64 0, .int .i64 0] 26)) 4 0 8 ho x c s A n cc) := Lib.hid Bxr.make
  have HG : Hid (w.heap.size ≤ w.heap.size + 1 + 1) := Lib.hid (by omega)
  go_enter Tryd.func11, Tryd.ntmps11
  go_upto_region 1 with fail
  change Code.wp _ _ _ _ ((((w.alloc (.cells #[.int .i64 4, .int .i64 0] 26)).alloc (.cells #[.int .i64 8, .int .i64 x, .int .i64 ho, .int .i64 c, .int .i64 s, .slice A n cc] 39)).alloc (.cells #[.int .i64 0, .int .i64 0] 26)))
  generalize ((w.alloc (.cells #[.int .i64 4, .int .i64 0] 26)).alloc (.cells #[.int .i64 8, .int .i64 x, .int .i64 ho, .int .i64 c, .int .i64 s, .slice A n cc] 39)).alloc (.cells #[.int .i64 0, .int .i64 0] 26) = W0 at *
  obtain ⟨⟨m0, m1⟩, ⟨e0, e1, e2, e3, e4, e5⟩, r0, r1, f0, f1⟩ := B0.out.cells
  have fm := B0.out.m.free 1
  go_upto_region 5 with fail
  clear fm
  have B1 := Lib.hid (B0.out.hold 0)
  clear B0 m0 m1 e0 e1 e2 e3 e4 e5 r0 r1 f0 f1
  generalize W0.setCell ⟨w.heap.size, 1, none⟩ (.int .i64 0) = W1 at *
  obtain ⟨⟨m0, m1⟩, ⟨e0, e1, e2, e3, e4, e5⟩, r0, r1, f0, f1⟩ := B1.out.cells
  have HC := Lib.hid (rs_ends 4 8 c s true A n cc A n cc rfl W1)
  go_upto_region 29 with fail
  go_wp2_with (go_at_call 60; refine (HC.out).mono ?_; rintro e w2 ⟨A2, n2, c2, rfl, hn2, ho2, hk2⟩; (have B2 := Lib.hid (B1.out.old hk2)); (have H2 := Lib.hid (And.intro hn2 (ow_weak ho2 B1.out.k.size))); (obtain ⟨-, -, r0', r1', f0', f1'⟩ := B2.out.cells); clear hn2 ho2 hk2)
  rw [HP.out]
  refine bodyPost_ret (ret_machR rfl _ _ (w.heap.size + 1 + 1) _ _ _ rfl rfl (fin_blkR B2.out.r)) rfl ?_
  exact rr_own H2.out.1 H2.out.2 B2.out.r B2.out.k HG.out
set_option maxRecDepth 100000 in
set_option maxHeartbeats 16000000 in
theorem rs_do_eq4_ko (kd : Int) (x : Nat) (ho : Int) (c s : Nat) (A : Option Addr) (n cc : Nat) (w : World) (k2 : (kd == 2) = false) (k4 : (kd == 4) = false) (k5 : (kd == 5) = false) (k6 : (kd == 6) = false) (k7 : (kd == 7) = false) (k8 : (kd == 8) = false) :
    Calls Tryd.prog 11 #[.agg #[.int .i64 4, .int .i64 0], .agg #[.int .i64 kd, .int .i64 x, .int .i64 ho, .int .i64 c, .int .i64 s, .slice A n cc]] w fun e w' => RR (.slice A n cc) w w' e (Sm.step ⟨4, 0⟩ ⟨kd, x, ho, c, s⟩) := by
  have HP : Hid (Sm.step ⟨4, 0⟩ ⟨kd, x, ho, c, s⟩ = (⟨4, 0⟩, [])) := Lib.hid (by
    simp only [beq_eq_false_iff_ne] at k2 k4 k5 k6 k7 k8
    simp [Sm.step, k2, k4, k5, k6, k7, k8])
  have B0 : Hid (Bxr w (((w.alloc (.cells #[.int .i64 4, .int .i64 0] 26)).alloc (.cells #[.int .i64 kd, .int .i64 x, .int .i64 ho, .int .i64 c, .int .i64 s, .slice A n cc] 39)).alloc (.cells #[.int .i64 0, .int .i64 0] 26)) 4 0 kd ho x c s A n cc) := Lib.hid Bxr.make
  have HG : Hid (w.heap.size ≤ w.heap.size + 1 + 1) := Lib.hid (by omega)
  go_enter Tryd.func11, Tryd.ntmps11
  go_upto_region 1 with fail
  change Code.wp _ _ _ _ ((((w.alloc (.cells #[.int .i64 4, .int .i64 0] 26)).alloc (.cells #[.int .i64 kd, .int .i64 x, .int .i64 ho, .int .i64 c, .int .i64 s, .slice A n cc] 39)).alloc (.cells #[.int .i64 0, .int .i64 0] 26)))
  generalize ((w.alloc (.cells #[.int .i64 4, .int .i64 0] 26)).alloc (.cells #[.int .i64 kd, .int .i64 x, .int .i64 ho, .int .i64 c, .int .i64 s, .slice A n cc] 39)).alloc (.cells #[.int .i64 0, .int .i64 0] 26) = W0 at *
  obtain ⟨⟨m0, m1⟩, ⟨e0, e1, e2, e3, e4, e5⟩, r0, r1, f0, f1⟩ := B0.out.cells
  have fm := B0.out.m.free 1
  go_upto_region 5 with fail
  clear fm
  have B1 := Lib.hid (B0.out.hold 0)
  clear B0 m0 m1 e0 e1 e2 e3 e4 e5 r0 r1 f0 f1
  generalize W0.setCell ⟨w.heap.size, 1, none⟩ (.int .i64 0) = W1 at *
  obtain ⟨⟨m0, m1⟩, ⟨e0, e1, e2, e3, e4, e5⟩, r0, r1, f0, f1⟩ := B1.out.cells
  go_upto_region 30 with fail
  go_wp2
  rw [HP.out]
  refine bodyPost_ret (ret_machR rfl _ _ (w.heap.size + 1 + 1) _ _ _ rfl rfl (fin_blkR B1.out.r)) rfl ?_
  exact rr_nil B1.out.r B1.out.k HG.out
set_option maxRecDepth 100000 in
set_option maxHeartbeats 16000000 in
theorem rs_do_eq4_m3 (ho : Int) (c s : Nat) (A : Option Addr) (n cc : Nat) (w : World) :
    Calls Tryd.prog 11 #[.agg #[.int .i64 4, .int .i64 0], .agg #[.int .i64 5, .int .i64 3, .int .i64 ho, .int .i64 c, .int .i64 s, .slice A n cc]] w fun e w' => RR (.slice A n cc) w w' e (Sm.step ⟨4, 0⟩ ⟨5, 3, ho, c, s⟩) := by
  have HP : Hid (Sm.step ⟨4, 0⟩ ⟨5, 3, ho, c, s⟩ = Sm.ends 4 (decide ((5 : Int) = 2)) 0 0 false) := Lib.hid (by
    simp [Sm.step])
  have B0 : Hid (Bxr w (((w.alloc (.cells #[.int .i64 4, .int .i64 0] 26)).alloc (.cells #[.int .i64 5, .int .i64 3, .int .i64 ho, .int .i64 c, .int .i64 s, .slice A n cc] 39)).alloc (.cells #[.int .i64 0, .int .i64 0] 26)) 4 0 5 ho 3 c s A n cc) := Lib.hid Bxr.make
  have HG : Hid (w.heap.size ≤ w.heap.size + 1 + 1) := Lib.hid (by omega)
  go_enter Tryd.func11, Tryd.ntmps11
  go_upto_region 1 with fail
  change Code.wp _ _ _ _ ((((w.alloc (.cells #[.int .i64 4, .int .i64 0] 26)).alloc (.cells #[.int .i64 5, .int .i64 3, .int .i64 ho, .int .i64 c, .int .i64 s, .slice A n cc] 39)).alloc (.cells #[.int .i64 0, .int .i64 0] 26)))
  generalize ((w.alloc (.cells #[.int .i64 4, .int .i64 0] 26)).alloc (.cells #[.int .i64 5, .int .i64 3, .int .i64 ho, .int .i64 c, .int .i64 s, .slice A n cc] 39)).alloc (.cells #[.int .i64 0, .int .i64 0] 26) = W0 at *
  obtain ⟨⟨m0, m1⟩, ⟨e0, e1, e2, e3, e4, e5⟩, r0, r1, f0, f1⟩ := B0.out.cells
  have fm := B0.out.m.free 1
  go_upto_region 5 with fail
  clear fm
  have B1 := Lib.hid (B0.out.hold 0)
  clear B0 m0 m1 e0 e1 e2 e3 e4 e5 r0 r1 f0 f1
  generalize W0.setCell ⟨w.heap.size, 1, none⟩ (.int .i64 0) = W1 at *
  obtain ⟨⟨m0, m1⟩, ⟨e0, e1, e2, e3, e4, e5⟩, r0, r1, f0, f1⟩ := B1.out.cells
  have HC := Lib.hid (rs_ends 4 5 0 0 false A n cc none 0 0 rfl W1)
  go_upto_region 20 with fail
  go_wp2_with (go_at_call 60; refine (HC.out).mono ?_; rintro e w2 ⟨A2, n2, c2, rfl, hn2, ho2, hk2⟩; (have B2 := Lib.hid (B1.out.old hk2)); (have H2 := Lib.hid (And.intro hn2 (ow_weak ho2 B1.out.k.size))); (obtain ⟨-, -, r0', r1', f0', f1'⟩ := B2.out.cells); clear hn2 ho2 hk2)
  rw [HP.out]
  refine bodyPost_ret (ret_machR rfl _ _ (w.heap.size + 1 + 1) _ _ _ rfl rfl (fin_blkR B2.out.r)) rfl ?_
  exact rr_own H2.out.1 H2.out.2 B2.out.r B2.out.k HG.out
set_option maxRecDepth 100000 in
set_option maxHeartbeats 16000000 in
theorem rs_do_ge5_k2 (st hd : Nat) (x : Nat) (ho : Int) (c s : Nat) (A : Option Addr) (n cc : Nat) (w : World) (i5 : (5 : Int) ≤ (st : Int)) (i6 : (st : Int) ≤ 6) :
    Calls Tryd.prog 11 #[.agg #[.int .i64 st, .int .i64 hd], .agg #[.int .i64 2, .int .i64 x, .int .i64 ho, .int .i64 c, .int .i64 s, .slice A n cc]] w fun e w' => RR (.slice A n cc) w w' e (Sm.step ⟨st, hd⟩ ⟨2, x, ho, c, s⟩) := by
  have HP : Hid (Sm.step ⟨st, hd⟩ ⟨2, x, ho, c, s⟩ = Sm.ends st (decide ((2 : Int) = 2)) 6 2 false) := Lib.hid (by
    have h4 : ¬ st < 4 := by omega
    simp [Sm.step, h4])
  have B0 : Hid (Bxr w (((w.alloc (.cells #[.int .i64 st, .int .i64 hd] 26)).alloc (.cells #[.int .i64 2, .int .i64 x, .int .i64 ho, .int .i64 c, .int .i64 s, .slice A n cc] 39)).alloc (.cells #[.int .i64 0, .int .i64 0] 26)) st hd 2 ho x c s A n cc) := Lib.hid Bxr.make
  have HG : Hid (w.heap.size ≤ w.heap.size + 1 + 1) := Lib.hid (by omega)
  go_enter Tryd.func11, Tryd.ntmps11
  go_upto_region 1 with fail
  change Code.wp _ _ _ _ ((((w.alloc (.cells #[.int .i64 st, .int .i64 hd] 26)).alloc (.cells #[.int .i64 2, .int .i64 x, .int .i64 ho, .int .i64 c, .int .i64 s, .slice A n cc] 39)).alloc (.cells #[.int .i64 0, .int .i64 0] 26)))
  generalize ((w.alloc (.cells #[.int .i64 st, .int .i64 hd] 26)).alloc (.cells #[.int .i64 2, .int .i64 x, .int .i64 ho, .int .i64 c, .int .i64 s, .slice A n cc] 39)).alloc (.cells #[.int .i64 0, .int .i64 0] 26) = W0 at *
  obtain ⟨⟨m0, m1⟩, ⟨e0, e1, e2, e3, e4, e5⟩, r0, r1, f0, f1⟩ := B0.out.cells
  have fm := B0.out.m.free 1
  go_upto_region 5 with fail
  clear fm
  have B1 := Lib.hid B0.out
  clear B0
  have HC := Lib.hid (rs_ends st 2 6 2 false A n cc none 0 0 rfl W0)
  go_upto_region 13 with fail
  go_wp2_with (go_at_call 60; refine (HC.out).mono ?_; rintro e w2 ⟨A2, n2, c2, rfl, hn2, ho2, hk2⟩; (have B2 := Lib.hid (B1.out.old hk2)); (have H2 := Lib.hid (And.intro hn2 (ow_weak ho2 B1.out.k.size))); (obtain ⟨-, -, r0', r1', f0', f1'⟩ := B2.out.cells); clear hn2 ho2 hk2)
  rw [HP.out]
  refine bodyPost_ret (ret_machR rfl _ _ (w.heap.size + 1 + 1) _ _ _ rfl rfl (fin_blkR B2.out.r)) rfl ?_
  exact rr_own H2.out.1 H2.out.2 B2.out.r B2.out.k HG.out
set_option maxRecDepth 100000 in
set_option maxHeartbeats 16000000 in
theorem rs_do_ge5_k4 (st hd : Nat) (x : Nat) (ho : Int) (c s : Nat) (A : Option Addr) (n cc : Nat) (w : World) (i5 : (5 : Int) ≤ (st : Int)) (i6 : (st : Int) ≤ 6) :
    Calls Tryd.prog 11 #[.agg #[.int .i64 st, .int .i64 hd], .agg #[.int .i64 4, .int .i64 x, .int .i64 ho, .int .i64 c, .int .i64 s, .slice A n cc]] w fun e w' => RR (.slice A n cc) w w' e (Sm.step ⟨st, hd⟩ ⟨4, x, ho, c, s⟩) := by
  have HP : Hid (Sm.step ⟨st, hd⟩ ⟨4, x, ho, c, s⟩ = Sm.ends st (decide ((4 : Int) = 2)) 0 0 false) := Lib.hid (by
    have h4 : ¬ st < 4 := by omega
    have h5 : ¬ st = 4 := by omega
    simp [Sm.step, h4, h5])
  have B0 : Hid (Bxr w (((w.alloc (.cells #[.int .i64 st, .int .i64 hd] 26)).alloc (.cells #[.int .i64 4, .int .i64 x, .int .i64 ho, .int .i64 c, .int .i64 s, .slice A n cc] 39)).alloc (.cells #[.int .i64 0, .int .i64 0] 26)) st hd 4 ho x c s A n cc) := Lib.hid Bxr.make
  have HG : Hid (w.heap.size ≤ w.heap.size + 1 + 1) := Lib.hid (by omega)
  have i45 : ((st : Int) == 4) = false := by simp; omega
  go_enter Tryd.func11, Tryd.ntmps11
  go_upto_region 1 with fail
  change Code.wp _ _ _ _ ((((w.alloc (.cells #[.int .i64 st, .int .i64 hd] 26)).alloc (.cells #[.int .i64 4, .int .i64 x, .int .i64 ho, .int .i64 c, .int .i64 s, .slice A n cc] 39)).alloc (.cells #[.int .i64 0, .int .i64 0] 26)))
  generalize ((w.alloc (.cells #[.int .i64 st, .int .i64 hd] 26)).alloc (.cells #[.int .i64 4, .int .i64 x, .int .i64 ho, .int .i64 c, .int .i64 s, .slice A n cc] 39)).alloc (.cells #[.int .i64 0, .int .i64 0] 26) = W0 at *
  obtain ⟨⟨m0, m1⟩, ⟨e0, e1, e2, e3, e4, e5⟩, r0, r1, f0, f1⟩ := B0.out.cells
  have fm := B0.out.m.free 1
  go_upto_region 5 with fail
  clear fm
  have B1 := Lib.hid B0.out
  clear B0
  have HC := Lib.hid (rs_ends st 4 0 0 false A n cc none 0 0 rfl W0)
  go_upto_region 17 with fail
  go_wp2_with (go_at_call 60; refine (HC.out).mono ?_; rintro e w2 ⟨A2, n2, c2, rfl, hn2, ho2, hk2⟩; (have B2 := Lib.hid (B1.out.old hk2)); (have H2 := Lib.hid (And.intro hn2 (ow_weak ho2 B1.out.k.size))); (obtain ⟨-, -, r0', r1', f0', f1'⟩ := B2.out.cells); clear hn2 ho2 hk2)
  rw [HP.out]
  refine bodyPost_ret (ret_machR rfl _ _ (w.heap.size + 1 + 1) _ _ _ rfl rfl (fin_blkR B2.out.r)) rfl ?_
  exact rr_own H2.out.1 H2.out.2 B2.out.r B2.out.k HG.out
set_option maxRecDepth 100000 in
set_option maxHeartbeats 16000000 in
theorem rs_do_ge5_k62 (st hd : Nat) (ho : Int) (c s : Nat) (A : Option Addr) (n cc : Nat) (w : World) (i5 : (5 : Int) ≤ (st : Int)) (i6 : (st : Int) ≤ 6) :
    Calls Tryd.prog 11 #[.agg #[.int .i64 st, .int .i64 hd], .agg #[.int .i64 6, .int .i64 2, .int .i64 ho, .int .i64 c, .int .i64 s, .slice A n cc]] w fun e w' => RR (.slice A n cc) w w' e (Sm.step ⟨st, hd⟩ ⟨6, 2, ho, c, s⟩) := by
  have HP : Hid (Sm.step ⟨st, hd⟩ ⟨6, 2, ho, c, s⟩ = Sm.ends st (decide ((6 : Int) = 2)) 4 0 false) := Lib.hid (by
    have h4 : ¬ st < 4 := by omega
    simp [Sm.step, h4])
  have B0 : Hid (Bxr w (((w.alloc (.cells #[.int .i64 st, .int .i64 hd] 26)).alloc (.cells #[.int .i64 6, .int .i64 2, .int .i64 ho, .int .i64 c, .int .i64 s, .slice A n cc] 39)).alloc (.cells #[.int .i64 0, .int .i64 0] 26)) st hd 6 ho 2 c s A n cc) := Lib.hid Bxr.make
  have HG : Hid (w.heap.size ≤ w.heap.size + 1 + 1) := Lib.hid (by omega)
  go_enter Tryd.func11, Tryd.ntmps11
  go_upto_region 1 with fail
  change Code.wp _ _ _ _ ((((w.alloc (.cells #[.int .i64 st, .int .i64 hd] 26)).alloc (.cells #[.int .i64 6, .int .i64 2, .int .i64 ho, .int .i64 c, .int .i64 s, .slice A n cc] 39)).alloc (.cells #[.int .i64 0, .int .i64 0] 26)))
  generalize ((w.alloc (.cells #[.int .i64 st, .int .i64 hd] 26)).alloc (.cells #[.int .i64 6, .int .i64 2, .int .i64 ho, .int .i64 c, .int .i64 s, .slice A n cc] 39)).alloc (.cells #[.int .i64 0, .int .i64 0] 26) = W0 at *
  obtain ⟨⟨m0, m1⟩, ⟨e0, e1, e2, e3, e4, e5⟩, r0, r1, f0, f1⟩ := B0.out.cells
  have fm := B0.out.m.free 1
  go_upto_region 5 with fail
  clear fm
  have B1 := Lib.hid B0.out
  clear B0
  have HC := Lib.hid (rs_ends st 6 4 0 false A n cc none 0 0 rfl W0)
  go_upto_region 24 with fail
  go_wp2_with (go_at_call 60; refine (HC.out).mono ?_; rintro e w2 ⟨A2, n2, c2, rfl, hn2, ho2, hk2⟩; (have B2 := Lib.hid (B1.out.old hk2)); (have H2 := Lib.hid (And.intro hn2 (ow_weak ho2 B1.out.k.size))); (obtain ⟨-, -, r0', r1', f0', f1'⟩ := B2.out.cells); clear hn2 ho2 hk2)
  rw [HP.out]
  refine bodyPost_ret (ret_machR rfl _ _ (w.heap.size + 1 + 1) _ _ _ rfl rfl (fin_blkR B2.out.r)) rfl ?_
  exact rr_own H2.out.1 H2.out.2 B2.out.r B2.out.k HG.out
set_option maxRecDepth 100000 in
set_option maxHeartbeats 16000000 in
theorem rs_do_ge5_k63z (st hd : Nat) (ho : Int) (c s : Nat) (A : Option Addr) (n cc : Nat) (w : World) (i5 : (5 : Int) ≤ (st : Int)) (i6 : (st : Int) ≤ 6) (hz : hd = 0) :
    Calls Tryd.prog 11 #[.agg #[.int .i64 st, .int .i64 hd], .agg #[.int .i64 6, .int .i64 3, .int .i64 ho, .int .i64 c, .int .i64 s, .slice A n cc]] w fun e w' => RR (.slice A n cc) w w' e (Sm.step ⟨st, hd⟩ ⟨6, 3, ho, c, s⟩) := by
  have HP : Hid (Sm.step ⟨st, hd⟩ ⟨6, 3, ho, c, s⟩ = (⟨st, hd⟩, [])) := Lib.hid (by
    have h4 : ¬ st < 4 := by omega
    simp [Sm.step, h4, hz])
  have B0 : Hid (Bxr w (((w.alloc (.cells #[.int .i64 st, .int .i64 hd] 26)).alloc (.cells #[.int .i64 6, .int .i64 3, .int .i64 ho, .int .i64 c, .int .i64 s, .slice A n cc] 39)).alloc (.cells #[.int .i64 0, .int .i64 0] 26)) st hd 6 ho 3 c s A n cc) := Lib.hid Bxr.make
  have HG : Hid (w.heap.size ≤ w.heap.size + 1 + 1) := Lib.hid (by omega)
  have hzi : (hd : Int) ≤ 0 := by omega
  clear hz
  go_enter Tryd.func11, Tryd.ntmps11
  go_upto_region 1 with fail
  change Code.wp _ _ _ _ ((((w.alloc (.cells #[.int .i64 st, .int .i64 hd] 26)).alloc (.cells #[.int .i64 6, .int .i64 3, .int .i64 ho, .int .i64 c, .int .i64 s, .slice A n cc] 39)).alloc (.cells #[.int .i64 0, .int .i64 0] 26)))
  generalize ((w.alloc (.cells #[.int .i64 st, .int .i64 hd] 26)).alloc (.cells #[.int .i64 6, .int .i64 3, .int .i64 ho, .int .i64 c, .int .i64 s, .slice A n cc] 39)).alloc (.cells #[.int .i64 0, .int .i64 0] 26) = W0 at *
  obtain ⟨⟨m0, m1⟩, ⟨e0, e1, e2, e3, e4, e5⟩, r0, r1, f0, f1⟩ := B0.out.cells
  have fm := B0.out.m.free 1
  go_upto_region 5 with fail
  clear fm
  have B1 := Lib.hid B0.out
  clear B0
  go_upto_region 30 with fail
  go_wp2
  rw [HP.out]
  refine bodyPost_ret (ret_machR rfl _ _ (w.heap.size + 1 + 1) _ _ _ rfl rfl (fin_blkR B1.out.r)) rfl ?_
  exact rr_nil B1.out.r B1.out.k HG.out
set_option maxRecDepth 100000 in
set_option maxHeartbeats 16000000 in
theorem rs_do_ge5_k63h (st hd : Nat) (ho : Int) (c s : Nat) (A : Option Addr) (n cc : Nat) (w : World) (i5 : (5 : Int) ≤ (st : Int)) (i6 : (st : Int) ≤ 6) (hz : 0 < hd) (hm : hd ≤ 65535) :
    Calls Tryd.prog 11 #[.agg #[.int .i64 st, .int .i64 hd], .agg #[.int .i64 6, .int .i64 3, .int .i64 ho, .int .i64 c, .int .i64 s, .slice A n cc]] w fun e w' => RR (.slice A n cc) w w' e (Sm.step ⟨st, hd⟩ ⟨6, 3, ho, c, s⟩) := by
  have HP : Hid (Sm.step ⟨st, hd⟩ ⟨6, 3, ho, c, s⟩ = (⟨st, hd⟩, [Sm.send 4, Sm.set 3 (hd / 3)])) := Lib.hid (by
    have h4 : ¬ st < 4 := by omega
    have h5 : 4 < st := by omega
    simp [Sm.step, h4, h5, hz])
  have B0 : Hid (Bxr w (((w.alloc (.cells #[.int .i64 st, .int .i64 hd] 26)).alloc (.cells #[.int .i64 6, .int .i64 3, .int .i64 ho, .int .i64 c, .int .i64 s, .slice A n cc] 39)).alloc (.cells #[.int .i64 0, .int .i64 0] 26)) st hd 6 ho 3 c s A n cc) := Lib.hid Bxr.make
  have HG : Hid (w.heap.size ≤ w.heap.size + 1 + 1) := Lib.hid (by omega)
  have hzi : 0 < (hd : Int) := by omega
  have h1 : Int.tdiv (hd : Int) 3 = (hd : Int) / 3 := Int.tdiv_eq_ediv_of_nonneg (by omega)
  have h2 : wrap64 ((hd : Int) / 3) = (hd : Int) / 3 := by unfold wrap64; omega
  have h3 : IntKind.i64.wrap ((hd : Int) / 3) = (hd : Int) / 3 := by simp only [IntKind.wrap, IntKind.bits, IntKind.signed]; simp; omega
  clear hz hm
  go_enter Tryd.func11, Tryd.ntmps11
  go_upto_region 1 with fail
  change Code.wp _ _ _ _ ((((w.alloc (.cells #[.int .i64 st, .int .i64 hd] 26)).alloc (.cells #[.int .i64 6, .int .i64 3, .int .i64 ho, .int .i64 c, .int .i64 s, .slice A n cc] 39)).alloc (.cells #[.int .i64 0, .int .i64 0] 26)))
  generalize ((w.alloc (.cells #[.int .i64 st, .int .i64 hd] 26)).alloc (.cells #[.int .i64 6, .int .i64 3, .int .i64 ho, .int .i64 c, .int .i64 s, .slice A n cc] 39)).alloc (.cells #[.int .i64 0, .int .i64 0] 26) = W0 at *
  obtain ⟨⟨m0, m1⟩, ⟨e0, e1, e2, e3, e4, e5⟩, r0, r1, f0, f1⟩ := B0.out.cells
  have fm := B0.out.m.free 1
  go_upto_region 5 with fail
  clear fm
  have B1 := Lib.hid B0.out
  clear B0
  have k2 := (Kept.refl Nothing W0).alloc (.cells #[.int .i64 1, .int .i64 4, .int .i64 0, .int .i64 0, .int .i64 0, .slice none 0 0, .int .i64 3, .int .i64 3, .int .i64 ((hd : Int) / 3), .int .i64 0, .int .i64 0, .slice none 0 0] 107)
  have B2 := Lib.hid (B1.out.old k2)
  have D2 := Lib.hid (own_blkR w B1.out.k.size (.slice A n cc) [Sm.send 4, Sm.set 3 (hd / 3)] _ 2 rfl rfl (by decide) (Blk.fresh W0 107 #[.int .i64 1, .int .i64 4, .int .i64 0, .int .i64 0, .int .i64 0, .slice none 0 0, .int .i64 3, .int .i64 3, .int .i64 ((hd : Int) / 3), .int .i64 0, .int .i64 0, .slice none 0 0]))
  obtain ⟨⟨n0, n1⟩, -, s0, s1, s2, s3⟩ := B2.out.cells
  go_upto_region 26 with fail
  go_region_law (fail)
  all_goals
    go_wp2
    rw [HP.out]
    first
      | (refine bodyPost_ret (ret_machR rfl _ _ (w.heap.size + 1 + 1) _ _ _ rfl rfl (Blk.drew (fin_blkR B2.out.r))) rfl ?_; exact (rr_own rfl D2.out B2.out.r B2.out.k HG.out).drew)
      | (refine bodyPost_ret (ret_machR rfl _ _ (w.heap.size + 1 + 1) _ _ _ rfl rfl (Blk.drew ((fin_blkR B1.out.r).alloc _))) rfl ?_; exact (rr_lit (l := [Sm.send 4, Sm.set 3 (hd / 3)]) #[.int .i64 1, .int .i64 4, .int .i64 0, .int .i64 0, .int .i64 0, .slice none 0 0, .int .i64 3, .int .i64 3, .int .i64 ((hd : Int) / 3), .int .i64 0, .int .i64 0, .slice none 0 0] rfl rfl (by simp) B1.out.k HG.out rfl).drew)
set_option maxRecDepth 100000 in
set_option maxHeartbeats 16000000 in
theorem rs_do_ge5_k6x (st hd : Nat) (x : Nat) (ho : Int) (c s : Nat) (A : Option Addr) (n cc : Nat) (w : World) (i5 : (5 : Int) ≤ (st : Int)) (i6 : (st : Int) ≤ 6) (hx2 : ((x : Int) == 2) = false) (hx3 : ((x : Int) == 3) = false) :
    Calls Tryd.prog 11 #[.agg #[.int .i64 st, .int .i64 hd], .agg #[.int .i64 6, .int .i64 x, .int .i64 ho, .int .i64 c, .int .i64 s, .slice A n cc]] w fun e w' => RR (.slice A n cc) w w' e (Sm.step ⟨st, hd⟩ ⟨6, x, ho, c, s⟩) := by
  have HP : Hid (Sm.step ⟨st, hd⟩ ⟨6, x, ho, c, s⟩ = (⟨st, hd⟩, [])) := Lib.hid (by
    simp only [beq_eq_false_iff_ne] at hx2 hx3
    have hy2 : ¬ x = 2 := by omega
    have hy3 : ¬ x = 3 := by omega
    have h4 : ¬ st < 4 := by omega
    simp [Sm.step, hy2, hy3, h4])
  have B0 : Hid (Bxr w (((w.alloc (.cells #[.int .i64 st, .int .i64 hd] 26)).alloc (.cells #[.int .i64 6, .int .i64 x, .int .i64 ho, .int .i64 c, .int .i64 s, .slice A n cc] 39)).alloc (.cells #[.int .i64 0, .int .i64 0] 26)) st hd 6 ho x c s A n cc) := Lib.hid Bxr.make
  have HG : Hid (w.heap.size ≤ w.heap.size + 1 + 1) := Lib.hid (by omega)
  go_enter Tryd.func11, Tryd.ntmps11
  go_upto_region 1 with fail
  change Code.wp _ _ _ _ ((((w.alloc (.cells #[.int .i64 st, .int .i64 hd] 26)).alloc (.cells #[.int .i64 6, .int .i64 x, .int .i64 ho, .int .i64 c, .int .i64 s, .slice A n cc] 39)).alloc (.cells #[.int .i64 0, .int .i64 0] 26)))
  generalize ((w.alloc (.cells #[.int .i64 st, .int .i64 hd] 26)).alloc (.cells #[.int .i64 6, .int .i64 x, .int .i64 ho, .int .i64 c, .int .i64 s, .slice A n cc] 39)).alloc (.cells #[.int .i64 0, .int .i64 0] 26) = W0 at *
  obtain ⟨⟨m0, m1⟩, ⟨e0, e1, e2, e3, e4, e5⟩, r0, r1, f0, f1⟩ := B0.out.cells
  have fm := B0.out.m.free 1
  go_upto_region 5 with fail
  clear fm
  have B1 := Lib.hid B0.out
  clear B0
  go_upto_region 30 with fail
  go_wp2
  rw [HP.out]
  refine bodyPost_ret (ret_machR rfl _ _ (w.heap.size + 1 + 1) _ _ _ rfl rfl (fin_blkR B1.out.r)) rfl ?_
  exact rr_nil B1.out.r B1.out.k HG.out
set_option maxRecDepth 100000 in
set_option maxHeartbeats 16000000 in
theorem rs_do_ge5_k7 (st hd : Nat) (x : Nat) (ho : Int) (c s : Nat) (A : Option Addr) (n cc : Nat) (w : World) (i5 : (5 : Int) ≤ (st : Int)) (i6 : (st : Int) ≤ 6) :
    Calls Tryd.prog 11 #[.agg #[.int .i64 st, .int .i64 hd], .agg #[.int .i64 7, .int .i64 x, .int .i64 ho, .int .i64 c, .int .i64 s, .slice A n cc]] w fun e w' => RR (.slice A n cc) w w' e (Sm.step ⟨st, hd⟩ ⟨7, x, ho, c, s⟩) := by
  have HP : Hid (Sm.step ⟨st, hd⟩ ⟨7, x, ho, c, s⟩ = Sm.ends st (decide ((7 : Int) = 2)) c s true) := Lib.hid (by
    have h4 : ¬ st < 4 := by omega
    simp [Sm.step, h4])
  have B0 : Hid (Bxr w (((w.alloc (.cells #[.int .i64 st, .int .i64 hd] 26)).alloc (.cells #[.int .i64 7, .int .i64 x, .int .i64 ho, .int .i64 c, .int .i64 s, .slice A n cc] 39)).alloc (.cells #[.int .i64 0, .int .i64 0] 26)) st hd 7 ho x c s A n cc) := Lib.hid Bxr.make
  have HG : Hid (w.heap.size ≤ w.heap.size + 1 + 1) := Lib.hid (by omega)
  go_enter Tryd.func11, Tryd.ntmps11
  go_upto_region 1 with fail
  change Code.wp _ _ _ _ ((((w.alloc (.cells #[.int .i64 st, .int .i64 hd] 26)).alloc (.cells #[.int .i64 7, .int .i64 x, .int .i64 ho, .int .i64 c, .int .i64 s, .slice A n cc] 39)).alloc (.cells #[.int .i64 0, .int .i64 0] 26)))
  generalize ((w.alloc (.cells #[.int .i64 st, .int .i64 hd] 26)).alloc (.cells #[.int .i64 7, .int .i64 x, .int .i64 ho, .int .i64 c, .int .i64 s, .slice A n cc] 39)).alloc (.cells #[.int .i64 0, .int .i64 0] 26) = W0 at *
  obtain ⟨⟨m0, m1⟩, ⟨e0, e1, e2, e3, e4, e5⟩, r0, r1, f0, f1⟩ := B0.out.cells
  have fm := B0.out.m.free 1
  go_upto_region 5 with fail
  clear fm
  have B1 := Lib.hid B0.out
  clear B0
  have HC := Lib.hid (rs_ends st 7 c s true A n cc A n cc rfl W0)
  go_upto_region 29 with fail
  go_wp2_with (go_at_call 60; refine (HC.out).mono ?_; rintro e w2 ⟨A2, n2, c2, rfl, hn2, ho2, hk2⟩; (have B2 := Lib.hid (B1.out.old hk2)); (have H2 := Lib.hid (And.intro hn2 (ow_weak ho2 B1.out.k.size))); (obtain ⟨-, -, r0', r1', f0', f1'⟩ := B2.out.cells); clear hn2 ho2 hk2)
  rw [HP.out]
  refine bodyPost_ret (ret_machR rfl _ _ (w.heap.size + 1 + 1) _ _ _ rfl rfl (fin_blkR B2.out.r)) rfl ?_
  exact rr_own H2.out.1 H2.out.2 B2.out.r B2.out.k HG.out
set_option maxRecDepth 100000 in
set_option maxHeartbeats 16000000 in
theorem rs_do_ge5_k8 (st hd : Nat) (x : Nat) (ho : Int) (c s : Nat) (A : Option Addr) (n cc : Nat) (w : World) (i5 : (5 : Int) ≤ (st : Int)) (i6 : (st : Int) ≤ 6) :
    Calls Tryd.prog 11 #[.agg #[.int .i64 st, .int .i64 hd], .agg #[.int .i64 8, .int .i64 x, .int .i64 ho, .int .i64 c, .int .i64 s, .slice A n cc]] w fun e w' => RR (.slice A n cc) w w' e (Sm.step ⟨st, hd⟩ ⟨8, x, ho, c, s⟩) := by
  have HP : Hid (Sm.step ⟨st, hd⟩ ⟨8, x, ho, c, s⟩ = Sm.ends st (decide ((8 : Int) = 2)) c s true) := Lib.hid (by
    have h4 : ¬ st < 4 := by omega
    simp [Sm.step, h4])
  have B0 : Hid (Bxr w (((w.alloc (.cells #[.int .i64 st, .int .i64 hd] 26)).alloc (.cells #[.int .i64 8, .int .i64 x, .int .i64 ho, .int .i64 c, .int .i64 s, .slice A n cc] 39)).alloc (.cells #[.int .i64 0, .int .i64 0] 26)) st hd 8 ho x c s A n cc) := Lib.hid Bxr.make
  have HG : Hid (w.heap.size ≤ w.heap.size + 1 + 1) := Lib.hid (by omega)
  go_enter Tryd.func11, Tryd.ntmps11
  go_upto_region 1 with fail
  change Code.wp _ _ _ _ ((((w.alloc (.cells #[.int .i64 st, .int .i64 hd] 26)).alloc (.cells #[.int .i64 8, .int .i64 x, .int .i64 ho, .int .i64 c, .int .i64 s, .slice A n cc] 39)).alloc (.cells #[.int .i64 0, .int .i64 0] 26)))
  generalize ((w.alloc (.cells #[.int .i64 st, .int .i64 hd] 26)).alloc (.cells #[.int .i64 8, .int .i64 x, .int .i64 ho, .int .i64 c, .int .i64 s, .slice A n cc] 39)).alloc (.cells #[.int .i64 0, .int .i64 0] 26) = W0 at *
  obtain ⟨⟨m0, m1⟩, ⟨e0, e1, e2, e3, e4, e5⟩, r0, r1, f0, f1⟩ := B0.out.cells
  have fm := B0.out.m.free 1
  go_upto_region 5 with fail
  clear fm
  have B1 := Lib.hid B0.out
  clear B0
  have HC := Lib.hid (rs_ends st 8 c s true A n cc A n cc rfl W0)
  go_upto_region 29 with fail
  go_wp2_with (go_at_call 60; refine (HC.out).mono ?_; rintro e w2 ⟨A2, n2, c2, rfl, hn2, ho2, hk2⟩; (have B2 := Lib.hid (B1.out.old hk2)); (have H2 := Lib.hid (And.intro hn2 (ow_weak ho2 B1.out.k.size))); (obtain ⟨-, -, r0', r1', f0', f1'⟩ := B2.out.cells); clear hn2 ho2 hk2)
  rw [HP.out]
  refine bodyPost_ret (ret_machR rfl _ _ (w.heap.size + 1 + 1) _ _ _ rfl rfl (fin_blkR B2.out.r)) rfl ?_
  exact rr_own H2.out.1 H2.out.2 B2.out.r B2.out.k HG.out
set_option maxRecDepth 100000 in
set_option maxHeartbeats 16000000 in
theorem rs_do_ge5_ko (st hd : Nat) (kd : Int) (x : Nat) (ho : Int) (c s : Nat) (A : Option Addr) (n cc : Nat) (w : World) (i5 : (5 : Int) ≤ (st : Int)) (i6 : (st : Int) ≤ 6) (k2 : (kd == 2) = false) (k4 : (kd == 4) = false) (k5 : (kd == 5) = false) (k6 : (kd == 6) = false) (k7 : (kd == 7) = false) (k8 : (kd == 8) = false) :
    Calls Tryd.prog 11 #[.agg #[.int .i64 st, .int .i64 hd], .agg #[.int .i64 kd, .int .i64 x, .int .i64 ho, .int .i64 c, .int .i64 s, .slice A n cc]] w fun e w' => RR (.slice A n cc) w w' e (Sm.step ⟨st, hd⟩ ⟨kd, x, ho, c, s⟩) := by
  have HP : Hid (Sm.step ⟨st, hd⟩ ⟨kd, x, ho, c, s⟩ = (⟨st, hd⟩, [])) := Lib.hid (by
    simp only [beq_eq_false_iff_ne] at k2 k4 k5 k6 k7 k8
    have h4 : ¬ st < 4 := by omega
    simp [Sm.step, k2, k4, k5, k6, k7, k8, h4])
  have B0 : Hid (Bxr w (((w.alloc (.cells #[.int .i64 st, .int .i64 hd] 26)).alloc (.cells #[.int .i64 kd, .int .i64 x, .int .i64 ho, .int .i64 c, .int .i64 s, .slice A n cc] 39)).alloc (.cells #[.int .i64 0, .int .i64 0] 26)) st hd kd ho x c s A n cc) := Lib.hid Bxr.make
  have HG : Hid (w.heap.size ≤ w.heap.size + 1 + 1) := Lib.hid (by omega)
  go_enter Tryd.func11, Tryd.ntmps11
  go_upto_region 1 with fail
  change Code.wp _ _ _ _ ((((w.alloc (.cells #[.int .i64 st, .int .i64 hd] 26)).alloc (.cells #[.int .i64 kd, .int .i64 x, .int .i64 ho, .int .i64 c, .int .i64 s, .slice A n cc] 39)).alloc (.cells #[.int .i64 0, .int .i64 0] 26)))
  generalize ((w.alloc (.cells #[.int .i64 st, .int .i64 hd] 26)).alloc (.cells #[.int .i64 kd, .int .i64 x, .int .i64 ho, .int .i64 c, .int .i64 s, .slice A n cc] 39)).alloc (.cells #[.int .i64 0, .int .i64 0] 26) = W0 at *
  obtain ⟨⟨m0, m1⟩, ⟨e0, e1, e2, e3, e4, e5⟩, r0, r1, f0, f1⟩ := B0.out.cells
  have fm := B0.out.m.free 1
  go_upto_region 5 with fail
  clear fm
  have B1 := Lib.hid B0.out
  clear B0
  go_upto_region 30 with fail
  go_wp2
  rw [HP.out]
  refine bodyPost_ret (ret_machR rfl _ _ (w.heap.size + 1 + 1) _ _ _ rfl rfl (fin_blkR B1.out.r)) rfl ?_
  exact rr_nil B1.out.r B1.out.k HG.out
set_option maxRecDepth 100000 in
set_option maxHeartbeats 16000000 in
theorem rs_do_ge5_m3 (st hd : Nat) (ho : Int) (c s : Nat) (A : Option Addr) (n cc : Nat) (w : World) (i5 : (5 : Int) ≤ (st : Int)) (i6 : (st : Int) ≤ 6) :
    Calls Tryd.prog 11 #[.agg #[.int .i64 st, .int .i64 hd], .agg #[.int .i64 5, .int .i64 3, .int .i64 ho, .int .i64 c, .int .i64 s, .slice A n cc]] w fun e w' => RR (.slice A n cc) w w' e (Sm.step ⟨st, hd⟩ ⟨5, 3, ho, c, s⟩) := by
  have HP : Hid (Sm.step ⟨st, hd⟩ ⟨5, 3, ho, c, s⟩ = Sm.ends st (decide ((5 : Int) = 2)) 0 0 false) := Lib.hid (by
    have h4 : ¬ st < 4 := by omega
    simp [Sm.step, h4])
  have B0 : Hid (Bxr w (((w.alloc (.cells #[.int .i64 st, .int .i64 hd] 26)).alloc (.cells #[.int .i64 5, .int .i64 3, .int .i64 ho, .int .i64 c, .int .i64 s, .slice A n cc] 39)).alloc (.cells #[.int .i64 0, .int .i64 0] 26)) st hd 5 ho 3 c s A n cc) := Lib.hid Bxr.make
  have HG : Hid (w.heap.size ≤ w.heap.size + 1 + 1) := Lib.hid (by omega)
  go_enter Tryd.func11, Tryd.ntmps11
  go_upto_region 1 with fail
  change Code.wp _ _ _ _ ((((w.alloc (.cells #[.int .i64 st, .int .i64 hd] 26)).alloc (.cells #[.int .i64 5, .int .i64 3, .int .i64 ho, .int .i64 c, .int .i64 s, .slice A n cc] 39)).alloc (.cells #[.int .i64 0, .int .i64 0] 26)))
  generalize ((w.alloc (.cells #[.int .i64 st, .int .i64 hd] 26)).alloc (.cells #[.int .i64 5, .int .i64 3, .int .i64 ho, .int .i64 c, .int .i64 s, .slice A n cc] 39)).alloc (.cells #[.int .i64 0, .int .i64 0] 26) = W0 at *
  obtain ⟨⟨m0, m1⟩, ⟨e0, e1, e2, e3, e4, e5⟩, r0, r1, f0, f1⟩ := B0.out.cells
  have fm := B0.out.m.free 1
  go_upto_region 5 with fail
  clear fm
  have B1 := Lib.hid B0.out
  clear B0
  have HC := Lib.hid (rs_ends st 5 0 0 false A n cc none 0 0 rfl W0)
  go_upto_region 20 with fail
  go_wp2_with (go_at_call 60; refine (HC.out).mono ?_; rintro e w2 ⟨A2, n2, c2, rfl, hn2, ho2, hk2⟩; (have B2 := Lib.hid (B1.out.old hk2)); (have H2 := Lib.hid (And.intro hn2 (ow_weak ho2 B1.out.k.size))); (obtain ⟨-, -, r0', r1', f0', f1'⟩ := B2.out.cells); clear hn2 ho2 hk2)
  rw [HP.out]
  refine bodyPost_ret (ret_machR rfl _ _ (w.heap.size + 1 + 1) _ _ _ rfl rfl (fin_blkR B2.out.r)) rfl ?_
  exact rr_own H2.out.1 H2.out.2 B2.out.r B2.out.k HG.out
end Go.Proofs.YtembdobkgpojfaaDoor
