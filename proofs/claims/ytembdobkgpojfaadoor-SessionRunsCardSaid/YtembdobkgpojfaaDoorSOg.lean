
/-
  session: the document's Do, a message.
-/
import Derived.Test.YtembdobkgpojfaaDoorSOc
import Derived.Test.YtembdobkgpojfaaDoorSOd
namespace Go.Proofs.YtembdobkgpojfaaDoor
open Go.RowKit

set_option maxRecDepth 100000 in
set_option maxHeartbeats 16000000 in
theorem rs_do_eq4_m1 (ho : Int) (c s : Nat) (A : Option Addr) (n cc : Nat) (w : World) (hh0 : 0 ≤ ho) (hh1 : (ho == 1) = false) (hh2 : (ho == 2) = false) (hh : ho ≤ 65535) :
    Calls Tryd.prog 11 #[.agg #[.int .i64 4, .int .i64 0], .agg #[.int .i64 5, .int .i64 1, .int .i64 ho, .int .i64 c, .int .i64 s, .slice A n cc]] w fun e w' => RR (.slice A n cc) w w' e (Sm.step ⟨4, 0⟩ ⟨5, 1, ho, c, s⟩) := by
  have HP : Hid (Sm.step ⟨4, 0⟩ ⟨5, 1, ho, c, s⟩ = Sm.message ⟨4, 0⟩ 1 ho.toNat) := Lib.hid (by
    simp only [beq_eq_false_iff_ne] at hh1 hh2
    have hb : ¬ (ho < 0 ∨ ho = 1 ∨ ho = 2 ∨ 65535 < ho) := by omega
    simp [Sm.step, hb])
  have B0 : Hid (Bxr w (((w.alloc (.cells #[.int .i64 4, .int .i64 0] 26)).alloc (.cells #[.int .i64 5, .int .i64 1, .int .i64 ho, .int .i64 c, .int .i64 s, .slice A n cc] 39)).alloc (.cells #[.int .i64 0, .int .i64 0] 26)) 4 0 5 ho 1 c s A n cc) := Lib.hid Bxr.make
  have HG : Hid (w.heap.size ≤ w.heap.size + 1 + 1) := Lib.hid (by omega)
  have HM : (1 : Nat) = 1 → 0 ≤ ho ∧ ho ≤ 65535 := fun _ => ⟨hh0, hh⟩
  go_enter Tryd.func11, Tryd.ntmps11
  go_upto_region 1 with fail
  change Code.wp _ _ _ _ ((((w.alloc (.cells #[.int .i64 4, .int .i64 0] 26)).alloc (.cells #[.int .i64 5, .int .i64 1, .int .i64 ho, .int .i64 c, .int .i64 s, .slice A n cc] 39)).alloc (.cells #[.int .i64 0, .int .i64 0] 26)))
  generalize ((w.alloc (.cells #[.int .i64 4, .int .i64 0] 26)).alloc (.cells #[.int .i64 5, .int .i64 1, .int .i64 ho, .int .i64 c, .int .i64 s, .slice A n cc] 39)).alloc (.cells #[.int .i64 0, .int .i64 0] 26) = W0 at *
  obtain ⟨⟨m0, m1⟩, ⟨e0, e1, e2, e3, e4, e5⟩, r0, r1, f0, f1⟩ := B0.out.cells
  have fm := B0.out.m.free 1
  go_upto_region 5 with fail
  clear fm
  have B1 := Lib.hid (B0.out.hold 0)
  clear B0 m0 m1 e0 e1 e2 e3 e4 e5 r0 r1 f0 f1
  generalize W0.setCell ⟨w.heap.size, 1, none⟩ (.int .i64 0) = W1 at *
  obtain ⟨⟨m0, m1⟩, ⟨e0, e1, e2, e3, e4, e5⟩, r0, r1, f0, f1⟩ := B1.out.cells
  have HC := Lib.hid (rs_message 4 0 (by omega) (by omega) 1 ho HM c s A n cc A n cc W1)
  clear HM
  go_upto_region 21 with fail
  go_wp2_with (go_at_call 61; refine (HC.out).mono ?_; rintro e w2 ⟨A2, n2, c2, rfl, hn2, ho2, hk2⟩; (have B2 := Lib.hid (B1.out.old hk2)); (have H2 := Lib.hid (And.intro hn2 (ow_weak ho2 B1.out.k.size))); (obtain ⟨-, -, r0', r1', f0', f1'⟩ := B2.out.cells); clear hn2 ho2 hk2)
  rw [HP.out]
  refine bodyPost_ret (ret_machR rfl _ _ (w.heap.size + 1 + 1) _ _ _ rfl rfl (fin_blkR B2.out.r)) rfl ?_
  exact rr_own H2.out.1 H2.out.2 B2.out.r B2.out.k HG.out
set_option maxRecDepth 100000 in
set_option maxHeartbeats 16000000 in
theorem rs_do_eq4_mx (x : Nat) (ho : Int) (c s : Nat) (A : Option Addr) (n cc : Nat) (w : World) (hx0 : (1 : Int) ≤ (x : Int)) (hx5 : (x : Int) ≤ 5) (hx1 : ((x : Int) == 1) = false) (hx3 : ((x : Int) == 3) = false) :
    Calls Tryd.prog 11 #[.agg #[.int .i64 4, .int .i64 0], .agg #[.int .i64 5, .int .i64 x, .int .i64 ho, .int .i64 c, .int .i64 s, .slice A n cc]] w fun e w' => RR (.slice A n cc) w w' e (Sm.step ⟨4, 0⟩ ⟨5, x, ho, c, s⟩) := by
  have HP : Hid (Sm.step ⟨4, 0⟩ ⟨5, x, ho, c, s⟩ = Sm.message ⟨4, 0⟩ x ho.toNat) := Lib.hid (by
    simp only [beq_eq_false_iff_ne] at hx1
    have hy : ¬ 5 < x := by omega
    have hy0 : ¬ x = 0 := by omega
    have hy1 : ¬ x = 1 := by omega
    simp only [beq_eq_false_iff_ne] at hx3
    have hy3 : ¬ x = 3 := by omega
    simp [Sm.step, hy, hy0, hy1, hy3])
  have B0 : Hid (Bxr w (((w.alloc (.cells #[.int .i64 4, .int .i64 0] 26)).alloc (.cells #[.int .i64 5, .int .i64 x, .int .i64 ho, .int .i64 c, .int .i64 s, .slice A n cc] 39)).alloc (.cells #[.int .i64 0, .int .i64 0] 26)) 4 0 5 ho x c s A n cc) := Lib.hid Bxr.make
  have HG : Hid (w.heap.size ≤ w.heap.size + 1 + 1) := Lib.hid (by omega)
  have HM : x = 1 → 0 ≤ ho ∧ ho ≤ 65535 := fun h => by subst h; simp at hx1
  go_enter Tryd.func11, Tryd.ntmps11
  go_upto_region 1 with fail
  change Code.wp _ _ _ _ ((((w.alloc (.cells #[.int .i64 4, .int .i64 0] 26)).alloc (.cells #[.int .i64 5, .int .i64 x, .int .i64 ho, .int .i64 c, .int .i64 s, .slice A n cc] 39)).alloc (.cells #[.int .i64 0, .int .i64 0] 26)))
  generalize ((w.alloc (.cells #[.int .i64 4, .int .i64 0] 26)).alloc (.cells #[.int .i64 5, .int .i64 x, .int .i64 ho, .int .i64 c, .int .i64 s, .slice A n cc] 39)).alloc (.cells #[.int .i64 0, .int .i64 0] 26) = W0 at *
  obtain ⟨⟨m0, m1⟩, ⟨e0, e1, e2, e3, e4, e5⟩, r0, r1, f0, f1⟩ := B0.out.cells
  have fm := B0.out.m.free 1
  go_upto_region 5 with fail
  clear fm
  have B1 := Lib.hid (B0.out.hold 0)
  clear B0 m0 m1 e0 e1 e2 e3 e4 e5 r0 r1 f0 f1
  generalize W0.setCell ⟨w.heap.size, 1, none⟩ (.int .i64 0) = W1 at *
  obtain ⟨⟨m0, m1⟩, ⟨e0, e1, e2, e3, e4, e5⟩, r0, r1, f0, f1⟩ := B1.out.cells
  have HC := Lib.hid (rs_message 4 0 (by omega) (by omega) x ho HM c s A n cc A n cc W1)
  clear HM
  go_upto_region 21 with fail
  go_wp2_with (go_at_call 61; refine (HC.out).mono ?_; rintro e w2 ⟨A2, n2, c2, rfl, hn2, ho2, hk2⟩; (have B2 := Lib.hid (B1.out.old hk2)); (have H2 := Lib.hid (And.intro hn2 (ow_weak ho2 B1.out.k.size))); (obtain ⟨-, -, r0', r1', f0', f1'⟩ := B2.out.cells); clear hn2 ho2 hk2)
  rw [HP.out]
  refine bodyPost_ret (ret_machR rfl _ _ (w.heap.size + 1 + 1) _ _ _ rfl rfl (fin_blkR B2.out.r)) rfl ?_
  exact rr_own H2.out.1 H2.out.2 B2.out.r B2.out.k HG.out
set_option maxRecDepth 100000 in
set_option maxHeartbeats 16000000 in
theorem rs_do_ge5_m1 (st hd : Nat) (ho : Int) (c s : Nat) (A : Option Addr) (n cc : Nat) (w : World) (i5 : (5 : Int) ≤ (st : Int)) (i6 : (st : Int) ≤ 6) (hh0 : 0 ≤ ho) (hh1 : (ho == 1) = false) (hh2 : (ho == 2) = false) (hh : ho ≤ 65535) :
    Calls Tryd.prog 11 #[.agg #[.int .i64 st, .int .i64 hd], .agg #[.int .i64 5, .int .i64 1, .int .i64 ho, .int .i64 c, .int .i64 s, .slice A n cc]] w fun e w' => RR (.slice A n cc) w w' e (Sm.step ⟨st, hd⟩ ⟨5, 1, ho, c, s⟩) := by
  have HP : Hid (Sm.step ⟨st, hd⟩ ⟨5, 1, ho, c, s⟩ = Sm.message ⟨st, hd⟩ 1 ho.toNat) := Lib.hid (by
    simp only [beq_eq_false_iff_ne] at hh1 hh2
    have hb : ¬ (ho < 0 ∨ ho = 1 ∨ ho = 2 ∨ 65535 < ho) := by omega
    have h4 : ¬ st < 4 := by omega
    simp [Sm.step, hb, h4])
  have B0 : Hid (Bxr w (((w.alloc (.cells #[.int .i64 st, .int .i64 hd] 26)).alloc (.cells #[.int .i64 5, .int .i64 1, .int .i64 ho, .int .i64 c, .int .i64 s, .slice A n cc] 39)).alloc (.cells #[.int .i64 0, .int .i64 0] 26)) st hd 5 ho 1 c s A n cc) := Lib.hid Bxr.make
  have HG : Hid (w.heap.size ≤ w.heap.size + 1 + 1) := Lib.hid (by omega)
  have HM : (1 : Nat) = 1 → 0 ≤ ho ∧ ho ≤ 65535 := fun _ => ⟨hh0, hh⟩
  go_enter Tryd.func11, Tryd.ntmps11
  go_upto_region 1 with fail
  change Code.wp _ _ _ _ ((((w.alloc (.cells #[.int .i64 st, .int .i64 hd] 26)).alloc (.cells #[.int .i64 5, .int .i64 1, .int .i64 ho, .int .i64 c, .int .i64 s, .slice A n cc] 39)).alloc (.cells #[.int .i64 0, .int .i64 0] 26)))
  generalize ((w.alloc (.cells #[.int .i64 st, .int .i64 hd] 26)).alloc (.cells #[.int .i64 5, .int .i64 1, .int .i64 ho, .int .i64 c, .int .i64 s, .slice A n cc] 39)).alloc (.cells #[.int .i64 0, .int .i64 0] 26) = W0 at *
  obtain ⟨⟨m0, m1⟩, ⟨e0, e1, e2, e3, e4, e5⟩, r0, r1, f0, f1⟩ := B0.out.cells
  have fm := B0.out.m.free 1
  go_upto_region 5 with fail
  clear fm
  have B1 := Lib.hid B0.out
  clear B0
  have HC := Lib.hid (rs_message st hd (by omega) (by omega) 1 ho HM c s A n cc A n cc W0)
  clear HM
  go_upto_region 21 with fail
  go_wp2_with (go_at_call 61; refine (HC.out).mono ?_; rintro e w2 ⟨A2, n2, c2, rfl, hn2, ho2, hk2⟩; (have B2 := Lib.hid (B1.out.old hk2)); (have H2 := Lib.hid (And.intro hn2 (ow_weak ho2 B1.out.k.size))); (obtain ⟨-, -, r0', r1', f0', f1'⟩ := B2.out.cells); clear hn2 ho2 hk2)
  rw [HP.out]
  refine bodyPost_ret (ret_machR rfl _ _ (w.heap.size + 1 + 1) _ _ _ rfl rfl (fin_blkR B2.out.r)) rfl ?_
  exact rr_own H2.out.1 H2.out.2 B2.out.r B2.out.k HG.out
set_option maxRecDepth 100000 in
set_option maxHeartbeats 16000000 in
theorem rs_do_ge5_mx (st hd : Nat) (x : Nat) (ho : Int) (c s : Nat) (A : Option Addr) (n cc : Nat) (w : World) (i5 : (5 : Int) ≤ (st : Int)) (i6 : (st : Int) ≤ 6) (hx0 : (1 : Int) ≤ (x : Int)) (hx5 : (x : Int) ≤ 5) (hx1 : ((x : Int) == 1) = false) (hx3 : ((x : Int) == 3) = false) :
    Calls Tryd.prog 11 #[.agg #[.int .i64 st, .int .i64 hd], .agg #[.int .i64 5, .int .i64 x, .int .i64 ho, .int .i64 c, .int .i64 s, .slice A n cc]] w fun e w' => RR (.slice A n cc) w w' e (Sm.step ⟨st, hd⟩ ⟨5, x, ho, c, s⟩) := by
  have HP : Hid (Sm.step ⟨st, hd⟩ ⟨5, x, ho, c, s⟩ = Sm.message ⟨st, hd⟩ x ho.toNat) := Lib.hid (by
    simp only [beq_eq_false_iff_ne] at hx1
    have hy : ¬ 5 < x := by omega
    have hy0 : ¬ x = 0 := by omega
    have hy1 : ¬ x = 1 := by omega
    simp only [beq_eq_false_iff_ne] at hx3
    have hy3 : ¬ x = 3 := by omega
    have h4 : ¬ st < 4 := by omega
    simp [Sm.step, hy, hy0, hy1, hy3, h4])
  have B0 : Hid (Bxr w (((w.alloc (.cells #[.int .i64 st, .int .i64 hd] 26)).alloc (.cells #[.int .i64 5, .int .i64 x, .int .i64 ho, .int .i64 c, .int .i64 s, .slice A n cc] 39)).alloc (.cells #[.int .i64 0, .int .i64 0] 26)) st hd 5 ho x c s A n cc) := Lib.hid Bxr.make
  have HG : Hid (w.heap.size ≤ w.heap.size + 1 + 1) := Lib.hid (by omega)
  have HM : x = 1 → 0 ≤ ho ∧ ho ≤ 65535 := fun h => by subst h; simp at hx1
  go_enter Tryd.func11, Tryd.ntmps11
  go_upto_region 1 with fail
  change Code.wp _ _ _ _ ((((w.alloc (.cells #[.int .i64 st, .int .i64 hd] 26)).alloc (.cells #[.int .i64 5, .int .i64 x, .int .i64 ho, .int .i64 c, .int .i64 s, .slice A n cc] 39)).alloc (.cells #[.int .i64 0, .int .i64 0] 26)))
  generalize ((w.alloc (.cells #[.int .i64 st, .int .i64 hd] 26)).alloc (.cells #[.int .i64 5, .int .i64 x, .int .i64 ho, .int .i64 c, .int .i64 s, .slice A n cc] 39)).alloc (.cells #[.int .i64 0, .int .i64 0] 26) = W0 at *
  obtain ⟨⟨m0, m1⟩, ⟨e0, e1, e2, e3, e4, e5⟩, r0, r1, f0, f1⟩ := B0.out.cells
  have fm := B0.out.m.free 1
  go_upto_region 5 with fail
  clear fm
  have B1 := Lib.hid B0.out
  clear B0
  have HC := Lib.hid (rs_message st hd (by omega) (by omega) x ho HM c s A n cc A n cc W0)
  clear HM
  go_upto_region 21 with fail
  go_wp2_with (go_at_call 61; refine (HC.out).mono ?_; rintro e w2 ⟨A2, n2, c2, rfl, hn2, ho2, hk2⟩; (have B2 := Lib.hid (B1.out.old hk2)); (have H2 := Lib.hid (And.intro hn2 (ow_weak ho2 B1.out.k.size))); (obtain ⟨-, -, r0', r1', f0', f1'⟩ := B2.out.cells); clear hn2 ho2 hk2)
  rw [HP.out]
  refine bodyPost_ret (ret_machR rfl _ _ (w.heap.size + 1 + 1) _ _ _ rfl rfl (fin_blkR B2.out.r)) rfl ?_
  exact rr_own H2.out.1 H2.out.2 B2.out.r B2.out.k HG.out
end Go.Proofs.YtembdobkgpojfaaDoor
