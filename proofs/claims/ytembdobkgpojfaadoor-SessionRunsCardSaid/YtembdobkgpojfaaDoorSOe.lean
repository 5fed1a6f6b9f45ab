
/-
  session: the document's Do, an event that is wrong.
-/
import Derived.Test.YtembdobkgpojfaaDoorSOd
namespace Go.Proofs.YtembdobkgpojfaaDoor
open Go.RowKit

set_option maxRecDepth 100000 in
set_option maxHeartbeats 16000000 in
theorem rs_do_lt4_w0 (st : Nat) (x : Nat) (ho : Int) (c s : Nat) (A : Option Addr) (n cc : Nat) (w : World) (i1 : (1 : Int) ≤ (st : Int)) (i4 : (st : Int) < 4) (hx : (x : Int) < 1) :
    Calls Tryd.prog 11 #[.agg #[.int .i64 st, .int .i64 0], .agg #[.int .i64 5, .int .i64 x, .int .i64 ho, .int .i64 c, .int .i64 s, .slice A n cc]] w fun e w' => RR (.slice A n cc) w w' e (Sm.step ⟨st, 0⟩ ⟨5, x, ho, c, s⟩) := by
  have HP : Hid (Sm.step ⟨st, 0⟩ ⟨5, x, ho, c, s⟩ = Sm.early ⟨st, 0⟩ 7 0) := Lib.hid (by
    have hx : x < 1 := by omega
    simp only [Sm.step, if_true, Sm.wrong, hx, true_or]
    have h4 : st < 4 := by omega
    by_cases h1 : st = 1 <;> simp [Sm.early, h1, h4])
  have B0 : Hid (Bxr w (((w.alloc (.cells #[.int .i64 st, .int .i64 0] 26)).alloc (.cells #[.int .i64 5, .int .i64 x, .int .i64 ho, .int .i64 c, .int .i64 s, .slice A n cc] 39)).alloc (.cells #[.int .i64 0, .int .i64 0] 26)) st 0 5 ho x c s A n cc) := Lib.hid Bxr.make
  have HG : Hid (w.heap.size ≤ w.heap.size + 1 + 1) := Lib.hid (by omega)
  go_enter Tryd.func11, Tryd.ntmps11
  go_upto_region 1 with fail
  change Code.wp _ _ _ _ ((((w.alloc (.cells #[.int .i64 st, .int .i64 0] 26)).alloc (.cells #[.int .i64 5, .int .i64 x, .int .i64 ho, .int .i64 c, .int .i64 s, .slice A n cc] 39)).alloc (.cells #[.int .i64 0, .int .i64 0] 26)))
  generalize ((w.alloc (.cells #[.int .i64 st, .int .i64 0] 26)).alloc (.cells #[.int .i64 5, .int .i64 x, .int .i64 ho, .int .i64 c, .int .i64 s, .slice A n cc] 39)).alloc (.cells #[.int .i64 0, .int .i64 0] 26) = W0 at *
  obtain ⟨⟨m0, m1⟩, ⟨e0, e1, e2, e3, e4, e5⟩, r0, r1, f0, f1⟩ := B0.out.cells
  have fm := B0.out.m.free 1
  go_upto_region 5 with fail
  clear fm
  have B1 := Lib.hid (B0.out.hold 0)
  clear B0 m0 m1 e0 e1 e2 e3 e4 e5 r0 r1 f0 f1
  generalize W0.setCell ⟨w.heap.size, 1, none⟩ (.int .i64 0) = W1 at *
  obtain ⟨⟨m0, m1⟩, ⟨e0, e1, e2, e3, e4, e5⟩, r0, r1, f0, f1⟩ := B1.out.cells
  go_upto_region 7 with (refine wpList_store_row rfl 39 _ _ rfl (w.heap.size + 1) #[.int .i64 7, .int .i64 0, .int .i64 0, .int .i64 1, .int .i64 3, .slice none 0 0] rfl rfl 39 _ B1.out.e (by kernel_rfl) rfl (by kernel_rfl) ?_)
  have B3 := Lib.hid (B1.out.event 7 0 0 1 3)
  clear m0 m1 e0 e1 e2 e3 e4 e5 r0 r1 f0 f1
  change Code.wp _ _ _ _ (World.setRow _ _ #[.int .i64 7, .int .i64 ((0 : Nat) : Int), .int .i64 0, .int .i64 ((1 : Nat) : Int), .int .i64 ((3 : Nat) : Int), .slice none 0 0])
  clear B1
  generalize World.setRow W1 (w.heap.size + 1) #[.int .i64 7, .int .i64 ((0 : Nat) : Int), .int .i64 0, .int .i64 ((1 : Nat) : Int), .int .i64 ((3 : Nat) : Int), .slice none 0 0] = W3 at *
  have B1 := Lib.hid B3.out
  clear B3
  obtain ⟨⟨m0, m1⟩, ⟨e0, e1, e2, e3, e4, e5⟩, r0, r1, f0, f1⟩ := B1.out.cells
  simp only [Int.cast_ofNat_Int] at e1 e3 e4
  have HC := Lib.hid (rs_early st 0 7 0 0 1 3 none 0 0 A n cc W3)
  go_upto_region 10 with fail
  go_wp2_with (go_at_call 59; refine (HC.out).mono ?_; rintro e w2 ⟨A2, n2, c2, rfl, hn2, ho2, hk2⟩; (have B2 := Lib.hid (B1.out.old hk2)); (have H2 := Lib.hid (And.intro hn2 (ow_weak ho2 B1.out.k.size))); (obtain ⟨-, -, r0', r1', f0', f1'⟩ := B2.out.cells); clear hn2 ho2 hk2)
  rw [HP.out]
  refine bodyPost_ret (ret_machR rfl _ _ (w.heap.size + 1 + 1) _ _ _ rfl rfl (fin_blkR B2.out.r)) rfl ?_
  exact rr_own H2.out.1 H2.out.2 B2.out.r B2.out.k HG.out
set_option maxRecDepth 100000 in
set_option maxHeartbeats 16000000 in
theorem rs_do_lt4_w1 (st : Nat) (x : Nat) (ho : Int) (c s : Nat) (A : Option Addr) (n cc : Nat) (w : World) (i1 : (1 : Int) ≤ (st : Int)) (i4 : (st : Int) < 4) (hx : (5 : Int) < (x : Int)) (hx1 : (1 : Int) ≤ (x : Int)) :
    Calls Tryd.prog 11 #[.agg #[.int .i64 st, .int .i64 0], .agg #[.int .i64 5, .int .i64 x, .int .i64 ho, .int .i64 c, .int .i64 s, .slice A n cc]] w fun e w' => RR (.slice A n cc) w w' e (Sm.step ⟨st, 0⟩ ⟨5, x, ho, c, s⟩) := by
  have HP : Hid (Sm.step ⟨st, 0⟩ ⟨5, x, ho, c, s⟩ = Sm.early ⟨st, 0⟩ 7 0) := Lib.hid (by
    have hx : 5 < x := by omega
    simp only [Sm.step, if_true, Sm.wrong, hx, or_true]
    have h4 : st < 4 := by omega
    by_cases h1 : st = 1 <;> simp [Sm.early, h1, h4])
  have B0 : Hid (Bxr w (((w.alloc (.cells #[.int .i64 st, .int .i64 0] 26)).alloc (.cells #[.int .i64 5, .int .i64 x, .int .i64 ho, .int .i64 c, .int .i64 s, .slice A n cc] 39)).alloc (.cells #[.int .i64 0, .int .i64 0] 26)) st 0 5 ho x c s A n cc) := Lib.hid Bxr.make
  have HG : Hid (w.heap.size ≤ w.heap.size + 1 + 1) := Lib.hid (by omega)
  go_enter Tryd.func11, Tryd.ntmps11
  go_upto_region 1 with fail
  change Code.wp _ _ _ _ ((((w.alloc (.cells #[.int .i64 st, .int .i64 0] 26)).alloc (.cells #[.int .i64 5, .int .i64 x, .int .i64 ho, .int .i64 c, .int .i64 s, .slice A n cc] 39)).alloc (.cells #[.int .i64 0, .int .i64 0] 26)))
  generalize ((w.alloc (.cells #[.int .i64 st, .int .i64 0] 26)).alloc (.cells #[.int .i64 5, .int .i64 x, .int .i64 ho, .int .i64 c, .int .i64 s, .slice A n cc] 39)).alloc (.cells #[.int .i64 0, .int .i64 0] 26) = W0 at *
  obtain ⟨⟨m0, m1⟩, ⟨e0, e1, e2, e3, e4, e5⟩, r0, r1, f0, f1⟩ := B0.out.cells
  have fm := B0.out.m.free 1
  go_upto_region 5 with fail
  clear fm
  have B1 := Lib.hid (B0.out.hold 0)
  clear B0 m0 m1 e0 e1 e2 e3 e4 e5 r0 r1 f0 f1
  generalize W0.setCell ⟨w.heap.size, 1, none⟩ (.int .i64 0) = W1 at *
  obtain ⟨⟨m0, m1⟩, ⟨e0, e1, e2, e3, e4, e5⟩, r0, r1, f0, f1⟩ := B1.out.cells
  go_upto_region 7 with (refine wpList_store_row rfl 39 _ _ rfl (w.heap.size + 1) #[.int .i64 7, .int .i64 0, .int .i64 0, .int .i64 1, .int .i64 3, .slice none 0 0] rfl rfl 39 _ B1.out.e (by kernel_rfl) rfl (by kernel_rfl) ?_)
  have B3 := Lib.hid (B1.out.event 7 0 0 1 3)
  clear m0 m1 e0 e1 e2 e3 e4 e5 r0 r1 f0 f1
  change Code.wp _ _ _ _ (World.setRow _ _ #[.int .i64 7, .int .i64 ((0 : Nat) : Int), .int .i64 0, .int .i64 ((1 : Nat) : Int), .int .i64 ((3 : Nat) : Int), .slice none 0 0])
  clear B1
  generalize World.setRow W1 (w.heap.size + 1) #[.int .i64 7, .int .i64 ((0 : Nat) : Int), .int .i64 0, .int .i64 ((1 : Nat) : Int), .int .i64 ((3 : Nat) : Int), .slice none 0 0] = W3 at *
  have B1 := Lib.hid B3.out
  clear B3
  obtain ⟨⟨m0, m1⟩, ⟨e0, e1, e2, e3, e4, e5⟩, r0, r1, f0, f1⟩ := B1.out.cells
  simp only [Int.cast_ofNat_Int] at e1 e3 e4
  have HC := Lib.hid (rs_early st 0 7 0 0 1 3 none 0 0 A n cc W3)
  go_upto_region 10 with fail
  go_wp2_with (go_at_call 59; refine (HC.out).mono ?_; rintro e w2 ⟨A2, n2, c2, rfl, hn2, ho2, hk2⟩; (have B2 := Lib.hid (B1.out.old hk2)); (have H2 := Lib.hid (And.intro hn2 (ow_weak ho2 B1.out.k.size))); (obtain ⟨-, -, r0', r1', f0', f1'⟩ := B2.out.cells); clear hn2 ho2 hk2)
  rw [HP.out]
  refine bodyPost_ret (ret_machR rfl _ _ (w.heap.size + 1 + 1) _ _ _ rfl rfl (fin_blkR B2.out.r)) rfl ?_
  exact rr_own H2.out.1 H2.out.2 B2.out.r B2.out.k HG.out
set_option maxRecDepth 100000 in
set_option maxHeartbeats 16000000 in
theorem rs_do_lt4_w2 (st : Nat) (ho : Int) (c s : Nat) (A : Option Addr) (n cc : Nat) (w : World) (i1 : (1 : Int) ≤ (st : Int)) (i4 : (st : Int) < 4) (hh : ho < 0) :
    Calls Tryd.prog 11 #[.agg #[.int .i64 st, .int .i64 0], .agg #[.int .i64 5, .int .i64 1, .int .i64 ho, .int .i64 c, .int .i64 s, .slice A n cc]] w fun e w' => RR (.slice A n cc) w w' e (Sm.step ⟨st, 0⟩ ⟨5, 1, ho, c, s⟩) := by
  have HP : Hid (Sm.step ⟨st, 0⟩ ⟨5, 1, ho, c, s⟩ = Sm.early ⟨st, 0⟩ 7 0) := Lib.hid (by
    have hb : ho < 0 ∨ ho = 1 ∨ ho = 2 ∨ 65535 < ho := by omega
    simp only [Sm.step, if_true, Sm.wrong, hb]
    have h4 : st < 4 := by omega
    by_cases h1 : st = 1 <;> simp [Sm.early, h1, h4])
  have B0 : Hid (Bxr w (((w.alloc (.cells #[.int .i64 st, .int .i64 0] 26)).alloc (.cells #[.int .i64 5, .int .i64 1, .int .i64 ho, .int .i64 c, .int .i64 s, .slice A n cc] 39)).alloc (.cells #[.int .i64 0, .int .i64 0] 26)) st 0 5 ho 1 c s A n cc) := Lib.hid Bxr.make
  have HG : Hid (w.heap.size ≤ w.heap.size + 1 + 1) := Lib.hid (by omega)
  go_enter Tryd.func11, Tryd.ntmps11
  go_upto_region 1 with fail
  change Code.wp _ _ _ _ ((((w.alloc (.cells #[.int .i64 st, .int .i64 0] 26)).alloc (.cells #[.int .i64 5, .int .i64 1, .int .i64 ho, .int .i64 c, .int .i64 s, .slice A n cc] 39)).alloc (.cells #[.int .i64 0, .int .i64 0] 26)))
  generalize ((w.alloc (.cells #[.int .i64 st, .int .i64 0] 26)).alloc (.cells #[.int .i64 5, .int .i64 1, .int .i64 ho, .int .i64 c, .int .i64 s, .slice A n cc] 39)).alloc (.cells #[.int .i64 0, .int .i64 0] 26) = W0 at *
  obtain ⟨⟨m0, m1⟩, ⟨e0, e1, e2, e3, e4, e5⟩, r0, r1, f0, f1⟩ := B0.out.cells
  have fm := B0.out.m.free 1
  go_upto_region 5 with fail
  clear fm
  have B1 := Lib.hid (B0.out.hold 0)
  clear B0 m0 m1 e0 e1 e2 e3 e4 e5 r0 r1 f0 f1
  generalize W0.setCell ⟨w.heap.size, 1, none⟩ (.int .i64 0) = W1 at *
  obtain ⟨⟨m0, m1⟩, ⟨e0, e1, e2, e3, e4, e5⟩, r0, r1, f0, f1⟩ := B1.out.cells
  go_upto_region 9 with (refine wpList_store_row rfl 39 _ _ rfl (w.heap.size + 1) #[.int .i64 7, .int .i64 0, .int .i64 0, .int .i64 2, .int .i64 6, .slice none 0 0] rfl rfl 39 _ B1.out.e (by kernel_rfl) rfl (by kernel_rfl) ?_)
  have B3 := Lib.hid (B1.out.event 7 0 0 2 6)
  clear m0 m1 e0 e1 e2 e3 e4 e5 r0 r1 f0 f1
  change Code.wp _ _ _ _ (World.setRow _ _ #[.int .i64 7, .int .i64 ((0 : Nat) : Int), .int .i64 0, .int .i64 ((2 : Nat) : Int), .int .i64 ((6 : Nat) : Int), .slice none 0 0])
  clear B1
  generalize World.setRow W1 (w.heap.size + 1) #[.int .i64 7, .int .i64 ((0 : Nat) : Int), .int .i64 0, .int .i64 ((2 : Nat) : Int), .int .i64 ((6 : Nat) : Int), .slice none 0 0] = W3 at *
  have B1 := Lib.hid B3.out
  clear B3
  obtain ⟨⟨m0, m1⟩, ⟨e0, e1, e2, e3, e4, e5⟩, r0, r1, f0, f1⟩ := B1.out.cells
  simp only [Int.cast_ofNat_Int] at e1 e3 e4
  have HC := Lib.hid (rs_early st 0 7 0 0 2 6 none 0 0 A n cc W3)
  go_upto_region 10 with fail
  go_wp2_with (go_at_call 59; refine (HC.out).mono ?_; rintro e w2 ⟨A2, n2, c2, rfl, hn2, ho2, hk2⟩; (have B2 := Lib.hid (B1.out.old hk2)); (have H2 := Lib.hid (And.intro hn2 (ow_weak ho2 B1.out.k.size))); (obtain ⟨-, -, r0', r1', f0', f1'⟩ := B2.out.cells); clear hn2 ho2 hk2)
  rw [HP.out]
  refine bodyPost_ret (ret_machR rfl _ _ (w.heap.size + 1 + 1) _ _ _ rfl rfl (fin_blkR B2.out.r)) rfl ?_
  exact rr_own H2.out.1 H2.out.2 B2.out.r B2.out.k HG.out
set_option maxRecDepth 100000 in
set_option maxHeartbeats 16000000 in
theorem rs_do_lt4_w3 (st : Nat) (ho : Int) (c s : Nat) (A : Option Addr) (n cc : Nat) (w : World) (i1 : (1 : Int) ≤ (st : Int)) (i4 : (st : Int) < 4) (hh0 : 0 ≤ ho) (hh1 : (ho == 1) = false) (hh2 : (ho == 2) = false) (hh : 65535 < ho) :
    Calls Tryd.prog 11 #[.agg #[.int .i64 st, .int .i64 0], .agg #[.int .i64 5, .int .i64 1, .int .i64 ho, .int .i64 c, .int .i64 s, .slice A n cc]] w fun e w' => RR (.slice A n cc) w w' e (Sm.step ⟨st, 0⟩ ⟨5, 1, ho, c, s⟩) := by
  have HP : Hid (Sm.step ⟨st, 0⟩ ⟨5, 1, ho, c, s⟩ = Sm.early ⟨st, 0⟩ 7 0) := Lib.hid (by
    have hb : ho < 0 ∨ ho = 1 ∨ ho = 2 ∨ 65535 < ho := by omega
    simp only [Sm.step, if_true, Sm.wrong, hb]
    have h4 : st < 4 := by omega
    by_cases h1 : st = 1 <;> simp [Sm.early, h1, h4])
  have B0 : Hid (Bxr w (((w.alloc (.cells #[.int .i64 st, .int .i64 0] 26)).alloc (.cells #[.int .i64 5, .int .i64 1, .int .i64 ho, .int .i64 c, .int .i64 s, .slice A n cc] 39)).alloc (.cells #[.int .i64 0, .int .i64 0] 26)) st 0 5 ho 1 c s A n cc) := Lib.hid Bxr.make
  have HG : Hid (w.heap.size ≤ w.heap.size + 1 + 1) := Lib.hid (by omega)
  go_enter Tryd.func11, Tryd.ntmps11
  go_upto_region 1 with fail
  change Code.wp _ _ _ _ ((((w.alloc (.cells #[.int .i64 st, .int .i64 0] 26)).alloc (.cells #[.int .i64 5, .int .i64 1, .int .i64 ho, .int .i64 c, .int .i64 s, .slice A n cc] 39)).alloc (.cells #[.int .i64 0, .int .i64 0] 26)))
  generalize ((w.alloc (.cells #[.int .i64 st, .int .i64 0] 26)).alloc (.cells #[.int .i64 5, .int .i64 1, .int .i64 ho, .int .i64 c, .int .i64 s, .slice A n cc] 39)).alloc (.cells #[.int .i64 0, .int .i64 0] 26) = W0 at *
  obtain ⟨⟨m0, m1⟩, ⟨e0, e1, e2, e3, e4, e5⟩, r0, r1, f0, f1⟩ := B0.out.cells
  have fm := B0.out.m.free 1
  go_upto_region 5 with fail
  clear fm
  have B1 := Lib.hid (B0.out.hold 0)
  clear B0 m0 m1 e0 e1 e2 e3 e4 e5 r0 r1 f0 f1
  generalize W0.setCell ⟨w.heap.size, 1, none⟩ (.int .i64 0) = W1 at *
  obtain ⟨⟨m0, m1⟩, ⟨e0, e1, e2, e3, e4, e5⟩, r0, r1, f0, f1⟩ := B1.out.cells
  go_upto_region 9 with (refine wpList_store_row rfl 39 _ _ rfl (w.heap.size + 1) #[.int .i64 7, .int .i64 0, .int .i64 0, .int .i64 2, .int .i64 6, .slice none 0 0] rfl rfl 39 _ B1.out.e (by kernel_rfl) rfl (by kernel_rfl) ?_)
  have B3 := Lib.hid (B1.out.event 7 0 0 2 6)
  clear m0 m1 e0 e1 e2 e3 e4 e5 r0 r1 f0 f1
  change Code.wp _ _ _ _ (World.setRow _ _ #[.int .i64 7, .int .i64 ((0 : Nat) : Int), .int .i64 0, .int .i64 ((2 : Nat) : Int), .int .i64 ((6 : Nat) : Int), .slice none 0 0])
  clear B1
  generalize World.setRow W1 (w.heap.size + 1) #[.int .i64 7, .int .i64 ((0 : Nat) : Int), .int .i64 0, .int .i64 ((2 : Nat) : Int), .int .i64 ((6 : Nat) : Int), .slice none 0 0] = W3 at *
  have B1 := Lib.hid B3.out
  clear B3
  obtain ⟨⟨m0, m1⟩, ⟨e0, e1, e2, e3, e4, e5⟩, r0, r1, f0, f1⟩ := B1.out.cells
  simp only [Int.cast_ofNat_Int] at e1 e3 e4
  have HC := Lib.hid (rs_early st 0 7 0 0 2 6 none 0 0 A n cc W3)
  go_upto_region 10 with fail
  go_wp2_with (go_at_call 59; refine (HC.out).mono ?_; rintro e w2 ⟨A2, n2, c2, rfl, hn2, ho2, hk2⟩; (have B2 := Lib.hid (B1.out.old hk2)); (have H2 := Lib.hid (And.intro hn2 (ow_weak ho2 B1.out.k.size))); (obtain ⟨-, -, r0', r1', f0', f1'⟩ := B2.out.cells); clear hn2 ho2 hk2)
  rw [HP.out]
  refine bodyPost_ret (ret_machR rfl _ _ (w.heap.size + 1 + 1) _ _ _ rfl rfl (fin_blkR B2.out.r)) rfl ?_
  exact rr_own H2.out.1 H2.out.2 B2.out.r B2.out.k HG.out
set_option maxRecDepth 100000 in
set_option maxHeartbeats 16000000 in
theorem rs_do_lt4_z1 (st : Nat) (c s : Nat) (A : Option Addr) (n cc : Nat) (w : World) (i1 : (1 : Int) ≤ (st : Int)) (i4 : (st : Int) < 4) :
    Calls Tryd.prog 11 #[.agg #[.int .i64 st, .int .i64 0], .agg #[.int .i64 5, .int .i64 1, .int .i64 1, .int .i64 c, .int .i64 s, .slice A n cc]] w fun e w' => RR (.slice A n cc) w w' e (Sm.step ⟨st, 0⟩ ⟨5, 1, 1, c, s⟩) := by
  have HP : Hid (Sm.step ⟨st, 0⟩ ⟨5, 1, 1, c, s⟩ = Sm.early ⟨st, 0⟩ 7 0) := Lib.hid (by
    simp only [Sm.step, if_true, Sm.wrong]
    have h4 : st < 4 := by omega
    by_cases h1 : st = 1 <;> simp [Sm.early, h1, h4])
  have B0 : Hid (Bxr w (((w.alloc (.cells #[.int .i64 st, .int .i64 0] 26)).alloc (.cells #[.int .i64 5, .int .i64 1, .int .i64 1, .int .i64 c, .int .i64 s, .slice A n cc] 39)).alloc (.cells #[.int .i64 0, .int .i64 0] 26)) st 0 5 1 1 c s A n cc) := Lib.hid Bxr.make
  have HG : Hid (w.heap.size ≤ w.heap.size + 1 + 1) := Lib.hid (by omega)
  go_enter Tryd.func11, Tryd.ntmps11
  go_upto_region 1 with fail
  change Code.wp _ _ _ _ ((((w.alloc (.cells #[.int .i64 st, .int .i64 0] 26)).alloc (.cells #[.int .i64 5, .int .i64 1, .int .i64 1, .int .i64 c, .int .i64 s, .slice A n cc] 39)).alloc (.cells #[.int .i64 0, .int .i64 0] 26)))
  generalize ((w.alloc (.cells #[.int .i64 st, .int .i64 0] 26)).alloc (.cells #[.int .i64 5, .int .i64 1, .int .i64 1, .int .i64 c, .int .i64 s, .slice A n cc] 39)).alloc (.cells #[.int .i64 0, .int .i64 0] 26) = W0 at *
  obtain ⟨⟨m0, m1⟩, ⟨e0, e1, e2, e3, e4, e5⟩, r0, r1, f0, f1⟩ := B0.out.cells
  have fm := B0.out.m.free 1
  go_upto_region 5 with fail
  clear fm
  have B1 := Lib.hid (B0.out.hold 0)
  clear B0 m0 m1 e0 e1 e2 e3 e4 e5 r0 r1 f0 f1
  generalize W0.setCell ⟨w.heap.size, 1, none⟩ (.int .i64 0) = W1 at *
  obtain ⟨⟨m0, m1⟩, ⟨e0, e1, e2, e3, e4, e5⟩, r0, r1, f0, f1⟩ := B1.out.cells
  go_upto_region 9 with (refine wpList_store_row rfl 39 _ _ rfl (w.heap.size + 1) #[.int .i64 7, .int .i64 0, .int .i64 0, .int .i64 2, .int .i64 6, .slice none 0 0] rfl rfl 39 _ B1.out.e (by kernel_rfl) rfl (by kernel_rfl) ?_)
  have B3 := Lib.hid (B1.out.event 7 0 0 2 6)
  clear m0 m1 e0 e1 e2 e3 e4 e5 r0 r1 f0 f1
  change Code.wp _ _ _ _ (World.setRow _ _ #[.int .i64 7, .int .i64 ((0 : Nat) : Int), .int .i64 0, .int .i64 ((2 : Nat) : Int), .int .i64 ((6 : Nat) : Int), .slice none 0 0])
  clear B1
  generalize World.setRow W1 (w.heap.size + 1) #[.int .i64 7, .int .i64 ((0 : Nat) : Int), .int .i64 0, .int .i64 ((2 : Nat) : Int), .int .i64 ((6 : Nat) : Int), .slice none 0 0] = W3 at *
  have B1 := Lib.hid B3.out
  clear B3
  obtain ⟨⟨m0, m1⟩, ⟨e0, e1, e2, e3, e4, e5⟩, r0, r1, f0, f1⟩ := B1.out.cells
  simp only [Int.cast_ofNat_Int] at e1 e3 e4
  have HC := Lib.hid (rs_early st 0 7 0 0 2 6 none 0 0 A n cc W3)
  go_upto_region 10 with fail
  go_wp2_with (go_at_call 59; refine (HC.out).mono ?_; rintro e w2 ⟨A2, n2, c2, rfl, hn2, ho2, hk2⟩; (have B2 := Lib.hid (B1.out.old hk2)); (have H2 := Lib.hid (And.intro hn2 (ow_weak ho2 B1.out.k.size))); (obtain ⟨-, -, r0', r1', f0', f1'⟩ := B2.out.cells); clear hn2 ho2 hk2)
  rw [HP.out]
  refine bodyPost_ret (ret_machR rfl _ _ (w.heap.size + 1 + 1) _ _ _ rfl rfl (fin_blkR B2.out.r)) rfl ?_
  exact rr_own H2.out.1 H2.out.2 B2.out.r B2.out.k HG.out
set_option maxRecDepth 100000 in
set_option maxHeartbeats 16000000 in
theorem rs_do_lt4_z2 (st : Nat) (c s : Nat) (A : Option Addr) (n cc : Nat) (w : World) (i1 : (1 : Int) ≤ (st : Int)) (i4 : (st : Int) < 4) :
    Calls Tryd.prog 11 #[.agg #[.int .i64 st, .int .i64 0], .agg #[.int .i64 5, .int .i64 1, .int .i64 2, .int .i64 c, .int .i64 s, .slice A n cc]] w fun e w' => RR (.slice A n cc) w w' e (Sm.step ⟨st, 0⟩ ⟨5, 1, 2, c, s⟩) := by
  have HP : Hid (Sm.step ⟨st, 0⟩ ⟨5, 1, 2, c, s⟩ = Sm.early ⟨st, 0⟩ 7 0) := Lib.hid (by
    simp only [Sm.step, if_true, Sm.wrong]
    have h4 : st < 4 := by omega
    by_cases h1 : st = 1 <;> simp [Sm.early, h1, h4])
  have B0 : Hid (Bxr w (((w.alloc (.cells #[.int .i64 st, .int .i64 0] 26)).alloc (.cells #[.int .i64 5, .int .i64 1, .int .i64 2, .int .i64 c, .int .i64 s, .slice A n cc] 39)).alloc (.cells #[.int .i64 0, .int .i64 0] 26)) st 0 5 2 1 c s A n cc) := Lib.hid Bxr.make
  have HG : Hid (w.heap.size ≤ w.heap.size + 1 + 1) := Lib.hid (by omega)
  go_enter Tryd.func11, Tryd.ntmps11
  go_upto_region 1 with fail
  change Code.wp _ _ _ _ ((((w.alloc (.cells #[.int .i64 st, .int .i64 0] 26)).alloc (.cells #[.int .i64 5, .int .i64 1, .int .i64 2, .int .i64 c, .int .i64 s, .slice A n cc] 39)).alloc (.cells #[.int .i64 0, .int .i64 0] 26)))
  generalize ((w.alloc (.cells #[.int .i64 st, .int .i64 0] 26)).alloc (.cells #[.int .i64 5, .int .i64 1, .int .i64 2, .int .i64 c, .int .i64 s, .slice A n cc] 39)).alloc (.cells #[.int .i64 0, .int .i64 0] 26) = W0 at *
  obtain ⟨⟨m0, m1⟩, ⟨e0, e1, e2, e3, e4, e5⟩, r0, r1, f0, f1⟩ := B0.out.cells
  have fm := B0.out.m.free 1
  go_upto_region 5 with fail
  clear fm
  have B1 := Lib.hid (B0.out.hold 0)
  clear B0 m0 m1 e0 e1 e2 e3 e4 e5 r0 r1 f0 f1
  generalize W0.setCell ⟨w.heap.size, 1, none⟩ (.int .i64 0) = W1 at *
  obtain ⟨⟨m0, m1⟩, ⟨e0, e1, e2, e3, e4, e5⟩, r0, r1, f0, f1⟩ := B1.out.cells
  go_upto_region 9 with (refine wpList_store_row rfl 39 _ _ rfl (w.heap.size + 1) #[.int .i64 7, .int .i64 0, .int .i64 0, .int .i64 2, .int .i64 6, .slice none 0 0] rfl rfl 39 _ B1.out.e (by kernel_rfl) rfl (by kernel_rfl) ?_)
  have B3 := Lib.hid (B1.out.event 7 0 0 2 6)
  clear m0 m1 e0 e1 e2 e3 e4 e5 r0 r1 f0 f1
  change Code.wp _ _ _ _ (World.setRow _ _ #[.int .i64 7, .int .i64 ((0 : Nat) : Int), .int .i64 0, .int .i64 ((2 : Nat) : Int), .int .i64 ((6 : Nat) : Int), .slice none 0 0])
  clear B1
  generalize World.setRow W1 (w.heap.size + 1) #[.int .i64 7, .int .i64 ((0 : Nat) : Int), .int .i64 0, .int .i64 ((2 : Nat) : Int), .int .i64 ((6 : Nat) : Int), .slice none 0 0] = W3 at *
  have B1 := Lib.hid B3.out
  clear B3
  obtain ⟨⟨m0, m1⟩, ⟨e0, e1, e2, e3, e4, e5⟩, r0, r1, f0, f1⟩ := B1.out.cells
  simp only [Int.cast_ofNat_Int] at e1 e3 e4
  have HC := Lib.hid (rs_early st 0 7 0 0 2 6 none 0 0 A n cc W3)
  go_upto_region 10 with fail
  go_wp2_with (go_at_call 59; refine (HC.out).mono ?_; rintro e w2 ⟨A2, n2, c2, rfl, hn2, ho2, hk2⟩; (have B2 := Lib.hid (B1.out.old hk2)); (have H2 := Lib.hid (And.intro hn2 (ow_weak ho2 B1.out.k.size))); (obtain ⟨-, -, r0', r1', f0', f1'⟩ := B2.out.cells); clear hn2 ho2 hk2)
  rw [HP.out]
  refine bodyPost_ret (ret_machR rfl _ _ (w.heap.size + 1 + 1) _ _ _ rfl rfl (fin_blkR B2.out.r)) rfl ?_
  exact rr_own H2.out.1 H2.out.2 B2.out.r B2.out.k HG.out
set_option maxRecDepth 100000 in
set_option maxHeartbeats 16000000 in
theorem rs_do_eq4_w0 (x : Nat) (ho : Int) (c s : Nat) (A : Option Addr) (n cc : Nat) (w : World) (hx : (x : Int) < 1) :
    Calls Tryd.prog 11 #[.agg #[.int .i64 4, .int .i64 0], .agg #[.int .i64 5, .int .i64 x, .int .i64 ho, .int .i64 c, .int .i64 s, .slice A n cc]] w fun e w' => RR (.slice A n cc) w w' e (Sm.step ⟨4, 0⟩ ⟨5, x, ho, c, s⟩) := by
  have HP : Hid (Sm.step ⟨4, 0⟩ ⟨5, x, ho, c, s⟩ = Sm.ends 4 (decide ((7 : Int) = 2)) 1 3 false) := Lib.hid (by
    have hx : x < 1 := by omega
    simp only [Sm.step, if_true, Sm.wrong, hx, true_or]
    simp)
  have B0 : Hid (Bxr w (((w.alloc (.cells #[.int .i64 4, .int .i64 0] 26)).alloc (.cells #[.int .i64 5, .int .i64 x, .int .i64 ho, .int .i64 c, .int .i64 s, .slice A n cc] 39)).alloc (.cells #[.int .i64 0, .int .i64 0] 26)) 4 0 5 ho x c s A n cc) := Lib.hid Bxr.make
  have HG : Hid (w.heap.size ≤ w.heap.size + 1 + 1) := Lib.hid (by omega)
  go_enter Tryd.func11, Tryd.ntmps11
  go_upto_region 1 with fail
  change Code.wp _ _ _ _ ((((w.alloc (.cells #[.int .i64 4, .int .i64 0] 26)).alloc (.cells #[.int .i64 5, .int .i64 x, .int .i64 ho, .int .i64 c, .int .i64 s, .slice A n cc] 39)).alloc (.cells #[.int .i64 0, .int .i64 0] 26)))
  generalize ((w.alloc (.cells #[.int .i64 4, .int .i64 0] 26)).alloc (.cells #[.int .i64 5, .int .i64 x, .int .i64 ho, .int .i64 c, .int .i64 s, .slice A n cc] 39)).alloc (.cells #[.int .i64 0, .int .i64 0] 26) = W0 at *
  obtain ⟨⟨m0, m1⟩, ⟨e0, e1, e2, e3, e4, e5⟩, r0, r1, f0, f1⟩ := B0.out.cells
  have fm := B0.out.m.free 1
  go_upto_region 5 with fail
  clear fm
  have B1 := Lib.hid (B0.out.hold 0)
  clear B0 m0 m1 e0 e1 e2 e3 e4 e5 r0 r1 f0 f1
  generalize W0.setCell ⟨w.heap.size, 1, none⟩ (.int .i64 0) = W1 at *
  obtain ⟨⟨m0, m1⟩, ⟨e0, e1, e2, e3, e4, e5⟩, r0, r1, f0, f1⟩ := B1.out.cells
  go_upto_region 7 with (refine wpList_store_row rfl 39 _ _ rfl (w.heap.size + 1) #[.int .i64 7, .int .i64 0, .int .i64 0, .int .i64 1, .int .i64 3, .slice none 0 0] rfl rfl 39 _ B1.out.e (by kernel_rfl) rfl (by kernel_rfl) ?_)
  have B3 := Lib.hid (B1.out.event 7 0 0 1 3)
  clear m0 m1 e0 e1 e2 e3 e4 e5 r0 r1 f0 f1
  change Code.wp _ _ _ _ (World.setRow _ _ #[.int .i64 7, .int .i64 ((0 : Nat) : Int), .int .i64 0, .int .i64 ((1 : Nat) : Int), .int .i64 ((3 : Nat) : Int), .slice none 0 0])
  clear B1
  generalize World.setRow W1 (w.heap.size + 1) #[.int .i64 7, .int .i64 ((0 : Nat) : Int), .int .i64 0, .int .i64 ((1 : Nat) : Int), .int .i64 ((3 : Nat) : Int), .slice none 0 0] = W3 at *
  have B1 := Lib.hid B3.out
  clear B3
  obtain ⟨⟨m0, m1⟩, ⟨e0, e1, e2, e3, e4, e5⟩, r0, r1, f0, f1⟩ := B1.out.cells
  simp only [Int.cast_ofNat_Int] at e1 e3 e4
  have HC := Lib.hid (rs_ends 4 7 1 3 false A n cc none 0 0 rfl W3)
  go_upto_region 29 with fail
  go_wp2_with (go_at_call 60; refine (HC.out).mono ?_; rintro e w2 ⟨A2, n2, c2, rfl, hn2, ho2, hk2⟩; (have B2 := Lib.hid (B1.out.old hk2)); (have H2 := Lib.hid (And.intro hn2 (ow_weak ho2 B1.out.k.size))); (obtain ⟨-, -, r0', r1', f0', f1'⟩ := B2.out.cells); clear hn2 ho2 hk2)
  rw [HP.out]
  refine bodyPost_ret (ret_machR rfl _ _ (w.heap.size + 1 + 1) _ _ _ rfl rfl (fin_blkR B2.out.r)) rfl ?_
  exact rr_own H2.out.1 H2.out.2 B2.out.r B2.out.k HG.out
set_option maxRecDepth 100000 in
set_option maxHeartbeats 16000000 in
theorem rs_do_eq4_w1 (x : Nat) (ho : Int) (c s : Nat) (A : Option Addr) (n cc : Nat) (w : World) (hx : (5 : Int) < (x : Int)) (hx1 : (1 : Int) ≤ (x : Int)) :
    Calls Tryd.prog 11 #[.agg #[.int .i64 4, .int .i64 0], .agg #[.int .i64 5, .int .i64 x, .int .i64 ho, .int .i64 c, .int .i64 s, .slice A n cc]] w fun e w' => RR (.slice A n cc) w w' e (Sm.step ⟨4, 0⟩ ⟨5, x, ho, c, s⟩) := by
  have HP : Hid (Sm.step ⟨4, 0⟩ ⟨5, x, ho, c, s⟩ = Sm.ends 4 (decide ((7 : Int) = 2)) 1 3 false) := Lib.hid (by
    have hx : 5 < x := by omega
    simp only [Sm.step, if_true, Sm.wrong, hx, or_true]
    simp)
  have B0 : Hid (Bxr w (((w.alloc (.cells #[.int .i64 4, .int .i64 0] 26)).alloc (.cells #[.int .i64 5, .int .i64 x, .int .i64 ho, .int .i64 c, .int .i64 s, .slice A n cc] 39)).alloc (.cells #[.int .i64 0, .int .i64 0] 26)) 4 0 5 ho x c s A n cc) := Lib.hid Bxr.make
  have HG : Hid (w.heap.size ≤ w.heap.size + 1 + 1) := Lib.hid (by omega)
  go_enter Tryd.func11, Tryd.ntmps11
  go_upto_region 1 with fail
  change Code.wp _ _ _ _ ((((w.alloc (.cells #[.int .i64 4, .int .i64 0] 26)).alloc (.cells #[.int .i64 5, .int .i64 x, .int .i64 ho, .int .i64 c, .int .i64 s, .slice A n cc] 39)).alloc (.cells #[.int .i64 0, .int .i64 0] 26)))
  generalize ((w.alloc (.cells #[.int .i64 4, .int .i64 0] 26)).alloc (.cells #[.int .i64 5, .int .i64 x, .int .i64 ho, .int .i64 c, .int .i64 s, .slice A n cc] 39)).alloc (.cells #[.int .i64 0, .int .i64 0] 26) = W0 at *
  obtain ⟨⟨m0, m1⟩, ⟨e0, e1, e2, e3, e4, e5⟩, r0, r1, f0, f1⟩ := B0.out.cells
  have fm := B0.out.m.free 1
  go_upto_region 5 with fail
  clear fm
  have B1 := Lib.hid (B0.out.hold 0)
  clear B0 m0 m1 e0 e1 e2 e3 e4 e5 r0 r1 f0 f1
  generalize W0.setCell ⟨w.heap.size, 1, none⟩ (.int .i64 0) = W1 at *
  obtain ⟨⟨m0, m1⟩, ⟨e0, e1, e2, e3, e4, e5⟩, r0, r1, f0, f1⟩ := B1.out.cells
  go_upto_region 7 with (refine wpList_store_row rfl 39 _ _ rfl (w.heap.size + 1) #[.int .i64 7, .int .i64 0, .int .i64 0, .int .i64 1, .int .i64 3, .slice none 0 0] rfl rfl 39 _ B1.out.e (by kernel_rfl) rfl (by kernel_rfl) ?_)
  have B3 := Lib.hid (B1.out.event 7 0 0 1 3)
  clear m0 m1 e0 e1 e2 e3 e4 e5 r0 r1 f0 f1
  change Code.wp _ _ _ _ (World.setRow _ _ #[.int .i64 7, .int .i64 ((0 : Nat) : Int), .int .i64 0, .int .i64 ((1 : Nat) : Int), .int .i64 ((3 : Nat) : Int), .slice none 0 0])
  clear B1
  generalize World.setRow W1 (w.heap.size + 1) #[.int .i64 7, .int .i64 ((0 : Nat) : Int), .int .i64 0, .int .i64 ((1 : Nat) : Int), .int .i64 ((3 : Nat) : Int), .slice none 0 0] = W3 at *
  have B1 := Lib.hid B3.out
  clear B3
  obtain ⟨⟨m0, m1⟩, ⟨e0, e1, e2, e3, e4, e5⟩, r0, r1, f0, f1⟩ := B1.out.cells
  simp only [Int.cast_ofNat_Int] at e1 e3 e4
  have HC := Lib.hid (rs_ends 4 7 1 3 false A n cc none 0 0 rfl W3)
  go_upto_region 29 with fail
  go_wp2_with (go_at_call 60; refine (HC.out).mono ?_; rintro e w2 ⟨A2, n2, c2, rfl, hn2, ho2, hk2⟩; (have B2 := Lib.hid (B1.out.old hk2)); (have H2 := Lib.hid (And.intro hn2 (ow_weak ho2 B1.out.k.size))); (obtain ⟨-, -, r0', r1', f0', f1'⟩ := B2.out.cells); clear hn2 ho2 hk2)
  rw [HP.out]
  refine bodyPost_ret (ret_machR rfl _ _ (w.heap.size + 1 + 1) _ _ _ rfl rfl (fin_blkR B2.out.r)) rfl ?_
  exact rr_own H2.out.1 H2.out.2 B2.out.r B2.out.k HG.out
set_option maxRecDepth 100000 in
set_option maxHeartbeats 16000000 in
theorem rs_do_eq4_w2 (ho : Int) (c s : Nat) (A : Option Addr) (n cc : Nat) (w : World) (hh : ho < 0) :
    Calls Tryd.prog 11 #[.agg #[.int .i64 4, .int .i64 0], .agg #[.int .i64 5, .int .i64 1, .int .i64 ho, .int .i64 c, .int .i64 s, .slice A n cc]] w fun e w' => RR (.slice A n cc) w w' e (Sm.step ⟨4, 0⟩ ⟨5, 1, ho, c, s⟩) := by
  have HP : Hid (Sm.step ⟨4, 0⟩ ⟨5, 1, ho, c, s⟩ = Sm.ends 4 (decide ((7 : Int) = 2)) 2 6 false) := Lib.hid (by
    have hb : ho < 0 ∨ ho = 1 ∨ ho = 2 ∨ 65535 < ho := by omega
    simp only [Sm.step, if_true, Sm.wrong, hb]
    simp)
  have B0 : Hid (Bxr w (((w.alloc (.cells #[.int .i64 4, .int .i64 0] 26)).alloc (.cells #[.int .i64 5, .int .i64 1, .int .i64 ho, .int .i64 c, .int .i64 s, .slice A n cc] 39)).alloc (.cells #[.int .i64 0, .int .i64 0] 26)) 4 0 5 ho 1 c s A n cc) := Lib.hid Bxr.make
  have HG : Hid (w.heap.size ≤ w.heap.size + 1 + 1) := Lib.hid (by omega)
  go_enter Tryd.func11, Tryd.ntmps11
  go_upto_region 1 with fail
  change Code.wp _ _ _ _ ((((w.alloc (.cells #[.int .i64 4, .int .i64 0] 26)).alloc (.cells #[.int .i64 5, .int .i64 1, .int .i64 ho, .int .i64 c, .int .i64 s, .slice A n cc] 39)).alloc (.cells #[.int .i64 0, .int .i64 0] 26)))
  generalize ((w.alloc (.cells #[.int .i64 4, .int .i64 0] 26)).alloc (.cells #[.int .i64 5, .int .i64 1, .int .i64 ho, .int .i64 c, .int .i64 s, .slice A n cc] 39)).alloc (.cells #[.int .i64 0, .int .i64 0] 26) = W0 at *
  obtain ⟨⟨m0, m1⟩, ⟨e0, e1, e2, e3, e4, e5⟩, r0, r1, f0, f1⟩ := B0.out.cells
  have fm := B0.out.m.free 1
  go_upto_region 5 with fail
  clear fm
  have B1 := Lib.hid (B0.out.hold 0)
  clear B0 m0 m1 e0 e1 e2 e3 e4 e5 r0 r1 f0 f1
  generalize W0.setCell ⟨w.heap.size, 1, none⟩ (.int .i64 0) = W1 at *
  obtain ⟨⟨m0, m1⟩, ⟨e0, e1, e2, e3, e4, e5⟩, r0, r1, f0, f1⟩ := B1.out.cells
  go_upto_region 9 with (refine wpList_store_row rfl 39 _ _ rfl (w.heap.size + 1) #[.int .i64 7, .int .i64 0, .int .i64 0, .int .i64 2, .int .i64 6, .slice none 0 0] rfl rfl 39 _ B1.out.e (by kernel_rfl) rfl (by kernel_rfl) ?_)
  have B3 := Lib.hid (B1.out.event 7 0 0 2 6)
  clear m0 m1 e0 e1 e2 e3 e4 e5 r0 r1 f0 f1
  change Code.wp _ _ _ _ (World.setRow _ _ #[.int .i64 7, .int .i64 ((0 : Nat) : Int), .int .i64 0, .int .i64 ((2 : Nat) : Int), .int .i64 ((6 : Nat) : Int), .slice none 0 0])
  clear B1
  generalize World.setRow W1 (w.heap.size + 1) #[.int .i64 7, .int .i64 ((0 : Nat) : Int), .int .i64 0, .int .i64 ((2 : Nat) : Int), .int .i64 ((6 : Nat) : Int), .slice none 0 0] = W3 at *
  have B1 := Lib.hid B3.out
  clear B3
  obtain ⟨⟨m0, m1⟩, ⟨e0, e1, e2, e3, e4, e5⟩, r0, r1, f0, f1⟩ := B1.out.cells
  simp only [Int.cast_ofNat_Int] at e1 e3 e4
  have HC := Lib.hid (rs_ends 4 7 2 6 false A n cc none 0 0 rfl W3)
  go_upto_region 29 with fail
  go_wp2_with (go_at_call 60; refine (HC.out).mono ?_; rintro e w2 ⟨A2, n2, c2, rfl, hn2, ho2, hk2⟩; (have B2 := Lib.hid (B1.out.old hk2)); (have H2 := Lib.hid (And.intro hn2 (ow_weak ho2 B1.out.k.size))); (obtain ⟨-, -, r0', r1', f0', f1'⟩ := B2.out.cells); clear hn2 ho2 hk2)
  rw [HP.out]
  refine bodyPost_ret (ret_machR rfl _ _ (w.heap.size + 1 + 1) _ _ _ rfl rfl (fin_blkR B2.out.r)) rfl ?_
  exact rr_own H2.out.1 H2.out.2 B2.out.r B2.out.k HG.out
set_option maxRecDepth 100000 in
set_option maxHeartbeats 16000000 in
theorem rs_do_eq4_w3 (ho : Int) (c s : Nat) (A : Option Addr) (n cc : Nat) (w : World) (hh0 : 0 ≤ ho) (hh1 : (ho == 1) = false) (hh2 : (ho == 2) = false) (hh : 65535 < ho) :
    Calls Tryd.prog 11 #[.agg #[.int .i64 4, .int .i64 0], .agg #[.int .i64 5, .int .i64 1, .int .i64 ho, .int .i64 c, .int .i64 s, .slice A n cc]] w fun e w' => RR (.slice A n cc) w w' e (Sm.step ⟨4, 0⟩ ⟨5, 1, ho, c, s⟩) := by
  have HP : Hid (Sm.step ⟨4, 0⟩ ⟨5, 1, ho, c, s⟩ = Sm.ends 4 (decide ((7 : Int) = 2)) 2 6 false) := Lib.hid (by
    have hb : ho < 0 ∨ ho = 1 ∨ ho = 2 ∨ 65535 < ho := by omega
    simp only [Sm.step, if_true, Sm.wrong, hb]
    simp)
  have B0 : Hid (Bxr w (((w.alloc (.cells #[.int .i64 4, .int .i64 0] 26)).alloc (.cells #[.int .i64 5, .int .i64 1, .int .i64 ho, .int .i64 c, .int .i64 s, .slice A n cc] 39)).alloc (.cells #[.int .i64 0, .int .i64 0] 26)) 4 0 5 ho 1 c s A n cc) := Lib.hid Bxr.make
  have HG : Hid (w.heap.size ≤ w.heap.size + 1 + 1) := Lib.hid (by omega)
  go_enter Tryd.func11, Tryd.ntmps11
  go_upto_region 1 with fail
  change Code.wp _ _ _ _ ((((w.alloc (.cells #[.int .i64 4, .int .i64 0] 26)).alloc (.cells #[.int .i64 5, .int .i64 1, .int .i64 ho, .int .i64 c, .int .i64 s, .slice A n cc] 39)).alloc (.cells #[.int .i64 0, .int .i64 0] 26)))
  generalize ((w.alloc (.cells #[.int .i64 4, .int .i64 0] 26)).alloc (.cells #[.int .i64 5, .int .i64 1, .int .i64 ho, .int .i64 c, .int .i64 s, .slice A n cc] 39)).alloc (.cells #[.int .i64 0, .int .i64 0] 26) = W0 at *
  obtain ⟨⟨m0, m1⟩, ⟨e0, e1, e2, e3, e4, e5⟩, r0, r1, f0, f1⟩ := B0.out.cells
  have fm := B0.out.m.free 1
  go_upto_region 5 with fail
  clear fm
  have B1 := Lib.hid (B0.out.hold 0)
  clear B0 m0 m1 e0 e1 e2 e3 e4 e5 r0 r1 f0 f1
  generalize W0.setCell ⟨w.heap.size, 1, none⟩ (.int .i64 0) = W1 at *
  obtain ⟨⟨m0, m1⟩, ⟨e0, e1, e2, e3, e4, e5⟩, r0, r1, f0, f1⟩ := B1.out.cells
  go_upto_region 9 with (refine wpList_store_row rfl 39 _ _ rfl (w.heap.size + 1) #[.int .i64 7, .int .i64 0, .int .i64 0, .int .i64 2, .int .i64 6, .slice none 0 0] rfl rfl 39 _ B1.out.e (by kernel_rfl) rfl (by kernel_rfl) ?_)
  have B3 := Lib.hid (B1.out.event 7 0 0 2 6)
  clear m0 m1 e0 e1 e2 e3 e4 e5 r0 r1 f0 f1
  change Code.wp _ _ _ _ (World.setRow _ _ #[.int .i64 7, .int .i64 ((0 : Nat) : Int), .int .i64 0, .int .i64 ((2 : Nat) : Int), .int .i64 ((6 : Nat) : Int), .slice none 0 0])
  clear B1
  generalize World.setRow W1 (w.heap.size + 1) #[.int .i64 7, .int .i64 ((0 : Nat) : Int), .int .i64 0, .int .i64 ((2 : Nat) : Int), .int .i64 ((6 : Nat) : Int), .slice none 0 0] = W3 at *
  have B1 := Lib.hid B3.out
  clear B3
  obtain ⟨⟨m0, m1⟩, ⟨e0, e1, e2, e3, e4, e5⟩, r0, r1, f0, f1⟩ := B1.out.cells
  simp only [Int.cast_ofNat_Int] at e1 e3 e4
  have HC := Lib.hid (rs_ends 4 7 2 6 false A n cc none 0 0 rfl W3)
  go_upto_region 29 with fail
  go_wp2_with (go_at_call 60; refine (HC.out).mono ?_; rintro e w2 ⟨A2, n2, c2, rfl, hn2, ho2, hk2⟩; (have B2 := Lib.hid (B1.out.old hk2)); (have H2 := Lib.hid (And.intro hn2 (ow_weak ho2 B1.out.k.size))); (obtain ⟨-, -, r0', r1', f0', f1'⟩ := B2.out.cells); clear hn2 ho2 hk2)
  rw [HP.out]
  refine bodyPost_ret (ret_machR rfl _ _ (w.heap.size + 1 + 1) _ _ _ rfl rfl (fin_blkR B2.out.r)) rfl ?_
  exact rr_own H2.out.1 H2.out.2 B2.out.r B2.out.k HG.out
set_option maxRecDepth 100000 in
set_option maxHeartbeats 16000000 in
theorem rs_do_eq4_z1 (c s : Nat) (A : Option Addr) (n cc : Nat) (w : World) :
    Calls Tryd.prog 11 #[.agg #[.int .i64 4, .int .i64 0], .agg #[.int .i64 5, .int .i64 1, .int .i64 1, .int .i64 c, .int .i64 s, .slice A n cc]] w fun e w' => RR (.slice A n cc) w w' e (Sm.step ⟨4, 0⟩ ⟨5, 1, 1, c, s⟩) := by
  have HP : Hid (Sm.step ⟨4, 0⟩ ⟨5, 1, 1, c, s⟩ = Sm.ends 4 (decide ((7 : Int) = 2)) 2 6 false) := Lib.hid (by
    simp only [Sm.step, if_true, Sm.wrong]
    simp)
  have B0 : Hid (Bxr w (((w.alloc (.cells #[.int .i64 4, .int .i64 0] 26)).alloc (.cells #[.int .i64 5, .int .i64 1, .int .i64 1, .int .i64 c, .int .i64 s, .slice A n cc] 39)).alloc (.cells #[.int .i64 0, .int .i64 0] 26)) 4 0 5 1 1 c s A n cc) := Lib.hid Bxr.make
  have HG : Hid (w.heap.size ≤ w.heap.size + 1 + 1) := Lib.hid (by omega)
  go_enter Tryd.func11, Tryd.ntmps11
  go_upto_region 1 with fail
  change Code.wp _ _ _ _ ((((w.alloc (.cells #[.int .i64 4, .int .i64 0] 26)).alloc (.cells #[.int .i64 5, .int .i64 1, .int .i64 1, .int .i64 c, .int .i64 s, .slice A n cc] 39)).alloc (.cells #[.int .i64 0, .int .i64 0] 26)))
  generalize ((w.alloc (.cells #[.int .i64 4, .int .i64 0] 26)).alloc (.cells #[.int .i64 5, .int .i64 1, .int .i64 1, .int .i64 c, .int .i64 s, .slice A n cc] 39)).alloc (.cells #[.int .i64 0, .int .i64 0] 26) = W0 at *
  obtain ⟨⟨m0, m1⟩, ⟨e0, e1, e2, e3, e4, e5⟩, r0, r1, f0, f1⟩ := B0.out.cells
  have fm := B0.out.m.free 1
  go_upto_region 5 with fail
  clear fm
  have B1 := Lib.hid (B0.out.hold 0)
  clear B0 m0 m1 e0 e1 e2 e3 e4 e5 r0 r1 f0 f1
  generalize W0.setCell ⟨w.heap.size, 1, none⟩ (.int .i64 0) = W1 at *
  obtain ⟨⟨m0, m1⟩, ⟨e0, e1, e2, e3, e4, e5⟩, r0, r1, f0, f1⟩ := B1.out.cells
  go_upto_region 9 with (refine wpList_store_row rfl 39 _ _ rfl (w.heap.size + 1) #[.int .i64 7, .int .i64 0, .int .i64 0, .int .i64 2, .int .i64 6, .slice none 0 0] rfl rfl 39 _ B1.out.e (by kernel_rfl) rfl (by kernel_rfl) ?_)
  have B3 := Lib.hid (B1.out.event 7 0 0 2 6)
  clear m0 m1 e0 e1 e2 e3 e4 e5 r0 r1 f0 f1
  change Code.wp _ _ _ _ (World.setRow _ _ #[.int .i64 7, .int .i64 ((0 : Nat) : Int), .int .i64 0, .int .i64 ((2 : Nat) : Int), .int .i64 ((6 : Nat) : Int), .slice none 0 0])
  clear B1
  generalize World.setRow W1 (w.heap.size + 1) #[.int .i64 7, .int .i64 ((0 : Nat) : Int), .int .i64 0, .int .i64 ((2 : Nat) : Int), .int .i64 ((6 : Nat) : Int), .slice none 0 0] = W3 at *
  have B1 := Lib.hid B3.out
  clear B3
  obtain ⟨⟨m0, m1⟩, ⟨e0, e1, e2, e3, e4, e5⟩, r0, r1, f0, f1⟩ := B1.out.cells
  simp only [Int.cast_ofNat_Int] at e1 e3 e4
  have HC := Lib.hid (rs_ends 4 7 2 6 false A n cc none 0 0 rfl W3)
  go_upto_region 29 with fail
  go_wp2_with (go_at_call 60; refine (HC.out).mono ?_; rintro e w2 ⟨A2, n2, c2, rfl, hn2, ho2, hk2⟩; (have B2 := Lib.hid (B1.out.old hk2)); (have H2 := Lib.hid (And.intro hn2 (ow_weak ho2 B1.out.k.size))); (obtain ⟨-, -, r0', r1', f0', f1'⟩ := B2.out.cells); clear hn2 ho2 hk2)
  rw [HP.out]
  refine bodyPost_ret (ret_machR rfl _ _ (w.heap.size + 1 + 1) _ _ _ rfl rfl (fin_blkR B2.out.r)) rfl ?_
  exact rr_own H2.out.1 H2.out.2 B2.out.r B2.out.k HG.out
set_option maxRecDepth 100000 in
set_option maxHeartbeats 16000000 in
theorem rs_do_eq4_z2 (c s : Nat) (A : Option Addr) (n cc : Nat) (w : World) :
    Calls Tryd.prog 11 #[.agg #[.int .i64 4, .int .i64 0], .agg #[.int .i64 5, .int .i64 1, .int .i64 2, .int .i64 c, .int .i64 s, .slice A n cc]] w fun e w' => RR (.slice A n cc) w w' e (Sm.step ⟨4, 0⟩ ⟨5, 1, 2, c, s⟩) := by
  have HP : Hid (Sm.step ⟨4, 0⟩ ⟨5, 1, 2, c, s⟩ = Sm.ends 4 (decide ((7 : Int) = 2)) 2 6 false) := Lib.hid (by
    simp only [Sm.step, if_true, Sm.wrong]
    simp)
  have B0 : Hid (Bxr w (((w.alloc (.cells #[.int .i64 4, .int .i64 0] 26)).alloc (.cells #[.int .i64 5, .int .i64 1, .int .i64 2, .int .i64 c, .int .i64 s, .slice A n cc] 39)).alloc (.cells #[.int .i64 0, .int .i64 0] 26)) 4 0 5 2 1 c s A n cc) := Lib.hid Bxr.make
  have HG : Hid (w.heap.size ≤ w.heap.size + 1 + 1) := Lib.hid (by omega)
  go_enter Tryd.func11, Tryd.ntmps11
  go_upto_region 1 with fail
  change Code.wp _ _ _ _ ((((w.alloc (.cells #[.int .i64 4, .int .i64 0] 26)).alloc (.cells #[.int .i64 5, .int .i64 1, .int .i64 2, .int .i64 c, .int .i64 s, .slice A n cc] 39)).alloc (.cells #[.int .i64 0, .int .i64 0] 26)))
  generalize ((w.alloc (.cells #[.int .i64 4, .int .i64 0] 26)).alloc (.cells #[.int .i64 5, .int .i64 1, .int .i64 2, .int .i64 c, .int .i64 s, .slice A n cc] 39)).alloc (.cells #[.int .i64 0, .int .i64 0] 26) = W0 at *
  obtain ⟨⟨m0, m1⟩, ⟨e0, e1, e2, e3, e4, e5⟩, r0, r1, f0, f1⟩ := B0.out.cells
  have fm := B0.out.m.free 1
  go_upto_region 5 with fail
  clear fm
  have B1 := Lib.hid (B0.out.hold 0)
  clear B0 m0 m1 e0 e1 e2 e3 e4 e5 r0 r1 f0 f1
  generalize W0.setCell ⟨w.heap.size, 1, none⟩ (.int .i64 0) = W1 at *
  obtain ⟨⟨m0, m1⟩, ⟨e0, e1, e2, e3, e4, e5⟩, r0, r1, f0, f1⟩ := B1.out.cells
  go_upto_region 9 with (refine wpList_store_row rfl 39 _ _ rfl (w.heap.size + 1) #[.int .i64 7, .int .i64 0, .int .i64 0, .int .i64 2, .int .i64 6, .slice none 0 0] rfl rfl 39 _ B1.out.e (by kernel_rfl) rfl (by kernel_rfl) ?_)
  have B3 := Lib.hid (B1.out.event 7 0 0 2 6)
  clear m0 m1 e0 e1 e2 e3 e4 e5 r0 r1 f0 f1
  change Code.wp _ _ _ _ (World.setRow _ _ #[.int .i64 7, .int .i64 ((0 : Nat) : Int), .int .i64 0, .int .i64 ((2 : Nat) : Int), .int .i64 ((6 : Nat) : Int), .slice none 0 0])
  clear B1
  generalize World.setRow W1 (w.heap.size + 1) #[.int .i64 7, .int .i64 ((0 : Nat) : Int), .int .i64 0, .int .i64 ((2 : Nat) : Int), .int .i64 ((6 : Nat) : Int), .slice none 0 0] = W3 at *
  have B1 := Lib.hid B3.out
  clear B3
  obtain ⟨⟨m0, m1⟩, ⟨e0, e1, e2, e3, e4, e5⟩, r0, r1, f0, f1⟩ := B1.out.cells
  simp only [Int.cast_ofNat_Int] at e1 e3 e4
  have HC := Lib.hid (rs_ends 4 7 2 6 false A n cc none 0 0 rfl W3)
  go_upto_region 29 with fail
  go_wp2_with (go_at_call 60; refine (HC.out).mono ?_; rintro e w2 ⟨A2, n2, c2, rfl, hn2, ho2, hk2⟩; (have B2 := Lib.hid (B1.out.old hk2)); (have H2 := Lib.hid (And.intro hn2 (ow_weak ho2 B1.out.k.size))); (obtain ⟨-, -, r0', r1', f0', f1'⟩ := B2.out.cells); clear hn2 ho2 hk2)
  rw [HP.out]
  refine bodyPost_ret (ret_machR rfl _ _ (w.heap.size + 1 + 1) _ _ _ rfl rfl (fin_blkR B2.out.r)) rfl ?_
  exact rr_own H2.out.1 H2.out.2 B2.out.r B2.out.k HG.out
set_option maxRecDepth 100000 in
set_option maxHeartbeats 16000000 in
theorem rs_do_ge5_w0 (st hd : Nat) (x : Nat) (ho : Int) (c s : Nat) (A : Option Addr) (n cc : Nat) (w : World) (i5 : (5 : Int) ≤ (st : Int)) (i6 : (st : Int) ≤ 6) (hx : (x : Int) < 1) :
    Calls Tryd.prog 11 #[.agg #[.int .i64 st, .int .i64 hd], .agg #[.int .i64 5, .int .i64 x, .int .i64 ho, .int .i64 c, .int .i64 s, .slice A n cc]] w fun e w' => RR (.slice A n cc) w w' e (Sm.step ⟨st, hd⟩ ⟨5, x, ho, c, s⟩) := by
  have HP : Hid (Sm.step ⟨st, hd⟩ ⟨5, x, ho, c, s⟩ = Sm.ends st (decide ((7 : Int) = 2)) 1 3 false) := Lib.hid (by
    have hx : x < 1 := by omega
    simp only [Sm.step, if_true, Sm.wrong, hx, true_or]
    have h4 : ¬ st < 4 := by omega
    simp [h4])
  have B0 : Hid (Bxr w (((w.alloc (.cells #[.int .i64 st, .int .i64 hd] 26)).alloc (.cells #[.int .i64 5, .int .i64 x, .int .i64 ho, .int .i64 c, .int .i64 s, .slice A n cc] 39)).alloc (.cells #[.int .i64 0, .int .i64 0] 26)) st hd 5 ho x c s A n cc) := Lib.hid Bxr.make
  have HG : Hid (w.heap.size ≤ w.heap.size + 1 + 1) := Lib.hid (by omega)
  go_enter Tryd.func11, Tryd.ntmps11
  go_upto_region 1 with fail
  change Code.wp _ _ _ _ ((((w.alloc (.cells #[.int .i64 st, .int .i64 hd] 26)).alloc (.cells #[.int .i64 5, .int .i64 x, .int .i64 ho, .int .i64 c, .int .i64 s, .slice A n cc] 39)).alloc (.cells #[.int .i64 0, .int .i64 0] 26)))
  generalize ((w.alloc (.cells #[.int .i64 st, .int .i64 hd] 26)).alloc (.cells #[.int .i64 5, .int .i64 x, .int .i64 ho, .int .i64 c, .int .i64 s, .slice A n cc] 39)).alloc (.cells #[.int .i64 0, .int .i64 0] 26) = W0 at *
  obtain ⟨⟨m0, m1⟩, ⟨e0, e1, e2, e3, e4, e5⟩, r0, r1, f0, f1⟩ := B0.out.cells
  have fm := B0.out.m.free 1
  go_upto_region 5 with fail
  clear fm
  have B1 := Lib.hid B0.out
  clear B0
  go_upto_region 7 with (refine wpList_store_row rfl 39 _ _ rfl (w.heap.size + 1) #[.int .i64 7, .int .i64 0, .int .i64 0, .int .i64 1, .int .i64 3, .slice none 0 0] rfl rfl 39 _ B1.out.e (by kernel_rfl) rfl (by kernel_rfl) ?_)
  have B3 := Lib.hid (B1.out.event 7 0 0 1 3)
  clear m0 m1 e0 e1 e2 e3 e4 e5 r0 r1 f0 f1
  change Code.wp _ _ _ _ (World.setRow _ _ #[.int .i64 7, .int .i64 ((0 : Nat) : Int), .int .i64 0, .int .i64 ((1 : Nat) : Int), .int .i64 ((3 : Nat) : Int), .slice none 0 0])
  clear B1
  generalize World.setRow W0 (w.heap.size + 1) #[.int .i64 7, .int .i64 ((0 : Nat) : Int), .int .i64 0, .int .i64 ((1 : Nat) : Int), .int .i64 ((3 : Nat) : Int), .slice none 0 0] = W3 at *
  have B1 := Lib.hid B3.out
  clear B3
  obtain ⟨⟨m0, m1⟩, ⟨e0, e1, e2, e3, e4, e5⟩, r0, r1, f0, f1⟩ := B1.out.cells
  simp only [Int.cast_ofNat_Int] at e1 e3 e4
  have HC := Lib.hid (rs_ends st 7 1 3 false A n cc none 0 0 rfl W3)
  go_upto_region 29 with fail
  go_wp2_with (go_at_call 60; refine (HC.out).mono ?_; rintro e w2 ⟨A2, n2, c2, rfl, hn2, ho2, hk2⟩; (have B2 := Lib.hid (B1.out.old hk2)); (have H2 := Lib.hid (And.intro hn2 (ow_weak ho2 B1.out.k.size))); (obtain ⟨-, -, r0', r1', f0', f1'⟩ := B2.out.cells); clear hn2 ho2 hk2)
  rw [HP.out]
  refine bodyPost_ret (ret_machR rfl _ _ (w.heap.size + 1 + 1) _ _ _ rfl rfl (fin_blkR B2.out.r)) rfl ?_
  exact rr_own H2.out.1 H2.out.2 B2.out.r B2.out.k HG.out
set_option maxRecDepth 100000 in
set_option maxHeartbeats 16000000 in
theorem rs_do_ge5_w1 (st hd : Nat) (x : Nat) (ho : Int) (c s : Nat) (A : Option Addr) (n cc : Nat) (w : World) (i5 : (5 : Int) ≤ (st : Int)) (i6 : (st : Int) ≤ 6) (hx : (5 : Int) < (x : Int)) (hx1 : (1 : Int) ≤ (x : Int)) :
    Calls Tryd.prog 11 #[.agg #[.int .i64 st, .int .i64 hd], .agg #[.int .i64 5, .int .i64 x, .int .i64 ho, .int .i64 c, .int .i64 s, .slice A n cc]] w fun e w' => RR (.slice A n cc) w w' e (Sm.step ⟨st, hd⟩ ⟨5, x, ho, c, s⟩) := by
  have HP : Hid (Sm.step ⟨st, hd⟩ ⟨5, x, ho, c, s⟩ = Sm.ends st (decide ((7 : Int) = 2)) 1 3 false) := Lib.hid (by
    have hx : 5 < x := by omega
    simp only [Sm.step, if_true, Sm.wrong, hx, or_true]
    have h4 : ¬ st < 4 := by omega
    simp [h4])
  have B0 : Hid (Bxr w (((w.alloc (.cells #[.int .i64 st, .int .i64 hd] 26)).alloc (.cells #[.int .i64 5, .int .i64 x, .int .i64 ho, .int .i64 c, .int .i64 s, .slice A n cc] 39)).alloc (.cells #[.int .i64 0, .int .i64 0] 26)) st hd 5 ho x c s A n cc) := Lib.hid Bxr.make
  have HG : Hid (w.heap.size ≤ w.heap.size + 1 + 1) := Lib.hid (by omega)
  go_enter Tryd.func11, Tryd.ntmps11
  go_upto_region 1 with fail
  change Code.wp _ _ _ _ ((((w.alloc (.cells #[.int .i64 st, .int .i64 hd] 26)).alloc (.cells #[.int .i64 5, .int .i64 x, .int .i64 ho, .int .i64 c, .int .i64 s, .slice A n cc] 39)).alloc (.cells #[.int .i64 0, .int .i64 0] 26)))
  generalize ((w.alloc (.cells #[.int .i64 st, .int .i64 hd] 26)).alloc (.cells #[.int .i64 5, .int .i64 x, .int .i64 ho, .int .i64 c, .int .i64 s, .slice A n cc] 39)).alloc (.cells #[.int .i64 0, .int .i64 0] 26) = W0 at *
  obtain ⟨⟨m0, m1⟩, ⟨e0, e1, e2, e3, e4, e5⟩, r0, r1, f0, f1⟩ := B0.out.cells
  have fm := B0.out.m.free 1
  go_upto_region 5 with fail
  clear fm
  have B1 := Lib.hid B0.out
  clear B0
  go_upto_region 7 with (refine wpList_store_row rfl 39 _ _ rfl (w.heap.size + 1) #[.int .i64 7, .int .i64 0, .int .i64 0, .int .i64 1, .int .i64 3, .slice none 0 0] rfl rfl 39 _ B1.out.e (by kernel_rfl) rfl (by kernel_rfl) ?_)
  have B3 := Lib.hid (B1.out.event 7 0 0 1 3)
  clear m0 m1 e0 e1 e2 e3 e4 e5 r0 r1 f0 f1
  change Code.wp _ _ _ _ (World.setRow _ _ #[.int .i64 7, .int .i64 ((0 : Nat) : Int), .int .i64 0, .int .i64 ((1 : Nat) : Int), .int .i64 ((3 : Nat) : Int), .slice none 0 0])
  clear B1
  generalize World.setRow W0 (w.heap.size + 1) #[.int .i64 7, .int .i64 ((0 : Nat) : Int), .int .i64 0, .int .i64 ((1 : Nat) : Int), .int .i64 ((3 : Nat) : Int), .slice none 0 0] = W3 at *
  have B1 := Lib.hid B3.out
  clear B3
  obtain ⟨⟨m0, m1⟩, ⟨e0, e1, e2, e3, e4, e5⟩, r0, r1, f0, f1⟩ := B1.out.cells
  simp only [Int.cast_ofNat_Int] at e1 e3 e4
  have HC := Lib.hid (rs_ends st 7 1 3 false A n cc none 0 0 rfl W3)
  go_upto_region 29 with fail
  go_wp2_with (go_at_call 60; refine (HC.out).mono ?_; rintro e w2 ⟨A2, n2, c2, rfl, hn2, ho2, hk2⟩; (have B2 := Lib.hid (B1.out.old hk2)); (have H2 := Lib.hid (And.intro hn2 (ow_weak ho2 B1.out.k.size))); (obtain ⟨-, -, r0', r1', f0', f1'⟩ := B2.out.cells); clear hn2 ho2 hk2)
  rw [HP.out]
  refine bodyPost_ret (ret_machR rfl _ _ (w.heap.size + 1 + 1) _ _ _ rfl rfl (fin_blkR B2.out.r)) rfl ?_
  exact rr_own H2.out.1 H2.out.2 B2.out.r B2.out.k HG.out
set_option maxRecDepth 100000 in
set_option maxHeartbeats 16000000 in
theorem rs_do_ge5_w2 (st hd : Nat) (ho : Int) (c s : Nat) (A : Option Addr) (n cc : Nat) (w : World) (i5 : (5 : Int) ≤ (st : Int)) (i6 : (st : Int) ≤ 6) (hh : ho < 0) :
    Calls Tryd.prog 11 #[.agg #[.int .i64 st, .int .i64 hd], .agg #[.int .i64 5, .int .i64 1, .int .i64 ho, .int .i64 c, .int .i64 s, .slice A n cc]] w fun e w' => RR (.slice A n cc) w w' e (Sm.step ⟨st, hd⟩ ⟨5, 1, ho, c, s⟩) := by
  have HP : Hid (Sm.step ⟨st, hd⟩ ⟨5, 1, ho, c, s⟩ = Sm.ends st (decide ((7 : Int) = 2)) 2 6 false) := Lib.hid (by
    have hb : ho < 0 ∨ ho = 1 ∨ ho = 2 ∨ 65535 < ho := by omega
    simp only [Sm.step, if_true, Sm.wrong, hb]
    have h4 : ¬ st < 4 := by omega
    simp [h4])
  have B0 : Hid (Bxr w (((w.alloc (.cells #[.int .i64 st, .int .i64 hd] 26)).alloc (.cells #[.int .i64 5, .int .i64 1, .int .i64 ho, .int .i64 c, .int .i64 s, .slice A n cc] 39)).alloc (.cells #[.int .i64 0, .int .i64 0] 26)) st hd 5 ho 1 c s A n cc) := Lib.hid Bxr.make
  have HG : Hid (w.heap.size ≤ w.heap.size + 1 + 1) := Lib.hid (by omega)
  go_enter Tryd.func11, Tryd.ntmps11
  go_upto_region 1 with fail
  change Code.wp _ _ _ _ ((((w.alloc (.cells #[.int .i64 st, .int .i64 hd] 26)).alloc (.cells #[.int .i64 5, .int .i64 1, .int .i64 ho, .int .i64 c, .int .i64 s, .slice A n cc] 39)).alloc (.cells #[.int .i64 0, .int .i64 0] 26)))
  generalize ((w.alloc (.cells #[.int .i64 st, .int .i64 hd] 26)).alloc (.cells #[.int .i64 5, .int .i64 1, .int .i64 ho, .int .i64 c, .int .i64 s, .slice A n cc] 39)).alloc (.cells #[.int .i64 0, .int .i64 0] 26) = W0 at *
  obtain ⟨⟨m0, m1⟩, ⟨e0, e1, e2, e3, e4, e5⟩, r0, r1, f0, f1⟩ := B0.out.cells
  have fm := B0.out.m.free 1
  go_upto_region 5 with fail
  clear fm
  have B1 := Lib.hid B0.out
  clear B0
  go_upto_region 9 with (refine wpList_store_row rfl 39 _ _ rfl (w.heap.size + 1) #[.int .i64 7, .int .i64 0, .int .i64 0, .int .i64 2, .int .i64 6, .slice none 0 0] rfl rfl 39 _ B1.out.e (by kernel_rfl) rfl (by kernel_rfl) ?_)
  have B3 := Lib.hid (B1.out.event 7 0 0 2 6)
  clear m0 m1 e0 e1 e2 e3 e4 e5 r0 r1 f0 f1
  change Code.wp _ _ _ _ (World.setRow _ _ #[.int .i64 7, .int .i64 ((0 : Nat) : Int), .int .i64 0, .int .i64 ((2 : Nat) : Int), .int .i64 ((6 : Nat) : Int), .slice none 0 0])
  clear B1
  generalize World.setRow W0 (w.heap.size + 1) #[.int .i64 7, .int .i64 ((0 : Nat) : Int), .int .i64 0, .int .i64 ((2 : Nat) : Int), .int .i64 ((6 : Nat) : Int), .slice none 0 0] = W3 at *
  have B1 := Lib.hid B3.out
  clear B3
  obtain ⟨⟨m0, m1⟩, ⟨e0, e1, e2, e3, e4, e5⟩, r0, r1, f0, f1⟩ := B1.out.cells
  simp only [Int.cast_ofNat_Int] at e1 e3 e4
  have HC := Lib.hid (rs_ends st 7 2 6 false A n cc none 0 0 rfl W3)
  go_upto_region 29 with fail
  go_wp2_with (go_at_call 60; refine (HC.out).mono ?_; rintro e w2 ⟨A2, n2, c2, rfl, hn2, ho2, hk2⟩; (have B2 := Lib.hid (B1.out.old hk2)); (have H2 := Lib.hid (And.intro hn2 (ow_weak ho2 B1.out.k.size))); (obtain ⟨-, -, r0', r1', f0', f1'⟩ := B2.out.cells); clear hn2 ho2 hk2)
  rw [HP.out]
  refine bodyPost_ret (ret_machR rfl _ _ (w.heap.size + 1 + 1) _ _ _ rfl rfl (fin_blkR B2.out.r)) rfl ?_
  exact rr_own H2.out.1 H2.out.2 B2.out.r B2.out.k HG.out
set_option maxRecDepth 100000 in
set_option maxHeartbeats 16000000 in
theorem rs_do_ge5_w3 (st hd : Nat) (ho : Int) (c s : Nat) (A : Option Addr) (n cc : Nat) (w : World) (i5 : (5 : Int) ≤ (st : Int)) (i6 : (st : Int) ≤ 6) (hh0 : 0 ≤ ho) (hh1 : (ho == 1) = false) (hh2 : (ho == 2) = false) (hh : 65535 < ho) :
    Calls Tryd.prog 11 #[.agg #[.int .i64 st, .int .i64 hd], .agg #[.int .i64 5, .int .i64 1, .int .i64 ho, .int .i64 c, .int .i64 s, .slice A n cc]] w fun e w' => RR (.slice A n cc) w w' e (Sm.step ⟨st, hd⟩ ⟨5, 1, ho, c, s⟩) := by
  have HP : Hid (Sm.step ⟨st, hd⟩ ⟨5, 1, ho, c, s⟩ = Sm.ends st (decide ((7 : Int) = 2)) 2 6 false) := Lib.hid (by
    have hb : ho < 0 ∨ ho = 1 ∨ ho = 2 ∨ 65535 < ho := by omega
    simp only [Sm.step, if_true, Sm.wrong, hb]
    have h4 : ¬ st < 4 := by omega
    simp [h4])
  have B0 : Hid (Bxr w (((w.alloc (.cells #[.int .i64 st, .int .i64 hd] 26)).alloc (.cells #[.int .i64 5, .int .i64 1, .int .i64 ho, .int .i64 c, .int .i64 s, .slice A n cc] 39)).alloc (.cells #[.int .i64 0, .int .i64 0] 26)) st hd 5 ho 1 c s A n cc) := Lib.hid Bxr.make
  have HG : Hid (w.heap.size ≤ w.heap.size + 1 + 1) := Lib.hid (by omega)
  go_enter Tryd.func11, Tryd.ntmps11
  go_upto_region 1 with fail
  change Code.wp _ _ _ _ ((((w.alloc (.cells #[.int .i64 st, .int .i64 hd] 26)).alloc (.cells #[.int .i64 5, .int .i64 1, .int .i64 ho, .int .i64 c, .int .i64 s, .slice A n cc] 39)).alloc (.cells #[.int .i64 0, .int .i64 0] 26)))
  generalize ((w.alloc (.cells #[.int .i64 st, .int .i64 hd] 26)).alloc (.cells #[.int .i64 5, .int .i64 1, .int .i64 ho, .int .i64 c, .int .i64 s, .slice A n cc] 39)).alloc (.cells #[.int .i64 0, .int .i64 0] 26) = W0 at *
  obtain ⟨⟨m0, m1⟩, ⟨e0, e1, e2, e3, e4, e5⟩, r0, r1, f0, f1⟩ := B0.out.cells
  have fm := B0.out.m.free 1
  go_upto_region 5 with fail
  clear fm
  have B1 := Lib.hid B0.out
  clear B0
  go_upto_region 9 with (refine wpList_store_row rfl 39 _ _ rfl (w.heap.size + 1) #[.int .i64 7, .int .i64 0, .int .i64 0, .int .i64 2, .int .i64 6, .slice none 0 0] rfl rfl 39 _ B1.out.e (by kernel_rfl) rfl (by kernel_rfl) ?_)
  have B3 := Lib.hid (B1.out.event 7 0 0 2 6)
  clear m0 m1 e0 e1 e2 e3 e4 e5 r0 r1 f0 f1
  change Code.wp _ _ _ _ (World.setRow _ _ #[.int .i64 7, .int .i64 ((0 : Nat) : Int), .int .i64 0, .int .i64 ((2 : Nat) : Int), .int .i64 ((6 : Nat) : Int), .slice none 0 0])
  clear B1
  generalize World.setRow W0 (w.heap.size + 1) #[.int .i64 7, .int .i64 ((0 : Nat) : Int), .int .i64 0, .int .i64 ((2 : Nat) : Int), .int .i64 ((6 : Nat) : Int), .slice none 0 0] = W3 at *
  have B1 := Lib.hid B3.out
  clear B3
  obtain ⟨⟨m0, m1⟩, ⟨e0, e1, e2, e3, e4, e5⟩, r0, r1, f0, f1⟩ := B1.out.cells
  simp only [Int.cast_ofNat_Int] at e1 e3 e4
  have HC := Lib.hid (rs_ends st 7 2 6 false A n cc none 0 0 rfl W3)
  go_upto_region 29 with fail
  go_wp2_with (go_at_call 60; refine (HC.out).mono ?_; rintro e w2 ⟨A2, n2, c2, rfl, hn2, ho2, hk2⟩; (have B2 := Lib.hid (B1.out.old hk2)); (have H2 := Lib.hid (And.intro hn2 (ow_weak ho2 B1.out.k.size))); (obtain ⟨-, -, r0', r1', f0', f1'⟩ := B2.out.cells); clear hn2 ho2 hk2)
  rw [HP.out]
  refine bodyPost_ret (ret_machR rfl _ _ (w.heap.size + 1 + 1) _ _ _ rfl rfl (fin_blkR B2.out.r)) rfl ?_
  exact rr_own H2.out.1 H2.out.2 B2.out.r B2.out.k HG.out
set_option maxRecDepth 100000 in
set_option maxHeartbeats 16000000 in
theorem rs_do_ge5_z1 (st hd : Nat) (c s : Nat) (A : Option Addr) (n cc : Nat) (w : World) (i5 : (5 : Int) ≤ (st : Int)) (i6 : (st : Int) ≤ 6) :
    Calls Tryd.prog 11 #[.agg #[.int .i64 st, .int .i64 hd], .agg #[.int .i64 5, .int .i64 1, .int .i64 1, .int .i64 c, .int .i64 s, .slice A n cc]] w fun e w' => RR (.slice A n cc) w w' e (Sm.step ⟨st, hd⟩ ⟨5, 1, 1, c, s⟩) := by
  have HP : Hid (Sm.step ⟨st, hd⟩ ⟨5, 1, 1, c, s⟩ = Sm.ends st (decide ((7 : Int) = 2)) 2 6 false) := Lib.hid (by
    simp only [Sm.step, if_true, Sm.wrong]
    have h4 : ¬ st < 4 := by omega
    simp [h4])
  have B0 : Hid (Bxr w (((w.alloc (.cells #[.int .i64 st, .int .i64 hd] 26)).alloc (.cells #[.int .i64 5, .int .i64 1, .int .i64 1, .int .i64 c, .int .i64 s, .slice A n cc] 39)).alloc (.cells #[.int .i64 0, .int .i64 0] 26)) st hd 5 1 1 c s A n cc) := Lib.hid Bxr.make
  have HG : Hid (w.heap.size ≤ w.heap.size + 1 + 1) := Lib.hid (by omega)
  go_enter Tryd.func11, Tryd.ntmps11
  go_upto_region 1 with fail
  change Code.wp _ _ _ _ ((((w.alloc (.cells #[.int .i64 st, .int .i64 hd] 26)).alloc (.cells #[.int .i64 5, .int .i64 1, .int .i64 1, .int .i64 c, .int .i64 s, .slice A n cc] 39)).alloc (.cells #[.int .i64 0, .int .i64 0] 26)))
  generalize ((w.alloc (.cells #[.int .i64 st, .int .i64 hd] 26)).alloc (.cells #[.int .i64 5, .int .i64 1, .int .i64 1, .int .i64 c, .int .i64 s, .slice A n cc] 39)).alloc (.cells #[.int .i64 0, .int .i64 0] 26) = W0 at *
  obtain ⟨⟨m0, m1⟩, ⟨e0, e1, e2, e3, e4, e5⟩, r0, r1, f0, f1⟩ := B0.out.cells
  have fm := B0.out.m.free 1
  go_upto_region 5 with fail
  clear fm
  have B1 := Lib.hid B0.out
  clear B0
  go_upto_region 9 with (refine wpList_store_row rfl 39 _ _ rfl (w.heap.size + 1) #[.int .i64 7, .int .i64 0, .int .i64 0, .int .i64 2, .int .i64 6, .slice none 0 0] rfl rfl 39 _ B1.out.e (by kernel_rfl) rfl (by kernel_rfl) ?_)
  have B3 := Lib.hid (B1.out.event 7 0 0 2 6)
  clear m0 m1 e0 e1 e2 e3 e4 e5 r0 r1 f0 f1
  change Code.wp _ _ _ _ (World.setRow _ _ #[.int .i64 7, .int .i64 ((0 : Nat) : Int), .int .i64 0, .int .i64 ((2 : Nat) : Int), .int .i64 ((6 : Nat) : Int), .slice none 0 0])
  clear B1
  generalize World.setRow W0 (w.heap.size + 1) #[.int .i64 7, .int .i64 ((0 : Nat) : Int), .int .i64 0, .int .i64 ((2 : Nat) : Int), .int .i64 ((6 : Nat) : Int), .slice none 0 0] = W3 at *
  have B1 := Lib.hid B3.out
  clear B3
  obtain ⟨⟨m0, m1⟩, ⟨e0, e1, e2, e3, e4, e5⟩, r0, r1, f0, f1⟩ := B1.out.cells
  simp only [Int.cast_ofNat_Int] at e1 e3 e4
  have HC := Lib.hid (rs_ends st 7 2 6 false A n cc none 0 0 rfl W3)
  go_upto_region 29 with fail
  go_wp2_with (go_at_call 60; refine (HC.out).mono ?_; rintro e w2 ⟨A2, n2, c2, rfl, hn2, ho2, hk2⟩; (have B2 := Lib.hid (B1.out.old hk2)); (have H2 := Lib.hid (And.intro hn2 (ow_weak ho2 B1.out.k.size))); (obtain ⟨-, -, r0', r1', f0', f1'⟩ := B2.out.cells); clear hn2 ho2 hk2)
  rw [HP.out]
  refine bodyPost_ret (ret_machR rfl _ _ (w.heap.size + 1 + 1) _ _ _ rfl rfl (fin_blkR B2.out.r)) rfl ?_
  exact rr_own H2.out.1 H2.out.2 B2.out.r B2.out.k HG.out
set_option maxRecDepth 100000 in
set_option maxHeartbeats 16000000 in
theorem rs_do_ge5_z2 (st hd : Nat) (c s : Nat) (A : Option Addr) (n cc : Nat) (w : World) (i5 : (5 : Int) ≤ (st : Int)) (i6 : (st : Int) ≤ 6) :
    Calls Tryd.prog 11 #[.agg #[.int .i64 st, .int .i64 hd], .agg #[.int .i64 5, .int .i64 1, .int .i64 2, .int .i64 c, .int .i64 s, .slice A n cc]] w fun e w' => RR (.slice A n cc) w w' e (Sm.step ⟨st, hd⟩ ⟨5, 1, 2, c, s⟩) := by
  have HP : Hid (Sm.step ⟨st, hd⟩ ⟨5, 1, 2, c, s⟩ = Sm.ends st (decide ((7 : Int) = 2)) 2 6 false) := Lib.hid (by
    simp only [Sm.step, if_true, Sm.wrong]
    have h4 : ¬ st < 4 := by omega
    simp [h4])
  have B0 : Hid (Bxr w (((w.alloc (.cells #[.int .i64 st, .int .i64 hd] 26)).alloc (.cells #[.int .i64 5, .int .i64 1, .int .i64 2, .int .i64 c, .int .i64 s, .slice A n cc] 39)).alloc (.cells #[.int .i64 0, .int .i64 0] 26)) st hd 5 2 1 c s A n cc) := Lib.hid Bxr.make
  have HG : Hid (w.heap.size ≤ w.heap.size + 1 + 1) := Lib.hid (by omega)
  go_enter Tryd.func11, Tryd.ntmps11
  go_upto_region 1 with fail
  change Code.wp _ _ _ _ ((((w.alloc (.cells #[.int .i64 st, .int .i64 hd] 26)).alloc (.cells #[.int .i64 5, .int .i64 1, .int .i64 2, .int .i64 c, .int .i64 s, .slice A n cc] 39)).alloc (.cells #[.int .i64 0, .int .i64 0] 26)))
  generalize ((w.alloc (.cells #[.int .i64 st, .int .i64 hd] 26)).alloc (.cells #[.int .i64 5, .int .i64 1, .int .i64 2, .int .i64 c, .int .i64 s, .slice A n cc] 39)).alloc (.cells #[.int .i64 0, .int .i64 0] 26) = W0 at *
  obtain ⟨⟨m0, m1⟩, ⟨e0, e1, e2, e3, e4, e5⟩, r0, r1, f0, f1⟩ := B0.out.cells
  have fm := B0.out.m.free 1
  go_upto_region 5 with fail
  clear fm
  have B1 := Lib.hid B0.out
  clear B0
  go_upto_region 9 with (refine wpList_store_row rfl 39 _ _ rfl (w.heap.size + 1) #[.int .i64 7, .int .i64 0, .int .i64 0, .int .i64 2, .int .i64 6, .slice none 0 0] rfl rfl 39 _ B1.out.e (by kernel_rfl) rfl (by kernel_rfl) ?_)
  have B3 := Lib.hid (B1.out.event 7 0 0 2 6)
  clear m0 m1 e0 e1 e2 e3 e4 e5 r0 r1 f0 f1
  change Code.wp _ _ _ _ (World.setRow _ _ #[.int .i64 7, .int .i64 ((0 : Nat) : Int), .int .i64 0, .int .i64 ((2 : Nat) : Int), .int .i64 ((6 : Nat) : Int), .slice none 0 0])
  clear B1
  generalize World.setRow W0 (w.heap.size + 1) #[.int .i64 7, .int .i64 ((0 : Nat) : Int), .int .i64 0, .int .i64 ((2 : Nat) : Int), .int .i64 ((6 : Nat) : Int), .slice none 0 0] = W3 at *
  have B1 := Lib.hid B3.out
  clear B3
  obtain ⟨⟨m0, m1⟩, ⟨e0, e1, e2, e3, e4, e5⟩, r0, r1, f0, f1⟩ := B1.out.cells
  simp only [Int.cast_ofNat_Int] at e1 e3 e4
  have HC := Lib.hid (rs_ends st 7 2 6 false A n cc none 0 0 rfl W3)
  go_upto_region 29 with fail
  go_wp2_with (go_at_call 60; refine (HC.out).mono ?_; rintro e w2 ⟨A2, n2, c2, rfl, hn2, ho2, hk2⟩; (have B2 := Lib.hid (B1.out.old hk2)); (have H2 := Lib.hid (And.intro hn2 (ow_weak ho2 B1.out.k.size))); (obtain ⟨-, -, r0', r1', f0', f1'⟩ := B2.out.cells); clear hn2 ho2 hk2)
  rw [HP.out]
  refine bodyPost_ret (ret_machR rfl _ _ (w.heap.size + 1 + 1) _ _ _ rfl rfl (fin_blkR B2.out.r)) rfl ?_
  exact rr_own H2.out.1 H2.out.2 B2.out.r B2.out.k HG.out
end Go.Proofs.YtembdobkgpojfaaDoor
