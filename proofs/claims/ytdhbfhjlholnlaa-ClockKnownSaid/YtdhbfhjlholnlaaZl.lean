
/-
  Clocks that New did not make; the law ClockKnown.
-/
import Derived.Test.YtdhbfhjlholnlaaZh
namespace Go.Proofs.Ytdhbfhjlholnlaa
open Go.RowKit

/-- No clock, or one that New did not make. -/
def Bad (w : World) (v : Value) : Prop := v = .pointer none ∨ ∃ z, v = .pointer (some ⟨z, 0, none⟩) ∧ w.cell? ⟨z, 0, none⟩ = some (.bool false)
theorem nk_is (v : Value) (w : World) (h : Bad w v) : Calls Try.prog 29 #[v] w fun r w' => r = .returned (.bool false) ∧ w = w' := by
  rcases h with rfl | ⟨z, rfl, h0⟩
  all_goals
    go_enter Try.func29, Try.ntmps29
    go_wp2
    go_ret
    exact ⟨rfl, rfl⟩
theorem nk_wrong (v : Value) (k : Int) (w : World) (h : Bad w v) : Calls Try.prog 30 #[v, .int .i64 k] w fun r w' => r = .returned (.int .i64 2) ∧ w = w' := by
  have HI := Lib.hid (nk_is v w h)
  clear h
  go_enter Try.func30, Try.ntmps30
  go_wp2_with (go_at_call 29; refine (HI.out).mono ?_; rintro e w' ⟨rfl, rfl⟩)
  go_ret
  exact ⟨rfl, rfl⟩
theorem nk_left (v : Value) (k : Int) (w : World) (h : Bad w v) : Calls Try.prog 20 #[v, .int .i64 k] w fun r w' => r = .returned (.tuple #[.int .i64 0, .bool false]) ∧ w = w' := by
  have HI := Lib.hid (nk_wrong v k w h)
  clear h
  go_enter Try.func20, Try.ntmps20
  go_wp2_with (go_at_call 30; refine (HI.out).mono ?_; rintro e w' ⟨rfl, rfl⟩)
  go_ret2
  exact ⟨rfl, rfl⟩
theorem nk_next (v : Value) (w : World) (h : Bad w v) : Calls Try.prog 22 #[v] w fun r w' => r = .returned (.tuple #[.int .i64 0, .int .i64 0, .bool false]) ∧ w = w' := by
  have HI := Lib.hid (nk_is v w h)
  clear h
  go_enter Try.func22, Try.ntmps22
  go_wp2_with (go_at_call 29; refine (HI.out).mono ?_; rintro e w' ⟨rfl, rfl⟩)
  go_ret3
  exact ⟨rfl, rfl⟩
theorem nk_go (v : Value) (u : Int) (w : World) (h : Bad w v) : Calls Try.prog 18 #[v, .int .i64 u] w fun r w' => r = .returned (.tuple #[.int .i64 0, .bool false]) ∧ w = w' := by
  have HI := Lib.hid (nk_is v w h)
  clear h
  go_enter Try.func18, Try.ntmps18
  go_wp2_with (go_at_call 29; refine (HI.out).mono ?_; rintro e w' ⟨rfl, rfl⟩)
  go_ret2
  exact ⟨rfl, rfl⟩
theorem nk_now (v : Value) (w : World) (h : Bad w v) : Calls Try.prog 13 #[v] w fun r w' => r = .returned (.int .i64 0) ∧ w = w' := by
  have HI := Lib.hid (nk_is v w h)
  clear h
  go_enter Try.func13, Try.ntmps13
  go_wp2_with (go_at_call 29; refine (HI.out).mono ?_; rintro e w' ⟨rfl, rfl⟩)
  go_ret
  exact ⟨rfl, rfl⟩
theorem nk_start (v : Value) (k n : Int) (w : World) (h : Bad w v) : Calls Try.prog 14 #[v, .int .i64 k, .int .i64 n] w fun r w' => r = .returned (.int .i64 2) ∧ w = w' := by
  have HI := Lib.hid (nk_wrong v k w h)
  clear h
  go_enter Try.func14, Try.ntmps14
  go_wp2_with (go_at_call 30; refine (HI.out).mono ?_; rintro e w' ⟨rfl, rfl⟩)
  go_ret
  exact ⟨rfl, rfl⟩
theorem nk_stop (v : Value) (k : Int) (w : World) (h : Bad w v) : Calls Try.prog 16 #[v, .int .i64 k] w fun r w' => r = .returned (.int .i64 2) ∧ w = w' := by
  have HI := Lib.hid (nk_wrong v k w h)
  clear h
  go_enter Try.func16, Try.ntmps16
  go_wp2_with (go_at_call 30; refine (HI.out).mono ?_; rintro e w' ⟨rfl, rfl⟩)
  go_ret
  exact ⟨rfl, rfl⟩
theorem nk_copy (v : Value) (w : World) (h : Bad w v) : Calls Try.prog 12 #[v] w fun r w' => r = .returned (.pointer none) ∧ w = w' := by
  have HI := Lib.hid (nk_is v w h)
  clear h
  go_enter Try.func12, Try.ntmps12
  go_wp2_with (go_at_call 29; refine (HI.out).mono ?_; rintro e w' ⟨rfl, rfl⟩)
  go_ret
  exact ⟨rfl, rfl⟩

theorem cl_left_at (p : Nat) (c : Ck.C) (k x : Int) (is : Bool) (he : (if Ck.tm k = true then (Ck.left c k.toNat).1 else 0) = x) (hi : (if Ck.tm k = true then (Ck.left c k.toNat).2 else false) = is) (w0 w : World) (h : Cl w0 w p c) :
    Calls Try.prog 20 #[.pointer (some ⟨p, 0, none⟩), .int .i64 k] w fun r w' => r = .returned (.tuple #[.int .i64 x, .bool is]) ∧ Cl w0 w' p c ∧ Kept Nothing w w' := by
  subst he hi
  exact (ck_left p c k h.good w h.at_).mono fun r w' ⟨hr, hk⟩ => ⟨hr, h.old hk, hk⟩
theorem cl_bad (p : Nat) (c : Ck.C) (k n : Int) (hk : ¬ (Ck.tm k = true ∧ 0 ≤ n)) (w0 w : World) (h : Cl w0 w p c) :
    Calls Try.prog 14 #[.pointer (some ⟨p, 0, none⟩), .int .i64 k, .int .i64 n] w fun r w' => r = .returned (.int .i64 1) ∧ w = w' :=
  (ck_start p c k n h.good w h.at_).mono fun _ _ hh => hh.2 hk
theorem cl_bads (p : Nat) (c : Ck.C) (k : Int) (hk : Ck.tm k = false) (w0 w : World) (h : Cl w0 w p c) :
    Calls Try.prog 16 #[.pointer (some ⟨p, 0, none⟩), .int .i64 k] w fun r w' => r = .returned (.int .i64 1) ∧ w = w' :=
  (ck_stop p c k w h.at_).mono fun _ _ hh => hh.2 hk
theorem new_bad (n : Int) (hn : ¬ (0 ≤ n ∧ n ≤ Ck.MT)) (w : World) : Calls Try.prog 9 #[.int .i64 n] w fun r w' => r = .returned (.tuple #[.pointer none, .int .i64 1]) ∧ w = w' :=
  (ck_new n w).mono fun _ _ hh => hh.2 hn
theorem agreed_at (a b x y : Int) (ha : a < 9223372036854775808) (hb : b < 9223372036854775808) (h : Ck.agreed a b = (x, y)) (w : World) :
    Calls Try.prog 24 #[.int .i64 a, .int .i64 b] w fun r w' => r = .returned (.tuple #[.int .i64 x, .int .i64 y]) ∧ w = w' := by
  have := ck_agreed a b ha hb w
  rwa [h] at this

set_option maxRecDepth 100000 in
set_option maxHeartbeats 4000000 in
theorem known_law (w : World) :
    Calls Try.prog 8 #[] w fun r w' => r = .returned (.bool true) ∧ Kept Nothing w w' := by
  go_enter Try.func8, Try.ntmps8
  have hz : Bad (w.alloc (.cells #[.bool false, .int .i64 0, .bool false, .int .i64 0, .bool false, .int .i64 0, .bool false, .int .i64 0, .bool false, .int .i64 0] 65)) (.pointer (some ⟨w.heap.size, 0, none⟩)) := .inr ⟨_, rfl, (Blk.fresh w 65 #[.bool false, .int .i64 0, .bool false, .int .i64 0, .bool false, .int .i64 0, .bool false, .int .i64 0, .bool false, .int .i64 0]).cell 0⟩
  have hn : Bad (w.alloc (.cells #[.bool false, .int .i64 0, .bool false, .int .i64 0, .bool false, .int .i64 0, .bool false, .int .i64 0, .bool false, .int .i64 0] 65)) (.pointer none) := .inl rfl
  have K0 := Lib.hid ((Kept.refl Nothing w).alloc (.cells #[.bool false, .int .i64 0, .bool false, .int .i64 0, .bool false, .int .i64 0, .bool false, .int .i64 0, .bool false, .int .i64 0] 65))
  have HZ := Lib.hid hz
  have HN := Lib.hid hn
  clear hz hn
  go_wp2_with fail
  refine (nk_left _ 0 _ HN.out).mono ?_
  rintro e w' ⟨rfl, rfl⟩
  go_wp2_with fail
  refine (nk_next _ _ HZ.out).mono ?_
  rintro e w' ⟨rfl, rfl⟩
  go_wp2_with fail
  refine (nk_go _ 5 _ HN.out).mono ?_
  rintro e w' ⟨rfl, rfl⟩
  go_wp2_with fail
  refine (nk_now _ _ HN.out).mono ?_
  rintro e w' ⟨rfl, rfl⟩
  go_wp2_with fail
  refine (nk_start _ 0 1 _ HN.out).mono ?_
  rintro e w' ⟨rfl, rfl⟩
  go_wp2_with fail
  refine (nk_stop _ 0 _ HZ.out).mono ?_
  rintro e w' ⟨rfl, rfl⟩
  go_wp2_with fail
  refine (nk_copy _ _ HN.out).mono ?_
  rintro e w' ⟨rfl, rfl⟩
  go_wp2_with fail
  refine (nk_now _ _ HZ.out).mono ?_
  rintro e w' ⟨rfl, rfl⟩
  go_wp2_with fail
  refine (new_bad (-1) (by decide) _).mono ?_
  rintro e w' ⟨rfl, rfl⟩
  go_wp2_with fail
  refine (new_bad 1099511627777 (by decide) _).mono ?_
  rintro e w' ⟨rfl, rfl⟩
  go_wp2_with fail
  refine (cl_new 1099511627774 (by decide) (by decide) w _ K0.out).mono ?_
  rintro e w1 ⟨p, rfl, hC, -, -⟩
  have C1 := Lib.hid hC
  clear hC HZ HN K0
  go_wp2_with fail
  refine (cl_bad p ⟨1099511627774, [none, none, none, none]⟩ 4 1 (by decide) w _ C1.out).mono ?_
  rintro e w' ⟨rfl, rfl⟩
  go_wp2_with fail
  refine (cl_bad p ⟨1099511627774, [none, none, none, none]⟩ (-1) 1 (by decide) w _ C1.out).mono ?_
  rintro e w' ⟨rfl, rfl⟩
  go_wp2_with fail
  refine (cl_bad p ⟨1099511627774, [none, none, none, none]⟩ 0 (-1) (by decide) w _ C1.out).mono ?_
  rintro e w' ⟨rfl, rfl⟩
  go_wp2_with fail
  refine (cl_bads p ⟨1099511627774, [none, none, none, none]⟩ 4 (by decide) w _ C1.out).mono ?_
  rintro e w' ⟨rfl, rfl⟩
  go_wp2_with fail
  refine (cl_start_at p ⟨1099511627774, [none, none, none, none]⟩ ⟨1099511627774, [none, none, none, some 1099511627776]⟩ 3 4611686018427387904 (by decide) (by decide) rfl w _ C1.out).mono ?_
  rintro e w2 ⟨rfl, hC, hk⟩
  have C1' := Lib.hid hC
  clear hC hk C1
  have C1 := C1'
  clear C1'
  go_wp2_with fail
  refine (cl_left_at p ⟨1099511627774, [none, none, none, some 1099511627776]⟩ 3 2 true rfl rfl w _ C1.out).mono ?_
  rintro e w3 ⟨rfl, hC, hk⟩
  have C1' := Lib.hid hC
  clear hC hk C1
  have C1 := C1'
  clear C1'
  go_wp2_with fail
  refine (cl_asks_at p ⟨1099511627774, [none, none, none, some 1099511627776]⟩ ⟨1099511627776, [none, none, none, none]⟩ 1099511627785 3 1099511627776 true (some 3) rfl rfl rfl rfl w _ C1.out).mono ?_
  rintro e w4 ⟨rfl, hC, hk⟩
  have C1' := Lib.hid hC
  clear hC hk C1
  have C1 := C1'
  clear C1'
  have E0 : Hid (Blk (w4.alloc (.cells #[.int .i64 3, .bool true, .int .i64 1099511627776] 57)) w4.heap.size 57 #[.int .i64 3, .bool true, .int .i64 1099511627776]) := Lib.hid (Blk.fresh w4 _ _)
  have NC0 := Lib.hid (show ¬ Only p w4.heap.size from fun (e : w4.heap.size = p) => by have := C1.out.lt; omega)
  have C1 := Lib.hid (C1.out.alloc (.cells #[.int .i64 3, .bool true, .int .i64 1099511627776] 57))
  go_wp2_with fail
  refine (cl_asks_at p ⟨1099511627776, [none, none, none, none]⟩ ⟨1099511627776, [none, none, none, none]⟩ 4611686018427387904 0 1099511627776 false none rfl rfl rfl rfl w _ C1.out).mono ?_
  rintro e w5 ⟨rfl, hC, hk⟩
  have C1' := Lib.hid hC
  have E0 := Lib.hid (E0.out.kept hk (NC0.out))
  clear hC hk C1
  have C1 := C1'
  clear C1'
  have E1 : Hid (Blk (w5.alloc (.cells #[.int .i64 0, .bool false, .int .i64 1099511627776] 57)) w5.heap.size 57 #[.int .i64 0, .bool false, .int .i64 1099511627776]) := Lib.hid (Blk.fresh w5 _ _)
  have NC1 := Lib.hid (show ¬ Only p w5.heap.size from fun (e : w5.heap.size = p) => by have := C1.out.lt; omega)
  have E0 := Lib.hid (E0.out.alloc (.cells #[.int .i64 0, .bool false, .int .i64 1099511627776] 57))
  have C1 := Lib.hid (C1.out.alloc (.cells #[.int .i64 0, .bool false, .int .i64 1099511627776] 57))
  go_wp2_with fail
  refine (cl_new 7 (by decide) (by decide) w _ C1.out.keep).mono ?_
  rintro e w6 ⟨q, rfl, hC, hq, hk⟩
  have D1 := Lib.hid hC
  have E0' := E0.out.lt
  have NDE0 := Lib.hid (show ¬ Only q (w4.heap.size) from fun (e : w4.heap.size = q) => by omega)
  have E0 := Lib.hid (E0.out.kept hk not_nothing)
  clear E0'
  have E1' := E1.out.lt
  have NDE1 := Lib.hid (show ¬ Only q (w5.heap.size) from fun (e : w5.heap.size = q) => by omega)
  have E1 := Lib.hid (E1.out.kept hk not_nothing)
  clear E1'
  clear hC hq hk C1
  go_wp2_with fail
  refine (cl_start_at q ⟨7, [none, none, none, none]⟩ ⟨7, [none, none, some 7, none]⟩ 2 0 (by decide) (by decide) rfl w _ D1.out).mono ?_
  rintro e w7 ⟨rfl, hC, hk⟩
  have D1' := Lib.hid hC
  have E0 := Lib.hid (E0.out.kept hk (NDE0.out))
  have E1 := Lib.hid (E1.out.kept hk (NDE1.out))
  clear hC hk D1
  have D1 := D1'
  clear D1'
  go_wp2_with fail
  refine (cl_asks_at q ⟨7, [none, none, some 7, none]⟩ ⟨7, [none, none, none, none]⟩ 0 2 7 true (some 2) rfl rfl rfl rfl w _ D1.out).mono ?_
  rintro e w8 ⟨rfl, hC, hk⟩
  have D1' := Lib.hid hC
  have E0 := Lib.hid (E0.out.kept hk (NDE0.out))
  have E1 := Lib.hid (E1.out.kept hk (NDE1.out))
  clear hC hk D1
  have D1 := D1'
  clear D1'
  have E2 : Hid (Blk (w8.alloc (.cells #[.int .i64 2, .bool true, .int .i64 7] 57)) w8.heap.size 57 #[.int .i64 2, .bool true, .int .i64 7]) := Lib.hid (Blk.fresh w8 _ _)
  have ND2 := Lib.hid (show ¬ Only q w8.heap.size from fun (e : w8.heap.size = q) => by have := D1.out.lt; omega)
  have E0 := Lib.hid (E0.out.alloc (.cells #[.int .i64 2, .bool true, .int .i64 7] 57))
  have E1 := Lib.hid (E1.out.alloc (.cells #[.int .i64 2, .bool true, .int .i64 7] 57))
  have D1 := Lib.hid (D1.out.alloc (.cells #[.int .i64 2, .bool true, .int .i64 7] 57))
  go_wp2_with fail
  refine (cl_asks_at q ⟨7, [none, none, none, none]⟩ ⟨7, [none, none, none, none]⟩ 3 0 7 false none rfl rfl rfl rfl w _ D1.out).mono ?_
  rintro e w9 ⟨rfl, hC, hk⟩
  have D1' := Lib.hid hC
  have E0 := Lib.hid (E0.out.kept hk (NDE0.out))
  have E1 := Lib.hid (E1.out.kept hk (NDE1.out))
  have E2 := Lib.hid (E2.out.kept hk (ND2.out))
  clear hC hk D1
  have D1 := D1'
  clear D1'
  have E3 : Hid (Blk (w9.alloc (.cells #[.int .i64 0, .bool false, .int .i64 7] 57)) w9.heap.size 57 #[.int .i64 0, .bool false, .int .i64 7]) := Lib.hid (Blk.fresh w9 _ _)
  have ND3 := Lib.hid (show ¬ Only q w9.heap.size from fun (e : w9.heap.size = q) => by have := D1.out.lt; omega)
  have E0 := Lib.hid (E0.out.alloc (.cells #[.int .i64 0, .bool false, .int .i64 7] 57))
  have E1 := Lib.hid (E1.out.alloc (.cells #[.int .i64 0, .bool false, .int .i64 7] 57))
  have E2 := Lib.hid (E2.out.alloc (.cells #[.int .i64 0, .bool false, .int .i64 7] 57))
  have D1 := Lib.hid (D1.out.alloc (.cells #[.int .i64 0, .bool false, .int .i64 7] 57))
  go_wp2_with fail
  refine (agreed_at 90 30 30 10 (by decide) (by decide) rfl _).mono ?_
  rintro e w' ⟨rfl, rfl⟩
  go_wp2_with fail
  refine (agreed_at 0 90 0 0 (by decide) (by decide) rfl _).mono ?_
  rintro e w' ⟨rfl, rfl⟩
  go_wp2_with fail
  refine (agreed_at 4 3 3 1 (by decide) (by decide) rfl _).mono ?_
  rintro e w' ⟨rfl, rfl⟩
  obtain ⟨x0, y0, z0⟩ := cells3k E0.out
  obtain ⟨x1, y1, z1⟩ := cells3k E1.out
  obtain ⟨x2, y2, z2⟩ := cells3k E2.out
  obtain ⟨x3, y3, z3⟩ := cells3k E3.out
  have HWK := Lib.hid ck_wakes
  go_wp2_with (go_at_call 11; refine (HWK.out _).mono ?_; rintro e w99 ⟨rfl, hk9⟩)
  go_ret
  exact ⟨rfl, D1.out.keep.trans hk9⟩
end Go.Proofs.Ytdhbfhjlholnlaa
