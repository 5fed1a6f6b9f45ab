
/-
  A law's own clock; what its calls make of it; the document's example (wakes).
-/
import Derived.Test.YtdhbfhjlholnlaaZg
namespace Go.Proofs.Ytdhbfhjlholnlaa
open Go.RowKit

/-- At block p, which w0 did not have, lies the clock c; what w0 had is as it was. -/
structure Cl (w0 w : World) (p : Nat) (c : Ck.C) : Prop where
  keep : Kept Nothing w0 w
  at_ : Ckp w p c
  good : Ck.Good c
  new : w0.heap.size ≤ p
theorem Cl.to {w0 w w' : World} {p : Nat} {c c' : Ck.C} (h : Cl w0 w p c) (k : Kept (Only p) w w') (hc : Ckp w' p c') (hg : Ck.Good c') : Cl w0 w' p c' :=
  ⟨h.keep.trans_new k (fun i hi (e : i = p) => by have := h.new; omega), hc, hg, h.new⟩
theorem Cl.other {w0 w w' : World} {p : Nat} {c : Ck.C} (h : Cl w0 w p c) {S : Nat → Prop} (k : Kept S w w') (hp : ¬ S p) (hS : ∀ i, i < w0.heap.size → ¬ S i) : Cl w0 w' p c :=
  ⟨h.keep.trans_new k (fun i hi e => absurd e (hS i hi)), h.at_.kept k hp, h.good, h.new⟩
theorem Cl.old {w0 w w' : World} {p : Nat} {c : Ck.C} (h : Cl w0 w p c) (k : Kept Nothing w w') : Cl w0 w' p c := h.other k (fun x => x) (fun _ _ x => x)
theorem Cl.alloc {w0 w : World} {p : Nat} {c : Ck.C} (h : Cl w0 w p c) (o : Obj) : Cl w0 (w.alloc o) p c := h.old ((Kept.refl _ w).alloc o)
theorem Cl.lt {w0 w : World} {p : Nat} {c : Ck.C} (h : Cl w0 w p c) : p < w.heap.size := h.at_.lt

theorem cl_new (n : Int) (h1 : 0 ≤ n) (h2 : n ≤ 1099511627776) (w0 w : World) (h : Kept Nothing w0 w) :
    Calls Try.prog 9 #[.int .i64 n] w fun r w' => ∃ p, r = .returned (.tuple #[.pointer (some ⟨p, 0, none⟩), .int .i64 0]) ∧ Cl w0 w' p ⟨n, [none, none, none, none]⟩ ∧ w.heap.size ≤ p ∧ Kept Nothing w w' := by
  refine (ck_new n w).mono fun r w' hh => ?_
  obtain ⟨p, hr, hc, hp, hk⟩ := hh.1 ⟨h1, h2⟩
  refine ⟨p, hr, ⟨h.trans hk, hc, ⟨h1, h2, rfl, fun k x hx => ?_⟩, by have := h.size; omega⟩, hp, hk⟩
  rcases k with _ | _ | _ | _ | k <;> simp at hx
theorem cl_start (p : Nat) (c : Ck.C) (k n : Int) (hk : Ck.tm k = true) (hn : 0 ≤ n) (w0 w : World) (h : Cl w0 w p c) :
    Calls Try.prog 14 #[.pointer (some ⟨p, 0, none⟩), .int .i64 k, .int .i64 n] w fun r w' => r = .returned (.int .i64 0) ∧ Cl w0 w' p (Ck.start c k.toNat n) ∧ Kept (Only p) w w' := by
  refine (ck_start p c k n h.good w h.at_).mono fun r w' hh => ?_
  obtain ⟨hr, hc, hkk⟩ := hh.1 ⟨hk, hn⟩
  exact ⟨hr, h.to hkk hc (Ck.start_good h.good hn), hkk⟩
theorem cl_asks (p : Nat) (c : Ck.C) (u : Int) (w0 w : World) (h : Cl w0 w p c) :
    Calls Try.prog 28 #[.pointer (some ⟨p, 0, none⟩), .int .i64 u] w fun r w' =>
      r = .returned (.agg #[.int .i64 (((Ck.go c u).1.getD 0 : Nat) : Int), .bool (Ck.go c u).1.isSome, .int .i64 (Ck.go c u).2.now]) ∧ Cl w0 w' p (Ck.go c u).2 ∧ Kept (Only p) w w' := by
  refine (ck_asks p c u h.good w h.at_).mono fun r w' ⟨hr, hc, hk⟩ => ⟨hr, h.to hk hc (Ck.go_good u h.good), hk⟩

/-- The same with letters for what is answered. -/
theorem cl_start_at (p : Nat) (c c' : Ck.C) (k n : Int) (hk : Ck.tm k = true) (hn : 0 ≤ n) (he : Ck.start c k.toNat n = c') (w0 w : World) (h : Cl w0 w p c) :
    Calls Try.prog 14 #[.pointer (some ⟨p, 0, none⟩), .int .i64 k, .int .i64 n] w fun r w' => r = .returned (.int .i64 0) ∧ Cl w0 w' p c' ∧ Kept (Only p) w w' := by
  subst he
  exact cl_start p c k n hk hn w0 w h
theorem cl_asks_at (p : Nat) (c c' : Ck.C) (u t n : Int) (is : Bool) (o : Option Nat) (he : Ck.go c u = (o, c')) (ht : ((o.getD 0 : Nat) : Int) = t) (hi : o.isSome = is) (hn : c'.now = n) (w0 w : World) (h : Cl w0 w p c) :
    Calls Try.prog 28 #[.pointer (some ⟨p, 0, none⟩), .int .i64 u] w fun r w' =>
      r = .returned (.agg #[.int .i64 t, .bool is, .int .i64 n]) ∧ Cl w0 w' p c' ∧ Kept (Only p) w w' := by
  subst ht hi hn
  have := cl_asks p c u w0 w h
  rwa [he] at this
theorem made_blk1 {w : World} {cs : Array Value} {t : TypeId} {n : Nat} (hn : w.heap.size = n) : Blk (w.alloc (.cells cs t)) n t cs := by
  subst hn
  exact Blk.fresh w t cs
theorem cells3k {w : World} {p : Nat} {t : TypeId} {a b c : Value} (h : Blk w p t #[a, b, c]) : w.cell? ⟨p, 0, none⟩ = some a ∧ w.cell? ⟨p, 1, none⟩ = some b ∧ w.cell? ⟨p, 2, none⟩ = some c :=
  ⟨h.cell 0, h.cell 1, h.cell 2⟩

set_option maxRecDepth 20000 in
set_option maxHeartbeats 2000000 in
theorem ck_wakes (w : World) :
    Calls Try.prog 11 #[] w fun r w' => r = .returned (.bool true) ∧ Kept Nothing w w' := by
  go_enter Try.func11, Try.ntmps11
  go_wp2_with fail
  refine (cl_new 0 (by decide) (by decide) w w (Kept.refl _ w)).mono ?_
  rintro e w0 ⟨p, rfl, hC, -, -⟩
  have C0 := Lib.hid hC
  clear hC
  go_wp2_with fail
  refine (cl_start_at p ⟨0, [none, none, none, none]⟩ ⟨0, [none, some 9, none, none]⟩ 1 9 (by decide) (by decide) rfl w _ C0.out).mono ?_
  rintro e w1 ⟨rfl, hC, hk⟩
  have C1 := Lib.hid hC
  clear hC hk C0
  go_wp2_with fail
  refine (cl_start_at p ⟨0, [none, some 9, none, none]⟩ ⟨0, [none, some 9, some 3, none]⟩ 2 3 (by decide) (by decide) rfl w _ C1.out).mono ?_
  rintro e w2 ⟨rfl, hC, hk⟩
  have C2 := Lib.hid hC
  clear hC hk C1
  go_wp2_with fail
  refine (cl_start_at p ⟨0, [none, some 9, some 3, none]⟩ ⟨0, [some 3, some 9, some 3, none]⟩ 0 3 (by decide) (by decide) rfl w _ C2.out).mono ?_
  rintro e w3 ⟨rfl, hC, hk⟩
  have C3 := Lib.hid hC
  clear hC hk C2
  go_wp2_with fail
  refine (cl_asks_at p ⟨0, [some 3, some 9, some 3, none]⟩ ⟨3, [none, some 9, some 3, none]⟩ 10 0 3 true (some 0) rfl rfl rfl rfl w _ C3.out).mono ?_
  rintro e w4 ⟨rfl, hC, hk⟩
  have C4 := Lib.hid hC
  clear hC hk C3
  go_wp2_with fail
  refine (cl_asks_at p ⟨3, [none, some 9, some 3, none]⟩ ⟨3, [none, some 9, none, none]⟩ 10 2 3 true (some 2) rfl rfl rfl rfl w _ C4.out).mono ?_
  rintro e w5 ⟨rfl, hC, hk⟩
  have C5 := Lib.hid hC
  clear hC hk C4
  have E0 : Hid (Blk (w5.alloc (.cells #[.int .i64 0, .bool true, .int .i64 3] 57)) (w5.heap.size) 57 #[.int .i64 0, .bool true, .int .i64 3]) := Lib.hid (made_blk1 (by simp))
  have E1 : Hid (Blk ((w5.alloc (.cells #[.int .i64 0, .bool true, .int .i64 3] 57)).alloc (.cells #[.int .i64 2, .bool true, .int .i64 3] 57)) (w5.heap.size + 1) 57 #[.int .i64 2, .bool true, .int .i64 3]) := Lib.hid (made_blk1 (by simp))
  have E0 := Lib.hid (E0.out.alloc (.cells #[.int .i64 2, .bool true, .int .i64 3] 57))
  have hn0 : ¬ Only p (w5.heap.size) := fun (e : w5.heap.size = p) => by have := C5.out.lt; omega
  have N0 := Lib.hid hn0
  clear hn0
  have hn1 : ¬ Only p (w5.heap.size + 1) := fun (e : w5.heap.size + 1 = p) => by have := C5.out.lt; omega
  have N1 := Lib.hid hn1
  clear hn1
  have C5 := Lib.hid (((C5.out).alloc (.cells #[.int .i64 0, .bool true, .int .i64 3] 57)).alloc (.cells #[.int .i64 2, .bool true, .int .i64 3] 57))
  go_wp2_with fail
  refine (cl_start_at p ⟨3, [none, some 9, none, none]⟩ ⟨3, [none, some 9, some 6, none]⟩ 2 3 (by decide) (by decide) rfl w _ C5.out).mono ?_
  rintro e w6 ⟨rfl, hC, hk⟩
  have C6 := Lib.hid hC
  have E0 := Lib.hid (E0.out.kept hk (N0.out))
  have E1 := Lib.hid (E1.out.kept hk (N1.out))
  clear hC hk C5
  go_wp2_with fail
  refine (cl_asks_at p ⟨3, [none, some 9, some 6, none]⟩ ⟨5, [none, some 9, some 6, none]⟩ 5 0 5 false none rfl rfl rfl rfl w _ C6.out).mono ?_
  rintro e w7 ⟨rfl, hC, hk⟩
  have C7 := Lib.hid hC
  have E0 := Lib.hid (E0.out.kept hk (N0.out))
  have E1 := Lib.hid (E1.out.kept hk (N1.out))
  clear hC hk C6
  go_wp2_with fail
  refine (cl_asks_at p ⟨5, [none, some 9, some 6, none]⟩ ⟨6, [none, some 9, none, none]⟩ 10 2 6 true (some 2) rfl rfl rfl rfl w _ C7.out).mono ?_
  rintro e w8 ⟨rfl, hC, hk⟩
  have C8 := Lib.hid hC
  have E0 := Lib.hid (E0.out.kept hk (N0.out))
  have E1 := Lib.hid (E1.out.kept hk (N1.out))
  clear hC hk C7
  go_wp2_with fail
  refine (cl_asks_at p ⟨6, [none, some 9, none, none]⟩ ⟨9, [none, none, none, none]⟩ 10 1 9 true (some 1) rfl rfl rfl rfl w _ C8.out).mono ?_
  rintro e w9 ⟨rfl, hC, hk⟩
  have C9 := Lib.hid hC
  have E0 := Lib.hid (E0.out.kept hk (N0.out))
  have E1 := Lib.hid (E1.out.kept hk (N1.out))
  clear hC hk C8
  go_wp2_with fail
  refine (cl_asks_at p ⟨9, [none, none, none, none]⟩ ⟨10, [none, none, none, none]⟩ 10 0 10 false none rfl rfl rfl rfl w _ C9.out).mono ?_
  rintro e w10 ⟨rfl, hC, hk⟩
  have C10 := Lib.hid hC
  have E0 := Lib.hid (E0.out.kept hk (N0.out))
  have E1 := Lib.hid (E1.out.kept hk (N1.out))
  clear hC hk C9
  have E2 : Hid (Blk (w10.alloc (.cells #[.int .i64 0, .bool false, .int .i64 5] 57)) (w10.heap.size) 57 #[.int .i64 0, .bool false, .int .i64 5]) := Lib.hid (made_blk1 (by simp))
  have E3 : Hid (Blk ((w10.alloc (.cells #[.int .i64 0, .bool false, .int .i64 5] 57)).alloc (.cells #[.int .i64 2, .bool true, .int .i64 6] 57)) (w10.heap.size + 1) 57 #[.int .i64 2, .bool true, .int .i64 6]) := Lib.hid (made_blk1 (by simp))
  have E4 : Hid (Blk (((w10.alloc (.cells #[.int .i64 0, .bool false, .int .i64 5] 57)).alloc (.cells #[.int .i64 2, .bool true, .int .i64 6] 57)).alloc (.cells #[.int .i64 1, .bool true, .int .i64 9] 57)) (w10.heap.size + 2) 57 #[.int .i64 1, .bool true, .int .i64 9]) := Lib.hid (made_blk1 (by simp))
  have E5 : Hid (Blk ((((w10.alloc (.cells #[.int .i64 0, .bool false, .int .i64 5] 57)).alloc (.cells #[.int .i64 2, .bool true, .int .i64 6] 57)).alloc (.cells #[.int .i64 1, .bool true, .int .i64 9] 57)).alloc (.cells #[.int .i64 0, .bool false, .int .i64 10] 57)) (w10.heap.size + 3) 57 #[.int .i64 0, .bool false, .int .i64 10]) := Lib.hid (made_blk1 (by simp))
  have E2 := Lib.hid (E2.out.alloc (.cells #[.int .i64 2, .bool true, .int .i64 6] 57))
  have E2 := Lib.hid (E2.out.alloc (.cells #[.int .i64 1, .bool true, .int .i64 9] 57))
  have E2 := Lib.hid (E2.out.alloc (.cells #[.int .i64 0, .bool false, .int .i64 10] 57))
  have hn2 : ¬ Only p (w10.heap.size) := fun (e : w10.heap.size = p) => by have := C10.out.lt; omega
  have N2 := Lib.hid hn2
  clear hn2
  have E3 := Lib.hid (E3.out.alloc (.cells #[.int .i64 1, .bool true, .int .i64 9] 57))
  have E3 := Lib.hid (E3.out.alloc (.cells #[.int .i64 0, .bool false, .int .i64 10] 57))
  have hn3 : ¬ Only p (w10.heap.size + 1) := fun (e : w10.heap.size + 1 = p) => by have := C10.out.lt; omega
  have N3 := Lib.hid hn3
  clear hn3
  have E4 := Lib.hid (E4.out.alloc (.cells #[.int .i64 0, .bool false, .int .i64 10] 57))
  have hn4 : ¬ Only p (w10.heap.size + 2) := fun (e : w10.heap.size + 2 = p) => by have := C10.out.lt; omega
  have N4 := Lib.hid hn4
  clear hn4
  have hn5 : ¬ Only p (w10.heap.size + 3) := fun (e : w10.heap.size + 3 = p) => by have := C10.out.lt; omega
  have N5 := Lib.hid hn5
  clear hn5
  have E0 := Lib.hid (((((E0.out).alloc (.cells #[.int .i64 0, .bool false, .int .i64 5] 57)).alloc (.cells #[.int .i64 2, .bool true, .int .i64 6] 57)).alloc (.cells #[.int .i64 1, .bool true, .int .i64 9] 57)).alloc (.cells #[.int .i64 0, .bool false, .int .i64 10] 57))
  have E1 := Lib.hid (((((E1.out).alloc (.cells #[.int .i64 0, .bool false, .int .i64 5] 57)).alloc (.cells #[.int .i64 2, .bool true, .int .i64 6] 57)).alloc (.cells #[.int .i64 1, .bool true, .int .i64 9] 57)).alloc (.cells #[.int .i64 0, .bool false, .int .i64 10] 57))
  have C10 := Lib.hid (((((C10.out).alloc (.cells #[.int .i64 0, .bool false, .int .i64 5] 57)).alloc (.cells #[.int .i64 2, .bool true, .int .i64 6] 57)).alloc (.cells #[.int .i64 1, .bool true, .int .i64 9] 57)).alloc (.cells #[.int .i64 0, .bool false, .int .i64 10] 57))
  obtain ⟨x0, y0, z0⟩ := cells3k E0.out
  obtain ⟨x1, y1, z1⟩ := cells3k E1.out
  obtain ⟨x2, y2, z2⟩ := cells3k E2.out
  obtain ⟨x3, y3, z3⟩ := cells3k E3.out
  obtain ⟨x4, y4, z4⟩ := cells3k E4.out
  obtain ⟨x5, y5, z5⟩ := cells3k E5.out
  go_wp2
  go_ret
  exact ⟨rfl, C10.out.keep⟩
end Go.Proofs.Ytdhbfhjlholnlaa
