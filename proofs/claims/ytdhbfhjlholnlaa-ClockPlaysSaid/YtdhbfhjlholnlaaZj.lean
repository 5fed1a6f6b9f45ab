
/-
  Both clocks of the law ClockPlays side by side; their calls.
-/
import Derived.Test.YtdhbfhjlholnlaaZh
import Derived.Test.YtdhbfhjlholnlaaZz
namespace Go.Proofs.Ytdhbfhjlholnlaa
open Go.RowKit

namespace Ck
def startR (c : C) (k n : Int) : Int × C := if tm k = true ∧ 0 ≤ n then (0, start c k.toNat n) else (1, c)
def stopR (c : C) (k : Int) : Int × C := if tm k = true then (0, stop c k.toNat) else (1, c)
def leftR (c : C) (k : Int) : Int × Bool := if tm k = true then left c k.toNat else (0, false)
theorem startR_good {c : C} (h : Good c) {k n : Int} : Good (startR c k n).2 := by
  unfold startR
  split
  · next hh => exact start_good h hh.2
  · exact h
theorem stopR_good {c : C} (h : Good c) {k : Int} : Good (stopR c k).2 := by
  unfold stopR
  split
  · exact stop_good h
  · exact h
end Ck
/-- At p the program's clock c, at q the document's d. -/
structure Ph (w0 w : World) (p q : Nat) (c d : Ck.C) : Prop where
  cl : Cl w0 w p c
  rc : Rcp w q d
  good : Ck.Good d
  new : w0.heap.size ≤ q
theorem Ph.apart {w0 w : World} {p q : Nat} {c d : Ck.C} (h : Ph w0 w p q c d) : q ≠ p := h.rc.apart h.cl.at_
theorem Ph.stepP {w0 w w' : World} {p q : Nat} {c c' d : Ck.C} (h : Ph w0 w p q c d) (k : Kept (Only p) w w') (hc : Ckp w' p c') (hg : Ck.Good c') : Ph w0 w' p q c' d :=
  ⟨h.cl.to k hc hg, h.rc.kept k h.apart, h.good, h.new⟩
theorem Ph.stepQ {w0 w w' : World} {p q : Nat} {c d d' : Ck.C} (h : Ph w0 w p q c d) (k : Kept (Only q) w w') (hc : Rcp w' q d') (hg : Ck.Good d') : Ph w0 w' p q c d' :=
  ⟨h.cl.other k (fun (e : p = q) => h.apart e.symm) (fun i hi (e : i = q) => by have := h.new; omega), hc, hg, h.new⟩
theorem Ph.old {w0 w w' : World} {p q : Nat} {c d : Ck.C} (h : Ph w0 w p q c d) (k : Kept Nothing w w') : Ph w0 w' p q c d :=
  ⟨h.cl.old k, h.rc.kept k not_nothing, h.good, h.new⟩
theorem pp_start (w0 : World) (p q : Nat) (c d : Ck.C) (k n : Int) (w : World) (h : Ph w0 w p q c d) :
    Calls Try.prog 14 #[.pointer (some ⟨p, 0, none⟩), .int .i64 k, .int .i64 n] w fun r w' => r = .returned (.int .i64 (Ck.startR c k n).1) ∧ Ph w0 w' p q (Ck.startR c k n).2 d ∧ Kept (Only p) w w' := by
  refine (ck_start p c k n h.cl.good w h.cl.at_).mono fun r w' ⟨h1, h2⟩ => ?_
  unfold Ck.startR
  by_cases hh : Ck.tm k = true ∧ 0 ≤ n
  · rw [if_pos hh]
    obtain ⟨hr, hc, hk⟩ := h1 hh
    exact ⟨hr, h.stepP hk hc (Ck.start_good h.cl.good hh.2), hk⟩
  · rw [if_neg hh]
    obtain ⟨hr, rfl⟩ := h2 hh
    exact ⟨hr, h, Kept.refl _ _⟩
theorem pq_start (w0 : World) (p q : Nat) (c d : Ck.C) (k n : Int) (w : World) (h : Ph w0 w p q c d) :
    Calls Try.prog 15 #[.pointer (some ⟨q, 0, none⟩), .int .i64 k, .int .i64 n] w fun r w' => r = .returned (.int .i64 (Ck.startR d k n).1) ∧ Ph w0 w' p q c (Ck.startR d k n).2 ∧ Kept (Only q) w w' := by
  refine (rc_start q d k n h.good w h.rc).mono fun r w' ⟨h1, h2⟩ => ?_
  unfold Ck.startR
  by_cases hh : Ck.tm k = true ∧ 0 ≤ n
  · rw [if_pos hh]
    obtain ⟨hr, hc, hk⟩ := h1 hh
    exact ⟨hr, h.stepQ hk hc (Ck.start_good h.good hh.2), hk⟩
  · rw [if_neg hh]
    obtain ⟨hr, rfl⟩ := h2 hh
    exact ⟨hr, h, Kept.refl _ _⟩
theorem pp_stop (w0 : World) (p q : Nat) (c d : Ck.C) (k : Int) (w : World) (h : Ph w0 w p q c d) :
    Calls Try.prog 16 #[.pointer (some ⟨p, 0, none⟩), .int .i64 k] w fun r w' => r = .returned (.int .i64 (Ck.stopR c k).1) ∧ Ph w0 w' p q (Ck.stopR c k).2 d ∧ Kept (Only p) w w' := by
  refine (ck_stop p c k w h.cl.at_).mono fun r w' ⟨h1, h2⟩ => ?_
  unfold Ck.stopR
  cases hh : Ck.tm k with
  | true =>
    rw [if_pos rfl]
    obtain ⟨hr, hc, hk⟩ := h1 hh
    exact ⟨hr, h.stepP hk hc (Ck.stop_good h.cl.good), hk⟩
  | false =>
    rw [if_neg (by decide)]
    obtain ⟨hr, rfl⟩ := h2 hh
    exact ⟨hr, h, Kept.refl _ _⟩
theorem pq_stop (w0 : World) (p q : Nat) (c d : Ck.C) (k : Int) (w : World) (h : Ph w0 w p q c d) :
    Calls Try.prog 17 #[.pointer (some ⟨q, 0, none⟩), .int .i64 k] w fun r w' => r = .returned (.int .i64 (Ck.stopR d k).1) ∧ Ph w0 w' p q c (Ck.stopR d k).2 ∧ Kept (Only q) w w' := by
  refine (rc_stop q d k w h.rc).mono fun r w' ⟨h1, h2⟩ => ?_
  unfold Ck.stopR
  cases hh : Ck.tm k with
  | true =>
    rw [if_pos rfl]
    obtain ⟨hr, hc, hk⟩ := h1 hh
    exact ⟨hr, h.stepQ hk hc (Ck.stop_good h.good), hk⟩
  | false =>
    rw [if_neg (by decide)]
    obtain ⟨hr, rfl⟩ := h2 hh
    exact ⟨hr, h, Kept.refl _ _⟩
theorem pp_go (w0 : World) (p q : Nat) (c d : Ck.C) (u : Int) (w : World) (h : Ph w0 w p q c d) :
    Calls Try.prog 18 #[.pointer (some ⟨p, 0, none⟩), .int .i64 u] w fun r w' => r = .returned (.tuple #[.int .i64 (((Ck.go c u).1.getD 0 : Nat) : Int), .bool (Ck.go c u).1.isSome]) ∧ Ph w0 w' p q (Ck.go c u).2 d ∧ Kept (Only p) w w' :=
  (ck_go p c u h.cl.good w h.cl.at_).mono fun _ _ ⟨hr, hc, hk⟩ => ⟨hr, h.stepP hk hc (Ck.go_good u h.cl.good), hk⟩
theorem pq_go (w0 : World) (p q : Nat) (c d : Ck.C) (u : Int) (w : World) (h : Ph w0 w p q c d) :
    Calls Try.prog 19 #[.pointer (some ⟨q, 0, none⟩), .int .i64 u] w fun r w' => r = .returned (.tuple #[.int .i64 (((Ck.go d u).1.getD 0 : Nat) : Int), .bool (Ck.go d u).1.isSome]) ∧ Ph w0 w' p q c (Ck.go d u).2 ∧ Kept (Only q) w w' :=
  (rc_go q d u h.good w h.rc).mono fun _ _ ⟨hr, hc, hk⟩ => ⟨hr, h.stepQ hk hc (Ck.go_good u h.good), hk⟩
theorem pp_left (w0 : World) (p q : Nat) (c d : Ck.C) (k : Int) (w : World) (h : Ph w0 w p q c d) :
    Calls Try.prog 20 #[.pointer (some ⟨p, 0, none⟩), .int .i64 k] w fun r w' => r = .returned (.tuple #[.int .i64 (Ck.leftR c k).1, .bool (Ck.leftR c k).2]) ∧ Ph w0 w' p q c d ∧ Kept Nothing w w' :=
  (ck_left p c k h.cl.good w h.cl.at_).mono fun _ _ ⟨hr, hk⟩ => ⟨by rw [hr]; unfold Ck.leftR; split <;> rfl, h.old hk, hk⟩
theorem pq_left (w0 : World) (p q : Nat) (c d : Ck.C) (k : Int) (w : World) (h : Ph w0 w p q c d) :
    Calls Try.prog 21 #[.pointer (some ⟨q, 0, none⟩), .int .i64 k] w fun r w' => r = .returned (.tuple #[.int .i64 (Ck.leftR d k).1, .bool (Ck.leftR d k).2]) ∧ Ph w0 w' p q c d ∧ Kept Nothing w w' :=
  (rc_left q d k h.good w h.rc).mono fun _ _ ⟨hr, hk⟩ => ⟨by rw [hr]; unfold Ck.leftR; split <;> rfl, h.old hk, hk⟩
theorem pp_next (w0 : World) (p q : Nat) (c d : Ck.C) (w : World) (h : Ph w0 w p q c d) :
    Calls Try.prog 22 #[.pointer (some ⟨p, 0, none⟩)] w fun r w' => r = .returned (.tuple #[.int .i64 (Ck.bt (Ck.next c)), .int .i64 (Ck.ba (Ck.next c)), .bool (Ck.next c).isSome]) ∧ Ph w0 w' p q c d ∧ Kept Nothing w w' :=
  (ck_next p c w h.cl.at_).mono fun _ _ ⟨hr, hk⟩ => ⟨hr, h.old hk, hk⟩
theorem pq_next (w0 : World) (p q : Nat) (c d : Ck.C) (w : World) (h : Ph w0 w p q c d) :
    Calls Try.prog 23 #[.pointer (some ⟨q, 0, none⟩)] w fun r w' => r = .returned (.tuple #[.int .i64 (Ck.bt (Ck.next d)), .int .i64 (Ck.ba (Ck.next d)), .bool (Ck.next d).isSome]) ∧ Ph w0 w' p q c d ∧ Kept Nothing w w' :=
  (rc_next q d h.good w h.rc).mono fun _ _ ⟨hr, hk⟩ => ⟨hr, h.old hk, hk⟩

/-- The copy: none yet, or one that lies apart and has that time. -/
def Tw (w : World) (p q : Nat) (v x : Value) : Prop := v = .pointer none ∨ ∃ r d, v = .pointer (some ⟨r, 0, none⟩) ∧ Ckp w r d ∧ x = .int .i64 d.now ∧ r ≠ p ∧ r ≠ q
theorem Tw.kept {S : Nat → Prop} {w w' : World} {p q : Nat} {v x : Value} (h : Tw w p q v x) (k : Kept S w w') (hS : ∀ r, S r → r = p ∨ r = q) : Tw w' p q v x := by
  rcases h with h | ⟨r, d, h1, h2, h3, h4, h5⟩
  · exact .inl h
  · exact .inr ⟨r, d, h1, h2.kept k (fun e => by rcases hS r e with e | e <;> contradiction), h3, h4, h5⟩
theorem Tw.old {w w' : World} {p q : Nat} {v x : Value} (h : Tw w p q v x) (k : Kept Nothing w w') : Tw w' p q v x := h.kept k (fun _ e => e.elim)
end Go.Proofs.Ytdhbfhjlholnlaa
