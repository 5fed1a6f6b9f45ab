
/-
  clock: Start, Stop, Left, Copy, Next, Go.
-/
import Derived.Test.YtdhbfhjlholnlaaZb
namespace Go.Proofs.Ytdhbfhjlholnlaa
open Go.RowKit

namespace Ck
def start (c : C) (k : Nat) (n : Int) : C := ⟨c.now, c.t.set k (some (c.now + min n (MT - c.now)))⟩
def stop (c : C) (k : Nat) : C := ⟨c.now, c.t.set k none⟩
def left (c : C) (k : Nat) : Int × Bool := match c.t.getD k none with | none => (0, false) | some x => (x - c.now, true)
theorem start_good {c : C} (h : Good c) {k : Nat} {n : Int} (hn : 0 ≤ n) : Good (start c k n) := by
  have h1 := h.lo
  have h2 := h.hi
  refine ⟨h.lo, h.hi, by simp only [start, List.length_set]; exact h.len, fun i x hx => ?_⟩
  simp only [start] at hx ⊢
  rw [List.getElem?_set] at hx
  split at hx
  · split at hx
    · simp only [Option.some.injEq] at hx
      omega
    · cases hx
  · exact h.ran i x hx
theorem stop_good {c : C} (h : Good c) {k : Nat} : Good (stop c k) := by
  refine ⟨h.lo, h.hi, by simp only [stop, List.length_set]; exact h.len, fun i x hx => ?_⟩
  simp only [stop] at hx ⊢
  exact h.ran i x (set_get hx).2
end Ck
theorem tm_four {k : Int} (h : Ck.tm k = true) : k = 0 ∨ k = 1 ∨ k = 2 ∨ k = 3 := by
  unfold Ck.tm at h
  simp at h
  omega

/-- Behind stores into timer k's cells. -/
theorem Ckp.sets {w : World} {p : Nat} {c : Ck.C} (h : Ckp w p c) (k : Nat) (o : Option Int) (hk : k < 4) :
    Ckp ((w.setCell ⟨p, 2 + 2 * k, none⟩ (.bool o.isSome)).setCell ⟨p, 2 + 2 * k + 1, none⟩ (.int .i64 (o.getD 0))) p ⟨c.now, c.t.set k o⟩ ∧
    Kept (Only p) w ((w.setCell ⟨p, 2 + 2 * k, none⟩ (.bool o.isSome)).setCell ⟨p, 2 + 2 * k + 1, none⟩ (.int .i64 (o.getD 0))) := by
  obtain ⟨a0, a1, a2, a3, ht, hb⟩ := h
  have k1 := (Kept.own w p (2 + 2 * k) (.bool o.isSome)).trans (Kept.own _ p (2 + 2 * k + 1) (.int .i64 (o.getD 0)))
  have b2 := (hb.put (2 + 2 * k) (.bool o.isSome)).put (2 + 2 * k + 1) (.int .i64 (o.getD 0))
  refine ⟨?_, k1⟩
  unfold Ckp
  simp only [ht]
  obtain rfl | rfl | rfl | rfl : k = 0 ∨ k = 1 ∨ k = 2 ∨ k = 3 := by omega
  · exact ⟨o, a1, a2, a3, rfl, b2⟩
  · exact ⟨a0, o, a2, a3, rfl, b2⟩
  · exact ⟨a0, a1, o, a3, rfl, b2⟩
  · exact ⟨a0, a1, a2, o, rfl, b2⟩

theorem ck_halt (p : Nat) (c : Ck.C) (k : Nat) (hk : k < 4) (w : World) (h : Ckp w p c) :
    Calls Try.prog 32 #[.pointer (some ⟨p, 0, none⟩), .int .i64 (k : Int)] w fun r w' => r = .returned (.tuple #[]) ∧ Ckp w' p (Ck.stop c k) ∧ Kept (Only p) w w' := by
  have HS := Lib.hid (h.sets k none hk)
  obtain ⟨a0, a1, a2, a3, -, hb⟩ := h
  have ⟨⟨_, h1, c2, c3, c4, c5, c6, c7, c8, c9⟩, hf⟩ := cells10 hb
  clear hb
  obtain rfl | rfl | rfl | rfl : k = 0 ∨ k = 1 ∨ k = 2 ∨ k = 3 := by omega
  all_goals
    go_enter Try.func32, Try.ntmps32
    go_wp2
    first | go_end0 | refine bodyPost_ret (results_none rfl _ _ _) rfl ?_
    exact ⟨rfl, HS.out⟩

theorem ck_run (p : Nat) (c : Ck.C) (k : Nat) (n : Int) (hk : k < 4) (hn : 0 ≤ n) (hg : Ck.Good c) (w : World) (h : Ckp w p c) :
    Calls Try.prog 31 #[.pointer (some ⟨p, 0, none⟩), .int .i64 (k : Int), .int .i64 n] w fun r w' => r = .returned (.tuple #[]) ∧ Ckp w' p (Ck.start c k n) ∧ Kept (Only p) w w' := by
  have hlo := hg.lo
  have hhi : c.now ≤ 1099511627776 := hg.hi
  have hMT : Ck.MT = 1099511627776 := rfl
  unfold Ck.start
  rw [hMT]
  clear hMT hg
  have HZ : ∀ x, Hid (Ckp ((w.setCell ⟨p, 2 + 2 * k, none⟩ (.bool true)).setCell ⟨p, 2 + 2 * k + 1, none⟩ (.int .i64 x)) p ⟨c.now, c.t.set k (some x)⟩ ∧ Kept (Only p) w ((w.setCell ⟨p, 2 + 2 * k, none⟩ (.bool true)).setCell ⟨p, 2 + 2 * k + 1, none⟩ (.int .i64 x))) := fun x => Lib.hid (h.sets k (some x) hk)
  obtain ⟨a0, a1, a2, a3, -, hb⟩ := h
  have ⟨⟨_, h1, c2, c3, c4, c5, c6, c7, c8, c9⟩, hf⟩ := cells10 hb
  clear hb
  by_cases hle : n ≤ 1099511627776 - c.now
  · have hmin : min n (1099511627776 - c.now) = n := by omega
    rw [hmin]
    have HS := HZ (c.now + n)
    clear HZ hmin
    obtain rfl | rfl | rfl | rfl : k = 0 ∨ k = 1 ∨ k = 2 ∨ k = 3 := by omega
    all_goals
      go_enter Try.func31, Try.ntmps31
      go_wp2
      go_region
      go_wp2
      first | go_end0 | refine bodyPost_ret (results_none rfl _ _ _) rfl ?_
      exact ⟨rfl, HS.out.1, HS.out.2.drew⟩
  · have hmin : min n (1099511627776 - c.now) = 1099511627776 - c.now := by omega
    have hgt : 1099511627776 - c.now < n := by omega
    have hsum : c.now + (1099511627776 - c.now) = 1099511627776 := by omega
    rw [hmin, hsum]
    have HS := HZ 1099511627776
    clear HZ hmin hle
    obtain rfl | rfl | rfl | rfl : k = 0 ∨ k = 1 ∨ k = 2 ∨ k = 3 := by omega
    all_goals
      go_enter Try.func31, Try.ntmps31
      go_wp2
      go_region
      go_wp2
      first | go_end0 | refine bodyPost_ret (results_none rfl _ _ _) rfl ?_
      exact ⟨rfl, HS.out.1, HS.out.2.drew⟩

theorem ck_start (p : Nat) (c : Ck.C) (k n : Int) (hg : Ck.Good c) (w : World) (h : Ckp w p c) :
    Calls Try.prog 14 #[.pointer (some ⟨p, 0, none⟩), .int .i64 k, .int .i64 n] w fun r w' =>
      (Ck.tm k = true ∧ 0 ≤ n → r = .returned (.int .i64 0) ∧ Ckp w' p (Ck.start c k.toNat n) ∧ Kept (Only p) w w') ∧
      (¬ (Ck.tm k = true ∧ 0 ≤ n) → r = .returned (.int .i64 1) ∧ w = w') := by
  have HW := Lib.hid (ck_wrong p c k w h)
  cases ht : Ck.tm k with
  | false =>
    rw [ht] at HW
    simp only [Bool.false_eq_true, if_false] at HW
    go_enter Try.func14, Try.ntmps14
    go_wp2_with (go_at_call 30; refine (HW.out).mono ?_; rintro e w' ⟨rfl, rfl⟩)
    go_ret
    exact ⟨fun h => (by cases h.1), fun _ => ⟨rfl, rfl⟩⟩
  | true =>
    rw [ht] at HW
    simp only [if_true] at HW
    have hk := tm_four ht
    clear ht
    by_cases hn : 0 ≤ n
    · have HR : Hid (Calls Try.prog 31 #[.pointer (some ⟨p, 0, none⟩), .int .i64 k, .int .i64 n] w fun r w' => r = .returned (.tuple #[]) ∧ Ckp w' p (Ck.start c k.toNat n) ∧ Kept (Only p) w w') := by
        have := ck_run p c k.toNat n (by omega) hn hg w h
        rw [Int.toNat_of_nonneg (by omega)] at this
        exact Lib.hid this
      clear h hg
      go_enter Try.func14, Try.ntmps14
      go_wp2_with (first
        | (go_at_call 30; refine (HW.out).mono ?_; rintro e w' ⟨rfl, rfl⟩)
        | (go_at_call 31; refine (HR.out).mono ?_; rintro e w1 ⟨rfl, hc, hk1⟩))
      go_ret
      exact ⟨fun _ => ⟨rfl, hc, hk1⟩, fun h => absurd ⟨by trivial, hn⟩ h⟩
    · have hn' : n < 0 := by omega
      have HN := Lib.hid hn
      clear hn h hg
      go_enter Try.func14, Try.ntmps14
      go_wp2_with (go_at_call 30; refine (HW.out).mono ?_; rintro e w' ⟨rfl, rfl⟩)
      go_ret
      exact ⟨fun h => absurd h.2 (by have := HN.out; omega), fun _ => ⟨rfl, rfl⟩⟩

theorem ck_stop (p : Nat) (c : Ck.C) (k : Int) (w : World) (h : Ckp w p c) :
    Calls Try.prog 16 #[.pointer (some ⟨p, 0, none⟩), .int .i64 k] w fun r w' =>
      (Ck.tm k = true → r = .returned (.int .i64 0) ∧ Ckp w' p (Ck.stop c k.toNat) ∧ Kept (Only p) w w') ∧
      (Ck.tm k = false → r = .returned (.int .i64 1) ∧ w = w') := by
  have HW := Lib.hid (ck_wrong p c k w h)
  cases ht : Ck.tm k with
  | false =>
    rw [ht] at HW
    simp only [Bool.false_eq_true, if_false] at HW
    go_enter Try.func16, Try.ntmps16
    go_wp2_with (go_at_call 30; refine (HW.out).mono ?_; rintro e w' ⟨rfl, rfl⟩)
    go_ret
    exact ⟨fun h => (by cases h), fun _ => ⟨rfl, rfl⟩⟩
  | true =>
    rw [ht] at HW
    simp only [if_true] at HW
    have hk := tm_four ht
    clear ht
    have HR : Hid (Calls Try.prog 32 #[.pointer (some ⟨p, 0, none⟩), .int .i64 k] w fun r w' => r = .returned (.tuple #[]) ∧ Ckp w' p (Ck.stop c k.toNat) ∧ Kept (Only p) w w') := by
      have := ck_halt p c k.toNat (by omega) w h
      rw [Int.toNat_of_nonneg (by omega)] at this
      exact Lib.hid this
    clear h
    go_enter Try.func16, Try.ntmps16
    go_wp2_with (first
      | (go_at_call 30; refine (HW.out).mono ?_; rintro e w' ⟨rfl, rfl⟩)
      | (go_at_call 32; refine (HR.out).mono ?_; rintro e w1 ⟨rfl, hc, hk1⟩))
    go_ret
    exact ⟨fun _ => ⟨rfl, hc, hk1⟩, fun h => (by cases h)⟩

theorem ck_left (p : Nat) (c : Ck.C) (k : Int) (hg : Ck.Good c) (w : World) (h : Ckp w p c) :
    Calls Try.prog 20 #[.pointer (some ⟨p, 0, none⟩), .int .i64 k] w fun r w' =>
      r = .returned (.tuple #[.int .i64 (if Ck.tm k = true then (Ck.left c k.toNat).1 else 0), .bool (if Ck.tm k = true then (Ck.left c k.toNat).2 else false)]) ∧ Kept Nothing w w' := by
  have HW := Lib.hid (ck_wrong p c k w h)
  cases ht : Ck.tm k with
  | false =>
    rw [ht] at HW
    simp only [Bool.false_eq_true, if_false] at HW ⊢
    go_enter Try.func20, Try.ntmps20
    go_wp2_with (go_at_call 30; refine (HW.out).mono ?_; rintro e w' ⟨rfl, rfl⟩)
    go_ret2
    exact ⟨rfl, by first | exact Kept.refl _ _ | exact (Kept.refl _ _).drewN _⟩
  | true =>
    rw [ht] at HW
    simp only [if_true] at HW ⊢
    have hk := tm_four ht
    clear ht
    have hr := hg.ran k.toNat
    have hlo := hg.lo
    have hhi : c.now ≤ 1099511627776 := hg.hi
    obtain ⟨a0, a1, a2, a3, ht, hb⟩ := h
    have ⟨⟨_, h1, c2, c3, c4, c5, c6, c7, c8, c9⟩, hf⟩ := cells10 hb
    clear hb hg
    unfold Ck.left
    rw [ht] at hr ⊢
    clear ht
    have hM : Ck.MT = 1099511627776 := rfl
    obtain rfl | rfl | rfl | rfl := hk
    · cases a0 with
      | none => simp at c2; simp; go_enter Try.func20, Try.ntmps20; go_wp2_with (go_at_call 30; refine (HW.out).mono ?_; rintro e w' ⟨rfl, rfl⟩); go_ret2; exact ⟨rfl, by first | exact Kept.refl _ _ | exact (Kept.refl _ _).drewN _⟩
      | some x => have := hr x rfl; rw [hM] at this; obtain ⟨r1, r2⟩ := this; simp at c2 c3; simp; clear hr hM; go_enter Try.func20, Try.ntmps20; go_wp2_with (go_at_call 30; refine (HW.out).mono ?_; rintro e w' ⟨rfl, rfl⟩); go_quiet (fail); go_wp2; go_ret2; exact ⟨rfl, by first | exact Kept.refl _ _ | exact (Kept.refl _ _).drewN _⟩
    · cases a1 with
      | none => simp at c4; simp; go_enter Try.func20, Try.ntmps20; go_wp2_with (go_at_call 30; refine (HW.out).mono ?_; rintro e w' ⟨rfl, rfl⟩); go_ret2; exact ⟨rfl, by first | exact Kept.refl _ _ | exact (Kept.refl _ _).drewN _⟩
      | some x => have := hr x rfl; rw [hM] at this; obtain ⟨r1, r2⟩ := this; simp at c4 c5; simp; clear hr hM; go_enter Try.func20, Try.ntmps20; go_wp2_with (go_at_call 30; refine (HW.out).mono ?_; rintro e w' ⟨rfl, rfl⟩); go_quiet (fail); go_wp2; go_ret2; exact ⟨rfl, by first | exact Kept.refl _ _ | exact (Kept.refl _ _).drewN _⟩
    · cases a2 with
      | none => simp at c6; simp; go_enter Try.func20, Try.ntmps20; go_wp2_with (go_at_call 30; refine (HW.out).mono ?_; rintro e w' ⟨rfl, rfl⟩); go_ret2; exact ⟨rfl, by first | exact Kept.refl _ _ | exact (Kept.refl _ _).drewN _⟩
      | some x => have := hr x rfl; rw [hM] at this; obtain ⟨r1, r2⟩ := this; simp at c6 c7; simp; clear hr hM; go_enter Try.func20, Try.ntmps20; go_wp2_with (go_at_call 30; refine (HW.out).mono ?_; rintro e w' ⟨rfl, rfl⟩); go_quiet (fail); go_wp2; go_ret2; exact ⟨rfl, by first | exact Kept.refl _ _ | exact (Kept.refl _ _).drewN _⟩
    · cases a3 with
      | none => simp at c8; simp; go_enter Try.func20, Try.ntmps20; go_wp2_with (go_at_call 30; refine (HW.out).mono ?_; rintro e w' ⟨rfl, rfl⟩); go_ret2; exact ⟨rfl, by first | exact Kept.refl _ _ | exact (Kept.refl _ _).drewN _⟩
      | some x => have := hr x rfl; rw [hM] at this; obtain ⟨r1, r2⟩ := this; simp at c8 c9; simp; clear hr hM; go_enter Try.func20, Try.ntmps20; go_wp2_with (go_at_call 30; refine (HW.out).mono ?_; rintro e w' ⟨rfl, rfl⟩); go_quiet (fail); go_wp2; go_ret2; exact ⟨rfl, by first | exact Kept.refl _ _ | exact (Kept.refl _ _).drewN _⟩

theorem ck_copy (p : Nat) (c : Ck.C) (w : World) (h : Ckp w p c) :
    Calls Try.prog 12 #[.pointer (some ⟨p, 0, none⟩)] w fun r w' => ∃ q, r = .returned (.pointer (some ⟨q, 0, none⟩)) ∧ Ckp w' q c ∧ w.heap.size ≤ q ∧ Kept Nothing w w' := by
  have HI := Lib.hid (ck_is p c w h)
  obtain ⟨a0, a1, a2, a3, ht, hb⟩ := h
  unfold ckc at hb
  go_enter Try.func12, Try.ntmps12
  go_wp2_with (first
    | (go_at_call 29; refine (HI.out).mono ?_; rintro e w' ⟨rfl, rfl⟩)
    | (refine wpList_load_row rfl 65 _ rfl p rfl 65 _ (0, 0) _ hb Try.underlying65 rfl (by kernel_rfl) ?_))
  go_ret
  exact ⟨_, rfl, ⟨a0, a1, a2, a3, ht, Blk.fresh w _ _⟩, Nat.le_refl _, (Kept.refl _ w).alloc _⟩
end Go.Proofs.Ytdhbfhjlholnlaa
