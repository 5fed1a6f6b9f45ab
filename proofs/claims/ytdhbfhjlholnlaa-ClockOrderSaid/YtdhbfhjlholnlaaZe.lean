
/-
  The document's clock in memory; what each of its calls does.
-/
import Derived.Test.YtdhbfhjlholnlaaZd
namespace Go.Proofs.Ytdhbfhjlholnlaa
open Go.RowKit

/-- A timer as the document has it. -/
def Ck.el (o : Option Int) : Int := o.getD (-1)
def rcc (n : Int) (a b c d : Option Int) : Array Value := #[.int .i64 n, .int .i64 (Ck.el a), .int .i64 (Ck.el b), .int .i64 (Ck.el c), .int .i64 (Ck.el d)]
/-- At block p lies the document's clock c. -/
def Rcp (w : World) (p : Nat) (c : Ck.C) : Prop := ∃ a0 a1 a2 a3, c.t = [a0, a1, a2, a3] ∧ Blk w p 47 (rcc c.now a0 a1 a2 a3)
theorem Rcp.kept {S : Nat → Prop} {w w' : World} {p : Nat} {c : Ck.C} (h : Rcp w p c) (k : Kept S w w') (hs : ¬ S p) : Rcp w' p c := by
  obtain ⟨a0, a1, a2, a3, ht, hb⟩ := h
  exact ⟨a0, a1, a2, a3, ht, hb.kept k hs⟩
theorem Rcp.lt {w : World} {p : Nat} {c : Ck.C} (h : Rcp w p c) : p < w.heap.size := by
  obtain ⟨a0, a1, a2, a3, ht, hb⟩ := h
  exact hb.lt
theorem Rcp.apart {w : World} {p q : Nat} {c d : Ck.C} (h : Rcp w p c) (h' : Ckp w q d) : p ≠ q := by
  obtain ⟨a0, a1, a2, a3, ht, hb⟩ := h
  obtain ⟨b0, b1, b2, b3, ht', hb'⟩ := h'
  exact hb.apart hb' (by decide)
theorem Rcp.sets {w : World} {p : Nat} {c : Ck.C} (h : Rcp w p c) (k : Nat) (o : Option Int) (hk : k < 4) :
    Rcp (w.setCell ⟨p, 1 + k, none⟩ (.int .i64 (Ck.el o))) p ⟨c.now, c.t.set k o⟩ ∧ Kept (Only p) w (w.setCell ⟨p, 1 + k, none⟩ (.int .i64 (Ck.el o))) := by
  obtain ⟨a0, a1, a2, a3, ht, hb⟩ := h
  have k1 := Kept.own w p (1 + k) (.int .i64 (Ck.el o))
  have b2 := hb.put (1 + k) (.int .i64 (Ck.el o))
  refine ⟨?_, k1⟩
  unfold Rcp
  simp only [ht]
  obtain rfl | rfl | rfl | rfl : k = 0 ∨ k = 1 ∨ k = 2 ∨ k = 3 := by omega
  · exact ⟨o, a1, a2, a3, rfl, b2⟩
  · exact ⟨a0, o, a2, a3, rfl, b2⟩
  · exact ⟨a0, a1, o, a3, rfl, b2⟩
  · exact ⟨a0, a1, a2, o, rfl, b2⟩
theorem Rcp.time {w : World} {p : Nat} {c : Ck.C} (h : Rcp w p c) (n : Int) :
    Rcp (w.setCell ⟨p, 0, none⟩ (.int .i64 n)) p ⟨n, c.t⟩ ∧ Kept (Only p) w (w.setCell ⟨p, 0, none⟩ (.int .i64 n)) := by
  obtain ⟨a0, a1, a2, a3, ht, hb⟩ := h
  exact ⟨⟨a0, a1, a2, a3, ht, hb.put 0 _⟩, Kept.own w p 0 _⟩
theorem Rcp.cells {w : World} {p : Nat} {c : Ck.C} (h : Rcp w p c) : w.cell? ⟨p, 0, none⟩ = some (.int .i64 c.now) ∧ (∀ k, k < 4 → w.cell? ⟨p, 1 + k, none⟩ = some (.int .i64 (Ck.el (c.t.getD k none)))) ∧ ∀ k, w.frozen? ⟨p, k, none⟩ = false := by
  obtain ⟨a0, a1, a2, a3, ht, hb⟩ := h
  refine ⟨hb.cell 0, fun k hk => ?_, fun k => hb.free k⟩
  rw [ht]
  obtain rfl | rfl | rfl | rfl : k = 0 ∨ k = 1 ∨ k = 2 ∨ k = 3 := by omega
  · exact hb.cell 1
  · exact hb.cell 2
  · exact hb.cell 3
  · exact hb.cell 4
theorem Rcp.cells4 {w : World} {p : Nat} {c : Ck.C} (h : Rcp w p c) : w.cell? ⟨p, 1, none⟩ = some (.int .i64 (Ck.el (c.t.getD 0 none))) ∧ w.cell? ⟨p, 2, none⟩ = some (.int .i64 (Ck.el (c.t.getD 1 none))) ∧ w.cell? ⟨p, 3, none⟩ = some (.int .i64 (Ck.el (c.t.getD 2 none))) ∧ w.cell? ⟨p, 4, none⟩ = some (.int .i64 (Ck.el (c.t.getD 3 none))) :=
  ⟨h.cells.2.1 0 (by omega), h.cells.2.1 1 (by omega), h.cells.2.1 2 (by omega), h.cells.2.1 3 (by omega)⟩

theorem rc_new (n : Int) (w : World) :
    Calls Try.prog 10 #[.int .i64 n] w fun r w' =>
      (0 ≤ n ∧ n ≤ Ck.MT → ∃ p, r = .returned (.tuple #[.pointer (some ⟨p, 0, none⟩), .int .i64 0]) ∧ Rcp w' p ⟨n, [none, none, none, none]⟩ ∧ w.heap.size ≤ p ∧ Kept Nothing w w') ∧
      (¬ (0 ≤ n ∧ n ≤ Ck.MT) → r = .returned (.tuple #[.pointer none, .int .i64 1]) ∧ w = w') := by
  have hM : Ck.MT = 1099511627776 := rfl
  have hk : n < 0 ∨ 0 ≤ n ∧ 1099511627776 < n ∨ 0 ≤ n ∧ n ≤ 1099511627776 := by omega
  rw [hM]
  clear hM
  rcases hk with hk | ⟨hk, hk2⟩ | ⟨hk, hk2⟩
  · have hno : ¬ (0 ≤ n ∧ n ≤ 1099511627776) := by omega
    have HN := Lib.hid hno
    clear hno
    go_enter Try.func10, Try.ntmps10
    go_wp2
    go_ret2
    exact ⟨fun h => absurd h HN.out, fun _ => ⟨rfl, rfl⟩⟩
  · have hno : ¬ (0 ≤ n ∧ n ≤ 1099511627776) := by omega
    have HN := Lib.hid hno
    clear hno
    go_enter Try.func10, Try.ntmps10
    go_wp2
    go_ret2
    exact ⟨fun h => absurd h HN.out, fun _ => ⟨rfl, rfl⟩⟩
  · have HN := Lib.hid (And.intro hk hk2)
    go_enter Try.func10, Try.ntmps10
    go_wp2
    go_ret2
    exact ⟨fun _ => ⟨w.heap.size, rfl, ⟨none, none, none, none, rfl, Blk.fresh w _ _⟩, Nat.le_refl _, (Kept.refl _ w).alloc _⟩, fun h => absurd HN.out h⟩

theorem rc_start (p : Nat) (c : Ck.C) (k n : Int) (hg : Ck.Good c) (w : World) (h : Rcp w p c) :
    Calls Try.prog 15 #[.pointer (some ⟨p, 0, none⟩), .int .i64 k, .int .i64 n] w fun r w' =>
      (Ck.tm k = true ∧ 0 ≤ n → r = .returned (.int .i64 0) ∧ Rcp w' p (Ck.start c k.toNat n) ∧ Kept (Only p) w w') ∧
      (¬ (Ck.tm k = true ∧ 0 ≤ n) → r = .returned (.int .i64 1) ∧ w = w') := by
  cases ht : Ck.tm k with
  | false =>
    have hk : k < 0 ∨ 0 ≤ k ∧ 3 < k := by unfold Ck.tm at ht; simp at ht; omega
    clear h hg ht
    rcases hk with hk | ⟨hk, hk2⟩
    all_goals
      go_enter Try.func15, Try.ntmps15
      go_wp2
      go_ret
      exact ⟨fun h => (by cases h.1), fun _ => ⟨rfl, rfl⟩⟩
  | true =>
    have hk := tm_four ht
    clear ht
    by_cases hn : 0 ≤ n
    · obtain ⟨c0, -, hf⟩ := h.cells
      have ⟨c1, c2, c3, c4⟩ := h.cells4
      have hlo := hg.lo
      have hhi : c.now ≤ 1099511627776 := hg.hi
      have hMT : Ck.MT = 1099511627776 := rfl
      unfold Ck.start
      rw [hMT]
      have HZ : ∀ (k : Nat) x, k < 4 → Hid (Rcp (w.setCell ⟨p, 1 + k, none⟩ (.int .i64 x)) p ⟨c.now, c.t.set k (some x)⟩ ∧ Kept (Only p) w (w.setCell ⟨p, 1 + k, none⟩ (.int .i64 x))) := fun k x hk => Lib.hid (h.sets k (some x) hk)
      clear h hg hMT
      by_cases hle : n ≤ 1099511627776 - c.now
      · have hmin : min n (1099511627776 - c.now) = n := by omega
        rw [hmin]
        have HS : Hid (Rcp (w.setCell ⟨p, 1 + k.toNat, none⟩ (.int .i64 (c.now + n))) p ⟨c.now, c.t.set k.toNat (some (c.now + n))⟩ ∧ Kept (Only p) w (w.setCell ⟨p, 1 + k.toNat, none⟩ (.int .i64 (c.now + n)))) := HZ k.toNat _ (by omega)
        clear HZ hmin
        obtain rfl | rfl | rfl | rfl := hk
        all_goals
          go_enter Try.func15, Try.ntmps15
          go_wp2
          first | (go_region; go_wp2) | skip
          go_ret
          exact ⟨fun _ => ⟨rfl, HS.out.1, by first | exact HS.out.2 | exact HS.out.2.drew⟩, fun h => absurd ⟨by trivial, hn⟩ h⟩
      · have hmin : min n (1099511627776 - c.now) = 1099511627776 - c.now := by omega
        have hgt : 1099511627776 - c.now < n := by omega
        have hsum : c.now + (1099511627776 - c.now) = 1099511627776 := by omega
        rw [hmin, hsum]
        have HS : Hid (Rcp (w.setCell ⟨p, 1 + k.toNat, none⟩ (.int .i64 1099511627776)) p ⟨c.now, c.t.set k.toNat (some 1099511627776)⟩ ∧ Kept (Only p) w (w.setCell ⟨p, 1 + k.toNat, none⟩ (.int .i64 1099511627776))) := HZ k.toNat _ (by omega)
        clear HZ hmin hle
        obtain rfl | rfl | rfl | rfl := hk
        all_goals
          go_enter Try.func15, Try.ntmps15
          go_wp2
          first | (go_region; go_wp2) | skip
          go_ret
          exact ⟨fun _ => ⟨rfl, HS.out.1, by first | exact HS.out.2 | exact HS.out.2.drew⟩, fun h => absurd ⟨by trivial, hn⟩ h⟩
    · have hn' : n < 0 := by omega
      have hk0 : 0 ≤ k := by omega
      have hk3 : k ≤ 3 := by omega
      have HN := Lib.hid hn
      clear hn h hg hk
      go_enter Try.func15, Try.ntmps15
      go_wp2
      go_ret
      exact ⟨fun h => by have := HN.out; omega, rfl, rfl⟩

theorem rc_stop (p : Nat) (c : Ck.C) (k : Int) (w : World) (h : Rcp w p c) :
    Calls Try.prog 17 #[.pointer (some ⟨p, 0, none⟩), .int .i64 k] w fun r w' =>
      (Ck.tm k = true → r = .returned (.int .i64 0) ∧ Rcp w' p (Ck.stop c k.toNat) ∧ Kept (Only p) w w') ∧
      (Ck.tm k = false → r = .returned (.int .i64 1) ∧ w = w') := by
  cases ht : Ck.tm k with
  | false =>
    have hk : k < 0 ∨ 0 ≤ k ∧ 3 < k := by unfold Ck.tm at ht; simp at ht; omega
    clear h ht
    rcases hk with hk | ⟨hk, hk2⟩
    all_goals
      go_enter Try.func17, Try.ntmps17
      go_wp2
      go_ret
      exact ⟨fun h => (by cases h), fun _ => ⟨rfl, rfl⟩⟩
  | true =>
    have hk := tm_four ht
    clear ht
    have HS := Lib.hid (h.sets k.toNat none (by omega))
    obtain ⟨-, -, hf⟩ := h.cells
    have ⟨c1, c2, c3, c4⟩ := h.cells4
    clear h
    obtain rfl | rfl | rfl | rfl := hk
    all_goals
      go_enter Try.func17, Try.ntmps17
      go_wp2
      go_ret
      exact ⟨fun _ => ⟨rfl, HS.out⟩, fun h => (by cases h)⟩

theorem rc_left (p : Nat) (c : Ck.C) (k : Int) (hg : Ck.Good c) (w : World) (h : Rcp w p c) :
    Calls Try.prog 21 #[.pointer (some ⟨p, 0, none⟩), .int .i64 k] w fun r w' =>
      r = .returned (.tuple #[.int .i64 (if Ck.tm k = true then (Ck.left c k.toNat).1 else 0), .bool (if Ck.tm k = true then (Ck.left c k.toNat).2 else false)]) ∧ Kept Nothing w w' := by
  cases ht : Ck.tm k with
  | false =>
    have hk : k < 0 ∨ 0 ≤ k ∧ 3 < k := by unfold Ck.tm at ht; simp at ht; omega
    clear h hg ht
    simp only [Bool.false_eq_true, if_false]
    rcases hk with hk | ⟨hk, hk2⟩
    all_goals
      go_enter Try.func21, Try.ntmps21
      go_wp2
      go_ret2
      exact ⟨rfl, by first | exact Kept.refl _ _ | exact (Kept.refl _ _).drewN _⟩
  | true =>
    simp only [if_true]
    have hk := tm_four ht
    clear ht
    have hr := hg.ran k.toNat
    have hlo := hg.lo
    have hhi : c.now ≤ 1099511627776 := hg.hi
    have hM : Ck.MT = 1099511627776 := rfl
    obtain ⟨h1, -, hf⟩ := h.cells
    have ⟨c1, c2, c3, c4⟩ := h.cells4
    clear h hg
    unfold Ck.left
    obtain rfl | rfl | rfl | rfl := hk
    · cases ho : c.t.getD 0 none with
      | none => rw [ho] at c1; simp [Ck.el] at c1; rw [show Int.toNat 0 = 0 from rfl, ho]; dsimp only; clear hr hM ho; go_enter Try.func21, Try.ntmps21; go_wp2; (first | (go_quiet (fail); go_wp2) | skip); all_goals (go_ret2; exact ⟨rfl, by first | exact Kept.refl _ _ | exact (Kept.refl _ _).drewN _⟩)
      | some x => have := hr x (Ck.getD_some.1 ho); rw [hM] at this; obtain ⟨r1, r2⟩ := this; rw [ho] at c1; simp [Ck.el] at c1; rw [show Int.toNat 0 = 0 from rfl, ho]; dsimp only; have r0 : 0 ≤ x := by omega
                  clear hr hM ho; go_enter Try.func21, Try.ntmps21; go_wp2; (first | (go_quiet (fail); go_wp2) | skip); all_goals (go_ret2; exact ⟨rfl, by first | exact Kept.refl _ _ | exact (Kept.refl _ _).drewN _⟩)
    · cases ho : c.t.getD 1 none with
      | none => rw [ho] at c2; simp [Ck.el] at c2; rw [show Int.toNat 1 = 1 from rfl, ho]; dsimp only; clear hr hM ho; go_enter Try.func21, Try.ntmps21; go_wp2; (first | (go_quiet (fail); go_wp2) | skip); all_goals (go_ret2; exact ⟨rfl, by first | exact Kept.refl _ _ | exact (Kept.refl _ _).drewN _⟩)
      | some x => have := hr x (Ck.getD_some.1 ho); rw [hM] at this; obtain ⟨r1, r2⟩ := this; rw [ho] at c2; simp [Ck.el] at c2; rw [show Int.toNat 1 = 1 from rfl, ho]; dsimp only; have r0 : 0 ≤ x := by omega
                  clear hr hM ho; go_enter Try.func21, Try.ntmps21; go_wp2; (first | (go_quiet (fail); go_wp2) | skip); all_goals (go_ret2; exact ⟨rfl, by first | exact Kept.refl _ _ | exact (Kept.refl _ _).drewN _⟩)
    · cases ho : c.t.getD 2 none with
      | none => rw [ho] at c3; simp [Ck.el] at c3; rw [show Int.toNat 2 = 2 from rfl, ho]; dsimp only; clear hr hM ho; go_enter Try.func21, Try.ntmps21; go_wp2; (first | (go_quiet (fail); go_wp2) | skip); all_goals (go_ret2; exact ⟨rfl, by first | exact Kept.refl _ _ | exact (Kept.refl _ _).drewN _⟩)
      | some x => have := hr x (Ck.getD_some.1 ho); rw [hM] at this; obtain ⟨r1, r2⟩ := this; rw [ho] at c3; simp [Ck.el] at c3; rw [show Int.toNat 2 = 2 from rfl, ho]; dsimp only; have r0 : 0 ≤ x := by omega
                  clear hr hM ho; go_enter Try.func21, Try.ntmps21; go_wp2; (first | (go_quiet (fail); go_wp2) | skip); all_goals (go_ret2; exact ⟨rfl, by first | exact Kept.refl _ _ | exact (Kept.refl _ _).drewN _⟩)
    · cases ho : c.t.getD 3 none with
      | none => rw [ho] at c4; simp [Ck.el] at c4; rw [show Int.toNat 3 = 3 from rfl, ho]; dsimp only; clear hr hM ho; go_enter Try.func21, Try.ntmps21; go_wp2; (first | (go_quiet (fail); go_wp2) | skip); all_goals (go_ret2; exact ⟨rfl, by first | exact Kept.refl _ _ | exact (Kept.refl _ _).drewN _⟩)
      | some x => have := hr x (Ck.getD_some.1 ho); rw [hM] at this; obtain ⟨r1, r2⟩ := this; rw [ho] at c4; simp [Ck.el] at c4; rw [show Int.toNat 3 = 3 from rfl, ho]; dsimp only; have r0 : 0 ≤ x := by omega
                  clear hr hM ho; go_enter Try.func21, Try.ntmps21; go_wp2; (first | (go_quiet (fail); go_wp2) | skip); all_goals (go_ret2; exact ⟨rfl, by first | exact Kept.refl _ _ | exact (Kept.refl _ _).drewN _⟩)
end Go.Proofs.Ytdhbfhjlholnlaa
