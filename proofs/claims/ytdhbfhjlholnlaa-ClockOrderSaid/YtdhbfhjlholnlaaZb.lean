
/-
  clock: a clock in memory; what each call of package clock does.
-/
import Derived.Test.YtdhbfhjlholnlaaZa
import Derived.WalkLawsBesides
import Derived.Deep.DeepCutAuto
import Derived.Deep.CutBlock
namespace Go.Proofs.Ytdhbfhjlholnlaa
open Go.RowKit

/-- The cells of a clock. -/
def ckc (n : Int) (a b c d : Option Int) : Array Value :=
  #[.bool true, .int .i64 n, .bool a.isSome, .int .i64 (a.getD 0), .bool b.isSome, .int .i64 (b.getD 0), .bool c.isSome, .int .i64 (c.getD 0), .bool d.isSome, .int .i64 (d.getD 0)]
/-- At block p lies a clock that New made, and it is c. -/
def Ckp (w : World) (p : Nat) (c : Ck.C) : Prop := ∃ a0 a1 a2 a3, c.t = [a0, a1, a2, a3] ∧ Blk w p 65 (ckc c.now a0 a1 a2 a3)
theorem Ckp.kept {S : Nat → Prop} {w w' : World} {p : Nat} {c : Ck.C} (h : Ckp w p c) (k : Kept S w w') (hs : ¬ S p) : Ckp w' p c := by
  obtain ⟨a0, a1, a2, a3, ht, hb⟩ := h
  exact ⟨a0, a1, a2, a3, ht, hb.kept k hs⟩
theorem Ckp.lt {w : World} {p : Nat} {c : Ck.C} (h : Ckp w p c) : p < w.heap.size := by
  obtain ⟨a0, a1, a2, a3, ht, hb⟩ := h
  exact hb.lt

theorem cells10 {w : World} {p : Nat} {t : TypeId} {a b c d e f g h i j : Value} (hb : Blk w p t #[a, b, c, d, e, f, g, h, i, j]) :
    (w.cell? ⟨p, 0, none⟩ = some a ∧ w.cell? ⟨p, 1, none⟩ = some b ∧ w.cell? ⟨p, 2, none⟩ = some c ∧ w.cell? ⟨p, 3, none⟩ = some d ∧ w.cell? ⟨p, 4, none⟩ = some e ∧
      w.cell? ⟨p, 5, none⟩ = some f ∧ w.cell? ⟨p, 6, none⟩ = some g ∧ w.cell? ⟨p, 7, none⟩ = some h ∧ w.cell? ⟨p, 8, none⟩ = some i ∧ w.cell? ⟨p, 9, none⟩ = some j) ∧ ∀ k, w.frozen? ⟨p, k, none⟩ = false :=
  ⟨⟨hb.cell 0, hb.cell 1, hb.cell 2, hb.cell 3, hb.cell 4, hb.cell 5, hb.cell 6, hb.cell 7, hb.cell 8, hb.cell 9⟩, fun k => hb.free k⟩

theorem ck_is (p : Nat) (c : Ck.C) (w : World) (h : Ckp w p c) :
    Calls Try.prog 29 #[.pointer (some ⟨p, 0, none⟩)] w fun r w' => r = .returned (.bool true) ∧ w = w' := by
  obtain ⟨a0, a1, a2, a3, -, hb⟩ := h
  have ⟨⟨h0, _⟩, _⟩ := cells10 hb
  clear hb
  go_enter Try.func29, Try.ntmps29
  go_wp2
  go_ret
  exact ⟨rfl, rfl⟩

theorem ck_now (p : Nat) (c : Ck.C) (w : World) (h : Ckp w p c) :
    Calls Try.prog 13 #[.pointer (some ⟨p, 0, none⟩)] w fun r w' => r = .returned (.int .i64 c.now) ∧ w = w' := by
  have HI := Lib.hid (ck_is p c w h)
  obtain ⟨a0, a1, a2, a3, -, hb⟩ := h
  have ⟨⟨_, h1, _⟩, _⟩ := cells10 hb
  clear hb
  go_enter Try.func13, Try.ntmps13
  go_wp2_with (go_at_call 29; refine (HI.out).mono ?_; rintro e w' ⟨rfl, rfl⟩)
  go_ret
  exact ⟨rfl, rfl⟩

/-- Is there such a timer? -/
def Ck.tm (k : Int) : Bool := decide (0 ≤ k) && decide (k < 4)
theorem ck_wrong (p : Nat) (c : Ck.C) (k : Int) (w : World) (h : Ckp w p c) :
    Calls Try.prog 30 #[.pointer (some ⟨p, 0, none⟩), .int .i64 k] w fun r w' => r = .returned (.int .i64 (if Ck.tm k = true then 0 else 1)) ∧ w = w' := by
  have HI := Lib.hid (ck_is p c w h)
  clear h
  have hk : k < 0 ∨ 0 ≤ k ∧ 4 ≤ k ∨ 0 ≤ k ∧ k < 4 := by omega
  rcases hk with hk | ⟨hk, hk2⟩ | ⟨hk, hk2⟩
  · have ht : (if Ck.tm k = true then (0 : Int) else 1) = 1 := by unfold Ck.tm; simp; omega
    rw [ht]
    clear ht
    go_enter Try.func30, Try.ntmps30
    go_wp2_with (go_at_call 29; refine (HI.out).mono ?_; rintro e w' ⟨rfl, rfl⟩)
    go_ret
    exact ⟨rfl, rfl⟩
  · have ht : (if Ck.tm k = true then (0 : Int) else 1) = 1 := by unfold Ck.tm; simp; omega
    rw [ht]
    clear ht
    go_enter Try.func30, Try.ntmps30
    go_wp2_with (go_at_call 29; refine (HI.out).mono ?_; rintro e w' ⟨rfl, rfl⟩)
    go_ret
    exact ⟨rfl, rfl⟩
  · have ht : (if Ck.tm k = true then (0 : Int) else 1) = 0 := by unfold Ck.tm; simp; omega
    rw [ht]
    clear ht
    go_enter Try.func30, Try.ntmps30
    go_wp2_with (go_at_call 29; refine (HI.out).mono ?_; rintro e w' ⟨rfl, rfl⟩)
    go_ret
    exact ⟨rfl, rfl⟩

theorem ck_new (n : Int) (w : World) :
    Calls Try.prog 9 #[.int .i64 n] w fun r w' =>
      (0 ≤ n ∧ n ≤ Ck.MT → ∃ p, r = .returned (.tuple #[.pointer (some ⟨p, 0, none⟩), .int .i64 0]) ∧ Ckp w' p ⟨n, [none, none, none, none]⟩ ∧ w.heap.size ≤ p ∧ Kept Nothing w w') ∧
      (¬ (0 ≤ n ∧ n ≤ Ck.MT) → r = .returned (.tuple #[.pointer none, .int .i64 1]) ∧ w = w') := by
  have hM : Ck.MT = 1099511627776 := rfl
  have hk : n < 0 ∨ 0 ≤ n ∧ 1099511627776 < n ∨ 0 ≤ n ∧ n ≤ 1099511627776 := by omega
  rw [hM]
  clear hM
  rcases hk with hk | ⟨hk, hk2⟩ | ⟨hk, hk2⟩
  · have hno : ¬ (0 ≤ n ∧ n ≤ 1099511627776) := by omega
    have HN := Lib.hid hno
    clear hno
    go_enter Try.func9, Try.ntmps9
    go_wp2
    go_ret2
    exact ⟨fun h => absurd h HN.out, fun _ => ⟨rfl, rfl⟩⟩
  · have hno : ¬ (0 ≤ n ∧ n ≤ 1099511627776) := by omega
    have HN := Lib.hid hno
    clear hno
    go_enter Try.func9, Try.ntmps9
    go_wp2
    go_ret2
    exact ⟨fun h => absurd h HN.out, fun _ => ⟨rfl, rfl⟩⟩
  · have HN := Lib.hid (And.intro hk hk2)
    go_enter Try.func9, Try.ntmps9
    go_wp2
    go_ret2
    exact ⟨fun _ => ⟨w.heap.size, rfl, ⟨none, none, none, none, rfl, Blk.fresh w _ _⟩, Nat.le_refl _, (Kept.refl _ w).alloc _⟩, fun h => absurd HN.out h⟩
end Go.Proofs.Ytdhbfhjlholnlaa
