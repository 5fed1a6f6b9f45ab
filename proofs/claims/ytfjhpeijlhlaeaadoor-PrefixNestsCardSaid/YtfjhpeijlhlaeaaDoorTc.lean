
/-
  The law PrefixNests: its first drawn region.
-/
import Derived.Test.YtfjhpeijlhlaeaaDoorTa
import Derived.Test.YtfjhpeijlhlaeaaDoorPo
namespace Go.Proofs.YtfjhpeijlhlaeaaDoor
open Go.RowKit

def NJ (l : Array Bool) (n : Nat) : Prop := l.getD 16 false = decide (1 ≤ n) ∧ l.getD 17 false = decide (2 ≤ n) ∧ (1 ≤ n → l.getD 1 false = true ∧ l.getD 3 false = true) ∧ (2 ≤ n → l.getD 9 false = true ∧ l.getD 11 false = true)
def NB (W : World) (x b y c X m1 Y m2 : Int) (n : Nat) (w : World) : Prop :=
  Kept Nothing W w ∧ Blk w W.heap.size 25 (if 1 ≤ n then pc X m1 else pc x b) ∧ Blk w (W.heap.size + 1) 25 (if 2 ≤ n then pc Y m2 else pc y c)
def NR (_ : Nat) (_ : World) (_ : Nat) (_ : World) : Prop := True
def NF (p3 p4 : Nat) (x b m1 X y c m2 Y : Int) : Nat → Nat → Value → World → Prop
  | 0, _, v, _ => v = .pointer (some ⟨p3, 0, none⟩)
  | 1, _, v, _ => v = .int .u32 x
  | 2, _, v, _ => v = .pointer (some ⟨p3, 1, none⟩)
  | 3, _, v, _ => v = .int .i64 b
  | 4, _, v, _ => v = .int .u64 (b % 18446744073709551616)
  | 5, _, v, _ => v = .int .u64 m1
  | 6, _, v, _ => v = .int .i64 m1
  | 7, _, v, _ => v = .agg (pc X m1)
  | 8, _, v, _ => v = .pointer (some ⟨p4, 0, none⟩)
  | 9, _, v, _ => v = .int .u32 y
  | 10, _, v, _ => v = .pointer (some ⟨p4, 1, none⟩)
  | 11, _, v, _ => v = .int .i64 c
  | 12, _, v, _ => v = .int .u64 (c % 18446744073709551616)
  | 13, _, v, _ => v = .int .u64 m2
  | 14, _, v, _ => v = .int .i64 m2
  | 15, _, v, _ => v = .agg (pc Y m2)
  | _, _, _, _ => True
theorem NF.step {p3 p4 : Nat} {x b m1 X y c m2 Y : Int} (k : Nat) (G : Nat) (w : World) (G' : Nat) (w' : World) (v : Value) (_ : NR G w G' w') (h : NF p3 p4 x b m1 X y c m2 Y k G v w) : NF p3 p4 x b m1 X y c m2 Y k G' v w' := by
  unfold NF at h ⊢
  split at h
  all_goals first | exact h | trivial
theorem NB.kept {W w w' : World} {x b y c X m1 Y m2 : Int} {n : Nat} (h : NB W x b y c X m1 Y m2 n w) (k : Kept Nothing w w') : NB W x b y c X m1 Y m2 n w' :=
  ⟨h.1.trans k, h.2.1.kept k (fun x => x), h.2.2.kept k (fun x => x)⟩
theorem NJ.other {l : Array Bool} {n i : Nat} (h : NJ l n) (hs : l.size = 18) (hi : i < 16) : NJ (l.setIfInBounds i true) n := by
  have key : ∀ j, l.getD j false = true → (l.setIfInBounds i true).getD j false = true := fun j hj => by
    by_cases e : i = j
    · subst e; exact getD_on hs (by omega)
    · rw [getD_set_ne false e]; exact hj
  unfold NJ at h ⊢
  rw [getD_set_ne false (by omega), getD_set_ne false (by omega)]
  exact ⟨h.1, h.2.1, fun e => ⟨key _ (h.2.2.1 e).1, key _ (h.2.2.1 e).2⟩, fun e => ⟨key _ (h.2.2.2 e).1, key _ (h.2.2.2 e).2⟩⟩
theorem NJ.early {l : Array Bool} {n i : Nat} (h : NJ l n) (hs : l.size = 18) (hi : i = 1 ∨ i = 3) (h0 : l.getD i true = false) : n = 0 := by
  have e := getD_off hs (by omega) h0
  by_cases hn : 1 ≤ n
  · have := h.2.2.1 hn
    rcases hi with rfl | rfl
    · rw [this.1] at e; cases e
    · rw [this.2] at e; cases e
  · omega
theorem NJ.early2 {l : Array Bool} {n i : Nat} (h : NJ l n) (hs : l.size = 18) (hi : i = 9 ∨ i = 11) (h0 : l.getD i true = false) : ¬ 2 ≤ n := by
  have e := getD_off hs (by omega) h0
  intro hn
  have := h.2.2.2 hn
  rcases hi with rfl | rfl
  · rw [this.1] at e; cases e
  · rw [this.2] at e; cases e
theorem NJ.first {l : Array Bool} {n : Nat} (h : NJ l n) (hs : l.size = 18) (h0 : l.getD 16 true = false) (h1 : l.getD 1 false = true) (h3 : l.getD 3 false = true) : n = 0 ∧ NJ (l.setIfInBounds 16 true) 1 := by
  have e := getD_off hs (by decide) h0
  unfold NJ at h ⊢
  rw [h.1] at e
  have hn : n = 0 := by
    have : ¬ 1 ≤ n := by simpa using e
    omega
  subst hn
  rw [getD_on hs (by decide), getD_set_ne false (by omega), getD_set_ne false (by omega), getD_set_ne false (by omega), getD_set_ne false (by omega), getD_set_ne false (by omega)]
  refine ⟨rfl, rfl, ?_, fun _ => ⟨h1, h3⟩, fun e => absurd e (by omega)⟩
  exact h.2.1
theorem NJ.second {l : Array Bool} {n : Nat} (h : NJ l n) (hs : l.size = 18) (h0 : l.getD 17 true = false) (h16 : l.getD 16 false = true) (h9 : l.getD 9 false = true) (h11 : l.getD 11 false = true) : n = 1 ∧ NJ (l.setIfInBounds 17 true) 2 := by
  have e := getD_off hs (by decide) h0
  unfold NJ at h ⊢
  rw [h.2.1] at e
  have e16 := h16
  rw [h.1] at e16
  have hn : n = 1 := by
    have : ¬ 2 ≤ n := by simpa using e
    have : 1 ≤ n := by simpa using e16
    omega
  subst hn
  rw [getD_on hs (by decide), getD_set_ne false (by omega), getD_set_ne false (by omega), getD_set_ne false (by omega), getD_set_ne false (by omega), getD_set_ne false (by omega)]
  exact ⟨rfl, h16, rfl, fun _ => h.2.2.1 (Nat.le_refl 1), fun _ => ⟨h9, h11⟩⟩
theorem NB.first {W w : World} {x b y c X m1 Y m2 : Int} (h : NB W x b y c X m1 Y m2 0 w) : NB W x b y c X m1 Y m2 1 ((w.setCell ⟨W.heap.size, 0, none⟩ (.int .u32 X)).setCell ⟨W.heap.size, 1, none⟩ (.int .i64 m1)) :=
  ⟨kept_two h.1 (Nat.le_refl _), put_pc h.2.1, (h.2.2.far (by simp) _).far (by simp) _⟩
theorem NB.second {W w : World} {x b y c X m1 Y m2 : Int} (h : NB W x b y c X m1 Y m2 1 w) : NB W x b y c X m1 Y m2 2 ((w.setCell ⟨W.heap.size + 1, 0, none⟩ (.int .u32 Y)).setCell ⟨W.heap.size + 1, 1, none⟩ (.int .i64 m2)) :=
  ⟨kept_two h.1 (by omega), (h.2.1.far (by simp) _).far (by simp) _, put_pc h.2.2⟩
end Go.Proofs.YtfjhpeijlhlaeaaDoor
