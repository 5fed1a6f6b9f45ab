
/-
  An intake of package frame in memory; what its small calls do: faulty, gathers, Waits, New, take.
-/
import Derived.Test.YtdhbfhjlholnlaaGreatDoorWr
import Derived.Test.YtdhbfhjlholnlaaGreatDoorFb
import Derived.Laws.OwnMore
import Derived.WalkLawsBesides
import Derived.Deep.DeepCutAuto
import Derived.Deep.CutBlock
namespace Go.Proofs.YtdhbfhjlholnlaaGreatDoor
open Go.RowKit

/-- A slice whose bytes lie in none of these blocks. -/
def Off (S : Nat → Prop) (v : Value) : Prop := ∀ a n c, v = .slice (some a) n c → 0 < n → ¬ S a.block
theorem Off.nil (S : Nat → Prop) : Off S (.slice none 0 0) := fun a n c e => by cases e
theorem Off.mono {S T : Nat → Prop} {v : Value} (h : Off S v) (hs : ∀ k, T k → S k) : Off T v := fun a n c e h0 x => h a n c e h0 (hs _ x)
theorem By.off {S : Nat → Prop} {w w' : World} {v : Value} {l : List UInt8} (h : By w v l) (k : Kept S w w') (hs : Off S v) : By w' v l := by
  obtain ⟨A, c, rfl, _, _⟩ := h.form
  exact h.kept k (fun a ha h0 => hs a _ _ (by rw [ha]) h0)
/-- What was there lies in no new block. -/
theorem By.off_new {w : World} {v : Value} {l : List UInt8} (h : By w v l) {S : Nat → Prop} (hs : ∀ k, S k → w.heap.size ≤ k) : Off S v := by
  intro a n c e h0 x
  obtain ⟨A', c', hv, _, _, hr⟩ := h
  rw [hv] at e
  injection e with e1 e2 e3
  subst e1 e2 e3
  have := hr.lt (by rw [length_bys]; exact h0)
  have := hs _ x
  omega
theorem Off.sub {w : World} {F F' : Nat → Prop} {v : Value} {l : List UInt8} (h : Off F v) (hb : By w v l) (hs : Sub w F' F) : Off F' v := fun a n c e h0 x => by
  rcases hs _ x with y | y
  · exact h a n c e h0 y
  · exact hb.off_new (S := fun k => w.heap.size ≤ k) (fun _ h => h) a n c e h0 y
theorem add_block (a : Addr) (k : Nat) : (a.add k).block = a.block := by unfold Addr.add; split <;> rfl
theorem Off.piece {S : Nat → Prop} {A : Option Addr} {n c k m : Nat} (h : Off S (.slice A n c)) (hm : k + m ≤ n) : Off S (.slice (if c = k then A else A.map (·.add k)) m (c - k)) := by
  intro a n' c' e h0 x
  injection e with e1 e2 e3
  by_cases hk : c = k
  · rw [if_pos hk] at e1; exact h a n c (by rw [e1]) (by omega) x
  · rw [if_neg hk] at e1
    obtain ⟨a0, rfl, rfl⟩ := Option.map_eq_some_iff.1 e1
    rw [add_block] at x
    exact h a0 n c rfl (by omega) x

def codeOf (s : Nat) : Int := if s = 0 then 0 else 1
/-- The blocks that an intake is made of. -/
def iown (p : Nat) (bv : Value) : Nat → Prop := fun k => k = p ∨ bv.ownBlock = some k

theorem cellsI {w : World} {p : Nat} {t : TypeId} {a b c d e : Value} (h : Blk w p t #[a, b, c, d, e]) :
    (w.cell? ⟨p, 0, none⟩ = some a ∧ w.cell? ⟨p, 1, none⟩ = some b ∧ w.cell? ⟨p, 2, none⟩ = some c ∧ w.cell? ⟨p, 3, none⟩ = some d ∧ w.cell? ⟨p, 4, none⟩ = some e) ∧
    (w.frozen? ⟨p, 1, none⟩ = false ∧ w.frozen? ⟨p, 2, none⟩ = false ∧ w.frozen? ⟨p, 3, none⟩ = false ∧ w.frozen? ⟨p, 4, none⟩ = false) :=
  ⟨⟨h.cell 0, h.cell 1, h.cell 2, h.cell 3, h.cell 4⟩, h.free 1, h.free 2, h.free 3, h.free 4⟩

theorem slice_lo (A : Option Addr) (n c k : Nat) (hk : k ≤ n) (w : World) :
    (Instr.slice 55 (.slice A n c) (some (.int .i64 (k : Int))) none none).run Tryz.prog w = .ok (.slice (if c = k then A else A.map (·.add k)) (n - k) (c - k)) w := by
  have hz := Tryz.sizeOf5
  have he : Tryz.prog.elem 55 = 5 := by kernel_rfl
  rw [run_slice_l w 55 A n c (by kernel_rfl) .i64 k (by omega) (by omega), he, hz]
  simp [sliced]
theorem slice_hi (A : Option Addr) (n c k : Nat) (hk : k ≤ c) (w : World) :
    (Instr.slice 55 (.slice A n c) none (some (.int .i64 (k : Int))) none).run Tryz.prog w = .ok (.slice A k c) w := by
  have hz := Tryz.sizeOf5
  have he : Tryz.prog.elem 55 = 5 := by kernel_rfl
  rw [run_slice_h w 55 A n c (by kernel_rfl) .i64 k (by omega) (by omega), he, hz]
  cases A <;> simp [sliced, Addr.add]

/-- How many bytes are taken. -/
def taken (b l : List UInt8) (many : Nat) : Nat := min b.length (many - l.length)

end Go.Proofs.YtdhbfhjlholnlaaGreatDoor
