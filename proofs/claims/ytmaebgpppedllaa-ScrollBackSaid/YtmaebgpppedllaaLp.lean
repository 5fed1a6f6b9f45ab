
/-
  Both writers, the program's and the document's, side by side; one call by its number.
-/
import Derived.Test.YtmaebgpppedllaaVf
import Derived.Test.YtmaebgpppedllaaWk
namespace Go.Proofs.Ytmaebgpppedllaa
open Go.RowKit

/-- How many zeros a call of the kinds 3, 4 lays. -/
def zeros (n : Int) : Nat := (n % 18446744073709551616 % 301).toNat
/-- One call of a writer, by its number. -/
def WS.step (s : WS) (x n : Int) : WS :=
  if x = 0 then s.lay [UInt8.ofNat (n % 256).toNat] else if x = 1 then s.lay (two (n % 65536).toNat) else if x = 2 then s.lay (fours [(n % 4294967296).toNat])
  else if x = 3 ∨ x = 4 then s.lay (List.replicate (zeros n) 0) else if x = 5 then s.hold n else if x = 6 ∨ x = 7 then s.fill else if x = 8 ∨ x = 9 then s.hold (x - 7) else s
theorem WS.hold_len (s : WS) (n : Int) : (s.hold n).l.length ≤ s.l.length + 2 ∧ (s.hold n).hs.length ≤ s.hs.length + 1 := by
  unfold WS.hold WS.note
  split
  · split
    · next h _ => simp; omega
    · exact ⟨by omega, by omega⟩
  · split <;> exact ⟨by show s.l.length ≤ _; omega, by show s.hs.length ≤ _; omega⟩
theorem WS.lay_hs (s : WS) (b : List UInt8) : (s.lay b).hs = s.hs := by unfold WS.lay; split <;> rfl
theorem WS.fill_len (s : WS) : s.fill.l.length = s.l.length ∧ s.fill.hs.length ≤ s.hs.length := by
  unfold WS.fill WS.note
  repeat' split
  all_goals first | exact ⟨rfl, Nat.le_refl _⟩ | exact ⟨WS.length_tell _ _ _ _, by simp⟩
theorem WS.step_len (s : WS) (x n : Int) : (s.step x n).l.length ≤ s.l.length + 300 ∧ (s.step x n).hs.length ≤ s.hs.length + 1 := by
  have hl : ∀ b : List UInt8, b.length ≤ 300 → (s.lay b).l.length ≤ s.l.length + 300 ∧ (s.lay b).hs.length ≤ s.hs.length + 1 := fun b hb => by
    have := WS.lay_len s b
    rw [WS.lay_hs]
    omega
  have hh : ∀ m, (s.hold m).l.length ≤ s.l.length + 300 ∧ (s.hold m).hs.length ≤ s.hs.length + 1 := fun m => by have := WS.hold_len s m; omega
  unfold WS.step
  repeat' split
  all_goals first | exact hh _ | skip
  · exact hl _ (by simp)
  · exact hl _ (by simp [two])
  · exact hl _ (by rw [length_fours]; simp)
  · refine hl _ ?_
    rw [List.length_replicate]
    unfold zeros
    omega
  · have := WS.fill_len s; omega
  · omega
end Go.Proofs.Ytmaebgpppedllaa
