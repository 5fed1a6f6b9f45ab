
/-
  Numbers' texts: rows of digits read (strconv.ParseUint), numbers told (strconv.FormatUint).
-/
import Derived.Test.YtdhbfhjlholnlaaGreatDoorLaw
import Derived.Test.YtdhbfhjlholnlaaGreatDoorPd
import Derived.Lib.AppendIntMem
namespace Go.Proofs.YtdhbfhjlholnlaaGreatDoor
open Go.RowKit Go.Sort

/-- What the calls of strconv need of the world: its table, and what ErrSyntax holds. -/
def Rdy2 (w : World) : Prop := Rdy w ∧ ∃ tp p, w.cell? ⟨3, 0, none⟩ = some (.iface tp p)
theorem Rdy2.kept {w w' : World} (h : Rdy2 w) (k : Kept Nothing w w') : Rdy2 w' := by
  obtain ⟨h1, tp, p, h2⟩ := h
  exact ⟨h1.kept k, tp, p, k.cell_some h2 (fun x => x)⟩

theorem pum : ∀ (l : List UInt8) (acc : Nat), (acc + 1) * 10 ^ l.length ≤ 10000000000 →
    Lib.parseUintM 18446744073709551615 acc l = if l.all isD = true then .ok (l.foldl (fun n c => n * 10 + (c.toNat - 48)) acc) else .syntax
  | [], acc, _ => by simp [Lib.parseUintM]
  | c :: l, acc, h => by
    rw [List.length_cons, Nat.pow_succ, Nat.mul_comm (10 ^ l.length) 10, ← Nat.mul_assoc] at h
    have h1 : (acc + 1) * 10 ≤ 10000000000 := Nat.le_trans (Nat.le_mul_of_pos_right _ (Nat.pow_pos (by omega))) h
    unfold Lib.parseUintM
    by_cases hd : 48 ≤ c.toNat ∧ c.toNat ≤ 57
    · have hD : isD c = true := by simp [isD, hd.1, hd.2]
      rw [if_pos hd, if_neg (by omega), if_neg (by omega), pum l _ (Nat.le_trans (Nat.mul_le_mul_right _ (by omega)) h)]
      simp [hD]
    · have hD : isD c = false := by simp only [isD, Bool.and_eq_false_iff, decide_eq_false_iff_not]; omega
      rw [if_neg hd]
      simp [hD]
theorem pub_num (l : List UInt8) (h10 : l.length ≤ 10) (hz : ¬ (1 < l.length ∧ l.getD 0 0 = 48)) :
    Lib.parseUintB 64 l = match num l with | some v => .ok v | none => .syntax := by
  unfold Lib.parseUintB
  by_cases h0 : l = []
  · subst h0; rfl
  · rw [if_neg h0]
    have e : (2 : Nat) ^ 64 - 1 = 18446744073709551615 := by decide
    rw [e, pum l 0 (by simpa using Nat.pow_le_pow_right (n := 10) (by omega) h10)]
    have hl : 0 < l.length := List.length_pos_iff.2 h0
    have ho : numOk l = l.all isD := by
      unfold numOk
      have h2 : (decide (l.getD 0 0 = 48) && decide (1 < l.length)) = false := by
        simp only [Bool.and_eq_false_iff, decide_eq_false_iff_not]
        by_cases h1 : 1 < l.length
        · exact .inl (fun e => hz ⟨h1, e⟩)
        · exact .inr h1
      rw [h2]
      simp [hl, h10]
    unfold num
    rw [ho]
    cases h : l.all isD
    · simp
    · simp [numV]
theorem pu_kept {w w' : World} {s : ByteArray} (h : w' = w ∨ w' = Lib.bytesWorld w 5 s) : Kept Nothing w w' := by
  rcases h with rfl | rfl
  · exact Kept.refl _ _
  · exact grows (Lib.bytesWorld_below _ _ _)
end Go.Proofs.YtdhbfhjlholnlaaGreatDoor
