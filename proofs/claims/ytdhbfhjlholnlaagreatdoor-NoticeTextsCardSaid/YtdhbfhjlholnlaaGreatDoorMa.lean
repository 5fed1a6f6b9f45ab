
/-
  notice: faults' texts, told and read, there and back (pure).
-/
import Derived.Test.YtdhbfhjlholnlaaGreatDoorNp
namespace Go.Proofs.YtdhbfhjlholnlaaGreatDoor
open Go.RowKit

namespace Nt
/-- The codes' names. -/
def name : Nat → List UInt8
  | 0 => [104, 101, 97, 100] | 1 => [111, 112, 101, 110] | 2 => [117, 112, 100, 97, 116, 101] | 3 => [104, 111, 108, 100] | 4 => [115, 116, 97, 116, 101] | _ => [99, 101, 97, 115, 101]
def codeText (c : Nat) : List UInt8 := if 1 ≤ c ∧ c ≤ 6 then name (c - 1) else Lib.decDigits c
def text (c s : Nat) : List UInt8 := codeText c ++ 47 :: Lib.decDigits s
/-- The first of the names from i on that it is; else its digits. -/
def codeFrom (l : List UInt8) : Nat → Nat → Option Nat
  | 0, _ => num l
  | n + 1, i => if l = name i then some (i + 1) else codeFrom l n (i + 1)
def pcode (l : List UInt8) : Option Nat := codeFrom l 6 0
def parse (l : List UInt8) : Nat × Nat × Nat :=
  match pcode (cutAt 47 l).1, num (cutAt 47 l).2 with
  | some a, some b => if 255 < a ∨ 255 < b then (0, 0, 24) else (a, b, 0)
  | _, _ => (0, 0, 5)
theorem name_nonum (i : Nat) : num (name i) = none ∧ (name i).all isD = false := by
  unfold name
  split <;> exact ⟨by decide, by decide⟩
theorem name_slash (i : Nat) : (47 : UInt8) ∉ name i := by
  unfold name
  split <;> decide
theorem dec_slash (n : Nat) : (47 : UInt8) ∉ Lib.decDigits n := fun hm => by
  have := List.all_eq_true.1 (dec_all n) _ hm
  simp [isD] at this
theorem code_slash (c : Nat) : (47 : UInt8) ∉ codeText c := by
  unfold codeText
  split
  · exact name_slash _
  · exact dec_slash _
theorem dec_noname (n i : Nat) : Lib.decDigits n ≠ name i := fun h => by
  have := dec_all n
  rw [h, (name_nonum i).2] at this
  cases this
theorem pcode_dec (n : Nat) (h : n < 10000000000) : pcode (Lib.decDigits n) = some n := by
  unfold pcode codeFrom codeFrom codeFrom codeFrom codeFrom codeFrom codeFrom
  simp only [if_neg (dec_noname n _)]
  exact num_dec n h
theorem pcode_name : ∀ i, i < 6 → pcode (name i) = some (i + 1) := by
  intro i hi
  obtain rfl | rfl | rfl | rfl | rfl | rfl : i = 0 ∨ i = 1 ∨ i = 2 ∨ i = 3 ∨ i = 4 ∨ i = 5 := by omega
  all_goals rfl
theorem pcode_text (c : Nat) (h : c < 256) : pcode (codeText c) = some c := by
  unfold codeText
  split
  · next h2 =>
    rw [pcode_name _ (by omega)]
    congr 1
    omega
  · exact pcode_dec c (by omega)
theorem parse_text (c s : Nat) (hc : c < 256) (hs : s < 256) : parse (text c s) = (c, s, 0) := by
  unfold parse text
  rw [(cut_at2 47 _ _ (code_slash c)).1]
  simp only
  rw [pcode_text c hc, num_dec s (by omega)]
  simp only
  rw [if_neg (by omega)]
theorem pcode_inv {l : List UInt8} {a : Nat} (h : pcode l = some a) : (1 ≤ a ∧ a ≤ 6) ∨ num l = some a := by
  unfold pcode codeFrom codeFrom codeFrom codeFrom codeFrom codeFrom codeFrom at h
  split at h
  · left; injection h; omega
  split at h
  · left; injection h; omega
  split at h
  · left; injection h; omega
  split at h
  · left; injection h; omega
  split at h
  · left; injection h; omega
  split at h
  · left; injection h; omega
  · exact .inr h
/-- What is read of a text: it is told so, or its code has a name. -/
theorem parse_inv (l : List UInt8) : ((parse l).2.2 = 0 ∧ (parse l).1 < 256 ∧ (parse l).2.1 < 256 ∧ ((1 ≤ (parse l).1 ∧ (parse l).1 ≤ 6) ∨ text (parse l).1 (parse l).2.1 = l)) ∨ ((parse l).1 = 0 ∧ (parse l).2.1 = 0 ∧ ((parse l).2.2 = 5 ∨ (parse l).2.2 = 24)) := by
  unfold parse
  cases ha : pcode (cutAt 47 l).1 with
  | none => exact .inr ⟨rfl, rfl, .inl rfl⟩
  | some a =>
    cases hb : num (cutAt 47 l).2 with
    | none => exact .inr ⟨rfl, rfl, .inl rfl⟩
    | some b =>
      simp only
      by_cases h : 255 < a ∨ 255 < b
      · rw [if_pos h]
        exact .inr ⟨rfl, rfl, .inr rfl⟩
      · rw [if_neg h]
        refine .inl ⟨rfl, by simp only; omega, by simp only; omega, ?_⟩
        simp only
        by_cases hn : 1 ≤ a ∧ a ≤ 6
        · exact .inl hn
        · right
          have ha2 : num (cutAt 47 l).1 = some a := by
            rcases pcode_inv ha with h2 | h2
            · exact absurd h2 hn
            · exact h2
          have e1 := (num_some ha2).1
          have e2 := (num_some hb).1
          have hc : cutB 47 l = true := by
            cases hcb : cutB 47 l with
            | true => rfl
            | false =>
              rcases cut_index 47 l with ⟨_, hi⟩ | ⟨hm, _⟩
              · unfold cutB at hcb
                rw [hi] at hcb
                simp at hcb
              · rw [hm] at hb
                cases hb
          unfold text codeText
          rw [if_neg hn, ← e1, ← e2]
          exact (cut_split hc).symm
end Nt
end Go.Proofs.YtdhbfhjlholnlaaGreatDoor
