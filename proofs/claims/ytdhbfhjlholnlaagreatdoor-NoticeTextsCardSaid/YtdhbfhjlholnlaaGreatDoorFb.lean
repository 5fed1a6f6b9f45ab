
/-
  What the small calls of package frame do: fits, known; slices.ContainsFunc at its closure.
-/
import Derived.Test.YtdhbfhjlholnlaaGreatDoorAp
import Derived.Test.YtdhbfhjlholnlaaGreatDoorFa
import Derived.LoopTactic
namespace Go.Proofs.YtdhbfhjlholnlaaGreatDoor
open Go.RowKit

theorem beq_dec (n m : Nat) : ((n : Int) == (m : Int)) = decide (n = m) := by
  rw [Bool.eq_iff_iff]; simp; omega

theorem fr_fits (t n : Nat) (w : World) :
    Calls Tryz.prog 35 #[.int .u8 (t : Int), .int .i64 (n : Int)] w fun r w' => r = .returned (.bool (Fr.fits t n)) ∧ w = w' := by
  by_cases h1 : t = 1
  · subst h1
    go_enter Tryz.func35, Tryz.ntmps35
    go_wp2
    go_ret
    exact ⟨ret_bool (by simp [Fr.fits]; try omega), rfl⟩
  · by_cases h2 : t = 2
    · subst h2
      go_enter Tryz.func35, Tryz.ntmps35
      go_wp2
      go_ret
      exact ⟨ret_bool (by simp [Fr.fits]; try omega), rfl⟩
    · by_cases h3 : t = 3
      · subst h3
        go_enter Tryz.func35, Tryz.ntmps35
        go_wp2
        go_ret
        exact ⟨ret_bool (by simp [Fr.fits]; try omega), rfl⟩
      · by_cases h4 : t = 4
        · subst h4
          go_enter Tryz.func35, Tryz.ntmps35
          go_wp2
          go_ret
          exact ⟨ret_bool (beq_dec n 19), rfl⟩
        · by_cases h5 : t = 5
          · subst h5
            go_enter Tryz.func35, Tryz.ntmps35
            go_wp2
            go_ret
            exact ⟨ret_bool (beq_dec n 23), rfl⟩
          · have g1 : ((t : Int) == 1) = false := by simp; omega
            have g2 : ((t : Int) == 2) = false := by simp; omega
            have g3 : ((t : Int) == 3) = false := by simp; omega
            have g4 : ((t : Int) == 4) = false := by simp; omega
            have g5 : ((t : Int) == 5) = false := by simp; omega
            have HF : Hid (Fr.fits t n = false) := by show _ = _; unfold Fr.fits; rw [if_neg h1, if_neg h2, if_neg h3, if_neg h4, if_neg h5]
            clear h1 h2 h3 h4 h5
            go_enter Tryz.func35, Tryz.ntmps35
            go_wp2
            go_ret
            exact ⟨ret_bool HF.out.symm, rfl⟩

/-- Is it a type of messages? -/
def knownB (t : Nat) : Bool := decide (1 ≤ t ∧ t ≤ 5)
/-- The first byte that is not ff. -/
def firstOther : List UInt8 → Option Nat
  | [] => none
  | b :: r => if b.toNat = 255 then (firstOther r).map (· + 1) else some 0
def otherAt (l : List UInt8) : Int := match firstOther l with | none => -1 | some k => (k : Int)

theorem other_skip : ∀ (l : List UInt8) (k : Nat) (hk : k < l.length), (∀ j (hj : j < k), (l[j]'(by omega)).toNat = 255) → (l[k]).toNat ≠ 255 → firstOther l = some k
  | [], k, hk, _, _ => by simp at hk
  | b :: r, 0, _, _, h => by simp [firstOther] at h ⊢; exact fun e => absurd e h
  | b :: r, k + 1, hk, ha, h => by
    have h0 : b.toNat = 255 := ha 0 (by omega)
    have ih := other_skip r k (by simpa using hk) (fun j hj => ha (j + 1) (by omega)) (by simpa using h)
    simp [firstOther, h0, ih]
theorem other_none : ∀ (l : List UInt8), (∀ j (hj : j < l.length), (l[j]).toNat = 255) → firstOther l = none
  | [], _ => rfl
  | b :: r, h => by
    have h0 : b.toNat = 255 := h 0 (by simp)
    have ih := other_none r (fun j hj => h (j + 1) (by simp; omega))
    simp [firstOther, h0, ih]
theorem other_marked (l : List UInt8) (h : l.length = 16) : decide (0 ≤ otherAt l) = !(l == List.replicate 16 255) := by
  have key : ∀ (n : Nat) (l : List UInt8), l.length = n → (firstOther l = none ↔ l = List.replicate n 255) := by
    intro n
    induction n with
    | zero => intro l h; have := List.eq_nil_of_length_eq_zero h; subst this; simp [firstOther]
    | succ n ih =>
      intro l h
      cases l with
      | nil => simp at h
      | cons b r =>
        have := ih r (by simpa using h)
        rw [List.replicate_succ]
        by_cases hb : b.toNat = 255
        · have e : b = 255 := UInt8.toNat_inj.1 hb
          subst e
          simp [firstOther, this]
        · have e : b ≠ 255 := fun e => hb (by rw [e]; rfl)
          simp [firstOther, hb, e]
  have := key 16 l h
  unfold otherAt
  cases hf : firstOther l with
  | none => rw [hf] at this; have := this.1 rfl; subst this; simp
  | some k => rw [hf] at this; simp at this; simp; omega

end Go.Proofs.YtdhbfhjlholnlaaGreatDoor
