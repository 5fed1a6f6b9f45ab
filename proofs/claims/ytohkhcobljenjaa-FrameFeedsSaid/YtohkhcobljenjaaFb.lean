
/-
  What the small calls of package frame do: fits, known; slices.ContainsFunc at its closure.
-/
import Derived.Test.YtohkhcobljenjaaAp
import Derived.Test.YtohkhcobljenjaaFa
import Derived.LoopTactic
namespace Go.Proofs.Ytohkhcobljenjaa
open Go.RowKit

theorem beq_dec (n m : Nat) : ((n : Int) == (m : Int)) = decide (n = m) := by
  rw [Bool.eq_iff_iff]; simp; omega

theorem fr_fits (t n : Nat) (w : World) :
    Calls Try.prog 29 #[.int .u8 (t : Int), .int .i64 (n : Int)] w fun r w' => r = .returned (.bool (Fr.fits t n)) ∧ w = w' := by
  by_cases h1 : t = 1
  · subst h1
    go_enter Try.func29, Try.ntmps29
    go_wp2
    go_ret
    exact ⟨ret_bool (by simp [Fr.fits]; try omega), rfl⟩
  · by_cases h2 : t = 2
    · subst h2
      go_enter Try.func29, Try.ntmps29
      go_wp2
      go_ret
      exact ⟨ret_bool (by simp [Fr.fits]; try omega), rfl⟩
    · by_cases h3 : t = 3
      · subst h3
        go_enter Try.func29, Try.ntmps29
        go_wp2
        go_ret
        exact ⟨ret_bool (by simp [Fr.fits]; try omega), rfl⟩
      · by_cases h4 : t = 4
        · subst h4
          go_enter Try.func29, Try.ntmps29
          go_wp2
          go_ret
          exact ⟨ret_bool (beq_dec n 19), rfl⟩
        · by_cases h5 : t = 5
          · subst h5
            go_enter Try.func29, Try.ntmps29
            go_wp2
            go_ret
            exact ⟨ret_bool (beq_dec n 23), rfl⟩
          · have g1 : ((t : Int) == 1) = false := by simp; omega
            have g2 : ((t : Int) == 2) = false := by simp; omega
            have g3 : ((t : Int) == 3) = false := by simp; omega
            have g4 : ((t : Int) == 4) = false := by simp; omega
            have g5 : ((t : Int) == 5) = false := by simp; omega
            have HF : Hid (Fr.fits t n = false) := by show _ = _; unfold Fr.fits; rw [if_neg h1, if_neg h2, if_neg h3, if_neg h4, if_neg h5]
            clear h1 h2 h3 h4 h5
            go_enter Try.func29, Try.ntmps29
            go_wp2
            go_ret
            exact ⟨ret_bool HF.out.symm, rfl⟩

/-- Is it a type of messages? -/
def knownB (t : Nat) : Bool := decide (1 ≤ t ∧ t ≤ 5)
theorem fr_known (t : Nat) (w : World) :
    Calls Try.prog 28 #[.int .u8 (t : Int)] w fun r w' => r = .returned (.bool (knownB t)) ∧ w = w' := by
  by_cases h1 : 1 ≤ t
  · have g1 : decide ((1 : Int) ≤ (t : Int)) = true := by simp; omega
    have HK : Hid (knownB t = decide ((t : Int) ≤ 5)) := by show _ = _; unfold knownB; rw [decide_eq_decide]; omega
    go_enter Try.func28, Try.ntmps28
    go_wp2
    go_ret
    exact ⟨ret_bool (by rw [HK.out]), rfl⟩
  · have g1 : decide ((1 : Int) ≤ (t : Int)) = false := by simp; omega
    have HK : Hid (knownB t = false) := by show _ = _; unfold knownB; simp; omega
    go_enter Try.func28, Try.ntmps28
    go_wp2
    go_ret
    exact ⟨ret_bool HK.out.symm, rfl⟩

theorem fr_other (t : Nat) (w : World) :
    Calls Try.prog 23 #[.int .u8 (t : Int)] w fun r w' => r = .returned (.bool ((t : Int) != 255)) ∧ w = w' := by
  go_enter Try.func23, Try.ntmps23
  go_wp2
  go_ret
  exact ⟨rfl, rfl⟩

/-- The first byte that is not ff. -/
def firstOther : List UInt8 → Option Nat
  | [] => none
  | b :: r => if b.toNat = 255 then (firstOther r).map (· + 1) else some 0
def otherAt (l : List UInt8) : Int := match firstOther l with | none => -1 | some k => (k : Int)

theorem other_skip : ∀ (l : List UInt8) (k : Nat) (hk : k < l.length), (∀ j (hj : j < k), (l[j]'(by omega)).toNat = 255) → (l[k]).toNat ≠ 255 → firstOther l = some k
  | [], k, hk, _, _ => by simp at hk
  | b :: r, 0, _, _, h => by simp [firstOther] at h ⊢; exact fun e => absurd e h
  | b :: r, k + 1, hk, ha, h => by
    have h0 : b.toNat = 255 := ha 0 (by omega)
    have ih := other_skip r k (by simpa using hk) (fun j hj => ha (j + 1) (by omega)) (by simpa using h)
    simp [firstOther, h0, ih]
theorem other_none : ∀ (l : List UInt8), (∀ j (hj : j < l.length), (l[j]).toNat = 255) → firstOther l = none
  | [], _ => rfl
  | b :: r, h => by
    have h0 : b.toNat = 255 := h 0 (by simp)
    have ih := other_none r (fun j hj => h (j + 1) (by simp; omega))
    simp [firstOther, h0, ih]
theorem other_marked (l : List UInt8) (h : l.length = 16) : decide (0 ≤ otherAt l) = !(l == List.replicate 16 255) := by
  have key : ∀ (n : Nat) (l : List UInt8), l.length = n → (firstOther l = none ↔ l = List.replicate n 255) := by
    intro n
    induction n with
    | zero => intro l h; have := List.eq_nil_of_length_eq_zero h; subst this; simp [firstOther]
    | succ n ih =>
      intro l h
      cases l with
      | nil => simp at h
      | cons b r =>
        have := ih r (by simpa using h)
        rw [List.replicate_succ]
        by_cases hb : b.toNat = 255
        · have e : b = 255 := UInt8.toNat_inj.1 hb
          subst e
          simp [firstOther, this]
        · have e : b ≠ 255 := fun e => hb (by rw [e]; rfl)
          simp [firstOther, hb, e]
  have := key 16 l h
  unfold otherAt
  cases hf : firstOther l with
  | none => rw [hf] at this; have := this.1 rfl; subst this; simp
  | some k => rw [hf] at this; simp at this; simp; omega

set_option maxHeartbeats 400000 in
theorem sl_index_other (v : Value) (l : List UInt8) (w : World) (h : By w v l) :
    Calls Try.prog 32 #[v, .func (.func 23) #[] #[]] w fun r w' => r = .returned (.int .i64 (otherAt l)) ∧ w = w' := by
  obtain ⟨A, c, rfl, hc, hm⟩ := h.form
  unfold maxLen at hm
  have HS := Lib.hid h.src
  clear h
  go_enter Try.func32, Try.ntmps32
  go_wp2
  go_loop [8] (fun i => ∃ k : Nat, k ≤ l.length ∧ i = .int .i64 (k : Int) ∧ Hid (∀ j (hj : j < k) (hl : j < l.length), (l[j]).toNat = 255)) (fun i => l.length - (intOf i).toNat)
  case atStart => exact ⟨0, Nat.zero_le _, rfl, Lib.hid fun j hj => by omega⟩
  case round =>
    obtain ⟨k, hk, rfl, ha⟩ := hrel
    by_cases hlt : k < l.length
    · obtain ⟨b, o, rfl⟩ : ∃ b o, A = some ⟨b, o, none⟩ := by
        cases A with
        | none => have := HS.out.2.1 rfl; omega
        | some a =>
          have := HS.out.2.2.1 a rfl 0 _ (getD_bys l 0 (by omega))
          obtain ⟨b, o, sp⟩ := a
          have hsp : sp = none := by simpa [Addr.add] using World.cell?_spot this
          subst hsp
          exact ⟨b, o, rfl⟩
      have hcell : w.cell? ⟨b, o + k, none⟩ = some (.int .u8 ((l.getD k 0).toNat : Int)) := by
        have := HS.out.2.2.1 ⟨b, o, none⟩ rfl k _ (getD_bys l k hlt)
        rw [add_none] at this
        exact this
      have hg : l.getD k 0 = l[k] := by simp [List.getD_eq_getElem?_getD, hlt]
      have HG := Lib.hid hg
      clear hg
      by_cases hb : (l.getD k 0).toNat = 255
      · have hb2 : (((l.getD k 0).toNat : Int) != 255) = false := by rw [hb]; rfl
        have HB := Lib.hid hb
        clear hb
        generalize (l.getD k 0) = x at *
        go_wp2_with (go_at_call 23; refine (fr_other x.toNat _).mono ?_; rintro e w' ⟨rfl, rfl⟩)
        go_round
        case rel => exact ⟨k + 1, by omega, by go_num, Lib.hid fun j hj hl => by
          rcases Nat.lt_or_ge j k with h1 | h1
          · exact ha.out j h1 hl
          · obtain rfl : j = k := by omega
            rw [← HG.out]; exact HB.out⟩
        case measure => simp [intOf]; omega
      · have hb2 : (((l.getD k 0).toNat : Int) != 255) = true := by rw [bne_iff_ne]; omega
        have HB : Hid (otherAt l = (k : Int)) := by
          show _ = _
          unfold otherAt
          rw [other_skip l k hlt (fun j hj => ha.out j hj (by omega)) (by rw [← HG.out]; exact hb)]
        clear hb ha
        generalize (l.getD k 0) = x at *
        go_wp2_with (go_at_call 23; refine (fr_other x.toNat _).mono ?_; rintro e w' ⟨rfl, rfl⟩)
        go_ret
        exact ⟨ret_int HB.out.symm, rfl⟩
    · have HB : Hid (otherAt l = -1) := by
        show _ = _
        unfold otherAt
        rw [other_none l (fun j hj => ha.out j (by omega) hj)]
      clear ha
      go_wp2
      go_ret
      exact ⟨ret_int HB.out.symm, rfl⟩

theorem sl_contains_other (v : Value) (l : List UInt8) (w : World) (h : By w v l) (hl : l.length = 16) :
    Calls Try.prog 24 #[v, .func (.func 23) #[] #[]] w fun r w' => r = .returned (.bool (!(l == List.replicate 16 255))) ∧ w = w' := by
  have HC := Lib.hid (sl_index_other v l w h)
  have HO := Lib.hid (other_marked l hl)
  clear h hl
  go_enter Try.func24, Try.ntmps24
  go_wp2_with fail
  refine HC.out.mono ?_
  rintro e w' ⟨rfl, rfl⟩
  go_wp2
  go_ret
  exact ⟨ret_bool HO.out, rfl⟩
end Go.Proofs.Ytohkhcobljenjaa
