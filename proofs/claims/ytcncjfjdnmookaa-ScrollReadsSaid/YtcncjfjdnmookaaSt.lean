/-
  One call of a reader, by its number: what it leaves, what it takes; the ends that the law keeps.
-/
import Derived.Test.YtcncjfjdnmookaaRn
namespace Go.Proofs.Ytcncjfjdnmookaa
open Go.RowKit

namespace RS
/-- The call x with n. -/
def act (s : RS) (x n : Int) : RS :=
  if x = 0 then s.pass 1 else if x = 3 then s.pass n else if x = 4 then s.pass s.left else if x = 5 then s.opened n else if x = 6 then s.close else if x = 7 then s.skip else if x = 8 then s.fail n else s
/-- What it took. -/
def took (s : RS) (x n : Int) : List UInt8 :=
  if x = 0 then [UInt8.ofNat (num (s.got 1))] else if x = 3 then s.got n else if x = 4 then s.got s.left else []

theorem pass_l (s : RS) (n : Int) : (s.pass n).l = s.l ∧ (s.pass n).es = s.es ∧ s.k ≤ (s.pass n).k := by
  unfold pass
  split
  · exact ⟨rfl, rfl, Nat.le_add_right _ _⟩
  · have := fits_l s n; exact ⟨this.1, this.2.2, by rw [this.2.1]; exact Nat.le_refl _⟩
theorem fits_bad {s : RS} (h : s.e ≠ 0) (n : Int) : s.fits n = s := by
  unfold fits; split; exact if_neg h; rfl
theorem pass_bad {s : RS} (h : s.e ≠ 0) (n : Int) : s.pass n = s := by
  unfold pass; rw [fits_bad h, if_neg h]
theorem opened_bad {s : RS} (h : s.e ≠ 0) (n : Int) : s.opened n = s := by
  unfold opened; rw [fits_bad h, if_neg h]
theorem fail_bad {s : RS} (h : s.e ≠ 0) (n : Int) : s.fail n = s := if_neg h
theorem skip_bad {s : RS} (h : s.e ≠ 0) : s.skip = s := by
  unfold skip; split; exact fail_bad h _; rfl
theorem close_bad {s : RS} (h : s.e ≠ 0) : s.close = s := by
  unfold close; split; exact fail_bad h _; exact skip_bad h
theorem act_bad {s : RS} (h : s.e ≠ 0) (x n : Int) : s.act x n = s := by
  unfold act
  repeat' split
  all_goals first | exact pass_bad h _ | exact opened_bad h _ | exact close_bad h | exact skip_bad h | exact fail_bad h _ | rfl
theorem act_ok {s : RS} (h : s.ok) (x n : Int) : (s.act x n).ok := by
  unfold act
  repeat' split
  all_goals first | exact pass_ok h _ | exact opened_ok h _ | exact close_ok h | exact skip_ok h | exact fail_ok h _ | exact h

/-- The three ways of a call: blocks stay; one is opened; one is closed, at its end. -/
def Way (s t : RS) (n : Int) : Prop :=
  (t.es = s.es) ∨ (t.es = (s.k + n.toNat) :: s.es ∧ t.k = s.k ∧ 0 ≤ n) ∨ (s.es = t.k :: t.es)
theorem skip_way (s : RS) (n : Int) (h : s.ok) : s.skip.l = s.l ∧ s.k ≤ s.skip.k ∧ Way s s.skip n := by
  unfold skip
  split
  · have := fail_l s 26; exact ⟨this.1, by rw [this.2.1]; exact Nat.le_refl _, .inl this.2.2⟩
  · next hne =>
    split
    · refine ⟨rfl, h.le, .inr (.inr ?_)⟩
      show s.es = s.top :: s.es.tail
      unfold top
      cases hs : s.es with
      | nil => exact absurd hs hne
      | cons a r => rfl
    · exact ⟨rfl, Nat.le_refl _, .inl rfl⟩
theorem act_way {s : RS} (h : s.ok) (x n : Int) : (s.act x n).l = s.l ∧ s.k ≤ (s.act x n).k ∧ Way s (s.act x n) n := by
  have hp : ∀ m, (s.pass m).l = s.l ∧ s.k ≤ (s.pass m).k ∧ Way s (s.pass m) n := fun m => by have := pass_l s m; exact ⟨this.1, this.2.2, .inl this.2.1⟩
  have hf : ∀ m, (s.fail m).l = s.l ∧ s.k ≤ (s.fail m).k ∧ Way s (s.fail m) n := fun m => by have := fail_l s m; exact ⟨this.1, by rw [this.2.1]; exact Nat.le_refl _, .inl this.2.2⟩
  unfold act
  repeat' split
  all_goals first | exact hp _ | exact hf _ | exact skip_way s n h | skip
  · unfold opened
    split
    · next hz => exact ⟨rfl, Nat.le_refl _, .inr (.inl ⟨rfl, rfl, (fits_zero hz).2.2.1⟩)⟩
    · have := fits_l s n; exact ⟨this.1, by rw [this.2.1]; exact Nat.le_refl _, .inl this.2.2⟩
  · unfold close
    split
    · exact hf _
    · exact skip_way s n h
  · exact ⟨rfl, Nat.le_refl _, .inl rfl⟩
theorem act_up {s : RS} (h : s.ok) {x n : Int} (hx : x ≠ 5) : (s.act x n).es.length ≤ s.es.length := by
  have hw := (act_way h x n).2.2
  rcases hw with e | ⟨e, _, _⟩ | e
  · rw [e]; exact Nat.le_refl _
  · exfalso
    unfold act at e
    rw [if_neg hx] at e
    have h1 : ∀ m, (s.pass m).es = s.es := fun m => (pass_l s m).2.1
    have h2 : ∀ m, (s.fail m).es = s.es := fun m => (fail_l s m).2.2
    have h3 : s.skip.es.length ≤ s.es.length := by
      unfold skip
      split
      · rw [h2]; exact Nat.le_refl _
      · split
        · show s.es.tail.length ≤ _; simp
        · exact Nat.le_refl _
    have h4 : s.close.es.length ≤ s.es.length := by
      unfold close
      split
      · rw [h2]; exact Nat.le_refl _
      · exact h3
    have hl := congrArg List.length e
    simp only [List.length_cons] at hl
    repeat' split at hl
    all_goals first | (rw [h1] at hl; omega) | (rw [h2] at hl; omega) | omega
  · rw [e]; simp
theorem got_eq {s : RS} {n : Int} (h : s.k < (s.pass n).k) : s.got n = (s.l.drop s.k).take ((s.pass n).k - s.k) := by
  unfold pass at h ⊢
  unfold got
  split at h
  · next hz => rw [if_pos hz, if_pos hz]; simp
  · rw [(fits_l s n).2.1] at h; omega
theorem took_eq {s : RS} (h : s.ok) {x n : Int} (hx : x < 5) (hk : s.k < (s.act x n).k) : s.took x n = (s.l.drop s.k).take ((s.act x n).k - s.k) := by
  unfold act at hk ⊢
  unfold took
  by_cases h0 : x = 0
  · simp only [h0, if_true] at hk ⊢
    have e := got_eq hk
    have h1 : (s.pass 1).k = s.k + 1 := by
      unfold pass at hk ⊢
      split at hk
      · next hz => rw [if_pos hz]; rfl
      · rw [(fits_l s 1).2.1] at hk; omega
    have hlt : s.k < s.l.length := by
      have h2 := (pass_ok h 1).le
      have h3 := (pass_ok h 1).top_le
      rw [(pass_l s 1).1] at h3
      omega
    rw [e, h1]
    have e1 : (s.l.drop s.k).take (s.k + 1 - s.k) = [s.l[s.k]] := by
      rw [Nat.add_sub_cancel_left, List.drop_eq_getElem_cons hlt]
      rfl
    rw [e1]
    simp [num]
  · simp only [h0, if_false] at hk ⊢
    by_cases h3 : x = 3
    · simp only [h3, if_true] at hk ⊢; exact got_eq hk
    · simp only [h3, if_false] at hk ⊢
      by_cases h4 : x = 4
      · simp only [h4, if_true] at hk ⊢; exact got_eq hk
      · simp only [h4, if_false] at hk
        rw [if_neg (by omega), if_neg (by omega), if_neg (by omega), if_neg (by omega)] at hk
        omega
end RS

/-- The ends that the law keeps: the outermost first. -/
def ends (s : RS) : List Nat := s.l.length :: s.es.reverse
def ints (l : List Nat) : List Value := l.map fun (n : Nat) => Value.int .i64 (n : Int)
/-- .. ahead of taking the closed one off. -/
def mid (s t : RS) (n : Int) : List Nat := if s.es.length < t.es.length then ends s ++ [s.k + n.toNat] else ends s
theorem length_ends (s : RS) : (ends s).length = s.es.length + 1 := by unfold ends; simp
theorem length_ints (l : List Nat) : (ints l).length = l.length := List.length_map _
theorem ints_append (a b : List Nat) : ints (a ++ b) = ints a ++ ints b := List.map_append
theorem mid_eq {s t : RS} {n : Int} (hl : t.l = s.l) (hw : RS.Way s t n) (hge : ¬ t.es.length < s.es.length) : mid s t n = ends t := by
  unfold mid ends
  rcases hw with e | ⟨e, _, _⟩ | e
  · rw [if_neg (by rw [e]; omega), hl, e]
  · rw [if_pos (by rw [e]; simp), hl, e]; simp
  · exact absurd (by rw [e]; simp) hge
theorem mid_less {s t : RS} {n : Int} (hl : t.l = s.l) (hw : RS.Way s t n) (hlt : t.es.length < s.es.length) : mid s t n = ends t ++ [t.k] := by
  unfold mid ends
  rw [if_neg (by omega)]
  rcases hw with e | ⟨e, _, _⟩ | e
  · rw [e] at hlt; omega
  · rw [e] at hlt; simp at hlt; omega
  · rw [hl, e]; simp
theorem ends_last (s : RS) : (ints (ends s))[s.es.length]? = some (.int .i64 (s.top : Int)) := by
  unfold ints ends RS.top
  rw [List.getElem?_map]
  cases hs : s.es with
  | nil => rfl
  | cons a r => simp
end Go.Proofs.Ytcncjfjdnmookaa
