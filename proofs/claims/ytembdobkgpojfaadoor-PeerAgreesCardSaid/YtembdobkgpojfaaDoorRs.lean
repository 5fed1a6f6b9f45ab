
/-
  The reader of chapter 1 as plain data: bytes, a place, the ends of open blocks (the innermost first), the error.
-/
import Derived.Test.YtembdobkgpojfaaDoorMem
namespace Go.Proofs.YtembdobkgpojfaaDoor
open Go.RowKit

structure RS where
  l : List UInt8
  k : Nat
  es : List Nat
  e : Int

namespace RS
/-- The end of the innermost block, or of all. -/
def top (s : RS) : Nat := match s.es with | [] => s.l.length | a :: _ => a
def left (s : RS) : Nat := if s.e = 0 then s.top - s.k else 0
def fail (s : RS) (x : Int) : RS := if s.e = 0 then { s with e := x } else s
def fits (s : RS) (n : Int) : RS := if n < 0 ∨ (s.left : Int) < n then s.fail 4 else s
def pass (s : RS) (n : Int) : RS := if (s.fits n).e = 0 then { s with k := s.k + n.toNat } else s.fits n
def got (s : RS) (n : Int) : List UInt8 := if (s.fits n).e = 0 then (s.l.drop s.k).take n.toNat else []
def opened (s : RS) (n : Int) : RS := if (s.fits n).e = 0 then { s with es := (s.k + n.toNat) :: s.es } else s.fits n
def skip (s : RS) : RS := if s.es = [] then s.fail 26 else if s.e = 0 then { s with k := s.top, es := s.es.tail } else s
def close (s : RS) : RS := if s.es ≠ [] ∧ 0 < s.left then s.fail 5 else s.skip
/-- The number of bytes, the first one the highest. -/
def num (l : List UInt8) : Nat := l.foldl (fun n b => 256 * n + b.toNat) 0

def okE : Nat → List Nat → Nat → Prop
  | k, [], n => k ≤ n
  | k, a :: r, n => k ≤ a ∧ okE a r n
def ok (s : RS) : Prop := okE s.k s.es s.l.length ∧ s.l.length ≤ 1099511627776

theorem okE_le : ∀ {k : Nat} {r : List Nat} {n : Nat}, okE k r n → k ≤ n
  | _, [], _, h => h
  | _, _ :: _, _, h => Nat.le_trans h.1 (okE_le h.2)
theorem okE_mono : ∀ {k k' : Nat} {r : List Nat} {n : Nat}, okE k r n → k' ≤ k → okE k' r n
  | _, _, [], _, h, hk => Nat.le_trans hk h
  | _, _, _ :: _, _, h, hk => ⟨Nat.le_trans hk h.1, h.2⟩
theorem ok.le {s : RS} (h : s.ok) : s.k ≤ s.top := by
  obtain ⟨h, _⟩ := h
  unfold top
  cases hs : s.es with
  | nil => rw [hs] at h; exact h
  | cons a r => rw [hs] at h; exact h.1
theorem ok.top_le {s : RS} (h : s.ok) : s.top ≤ s.l.length := by
  obtain ⟨h, _⟩ := h
  unfold top
  cases hs : s.es with
  | nil => exact Nat.le_refl _
  | cons a r => rw [hs] at h; exact okE_le h.2
theorem fail_ok {s : RS} (h : s.ok) (x : Int) : (s.fail x).ok := by unfold fail; split <;> exact h
theorem fits_ok {s : RS} (h : s.ok) (n : Int) : (s.fits n).ok := by unfold fits; split; exact fail_ok h _; exact h
/-- Where it fits nothing has changed, and n is within. -/
theorem fits_zero {s : RS} {n : Int} (h : (s.fits n).e = 0) : s.fits n = s ∧ s.e = 0 ∧ 0 ≤ n ∧ n ≤ s.left := by
  unfold fits at h ⊢
  split at h
  · next hc =>
    unfold fail at h
    split at h
    · simp at h
    · next h2 => exact absurd h h2
  · next hc => rw [if_neg hc]; exact ⟨rfl, h, by omega, by omega⟩
theorem left_zero {s : RS} (h : s.e = 0) : s.left = s.top - s.k := by unfold left; rw [if_pos h]
theorem fits_pos {s : RS} {n : Int} (h0 : 0 ≤ n) (h1 : n ≤ s.left) : s.fits n = s := by
  unfold fits; rw [if_neg (by omega)]
theorem pass_ok {s : RS} (h : s.ok) (n : Int) : (s.pass n).ok := by
  unfold pass
  split
  · next hz =>
    obtain ⟨_, he, h0, h1⟩ := fits_zero hz
    have hl := h.le
    rw [left_zero he] at h1
    refine ⟨?_, h.2⟩
    have h2 := h.1
    show okE (s.k + n.toNat) s.es s.l.length
    unfold top at h1 hl
    cases hs : s.es with
    | nil => rw [hs] at h1 hl; simp only at h1 hl; show _ ≤ _; omega
    | cons a r => rw [hs] at h1 hl h2; simp only at h1 hl; exact ⟨by omega, h2.2⟩
  · exact fits_ok h n
theorem opened_ok {s : RS} (h : s.ok) (n : Int) : (s.opened n).ok := by
  unfold opened
  split
  · next hz =>
    obtain ⟨_, he, h0, h1⟩ := fits_zero hz
    have hl := h.le
    rw [left_zero he] at h1
    refine ⟨⟨Nat.le_add_right _ _, ?_⟩, h.2⟩
    have h2 := h.1
    show okE (s.k + n.toNat) s.es s.l.length
    unfold top at h1 hl
    cases hs : s.es with
    | nil => rw [hs] at h1 hl; simp only at h1 hl; show _ ≤ _; omega
    | cons a r => rw [hs] at h1 hl h2; simp only at h1 hl; exact ⟨by omega, h2.2⟩
  · exact fits_ok h n
theorem skip_ok {s : RS} (h : s.ok) : s.skip.ok := by
  unfold skip
  split
  · exact fail_ok h _
  · next hne =>
    split
    · refine ⟨?_, h.2⟩
      have h2 := h.1
      show okE s.top s.es.tail s.l.length
      unfold top
      cases hs : s.es with
      | nil => exact absurd hs hne
      | cons a r => rw [hs] at h2; exact h2.2
    · exact h
theorem close_ok {s : RS} (h : s.ok) : s.close.ok := by
  unfold close; split; exact fail_ok h _; exact skip_ok h
theorem fail_l (s : RS) (x : Int) : (s.fail x).l = s.l ∧ (s.fail x).k = s.k ∧ (s.fail x).es = s.es := by unfold fail; split <;> exact ⟨rfl, rfl, rfl⟩
theorem fits_l (s : RS) (n : Int) : (s.fits n).l = s.l ∧ (s.fits n).k = s.k ∧ (s.fits n).es = s.es := by
  unfold fits; split; exact fail_l s 4; exact ⟨rfl, rfl, rfl⟩
end RS
end Go.Proofs.YtembdobkgpojfaaDoor
