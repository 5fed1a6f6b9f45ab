
/-
  clock: a clock as plain data, what rings, in order, each once, and part by part (pure).
-/
import Derived.Test.YtdhbfhjlholnlaaLaw
namespace Go.Proofs.Ytdhbfhjlholnlaa
open Go.RowKit

namespace Ck
/-- The last tick. -/
def MT : Int := 1099511627776
/-- A clock: its time, and until when its timers run. -/
structure C where
  now : Int
  t : List (Option Int)
/-- One timer more looked at. -/
def stp (i : Nat) (o : Option Int) (b : Option (Nat × Int)) : Option (Nat × Int) :=
  match o with
  | none => b
  | some x => match b with
    | none => some (i, x)
    | some (j, y) => if x < y then some (i, x) else some (j, y)
/-- The first in order of the first n timers. -/
def bestN (l : List (Option Int)) : Nat → Option (Nat × Int)
  | 0 => none
  | n + 1 => stp n (l.getD n none) (bestN l n)
def next (c : C) : Option (Nat × Int) := bestN c.t 4
/-- Until when, as it is taken. -/
def lim (c : C) (u : Int) : Int := min (max u c.now) MT
def go (c : C) (u : Int) : Option Nat × C :=
  match next c with
  | none => (none, ⟨lim c u, c.t⟩)
  | some (k, x) => if lim c u < x then (none, ⟨lim c u, c.t⟩) else (some k, ⟨x, c.t.set k none⟩)
structure Good (c : C) : Prop where
  lo : 0 ≤ c.now
  hi : c.now ≤ MT
  len : c.t.length = 4
  ran : ∀ (k : Nat) (x : Int), c.t[k]? = some (some x) → c.now ≤ x ∧ x ≤ MT

theorem getD_some {l : List (Option Int)} {n : Nat} {x : Int} : l.getD n none = some x ↔ l[n]? = some (some x) := by
  rw [List.getD_eq_getElem?_getD]
  cases h : l[n]? with
  | none => simp
  | some o => simp

theorem best_none {l : List (Option Int)} : ∀ {n : Nat}, bestN l n = none → ∀ (i : Nat) (x : Int), i < n → l[i]? ≠ some (some x)
  | 0, _, _, _, h => by omega
  | n + 1, h, i, x, hi => by
    unfold bestN stp at h
    cases hd : l.getD n none with
    | none =>
      rw [hd] at h
      by_cases e : i = n
      · subst e
        intro h2
        rw [getD_some.2 h2] at hd
        cases hd
      · exact best_none h i x (by omega)
    | some y =>
      rw [hd] at h
      cases hb : bestN l n with
      | none => rw [hb] at h; cases h
      | some p =>
        obtain ⟨j, z⟩ := p
        rw [hb] at h
        simp only at h
        split at h <;> cases h

theorem best_some {l : List (Option Int)} : ∀ {n : Nat} {k : Nat} {x : Int}, bestN l n = some (k, x) →
    k < n ∧ l[k]? = some (some x) ∧ ∀ (i : Nat) (y : Int), i < n → l[i]? = some (some y) → x < y ∨ (x = y ∧ k ≤ i)
  | 0, _, _, h => by cases h
  | n + 1, k, x, h => by
    unfold bestN stp at h
    cases hd : l.getD n none with
    | none =>
      rw [hd] at h
      have ⟨a, b, c⟩ := best_some h
      refine ⟨by omega, b, fun i y hi h2 => ?_⟩
      by_cases e : i = n
      · subst e
        rw [getD_some.2 h2] at hd
        cases hd
      · exact c i y (by omega) h2
    | some y =>
      rw [hd] at h
      have hy := getD_some.1 hd
      cases hb : bestN l n with
      | none =>
        rw [hb] at h
        simp only [Option.some.injEq, Prod.mk.injEq] at h
        obtain ⟨rfl, rfl⟩ := h
        refine ⟨by omega, hy, fun i z hi h2 => ?_⟩
        by_cases e : i = n
        · subst e
          rw [hy] at h2
          cases h2
          exact .inr ⟨rfl, by omega⟩
        · exact absurd h2 (best_none hb i z (by omega))
      | some p =>
        obtain ⟨j, z⟩ := p
        rw [hb] at h
        have ⟨a, b, c⟩ := best_some hb
        simp only at h
        split at h
        · next hlt =>
          simp only [Option.some.injEq, Prod.mk.injEq] at h
          obtain ⟨rfl, rfl⟩ := h
          refine ⟨by omega, hy, fun i w hi h2 => ?_⟩
          by_cases e : i = n
          · subst e
            rw [hy] at h2
            cases h2
            exact .inr ⟨rfl, by omega⟩
          · rcases c i w (by omega) h2 with h3 | ⟨h3, _⟩
            · exact .inl (by omega)
            · exact .inl (by omega)
        · next hlt =>
          simp only [Option.some.injEq, Prod.mk.injEq] at h
          obtain ⟨rfl, rfl⟩ := h
          refine ⟨by omega, b, fun i w hi h2 => ?_⟩
          by_cases e : i = n
          · subst e
            rw [hy] at h2
            cases h2
            by_cases h3 : z < y
            · exact .inl h3
            · exact .inr ⟨by omega, by omega⟩
          · exact c i w (by omega) h2

/-- How many timers run. -/
def runs (c : C) : Nat := c.t.countP Option.isSome
theorem runs_set : ∀ {l : List (Option Int)} {k : Nat} {x : Int}, l[k]? = some (some x) → (l.set k none).countP Option.isSome + 1 = l.countP Option.isSome
  | [], _, _, h => by cases h
  | o :: l, 0, x, h => by
    simp only [List.getElem?_cons_zero, Option.some.injEq] at h
    subst h
    simp
  | o :: l, k + 1, x, h => by
    simp only [List.getElem?_cons_succ] at h
    have := runs_set h
    simp only [List.set_cons_succ, List.countP_cons]
    omega
theorem runs_le {c : C} (h : Good c) : runs c ≤ 4 := by
  have := List.countP_le_length (p := Option.isSome) (l := c.t)
  have := h.len
  unfold runs
  omega

theorem go_ring {c c' : C} {u : Int} {k : Nat} (hg : Good c) (h : go c u = (some k, c')) :
    ∃ x, c.t[k]? = some (some x) ∧ c' = ⟨x, c.t.set k none⟩ ∧ x ≤ lim c u ∧ k < 4 ∧ (∀ (i : Nat) (y : Int), c.t[i]? = some (some y) → x < y ∨ (x = y ∧ k ≤ i)) ∧ next c = some (k, x) := by
  unfold go at h
  cases hn : next c with
  | none => rw [hn] at h; cases h
  | some p =>
    obtain ⟨j, x⟩ := p
    rw [hn] at h
    simp only at h
    split at h
    · cases h
    · next hl =>
      simp only [Prod.mk.injEq, Option.some.injEq] at h
      obtain ⟨rfl, rfl⟩ := h
      have ⟨a, b, d⟩ := best_some hn
      refine ⟨x, b, rfl, by omega, a, fun i y h2 => d i y ?_ h2, rfl⟩
      have := (List.getElem?_eq_some_iff.1 h2).1
      have := hg.len
      omega

theorem go_quiet {c c' : C} {u : Int} (hg : Good c) (h : go c u = (none, c')) :
    c' = ⟨lim c u, c.t⟩ ∧ ∀ (i : Nat) (y : Int), c.t[i]? = some (some y) → lim c u < y := by
  unfold go at h
  have hlen : ∀ (i : Nat) (y : Int), c.t[i]? = some (some y) → i < 4 := fun i y h2 => by
    have := (List.getElem?_eq_some_iff.1 h2).1
    have := hg.len
    omega
  cases hn : next c with
  | none =>
    rw [hn] at h
    simp only [Prod.mk.injEq, true_and] at h
    exact ⟨h.symm, fun i y h2 => absurd h2 (best_none hn i y (hlen i y h2))⟩
  | some p =>
    obtain ⟨j, x⟩ := p
    rw [hn] at h
    simp only at h
    split at h
    · next hl =>
      simp only [Prod.mk.injEq, true_and] at h
      have ⟨a, b, d⟩ := best_some hn
      refine ⟨h.symm, fun i y h2 => ?_⟩
      rcases d i y (hlen i y h2) h2 with h3 | ⟨h3, _⟩ <;> omega
    · cases h

theorem lim_ge {c : C} (u : Int) (hg : Good c) : c.now ≤ lim c u := by have := hg.hi; unfold lim; omega
theorem lim_le {c : C} (u : Int) : lim c u ≤ MT := by unfold lim; omega

theorem set_get {l : List (Option Int)} {k i : Nat} {x : Int} (h : (l.set k none)[i]? = some (some x)) : i ≠ k ∧ l[i]? = some (some x) := by
  rw [List.getElem?_set] at h
  split at h
  · split at h
    · cases h
    · cases h
  · next e => exact ⟨fun e2 => e e2.symm, h⟩

theorem go_good {c : C} (u : Int) (hg : Good c) : Good (go c u).2 := by
  cases h : go c u with
  | mk o c' =>
    cases o with
    | none =>
      have ⟨a, b⟩ := go_quiet hg h
      subst a
      exact ⟨by have := hg.lo; have := lim_ge u hg; simp only; omega, lim_le u, hg.len, fun k x h2 => ⟨by have := b k x h2; simp only; omega, (hg.ran k x h2).2⟩⟩
    | some k =>
      obtain ⟨x, a, rfl, b, d, e, _⟩ := go_ring hg h
      refine ⟨by have := hg.lo; have := (hg.ran k x a).1; simp only; omega, (hg.ran k x a).2, by simp only [List.length_set]; exact hg.len, fun i y h2 => ?_⟩
      have ⟨e1, h3⟩ := set_get h2
      refine ⟨?_, (hg.ran i y h3).2⟩
      simp only
      rcases e i y h3 with h4 | ⟨h4, _⟩ <;> omega

theorem go_runs {c c' : C} {u : Int} {k : Nat} (hg : Good c) (h : go c u = (some k, c')) : runs c' + 1 = runs c := by
  obtain ⟨x, a, rfl, _⟩ := go_ring hg h
  exact runs_set a

/-- What is rung up to a time, asked again and again. -/
def all : Nat → C → Int → List (Nat × Int) × C
  | 0, c, _ => ([], c)
  | n + 1, c, u => match go c u with
    | (some k, c') => ((k, c'.now) :: (all n c' u).1, (all n c' u).2)
    | (none, c') => ([], c')

theorem all_good : ∀ (n : Nat) {c : C} (u : Int), Good c → Good (all n c u).2
  | 0, _, _, h => h
  | n + 1, c, u, h => by
    have hg := go_good u h
    unfold all
    cases e : go c u with
    | mk o c' =>
      rw [e] at hg
      cases o with
      | none => exact hg
      | some k => exact all_good n u hg

/-- In order. -/
def lt (a b : Nat × Int) : Prop := a.2 < b.2 ∨ (a.2 = b.2 ∧ a.1 < b.1)

structure Spec (c : C) (u : Int) (r : List (Nat × Int) × C) : Prop where
  now : r.2.now = lim c u
  due : ∀ (k : Nat) (x : Int), c.t[k]? = some (some x) → x ≤ lim c u → r.2.t[k]? = some none ∧ r.1.countP (fun p => p.1 == k) = 1
  not : ∀ (k : Nat) (x : Int), c.t[k]? = some (some x) → lim c u < x → r.2.t[k]? = some (some x) ∧ r.1.countP (fun p => p.1 == k) = 0
  non : ∀ k : Nat, c.t[k]? = some none → r.2.t[k]? = some none ∧ r.1.countP (fun p => p.1 == k) = 0
  mem : ∀ p ∈ r.1, c.t[p.1]? = some (some p.2) ∧ p.2 ≤ lim c u
  ord : r.1.Pairwise lt

theorem lim_ring {c : C} {u x : Int} {l : List (Option Int)} (hx : x ≤ lim c u) (hn : c.now ≤ x) : lim ⟨x, l⟩ u = lim c u := by
  unfold lim at *
  simp only
  omega

theorem all_spec : ∀ (n : Nat) {c : C} (u : Int), Good c → runs c < n → Spec c u (all n c u)
  | 0, c, u, _, h => by omega
  | n + 1, c, u, hg, hr => by
    unfold all
    cases e : go c u with
    | mk o c' =>
      have hg' := go_good u hg
      rw [e] at hg'
      replace hg' : Good c' := hg'
      cases o with
      | none =>
        have ⟨a, b⟩ := go_quiet hg e
        subst a
        exact ⟨rfl, fun k x h1 h2 => by have := b k x h1; omega, fun k x h1 _ => ⟨h1, rfl⟩, fun k h1 => ⟨h1, rfl⟩, fun p hp => (by cases hp), List.Pairwise.nil⟩
      | some j =>
        have hr' := go_runs hg e
        obtain ⟨x, a, rfl, b, d, f, _⟩ := go_ring hg e
        have hl : lim ⟨x, c.t.set j none⟩ u = lim c u := lim_ring b (hg.ran j x a).1
        have S := all_spec n (c := ⟨x, c.t.set j none⟩) u hg' (by omega)
        have hj := (List.getElem?_eq_some_iff.1 a).1
        have hset : ∀ i, i ≠ j → (c.t.set j none)[i]? = c.t[i]? := fun i hi => by rw [List.getElem?_set_ne (fun h => hi h.symm)]
        have hsj : (c.t.set j none)[j]? = some none := by rw [List.getElem?_set_self hj]
        refine ⟨S.now.trans hl, fun k y h1 h2 => ?_, fun k y h1 h2 => ?_, fun k h1 => ?_, fun p hp => ?_, ?_⟩
        · by_cases ek : k = j
          · subst ek
            have := S.non k hsj
            refine ⟨this.1, ?_⟩
            simp only [List.countP_cons, this.2, BEq.rfl, if_true]
          · have := S.due k y (by rw [hset k ek]; exact h1) (by rw [hl]; exact h2)
            refine ⟨this.1, ?_⟩
            have e2 : (j == k) = false := by simp; omega
            simp only [List.countP_cons, this.2, e2]
            rfl
        · have ek : k ≠ j := fun ek => by
            subst ek
            rw [a] at h1
            cases h1
            omega
          have := S.not k y (by rw [hset k ek]; exact h1) (by rw [hl]; exact h2)
          refine ⟨this.1, ?_⟩
          have e2 : (j == k) = false := by simp; omega
          simp only [List.countP_cons, this.2, e2]
          rfl
        · have ek : k ≠ j := fun ek => by
            subst ek
            rw [a] at h1
            cases h1
          have := S.non k (by rw [hset k ek]; exact h1)
          refine ⟨this.1, ?_⟩
          have e2 : (j == k) = false := by simp; omega
          simp only [List.countP_cons, this.2, e2]
          rfl
        · rcases List.mem_cons.1 hp with rfl | hp
          · exact ⟨a, b⟩
          · have := S.mem p hp
            rw [hl] at this
            exact ⟨(set_get this.1).2, this.2⟩
        · refine List.Pairwise.cons (fun p hp => ?_) S.ord
          have ⟨h1, h2⟩ := set_get (S.mem p hp).1
          rcases f p.1 p.2 h2 with h3 | ⟨h3, h4⟩
          · exact .inl h3
          · exact .inr ⟨h3, by simp only; omega⟩

theorem all_fuel : ∀ (n m : Nat) {c : C} (u : Int), Good c → runs c < n → runs c < m → all n c u = all m c u
  | 0, _, _, _, _, h, _ => by omega
  | _, 0, _, _, _, _, h => by omega
  | n + 1, m + 1, c, u, hg, h1, h2 => by
    unfold all
    cases e : go c u with
    | mk o c' =>
      have hg' := go_good u hg
      rw [e] at hg'
      replace hg' : Good c' := hg'
      cases o with
      | none => rfl
      | some k =>
        have := go_runs hg e
        simp only [all_fuel n m u hg' (by omega) (by omega)]

/-- In parts as at once. -/
theorem all_parts : ∀ (n : Nat) {c : C} {u v : Int}, u ≤ v → Good c → runs c < n →
    all n c v = ((all n c u).1 ++ (all n (all n c u).2 v).1, (all n (all n c u).2 v).2)
  | 0, _, _, _, _, _, h => by omega
  | n + 1, c, u, v, huv, hg, hr => by
    cases e : go c u with
    | mk o c' =>
      have hg' := go_good u hg
      rw [e] at hg'
      replace hg' : Good c' := hg'
      cases o with
      | none =>
        have ⟨a, b⟩ := go_quiet hg e
        have e1 : all (n + 1) c u = ([], c') := by rw [all, e]
        rw [e1, List.nil_append]
        simp only
        subst a
        have e2 : go ⟨lim c u, c.t⟩ v = go c v := by
          have hl : lim ⟨lim c u, c.t⟩ v = lim c v := by unfold lim; simp only; omega
          unfold go next
          rw [hl]
        rw [all, all, e2]
      | some k =>
        have hr' := go_runs hg e
        have e1 : all (n + 1) c u = ((k, c'.now) :: (all n c' u).1, (all n c' u).2) := by rw [all, e]
        have e2 : go c v = (some k, c') := by
          obtain ⟨x, a, rfl, b, d, f, hn⟩ := go_ring hg e
          unfold go
          rw [hn]
          have : ¬ lim c v < x := by unfold lim at *; omega
          simp only [if_neg this]
        have e3 : all (n + 1) c v = ((k, c'.now) :: (all n c' v).1, (all n c' v).2) := by rw [all, e2]
        have P := all_parts n huv hg' (by omega)
        have hgr := all_good n u hg'
        have S := all_spec n u hg' (by omega)
        have hle : runs (all n c' u).2 ≤ runs c' := by
          have : ∀ (m : Nat) {c : C}, Good c → runs (all m c u).2 ≤ runs c := by
            intro m
            induction m with
            | zero => intro c _; exact Nat.le_refl _
            | succ m ih =>
              intro c hc
              unfold all
              cases e : go c u with
              | mk o c' =>
                have hg' := go_good u hc
                rw [e] at hg'
                replace hg' : Good c' := hg'
                cases o with
                | none =>
                  have ⟨a, _⟩ := go_quiet hc e
                  subst a
                  exact Nat.le_refl _
                | some k =>
                  have := go_runs hc e
                  have := ih hg'
                  simp only
                  omega
          exact this n hg'
        have hf : all (n + 1) (all n c' u).2 v = all n (all n c' u).2 v := all_fuel _ _ _ hgr (by omega) (by omega)
        rw [e3, e1, P]
        simp only [hf, List.cons_append]
end Ck
end Go.Proofs.Ytdhbfhjlholnlaa
