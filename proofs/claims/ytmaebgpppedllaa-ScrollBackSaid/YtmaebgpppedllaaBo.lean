
/-
  Nodes as plain data: what a reader reads of them, there and back.
-/
import Derived.Test.YtmaebgpppedllaaBn
namespace Go.Proofs.Ytmaebgpppedllaa
open Go.RowKit

theorem num_be {m w : Nat} (hw : w = 1 ∨ w = 2 ∨ w = 4) (h : m < 256 ^ w) : RS.num (be m w) = m := by
  rcases hw with rfl | rfl | rfl
  · simp only [be, RS.num, List.range_succ, List.range_zero, List.nil_append, List.map_cons, List.map_nil, List.foldl_cons, List.foldl_nil, UInt8.toNat_ofNat']
    omega
  · simp only [be, RS.num, List.range_succ, List.range_zero, List.nil_append, List.cons_append, List.map_cons, List.map_nil, List.foldl_cons, List.foldl_nil, UInt8.toNat_ofNat']
    omega
  · simp only [be, RS.num, List.range_succ, List.range_zero, List.nil_append, List.cons_append, List.map_cons, List.map_nil, List.foldl_cons, List.foldl_nil, UInt8.toNat_ofNat']
    omega
namespace Nd
theorem width_or (x : Nd) : x.width = 1 ∨ x.width = 2 ∨ x.width = 4 := by unfold width; split; exact .inl rfl; split; exact .inr (.inl rfl); exact .inr (.inr rfl)
theorem value_lt (x : Nd) : x.value < 256 ^ x.width := Nat.mod_lt _ (Nat.pow_pos (by decide))
theorem span_in (x : Nd) : x.span = 1 ∨ x.span = 2 ∨ x.span = 4 := by have := x.span_or; omega
/-- A number read, held against the node's. -/
def tells (s : RS) (x : Nd) : Bool × RS := (decide (RS.num (s.got (x.width : Int)) = x.value), s.pass (x.width : Int))
def rows (f : RS → Nd → Bool × RS) : RS → List Nd → Bool × RS
  | s, [] => (decide (s.e = 0), s)
  | s, x :: l => if (f s x).1 = false then (false, (f s x).2) else rows f (f s x).2 l
def read : Nat → RS → Nd → Bool × RS
  | 0, s, x => x.tells s
  | d + 1, s, x => if x.parts = [] then x.tells s else
    if (rows (read d) ((s.pass (x.span : Int)).opened (RS.num (s.got (x.span : Int)) : Int)) (x.parts.take 6)).1 = false ∨ (rows (read d) ((s.pass (x.span : Int)).opened (RS.num (s.got (x.span : Int)) : Int)) (x.parts.take 6)).2.left ≠ 0
    then (false, (rows (read d) ((s.pass (x.span : Int)).opened (RS.num (s.got (x.span : Int)) : Int)) (x.parts.take 6)).2)
    else (true, (rows (read d) ((s.pass (x.span : Int)).opened (RS.num (s.got (x.span : Int)) : Int)) (x.parts.take 6)).2.close)
end Nd

/-- At the place of s lie the bytes b, ahead of the end. -/
def Lies (s : RS) (b : List UInt8) : Prop := s.e = 0 ∧ s.ok ∧ (s.l.drop s.k).take b.length = b ∧ s.k + b.length ≤ s.top
theorem Lies.pass {s : RS} {a b : List UInt8} (h : Lies s (a ++ b)) : s.pass (a.length : Int) = { s with k := s.k + a.length } ∧ s.got (a.length : Int) = a ∧ Lies { s with k := s.k + a.length } b := by
  obtain ⟨he, hok, hb, ht⟩ := h
  rw [List.length_append] at hb ht
  have hf : s.fits (a.length : Int) = s := RS.fits_pos (by omega) (by rw [RS.left_zero he]; omega)
  have hp : s.pass (a.length : Int) = { s with k := s.k + a.length } := by unfold RS.pass; rw [hf, if_pos he, Int.toNat_natCast]
  have ha : (s.l.drop s.k).take a.length = a := by
    have := congrArg (List.take a.length) hb
    rw [List.take_take, Nat.min_eq_left (by omega), List.take_left] at this
    exact this
  refine ⟨hp, ?_, he, ?_, ?_, ?_⟩
  · unfold RS.got; rw [hf, if_pos he, Int.toNat_natCast]; exact ha
  · have := RS.pass_ok hok (a.length : Int); rw [hp] at this; exact this
  · have := congrArg (List.drop a.length) hb
    rw [List.drop_left, List.drop_take, Nat.add_sub_cancel_left, List.drop_drop] at this
    exact this
  · show s.k + a.length + b.length ≤ s.top
    omega
theorem Lies.tells {s : RS} {x : Nd} (h : Lies s x.bytes) : x.tells s = (true, { s with k := s.k + x.bytes.length }) := by
  have h' : Lies s (x.bytes ++ []) := by rw [List.append_nil]; exact h
  obtain ⟨h1, h2, _⟩ := h'.pass
  have hl : x.bytes.length = x.width := length_be _ _
  rw [hl] at h1 h2 ⊢
  unfold Nd.tells
  rw [h1, h2]
  unfold Nd.bytes
  rw [num_be x.width_or x.value_lt, decide_eq_true rfl]
theorem rows_there {f : RS → Nd → Bool × RS} {g : Nd → Option (List UInt8)} (hf : ∀ s x b, g x = some b → Lies s b → f s x = (true, { s with k := s.k + b.length })) :
    ∀ (l : List Nd) (s : RS) (b : List UInt8), Nd.row g l = some b → Lies s b → Nd.rows f s l = (true, { s with k := s.k + b.length })
  | [], s, b, h, hl => by
    injection h with h
    subst h
    unfold Nd.rows
    rw [decide_eq_true hl.1]
    rfl
  | x :: l, s, b, h, hl => by
    unfold Nd.row at h
    cases hg : g x with
    | none => rw [hg] at h; cases h
    | some a =>
      cases hr : Nd.row g l with
      | none => rw [hg, hr] at h; cases h
      | some c =>
        rw [hg, hr] at h
        injection h with h
        subst h
        obtain ⟨h1, h2, h3⟩ := hl.pass
        have hla : Lies s a := ⟨hl.1, hl.2.1, by have := h2; unfold RS.got at this; rw [RS.fits_pos (by omega) (by rw [RS.left_zero hl.1]; have := hl.2.2.2; rw [List.length_append] at this; omega), if_pos hl.1, Int.toNat_natCast] at this; exact this, by have := hl.2.2.2; rw [List.length_append] at this; omega⟩
        unfold Nd.rows
        rw [hf s x a hg hla, if_neg (by simp), rows_there hf l _ c hr h3, List.length_append, Nat.add_assoc]
theorem Nd.there : ∀ (d : Nat) (s : RS) (x : Nd) (b : List UInt8), Nd.told d x = some b → Lies s b → Nd.read d s x = (true, { s with k := s.k + b.length })
  | 0, s, x, b, h, hl => by
    injection h with h
    subst h
    exact hl.tells
  | d + 1, s, x, b, h, hl => by
    unfold Nd.told at h
    unfold Nd.read
    by_cases hp : x.parts = []
    · rw [if_pos hp] at h ⊢
      injection h with h
      subst h
      exact hl.tells
    · rw [if_neg hp] at h ⊢
      cases hr : Nd.row (Nd.told d) (x.parts.take 6) with
      | none => rw [hr] at h; cases h
      | some c =>
        rw [hr] at h
        simp only at h
        by_cases hc : c.length < 256 ^ x.span
        · rw [if_pos hc] at h
          injection h with h
          subst h
          obtain ⟨h1, h2, h3⟩ := hl.pass
          rw [length_be] at h1 h2 h3
          rw [h1, h2, num_be x.span_in hc]
          have hcl := h3.2.2.2
          have ho : RS.opened { s with k := s.k + x.span } (c.length : Int) = { s with k := s.k + x.span, es := (s.k + x.span + c.length) :: s.es } := by
            unfold RS.opened
            rw [RS.fits_pos (by omega) (by rw [RS.left_zero h3.1]; omega), if_pos h3.1, Int.toNat_natCast]
          have hlo : Lies { s with k := s.k + x.span, es := (s.k + x.span + c.length) :: s.es } c := ⟨h3.1, by have := RS.opened_ok h3.2.1 (c.length : Int); rw [ho] at this; exact this, h3.2.2.1, Nat.le_refl _⟩
          rw [ho, rows_there (Nd.there d) _ _ c hr hlo, if_neg ?_]
          · unfold RS.close RS.skip
            simp [RS.left, RS.top, hl.1, length_be, Nat.add_assoc]
          · simp [RS.left, RS.top]
        · rw [if_neg hc] at h; cases h

/-- Behind an error reading ends in false, and the error stays. -/
theorem fits_bad {s : RS} (h : s.e ≠ 0) (n : Int) : s.fits n = s := by
  unfold RS.fits RS.fail
  rw [if_neg h, ite_self]
theorem pass_bad {s : RS} (h : s.e ≠ 0) (n : Int) : s.pass n = s := by unfold RS.pass; rw [fits_bad h, if_neg h]
theorem opened_bad {s : RS} (h : s.e ≠ 0) (n : Int) : s.opened n = s := by unfold RS.opened; rw [fits_bad h, if_neg h]
theorem rows_bad {f : RS → Nd → Bool × RS} (hf : ∀ s x, s.e ≠ 0 → (f s x).2.e ≠ 0) : ∀ (l : List Nd) (s : RS), s.e ≠ 0 → (Nd.rows f s l).1 = false ∧ (Nd.rows f s l).2.e ≠ 0
  | [], s, h => ⟨decide_eq_false h, h⟩
  | x :: l, s, h => by
    unfold Nd.rows
    by_cases hc : (f s x).1 = false
    · rw [if_pos hc]; exact ⟨rfl, hf s x h⟩
    · rw [if_neg hc]; exact rows_bad hf l _ (hf s x h)
theorem Nd.tells_bad {s : RS} (x : Nd) (h : s.e ≠ 0) : (x.tells s).2.e ≠ 0 := by unfold Nd.tells; simp only; rw [pass_bad h]; exact h
theorem Nd.read_bad : ∀ (d : Nat) (s : RS) (x : Nd), s.e ≠ 0 → (Nd.read d s x).2.e ≠ 0
  | 0, _, x, h => x.tells_bad h
  | d + 1, s, x, h => by
    unfold Nd.read
    by_cases hp : x.parts = []
    · rw [if_pos hp]; exact x.tells_bad h
    · rw [if_neg hp, pass_bad h, opened_bad h]
      have := rows_bad (Nd.read_bad d) (x.parts.take 6) s h
      rw [if_pos (.inl this.1)]
      exact this.2

/-- All that lies there is a proper part of b, from its start. -/
def Short (s : RS) (b : List UInt8) : Prop := s.e = 0 ∧ s.ok ∧ s.es = [] ∧ s.l.length - s.k < b.length ∧ s.l.drop s.k <+: b
theorem Short.top {s : RS} {b : List UInt8} (h : Short s b) : s.top = s.l.length := by unfold RS.top; rw [h.2.2.1]
theorem fits_fails {s : RS} (he : s.e = 0) {n : Int} (h : (s.left : Int) < n) : (s.fits n).e = 4 := by unfold RS.fits RS.fail; rw [if_pos (.inr h), if_pos he]
theorem pass_fails {s : RS} (he : s.e = 0) {n : Int} (h : (s.left : Int) < n) : (s.pass n).e = 4 := by
  have := fits_fails he h
  unfold RS.pass
  rw [if_neg (by rw [this]; decide)]
  exact this
theorem opened_fails {s : RS} (he : s.e = 0) {n : Int} (h : (s.left : Int) < n) : (s.opened n).e = 4 := by
  have := fits_fails he h
  unfold RS.opened
  rw [if_neg (by rw [this]; decide)]
  exact this
/-- The first part fits, or all is a proper part of it. -/
theorem Short.split {s : RS} {a b : List UInt8} (h : Short s (a ++ b)) : (Lies s a ∧ Short { s with k := s.k + a.length } b) ∨ Short s a := by
  obtain ⟨he, hok, hes, hlt, hp⟩ := h
  have htop : s.top = s.l.length := by unfold RS.top; rw [hes]
  have hle := hok.le
  rw [List.length_append] at hlt
  obtain ⟨c, hc⟩ := hp
  by_cases hf : s.l.length - s.k < a.length
  · refine .inr ⟨he, hok, hes, hf, ?_⟩
    have hd : (s.l.drop s.k).length ≤ a.length := by rw [List.length_drop]; omega
    exact List.prefix_of_prefix_length_le ⟨c, hc⟩ (List.prefix_append a b) hd
  · have hd : a.length ≤ (s.l.drop s.k).length := by rw [List.length_drop]; omega
    obtain ⟨r, hr⟩ := List.prefix_of_prefix_length_le (List.prefix_append a b) ⟨c, hc⟩ hd
    have hla : Lies s a := ⟨he, hok, by rw [← hr, List.take_left], by omega⟩
    have hla' : Lies s (a ++ []) := by rw [List.append_nil]; exact hla
    refine .inl ⟨hla, he, hla'.pass.2.2.2.1, hes, by show s.l.length - (s.k + a.length) < _; omega, ?_⟩
    show s.l.drop (s.k + a.length) <+: b
    rw [← List.drop_drop, ← hr, List.drop_left]
    rw [← hr, List.append_assoc] at hc
    exact ⟨c, List.append_cancel_left hc⟩
/-- One node that does not fit: false, or an error. -/
def Fails (r : Bool × RS) : Prop := r.1 = false ∨ r.2.e ≠ 0
theorem Short.tells {s : RS} {x : Nd} (h : Short s x.bytes) : Fails (x.tells s) := by
  refine .inr ?_
  show (s.pass (x.width : Int)).e ≠ 0
  rw [pass_fails h.1 (by rw [RS.left_zero h.1, h.top]; have := h.2.2.2.1; rw [show x.bytes.length = x.width from length_be _ _] at this; omega)]
  decide
theorem rows_short {f : RS → Nd → Bool × RS} {g : Nd → Option (List UInt8)} (hb : ∀ s x, s.e ≠ 0 → (f s x).2.e ≠ 0) (hf : ∀ s x b, g x = some b → Lies s b → f s x = (true, { s with k := s.k + b.length })) (hs : ∀ s x b, g x = some b → Short s b → Fails (f s x)) :
    ∀ (l : List Nd) (s : RS) (b : List UInt8), Nd.row g l = some b → Short s b → (Nd.rows f s l).1 = false
  | [], s, b, h, hl => by
    injection h with h
    subst h
    exact absurd hl.2.2.2.1 (by simp)
  | x :: l, s, b, h, hl => by
    unfold Nd.row at h
    cases hg : g x with
    | none => rw [hg] at h; cases h
    | some a =>
      cases hr : Nd.row g l with
      | none => rw [hg, hr] at h; cases h
      | some c =>
        rw [hg, hr] at h
        injection h with h
        subst h
        unfold Nd.rows
        rcases hl.split with ⟨h1, h2⟩ | h1
        · rw [hf s x a hg h1, if_neg (by simp)]
          exact rows_short hb hf hs l _ c hr h2
        · by_cases hc : (f s x).1 = false
          · rw [if_pos hc]
          · rw [if_neg hc]
            exact (rows_bad hb l _ ((hs s x a hg h1).resolve_left hc)).1
theorem Nd.short : ∀ (d : Nat) (s : RS) (x : Nd) (b : List UInt8), Nd.told d x = some b → Short s b → Fails (Nd.read d s x)
  | 0, s, x, b, h, hl => by
    injection h with h
    subst h
    exact hl.tells
  | d + 1, s, x, b, h, hl => by
    unfold Nd.told at h
    unfold Nd.read
    by_cases hp : x.parts = []
    · rw [if_pos hp] at h ⊢
      injection h with h
      subst h
      exact hl.tells
    · rw [if_neg hp] at h ⊢
      cases hr : Nd.row (Nd.told d) (x.parts.take 6) with
      | none => rw [hr] at h; cases h
      | some c =>
        rw [hr] at h
        simp only at h
        by_cases hc : c.length < 256 ^ x.span
        · rw [if_pos hc] at h
          injection h with h
          subst h
          have ho : ((s.pass (x.span : Int)).opened (RS.num (s.got (x.span : Int)) : Int)).e ≠ 0 := by
            rcases hl.split with ⟨h1, h2⟩ | h1
            · have h1' : Lies s (be c.length x.span ++ []) := by rw [List.append_nil]; exact h1
              obtain ⟨p1, p2, _⟩ := h1'.pass
              rw [length_be] at p1 p2 h2
              rw [p1, p2, num_be x.span_in hc, opened_fails h2.1 ?_]
              · decide
              · have h3 := h2.2.2.2.1
                rw [RS.left_zero h2.1, RS.top]
                simp only [hl.2.2.1]
                simp only at h3
                omega
            · have hp4 : (s.pass (x.span : Int)).e = 4 := pass_fails h1.1 (by rw [RS.left_zero h1.1, h1.top]; have := h1.2.2.2.1; rw [length_be] at this; omega)
              rw [opened_bad (by rw [hp4]; decide), hp4]
              decide
          have := rows_bad (Nd.read_bad d) (x.parts.take 6) _ ho
          rw [if_pos (.inl this.1)]
          exact .inl rfl
        · rw [if_neg hc] at h; cases h
end Go.Proofs.Ytmaebgpppedllaa
