
/-
  Chapter 5 as plain data: capabilities, how they are read and laid; the reader's steps at it.
-/
import Derived.Test.YtembdobkgpojfaaDoorRs
namespace Go.Proofs.YtembdobkgpojfaaDoor
open Go.RowKit

/-- A capability: its code, its value. -/
abbrev Cp := UInt8 × List UInt8

namespace Cp
def form (c : Cp) : List UInt8 := c.1 :: UInt8.ofNat c.2.length :: c.2
def forms (l : List Cp) : List UInt8 := l.flatMap form

/-- The capabilities of a parameter, behind acc; none: one is not all there. -/
def inn (acc : List Cp) : List UInt8 → Option (List Cp)
  | [] => some acc
  | [_] => none
  | c :: n :: r => if r.length < n.toNat then none else inn (acc ++ [(c, r.take n.toNat)]) (r.drop n.toNat)
termination_by l => l.length
decreasing_by simp; omega

/-- What is read: the capabilities, the fault's code and subcode. -/
abbrev Res := List Cp × Nat × Nat
def bad (s : Nat) : Res := ([], 2, s)
def out (acc : List Cp) : List UInt8 → Res
  | [] => (acc, 0, 0)
  | [_] => bad 0
  | k :: n :: r => if r.length < n.toNat then bad 0 else if k.toNat ≠ 2 then bad 4 else match inn acc (r.take n.toNat) with | none => bad 0 | some acc' => out acc' (r.drop n.toNat)
termination_by l => l.length
decreasing_by simp; omega

theorem inn_nil (acc : List Cp) : inn acc [] = some acc := by rw [inn]
theorem inn_one (acc : List Cp) (x : UInt8) : inn acc [x] = none := by rw [inn]
theorem inn_short {acc : List Cp} {c n : UInt8} {r : List UInt8} (h : r.length < n.toNat) : inn acc (c :: n :: r) = none := by rw [inn, if_pos h]
theorem inn_step {acc : List Cp} {c n : UInt8} {r : List UInt8} (h : n.toNat ≤ r.length) : inn acc (c :: n :: r) = inn (acc ++ [(c, r.take n.toNat)]) (r.drop n.toNat) := by rw [inn, if_neg (by omega)]
theorem out_nil (acc : List Cp) : out acc [] = (acc, 0, 0) := by rw [out]
theorem out_one (acc : List Cp) (x : UInt8) : out acc [x] = bad 0 := by rw [out]
theorem out_short {acc : List Cp} {k n : UInt8} {r : List UInt8} (h : r.length < n.toNat) : out acc (k :: n :: r) = bad 0 := by rw [out, if_pos h]
theorem out_kind {acc : List Cp} {k n : UInt8} {r : List UInt8} (h : n.toNat ≤ r.length) (hk : k.toNat ≠ 2) : out acc (k :: n :: r) = bad 4 := by rw [out, if_neg (by omega), if_pos hk]
/-- What is left to read of a parameter, and what is behind. -/
def mid (acc : List Cp) (x y : List UInt8) : Res := match inn acc x with | none => bad 0 | some acc' => out acc' y
theorem out_step {acc : List Cp} {k n : UInt8} {r : List UInt8} (h : n.toNat ≤ r.length) (hk : k.toNat = 2) : out acc (k :: n :: r) = mid acc (r.take n.toNat) (r.drop n.toNat) := by rw [out, if_neg (by omega), if_neg (by omega)]; rfl
theorem mid_nil (acc : List Cp) (y : List UInt8) : mid acc [] y = out acc y := by unfold mid; rw [inn_nil]
theorem mid_one (acc : List Cp) (x : UInt8) (y : List UInt8) : mid acc [x] y = bad 0 := by unfold mid; rw [inn_one]
theorem mid_short {acc : List Cp} {c n : UInt8} {r y : List UInt8} (h : r.length < n.toNat) : mid acc (c :: n :: r) y = bad 0 := by unfold mid; rw [inn_short h]
theorem mid_step {acc : List Cp} {c n : UInt8} {r y : List UInt8} (h : n.toNat ≤ r.length) : mid acc (c :: n :: r) y = mid (acc ++ [(c, r.take n.toNat)]) (r.drop n.toNat) y := by unfold mid; rw [inn_step h]

/-- The capabilities' bytes, and the error. -/
def bytes (l : List Cp) : List UInt8 × Nat :=
  if l.any (fun c => decide (253 < c.2.length)) = true then ([], 1) else if l = [] then ([], 0) else if 255 < (forms l).length + 2 then ([], 3) else (2 :: UInt8.ofNat (forms l).length :: forms l, 0)

theorem forms_cons (c : Cp) (l : List Cp) : forms (c :: l) = form c ++ forms l := rfl
theorem forms_append (l m : List Cp) : forms (l ++ m) = forms l ++ forms m := List.flatMap_append
theorem form_len (c : Cp) : (form c).length = c.2.length + 2 := rfl

/-- What bytes are read as is what they lay. -/
theorem inn_forms : ∀ (x : List UInt8) (acc l : List Cp), inn acc x = some l → ∃ m, l = acc ++ m ∧ x = forms m ∧ ∀ c ∈ m, c.2.length ≤ 255
  | [], acc, l, h => by
    rw [inn_nil] at h; injection h with h
    exact ⟨[], by rw [h, List.append_nil], rfl, fun c hc => by cases hc⟩
  | [x], acc, l, h => by rw [inn_one] at h; cases h
  | c :: n :: r, acc, l, h => by
    by_cases hn : n.toNat ≤ r.length
    · rw [inn_step hn] at h
      obtain ⟨m, h1, h2, h3⟩ := inn_forms (r.drop n.toNat) _ l h
      have ht : (r.take n.toNat).length = n.toNat := by rw [List.length_take]; omega
      refine ⟨(c, r.take n.toNat) :: m, by rw [h1, List.append_assoc]; rfl, ?_, fun d hd => ?_⟩
      · rw [forms_cons, ← h2, form]
        simp only [ht, List.cons_append, List.take_append_drop]
        rw [UInt8.ofNat_toNat]
      · rcases List.mem_cons.1 hd with rfl | hd
        · have := n.toNat_lt; simp only [ht]; omega
        · exact h3 d hd
    · rw [inn_short (by omega)] at h; cases h
termination_by x => x.length
decreasing_by simp; omega

theorem inn_back : ∀ (l acc : List Cp), (∀ c ∈ l, c.2.length ≤ 255) → inn acc (forms l) = some (acc ++ l)
  | [], acc, _ => by rw [forms, List.flatMap_nil, inn_nil, List.append_nil]
  | c :: l, acc, h => by
    have hc := h c (List.mem_cons_self ..)
    have hn : (UInt8.ofNat c.2.length).toNat = c.2.length := by rw [UInt8.toNat_ofNat']; omega
    rw [forms_cons]
    show inn acc (c.1 :: UInt8.ofNat c.2.length :: (c.2 ++ forms l)) = _
    rw [inn_step (by rw [hn, List.length_append]; omega), hn, List.take_left, List.drop_left, inn_back l _ (fun d hd => h d (List.mem_cons_of_mem _ hd)), List.append_assoc]
    rfl

/-- What is read without a fault is no longer than the bytes. -/
theorem out_len : ∀ (x : List UInt8) (acc l : List Cp), out acc x = (l, 0, 0) → ∃ m, l = acc ++ m ∧ (∀ c ∈ m, c.2.length ≤ 253) ∧ (m ≠ [] → (forms m).length + 2 ≤ x.length)
  | [], acc, l, h => by
    rw [out_nil] at h; injection h with h
    exact ⟨[], by rw [h, List.append_nil], (fun c hc => by cases hc), fun h => absurd rfl h⟩
  | [x], acc, l, h => by rw [out_one] at h; cases h
  | k :: n :: r, acc, l, h => by
    by_cases hn : n.toNat ≤ r.length
    · by_cases hk : k.toNat = 2
      · rw [out_step hn hk, mid] at h
        cases hi : inn acc (r.take n.toNat) with
        | none => rw [hi] at h; cases h
        | some a =>
          rw [hi] at h
          obtain ⟨m1, rfl, h2, h3⟩ := inn_forms _ _ _ hi
          obtain ⟨m, h4, h5, h6⟩ := out_len (r.drop n.toNat) _ l h
          have ht : (forms m1).length = n.toNat := by rw [← h2, List.length_take]; omega
          have hd : (r.drop n.toNat).length = r.length - n.toNat := List.length_drop
          have hn8 := n.toNat_lt
          refine ⟨m1 ++ m, by rw [h4, List.append_assoc], fun c hc => ?_, fun _ => ?_⟩
          · rcases List.mem_append.1 hc with hc | hc
            · obtain ⟨s, t, rfl⟩ := List.append_of_mem hc
              rw [forms_append, forms_cons, List.length_append, List.length_append, form_len] at ht
              omega
            · exact h5 c hc
          · rw [forms_append, List.length_append, ht]
            simp only [List.length_cons]
            by_cases hm : m = []
            · subst hm; show n.toNat + 0 + 2 ≤ _; omega
            · have := h6 hm; omega
      · rw [out_kind hn hk] at h; cases h
    · rw [out_short (by omega)] at h; cases h
termination_by x => x.length
decreasing_by simp; omega
/-- Where there is a fault it is 2, and nothing is told. -/
theorem out_fault : ∀ (x : List UInt8) (acc : List Cp), (out acc x).2.1 ≠ 0 → (out acc x).1 = [] ∧ (out acc x).2.1 = 2 ∧ ((out acc x).2.2 = 0 ∨ (out acc x).2.2 = 4)
  | [], acc, h => by rw [out_nil] at h; exact absurd rfl h
  | [x], acc, h => by rw [out_one]; exact ⟨rfl, rfl, .inl rfl⟩
  | k :: n :: r, acc, h => by
    by_cases hn : n.toNat ≤ r.length
    · by_cases hk : k.toNat = 2
      · rw [out_step hn hk, mid] at h ⊢
        cases hi : inn acc (r.take n.toNat) with
        | none => exact ⟨rfl, rfl, .inl rfl⟩
        | some a => rw [hi] at h; exact out_fault (r.drop n.toNat) _ h
      · rw [out_kind hn hk]; exact ⟨rfl, rfl, .inr rfl⟩
    · rw [out_short (by omega)]; exact ⟨rfl, rfl, .inl rfl⟩
termination_by x => x.length
decreasing_by simp; omega
/-- .. and where the code is 0 the subcode is. -/
theorem out_none : ∀ (x : List UInt8) (acc : List Cp), (out acc x).2.1 = 0 → (out acc x).2.2 = 0
  | [], acc, h => by rw [out_nil]
  | [x], acc, h => by rw [out_one] at h; cases h
  | k :: n :: r, acc, h => by
    by_cases hn : n.toNat ≤ r.length
    · by_cases hk : k.toNat = 2
      · rw [out_step hn hk, mid] at h ⊢
        cases hi : inn acc (r.take n.toNat) with
        | none => rfl
        | some a => rw [hi] at h; exact out_none (r.drop n.toNat) _ h
      · rw [out_kind hn hk] at h; cases h
    · rw [out_short (by omega)]; rfl
termination_by x => x.length
decreasing_by simp; omega

theorem bytes_ok {l : List Cp} (h : (bytes l).2 = 0) : (∀ c ∈ l, c.2.length ≤ 253) ∧ ((l = [] ∧ bytes l = ([], 0)) ∨ (l ≠ [] ∧ (forms l).length ≤ 253 ∧ bytes l = (2 :: UInt8.ofNat (forms l).length :: forms l, 0))) := by
  unfold bytes at h ⊢
  by_cases h1 : l.any (fun c => decide (253 < c.2.length)) = true
  · rw [if_pos h1] at h; cases h
  · rw [if_neg h1] at h ⊢
    refine ⟨fun c hc => ?_, ?_⟩
    · by_cases hx : c.2.length ≤ 253
      · exact hx
      · exact absurd (List.any_eq_true.2 ⟨c, hc, by simpa using hx⟩) h1
    · by_cases h2 : l = []
      · rw [if_pos h2]; exact .inl ⟨h2, rfl⟩
      · rw [if_neg h2] at h ⊢
        by_cases h3 : 255 < (forms l).length + 2
        · rw [if_pos h3] at h; cases h
        · rw [if_neg h3]; exact .inr ⟨h2, by omega, rfl⟩
theorem bytes_back {l : List Cp} (h : (bytes l).2 = 0) : out [] (bytes l).1 = (l, 0, 0) := by
  obtain ⟨h1, ⟨rfl, h2⟩ | ⟨h0, h2, h3⟩⟩ := bytes_ok h
  · rw [h2, out_nil]
  · have hn : (UInt8.ofNat (forms l).length).toNat = (forms l).length := by rw [UInt8.toNat_ofNat']; omega
    rw [h3, out_step (by omega) rfl, hn, List.take_length, List.drop_length, mid, inn_back l [] (fun c hc => by have := h1 c hc; omega)]
    show out ([] ++ l) [] = _
    rw [out_nil, List.nil_append]
theorem bytes_fits {l : List Cp} (h1 : ∀ c ∈ l, c.2.length ≤ 253) (h2 : l ≠ [] → (forms l).length ≤ 253) : (bytes l).2 = 0 ∧ (bytes l).1.length = (if l = [] then 0 else (forms l).length + 2) := by
  unfold bytes
  rw [if_neg (by
    rw [List.any_eq_true]
    rintro ⟨c, hc, hx⟩
    have := h1 c hc
    simp at hx
    omega)]
  by_cases h0 : l = []
  · rw [if_pos h0, if_pos h0]; exact ⟨rfl, rfl⟩
  · rw [if_neg h0, if_neg h0, if_neg (by have := h2 h0; omega)]; exact ⟨rfl, by simp⟩
end Cp

namespace RS
theorem err_fail {s : RS} (h : s.e ≠ 0) (x : Int) : s.fail x = s := by unfold fail; rw [if_neg h]
theorem err_fits {s : RS} (h : s.e ≠ 0) (n : Int) : s.fits n = s := by unfold fits; split; exact err_fail h _; rfl
theorem err_pass {s : RS} (h : s.e ≠ 0) (n : Int) : s.pass n = s := by unfold pass; rw [err_fits h, if_neg h]
theorem err_opened {s : RS} (h : s.e ≠ 0) (n : Int) : s.opened n = s := by unfold opened; rw [err_fits h, if_neg h]
theorem err_left {s : RS} (h : s.e ≠ 0) : s.left = 0 := by unfold left; rw [if_neg h]
theorem err_skip {s : RS} (h : s.e ≠ 0) : s.skip = s := by
  unfold skip
  rw [if_neg h]
  split
  · exact err_fail h _
  · rfl
theorem err_close {s : RS} (h : s.e ≠ 0) : s.close = s := by unfold close; split; exact err_fail h _; exact err_skip h
theorem left_err {s : RS} (h : 0 < s.left) : s.e = 0 := by
  by_cases he : s.e = 0
  · exact he
  · rw [err_left he] at h; omega
/-- What is left, halved: a call that reads makes it less, or notes an error. -/
def rem (s : RS) : Nat := 2 * (s.l.length - s.k) + (if s.e = 0 then 1 else 0)
theorem pass_l (s : RS) (n : Int) : (s.pass n).l = s.l := by
  unfold pass
  split
  · rfl
  · exact (fits_l s n).1
theorem opened_l (s : RS) (n : Int) : (s.opened n).l = s.l := by
  unfold opened
  split
  · rfl
  · exact (fits_l s n).1
theorem pass_rem (s : RS) (n : Int) : (s.pass n).rem ≤ s.rem := by
  by_cases he : s.e = 0
  · unfold pass
    split
    · next h => obtain ⟨e1, _⟩ := fits_zero h; show 2 * (s.l.length - (s.k + n.toNat)) + (if s.e = 0 then 1 else 0) ≤ _; unfold rem; omega
    · next h =>
      unfold fits at h ⊢
      split at h
      · next hc => rw [if_pos hc]; unfold rem; rw [(fail_l s 4).1, (fail_l s 4).2.1, if_neg h]; omega
      · exact absurd he h
  · rw [err_pass he]; exact Nat.le_refl _
theorem pass_less {s : RS} (hk : s.ok) (h : 0 < s.left) {n : Int} (hn : 0 < n) : (s.pass n).rem < s.rem := by
  have he := left_err h
  have h1 := hk.top_le
  have h2 := hk.le
  rw [left_zero he] at h
  unfold pass
  split
  · next hz => obtain ⟨e1, _⟩ := fits_zero hz; show 2 * (s.l.length - (s.k + n.toNat)) + (if s.e = 0 then 1 else 0) < _; unfold rem; omega
  · next hz =>
    unfold fits at hz ⊢
    split at hz
    · next hc => rw [if_pos hc]; unfold rem; rw [(fail_l s 4).1, (fail_l s 4).2.1, if_neg hz, if_pos he]; omega
    · exact absurd he hz
theorem opened_rem (s : RS) (n : Int) : (s.opened n).rem ≤ s.rem := by
  by_cases he : s.e = 0
  · unfold opened
    split
    · next h => obtain ⟨e1, _⟩ := fits_zero h; exact Nat.le_refl _
    · next h =>
      unfold fits at h ⊢
      split at h
      · next hc => rw [if_pos hc]; unfold rem; rw [(fail_l s 4).1, (fail_l s 4).2.1, if_neg h]; omega
      · exact absurd he h
  · rw [err_opened he]; exact Nat.le_refl _
theorem close_rem {s : RS} (hk : s.ok) : s.close.rem ≤ s.rem := by
  have hf : ∀ x, (s.fail x).rem ≤ s.rem := fun x => by
    unfold rem; rw [(fail_l s x).1, (fail_l s x).2.1]
    unfold fail
    split
    · simp; split <;> omega
    · omega
  unfold close
  split
  · exact hf 5
  · unfold skip
    split
    · exact hf 26
    · split
      · next he => have := hk.le; show 2 * (s.l.length - s.top) + (if s.e = 0 then 1 else 0) ≤ _; unfold rem; omega
      · exact Nat.le_refl _

/-- Reading a byte where there is one, and where there is none. -/
theorem byte_there {s : RS} (he : s.e = 0) (h : s.k < s.top) (ht : s.top ≤ s.l.length) : s.got 1 = [s.l.getD s.k 0] ∧ s.pass 1 = { s with k := s.k + 1 } := by
  have hl : s.left = s.top - s.k := left_zero he
  have hf : s.fits 1 = s := fits_pos (by omega) (by omega)
  constructor
  · unfold got
    rw [hf, if_pos he]
    rw [List.drop_eq_getElem_cons (by omega), List.getD_eq_getElem?_getD, List.getElem?_eq_getElem (by omega)]
    rfl
  · unfold pass; rw [hf, if_pos he]; rfl
theorem byte_none {s : RS} (he : s.e = 0) (h : s.top ≤ s.k) : s.got 1 = [] ∧ (s.pass 1).e ≠ 0 := by
  have hl : s.left = s.top - s.k := left_zero he
  have hf : s.fits 1 = s.fail 4 := by unfold fits; rw [if_pos (by omega)]
  have hz : (s.fail 4).e ≠ 0 := by unfold fail; rw [if_pos he]; exact (by decide : (4 : Int) ≠ 0)
  constructor
  · unfold got; rw [hf, if_neg hz]
  · unfold pass; rw [hf, if_neg hz]; exact hz
theorem num_one (x : UInt8) : num [x] = x.toNat := by unfold num; simp
theorem num_nil : num [] = 0 := rfl
end RS

namespace Cp
/-- Between parameters: what is read of the rest is R. -/
def On (b : List UInt8) (R : Res) (s : RS) (acc : List Cp) : Prop :=
  s.l = b ∧ ((s.e = 0 ∧ s.es = [] ∧ s.k ≤ b.length ∧ out acc (b.drop s.k) = R) ∨ (s.e ≠ 0 ∧ R = bad 0))
/-- Within one. -/
def In (b : List UInt8) (R : Res) (s : RS) (acc : List Cp) : Prop :=
  s.l = b ∧ ((s.e = 0 ∧ ∃ q, s.es = [q] ∧ s.k ≤ q ∧ q ≤ b.length ∧ mid acc ((b.take q).drop s.k) (b.drop q) = R) ∨ (s.e ≠ 0 ∧ R = bad 0))

theorem drop_two {l : List UInt8} {k : Nat} (h : k + 1 < l.length) : l.drop k = l.getD k 0 :: l.getD (k + 1) 0 :: l.drop (k + 2) := by
  rw [List.drop_eq_getElem_cons (by omega), List.drop_eq_getElem_cons h]
  simp [List.getD_eq_getElem?_getD, List.getElem?_eq_getElem h, List.getElem?_eq_getElem (show k < l.length by omega)]
theorem drop_one {l : List UInt8} {k : Nat} (h : k + 1 = l.length) : l.drop k = [l.getD k 0] := by
  rw [List.drop_eq_getElem_cons (by omega), List.drop_eq_nil_of_le (by omega)]
  simp [List.getD_eq_getElem?_getD, List.getElem?_eq_getElem (show k < l.length by omega)]

theorem On.start (b : List UInt8) : On b (out [] b) ⟨b, 0, [], 0⟩ [] := ⟨rfl, .inl ⟨rfl, rfl, Nat.zero_le _, rfl⟩⟩
theorem On.step {b : List UInt8} {R : Res} {s : RS} {acc : List Cp} (h : On b R s acc) (hl : 0 < s.left) :
    (((s.pass 1).pass 1).opened (RS.num ((s.pass 1).got 1) : Int)).e = 0 ∧ RS.num (s.got 1) ≠ 2 ∧ R = bad 4 ∨
    (((s.pass 1).pass 1).opened (RS.num ((s.pass 1).got 1) : Int)).e = 0 ∧ RS.num (s.got 1) = 2 ∧ In b R (((s.pass 1).pass 1).opened (RS.num ((s.pass 1).got 1) : Int)) acc ∨
    (((s.pass 1).pass 1).opened (RS.num ((s.pass 1).got 1) : Int)).e ≠ 0 ∧ In b R (((s.pass 1).pass 1).opened (RS.num ((s.pass 1).got 1) : Int)) acc := by
  obtain ⟨rfl, ⟨he, hes, hk, hR⟩ | ⟨he, _⟩⟩ := h
  · obtain ⟨l, k, es, e⟩ := s
    obtain rfl : e = 0 := he
    obtain rfl : es = [] := hes
    have hlt : k < l.length := by rw [RS.left_zero rfl] at hl; unfold RS.top at hl; simp only at hl; omega
    obtain ⟨g1, p1⟩ := RS.byte_there (s := ⟨l, k, [], 0⟩) rfl hlt (Nat.le_refl _)
    rw [g1, p1]
    simp only at hR hk ⊢
    by_cases h1 : k + 1 < l.length
    · obtain ⟨g2, p2⟩ := RS.byte_there (s := ⟨l, k + 1, [], 0⟩) rfl h1 (Nat.le_refl _)
      rw [g2, p2, RS.num_one, RS.num_one]
      simp only
      rw [drop_two h1] at hR
      generalize l.getD k 0 = c at *
      generalize l.getD (k + 1) 0 = n at *
      by_cases h2 : (l.drop (k + 1 + 1)).length < n.toNat
      · rw [out_short h2] at hR
        rw [List.length_drop] at h2
        have hf : RS.fits ⟨l, k + 1 + 1, [], 0⟩ (n.toNat : Int) = RS.fail ⟨l, k + 1 + 1, [], 0⟩ 4 := by
          unfold RS.fits; rw [if_pos]; right; rw [RS.left_zero rfl]; unfold RS.top; simp only; omega
        have hz : (RS.fail ⟨l, k + 1 + 1, [], 0⟩ 4).e ≠ 0 := by unfold RS.fail; rw [if_pos rfl]; exact (by decide : (4 : Int) ≠ 0)
        refine .inr (.inr ?_)
        unfold RS.opened
        rw [hf, if_neg hz]
        exact ⟨hz, rfl, .inr ⟨hz, hR.symm⟩⟩
      · have h3 : n.toNat ≤ (l.drop (k + 1 + 1)).length := by omega
        have h4 := h3
        rw [List.length_drop] at h4
        have hf : RS.fits ⟨l, k + 1 + 1, [], 0⟩ (n.toNat : Int) = ⟨l, k + 1 + 1, [], 0⟩ := RS.fits_pos (by omega) (by rw [RS.left_zero rfl]; unfold RS.top; simp only; omega)
        unfold RS.opened
        rw [hf, if_pos rfl, Int.toNat_natCast]
        by_cases hc : c.toNat = 2
        · rw [out_step h3 hc] at hR
          refine .inr (.inl ⟨rfl, hc, rfl, .inl ⟨rfl, k + 1 + 1 + n.toNat, rfl, by simp only; omega, by omega, ?_⟩⟩)
          simp only
          rw [← hR, List.drop_take, List.drop_drop, show k + 1 + 1 + n.toNat - (k + 1 + 1) = n.toNat by omega]
        · rw [out_kind h3 hc] at hR
          exact .inl ⟨rfl, hc, hR.symm⟩
    · rw [drop_one (by omega), out_one] at hR
      obtain ⟨g2, p2⟩ := RS.byte_none (s := ⟨l, k + 1, [], 0⟩) rfl (by show l.length ≤ k + 1; omega)
      rw [RS.err_opened p2]
      exact .inr (.inr ⟨p2, RS.pass_l _ _, .inr ⟨p2, hR.symm⟩⟩)
  · rw [RS.err_left he] at hl; omega
theorem In.step {b : List UInt8} {R : Res} {s : RS} {acc : List Cp} (h : In b R s acc) (hl : 0 < s.left) :
    In b R (((s.pass 1).pass 1).pass (RS.num ((s.pass 1).got 1) : Int)) (acc ++ [(UInt8.ofNat (RS.num (s.got 1)), ((s.pass 1).pass 1).got (RS.num ((s.pass 1).got 1) : Int))]) := by
  obtain ⟨rfl, ⟨he, q, hes, hk, hq, hR⟩ | ⟨he, _⟩⟩ := h
  · obtain ⟨l, k, es, e⟩ := s
    obtain rfl : e = 0 := he
    obtain rfl : es = [q] := hes
    simp only at hk hq hR
    have hlt : k < q := by rw [RS.left_zero rfl] at hl; unfold RS.top at hl; simp only at hl; omega
    obtain ⟨g1, p1⟩ := RS.byte_there (s := ⟨l, k, [q], 0⟩) rfl hlt hq
    rw [g1, p1]
    have hlen : (l.take q).length = q := by rw [List.length_take]; omega
    have hgd : ∀ j, j < q → (l.take q).getD j 0 = l.getD j 0 := fun j hj => by rw [List.getD_eq_getElem?_getD, List.getElem?_take_of_lt hj, List.getD_eq_getElem?_getD]
    simp only
    by_cases h1 : k + 1 < q
    · obtain ⟨g2, p2⟩ := RS.byte_there (s := ⟨l, k + 1, [q], 0⟩) rfl h1 hq
      rw [g2, p2, RS.num_one, RS.num_one]
      simp only
      rw [drop_two (by omega), hgd k hlt, hgd (k + 1) h1] at hR
      rw [UInt8.ofNat_toNat]
      generalize l.getD k 0 = c at *
      generalize l.getD (k + 1) 0 = n at *
      have hdl : ((l.take q).drop (k + 2)).length = q - (k + 2) := by rw [List.length_drop, hlen]
      by_cases h2 : q - (k + 2) < n.toNat
      · rw [mid_short (by omega)] at hR
        have hf : RS.fits ⟨l, k + 1 + 1, [q], 0⟩ (n.toNat : Int) = RS.fail ⟨l, k + 1 + 1, [q], 0⟩ 4 := by
          unfold RS.fits; rw [if_pos]; right; rw [RS.left_zero rfl]; unfold RS.top; simp only; omega
        have hz : (RS.fail ⟨l, k + 1 + 1, [q], 0⟩ 4).e ≠ 0 := by unfold RS.fail; rw [if_pos rfl]; exact (by decide : (4 : Int) ≠ 0)
        refine ⟨RS.pass_l _ _, .inr ⟨?_, hR.symm⟩⟩
        unfold RS.pass
        rw [hf, if_neg hz]
        exact hz
      · have hf : RS.fits ⟨l, k + 1 + 1, [q], 0⟩ (n.toNat : Int) = ⟨l, k + 1 + 1, [q], 0⟩ := RS.fits_pos (by omega) (by rw [RS.left_zero rfl]; unfold RS.top; simp only; omega)
        rw [mid_step (by omega)] at hR
        have hg : RS.got ⟨l, k + 1 + 1, [q], 0⟩ (n.toNat : Int) = ((l.take q).drop (k + 2)).take n.toNat := by
          unfold RS.got
          rw [hf, if_pos rfl]
          simp only [Int.toNat_natCast]
          rw [List.drop_take, List.take_take, Nat.min_eq_left (by omega)]
        rw [hg]
        refine ⟨RS.pass_l _ _, .inl ?_⟩
        unfold RS.pass
        rw [hf, if_pos rfl, Int.toNat_natCast]
        refine ⟨rfl, q, rfl, (show k + 1 + 1 + n.toNat ≤ q by omega), hq, ?_⟩
        rw [← hR, List.drop_drop]
    · have hq1 : q = k + 1 := by omega
      rw [drop_one (by omega), mid_one] at hR
      obtain ⟨g2, p2⟩ := RS.byte_none (s := ⟨l, k + 1, [q], 0⟩) rfl (by show q ≤ k + 1; omega)
      rw [RS.err_pass p2]
      exact ⟨RS.pass_l _ _, .inr ⟨p2, hR.symm⟩⟩
  · rw [RS.err_left he] at hl; omega
theorem In.close {b : List UInt8} {R : Res} {s : RS} {acc : List Cp} (h : In b R s acc) (hl : s.left = 0) : On b R s.close acc := by
  obtain ⟨rfl, ⟨he, q, hes, hk, hq, hR⟩ | ⟨he, hR⟩⟩ := h
  · obtain ⟨l, k, es, e⟩ := s
    obtain rfl : e = 0 := he
    obtain rfl : es = [q] := hes
    have hk1 : k = q := by rw [RS.left_zero rfl] at hl; unfold RS.top at hl; simp only at hl hk; omega
    subst hk1
    have hc : RS.close ⟨l, k, [k], 0⟩ = ⟨l, k, [], 0⟩ := by
      unfold RS.close
      rw [if_neg (by rintro ⟨_, h⟩; omega)]
      rfl
    rw [hc]
    simp only at hR hq
    rw [List.drop_eq_nil_of_le (by rw [List.length_take]; omega), mid_nil] at hR
    exact ⟨rfl, .inl ⟨rfl, rfl, hq, hR⟩⟩
  · rw [RS.err_close he]; exact ⟨rfl, .inr ⟨he, hR⟩⟩
theorem On.done {b : List UInt8} {R : Res} {s : RS} {acc : List Cp} (h : On b R s acc) (hl : s.left = 0) : (s.e = 0 ∧ R = (acc, 0, 0)) ∨ (s.e ≠ 0 ∧ R = bad 0) := by
  obtain ⟨rfl, ⟨he, hes, hk, hR⟩ | h⟩ := h
  · have hk1 : s.l.length ≤ s.k := by rw [RS.left_zero he] at hl; unfold RS.top at hl; rw [hes] at hl; simp only at hl; omega
    rw [List.drop_eq_nil_of_le hk1, out_nil] at hR
    exact .inl ⟨he, hR.symm⟩
  · exact .inr h
end Cp
end Go.Proofs.YtembdobkgpojfaaDoor
