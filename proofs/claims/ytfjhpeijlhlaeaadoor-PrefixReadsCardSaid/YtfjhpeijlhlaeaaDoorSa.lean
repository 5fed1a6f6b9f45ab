
/-
  PrefixReads, pure: the document's number and address against the program's fields.
-/
import Derived.Test.YtfjhpeijlhlaeaaDoorPt
namespace Go.Proofs.YtfjhpeijlhlaeaaDoor
open Go.RowKit

theorem isD_range {c : UInt8} (h : isD c = true) : 48 ≤ c.toNat ∧ c.toNat ≤ 57 := by simpa [isD] using h
/-- How many digits a text begins with. -/
def dl : List UInt8 → Nat
  | [] => 0
  | c :: l => if isD c = true then dl l + 1 else 0
theorem dl_le : ∀ l : List UInt8, dl l ≤ l.length
  | [] => Nat.le_refl _
  | c :: l => by
    unfold dl
    have := dl_le l
    split <;> simp <;> omega
theorem dl_ge : ∀ (l : List UInt8) (k : Nat), k ≤ l.length → (l.take k).all isD = true → k ≤ dl l
  | _, 0, _, _ => Nat.zero_le _
  | [], k + 1, h, _ => by simp at h
  | c :: l, k + 1, h, ha => by
    rw [List.take_succ_cons, List.all_cons, Bool.and_eq_true] at ha
    unfold dl
    rw [if_pos ha.1]
    have := dl_ge l k (by simpa using h) ha.2
    omega
theorem dl_eq : ∀ (l : List UInt8) (k : Nat), k ≤ l.length → (l.take k).all isD = true → (k = l.length ∨ isD (l.getD k 0) = false) → dl l = k
  | [], k, h, _, _ => by simp at h; subst h; rfl
  | c :: l, 0, _, _, he => by
    have : isD c = false := by rcases he with he | he; simp at he; exact he
    unfold dl
    rw [this]
    rfl
  | c :: l, k + 1, h, ha, he => by
    rw [List.take_succ_cons, List.all_cons, Bool.and_eq_true] at ha
    unfold dl
    rw [if_pos ha.1, dl_eq l k (by simpa using h) ha.2 (by rcases he with he | he; exact .inl (by simpa using he); exact .inr (by simpa using he))]
theorem dl_all : ∀ l : List UInt8, (l.take (dl l)).all isD = true
  | [] => rfl
  | c :: l => by
    unfold dl
    split
    next h => rw [List.take_succ_cons, List.all_cons, h, dl_all l]; rfl
    next => rfl
theorem dl_end : ∀ l : List UInt8, dl l = l.length ∨ isD (l.getD (dl l) 0) = false
  | [] => .inl rfl
  | c :: l => by
    unfold dl
    split
    · rcases dl_end l with h | h
      · exact .inl (by simp [h])
      · exact .inr (by simpa using h)
    next h => exact .inr (by simpa using h)
/-- The document's row of digits. -/
def rr (l : List UInt8) : Nat × Nat := if 10 < dl l ∨ 1 < dl l ∧ l.getD 0 0 = 48 then (0, 0) else (numV (l.take (dl l)), dl l)
theorem getD_take0 (l : List UInt8) (k : Nat) (h : 0 < k) : (l.take k).getD 0 0 = l.getD 0 0 := by
  cases l with
  | nil => simp
  | cons c l =>
    obtain ⟨j, rfl⟩ : ∃ j, k = j + 1 := ⟨k - 1, by omega⟩
    rfl
theorem rr_num (l : List UInt8) (k v : Nat) (hk : k ≤ l.length) (hn : num (l.take k) = some v) (he : k = l.length ∨ isD (l.getD k 0) = false) : rr l = (v, k) ∧ 0 < k := by
  unfold num at hn
  split at hn
  case isFalse => cases hn
  next ho =>
  injection hn with hn
  unfold numOk at ho
  simp only [Bool.and_eq_true, decide_eq_true_eq, Bool.not_eq_true', Bool.and_eq_false_iff, decide_eq_false_iff_not] at ho
  obtain ⟨⟨⟨hl0, hl10⟩, hz⟩, hall⟩ := ho
  rw [List.length_take, Nat.min_eq_left hk] at hl0 hl10 hz
  have hd := dl_eq l k hk hall he
  rw [getD_take0 l k hl0] at hz
  refine ⟨?_, hl0⟩
  unfold rr
  rw [hd, if_neg, hn]
  rintro (h | ⟨h1, h2⟩)
  · omega
  · rcases hz with hz | hz
    · exact hz h2
    · omega
theorem rr_some (l : List UInt8) (h : (rr l).2 ≠ 0) : (rr l).2 ≤ l.length ∧ num (l.take (rr l).2) = some (rr l).1 ∧ ((rr l).2 = l.length ∨ isD (l.getD (rr l).2 0) = false) := by
  unfold rr at h ⊢
  split at h
  · exact absurd rfl h
  next hc =>
    rw [if_neg hc]
    have h0 : dl l ≠ 0 := h
    have hle := dl_le l
    refine ⟨hle, ?_, dl_end l⟩
    unfold num
    rw [if_pos]
    unfold numOk
    have hg := getD_take0 l (dl l) (by omega)
    show (decide (0 < (l.take (dl l)).length) && decide ((l.take (dl l)).length ≤ 10) && !(decide ((l.take (dl l)).getD 0 0 = 48) && decide (1 < (l.take (dl l)).length)) && (l.take (dl l)).all isD) = true
    rw [dl_all l, hg, List.length_take, Nat.min_eq_left hle]
    have h1 : ¬ 10 < dl l := fun e => hc (.inl e)
    have h2 : (decide (l.getD 0 0 = 48) && decide (1 < dl l)) = false := by
      rw [Bool.and_eq_false_iff, decide_eq_false_iff_not, decide_eq_false_iff_not]
      by_cases e : l.getD 0 0 = 48
      · exact .inr (fun e2 => hc (.inr ⟨e2, e⟩))
      · exact .inl e
    rw [h2]
    simp
    omega
theorem rr_none (l : List UInt8) (h : (rr l).2 = 0) (k : Nat) (hk : k ≤ l.length) (he : k = l.length ∨ isD (l.getD k 0) = false) : num (l.take k) = none := by
  cases hn : num (l.take k) with
  | none => rfl
  | some v =>
    have ⟨e, h0⟩ := rr_num l k v hk hn he
    rw [e] at h
    exact absurd h (by simp; omega)

theorem num_all {l : List UInt8} {v : Nat} (h : num l = some v) : l.all isD = true ∧ 0 < l.length := by
  unfold num at h
  split at h
  case isFalse => cases h
  next ho =>
  unfold numOk at ho
  simp only [Bool.and_eq_true, decide_eq_true_eq] at ho
  exact ⟨ho.2, ho.1.1.1⟩
theorem num_no {l : List UInt8} {v : Nat} (h : num l = some v) (c : UInt8) (hc : isD c = false) : c ∉ l := fun hm => by
  have := List.all_eq_true.1 (num_all h).1 _ hm
  rw [hc] at this
  cases this
/-- No digit stands in front. -/
def Cln (r : List UInt8) : Prop := r = [] ∨ isD (r.getD 0 0) = false
theorem Cln.cons {c : UInt8} {r : List UInt8} (h : isD c = false) : Cln (c :: r) := .inr h
theorem rr_tok (s : List UInt8) (h : (rr s).2 ≠ 0) : ∃ t r, s = t ++ r ∧ num t = some (rr s).1 ∧ t.length = (rr s).2 ∧ Cln r := by
  obtain ⟨h1, h2, h3⟩ := rr_some s h
  refine ⟨s.take (rr s).2, s.drop (rr s).2, (List.take_append_drop _ _).symm, h2, by rw [List.length_take, Nat.min_eq_left h1], ?_⟩
  rcases h3 with h3 | h3
  · exact .inl (List.drop_eq_nil_of_le (by omega))
  · refine .inr ?_
    rw [List.getD_eq_getElem?_getD] at h3 ⊢
    rw [List.getElem?_drop, Nat.add_zero]
    exact h3
theorem tok_rr {t r : List UInt8} {v : Nat} (h : num t = some v) (hr : Cln r) : rr (t ++ r) = (v, t.length) := by
  refine (rr_num (t ++ r) t.length v (by simp) (by rw [List.take_left]; exact h) ?_).1
  rcases hr with rfl | hr
  · exact .inl (by simp)
  · refine .inr ?_
    rw [List.getD_eq_getElem?_getD] at hr ⊢
    rw [List.getElem?_append_right (Nat.le_refl _), Nat.sub_self]
    exact hr
/-- The document's address: so many numbers are left. -/
def adc : Nat → List UInt8 → Nat → Bool → Option (List UInt8 × Nat × Bool)
  | 0, s, x, f => some (s, x, f)
  | m + 1, s, x, f =>
    if m ≠ 3 ∧ (s = [] ∨ s.getD 0 0 ≠ 46) then none
    else if (rr (if m = 3 then s else s.drop 1)).2 = 0 then none
    else adc m ((if m = 3 then s else s.drop 1).drop (rr (if m = 3 then s else s.drop 1)).2) (256 * x + (rr (if m = 3 then s else s.drop 1)).1 % 256) (f && decide ((rr (if m = 3 then s else s.drop 1)).1 ≤ 255))
theorem adc_first {t r : List UInt8} {v x : Nat} {f : Bool} (h : num t = some v) (hr : Cln r) : adc 4 (t ++ r) x f = adc 3 r (256 * x + v % 256) (f && decide (v ≤ 255)) := by
  have h0 := (num_all h).2
  rw [adc, if_neg (by omega), if_pos rfl, tok_rr h hr, if_neg (by show t.length ≠ 0; omega)]
  show adc 3 ((t ++ r).drop t.length) _ _ = _
  rw [List.drop_left]
theorem adc_next {m : Nat} (hm : m < 3) {t r : List UInt8} {v x : Nat} {f : Bool} (h : num t = some v) (hr : Cln r) : adc (m + 1) (46 :: (t ++ r)) x f = adc m r (256 * x + v % 256) (f && decide (v ≤ 255)) := by
  have h0 := (num_all h).2
  rw [adc, if_neg (show ¬ m = 3 by omega), if_neg (by simp)]
  show (if (rr (t ++ r)).2 = 0 then none else adc m ((t ++ r).drop (rr (t ++ r)).2) (256 * x + (rr (t ++ r)).1 % 256) (f && decide ((rr (t ++ r)).1 ≤ 255))) = _
  rw [tok_rr h hr, if_neg (by show t.length ≠ 0; omega)]
  show adc m ((t ++ r).drop t.length) _ _ = _
  rw [List.drop_left]
theorem adc_first_inv {s : List UInt8} {x : Nat} {f : Bool} {z} (h : adc 4 s x f = some z) : ∃ t r v, s = t ++ r ∧ num t = some v ∧ Cln r := by
  rw [adc, if_neg (by omega), if_pos rfl] at h
  split at h
  · cases h
  next hn =>
    obtain ⟨t, r, e, hn, _, hc⟩ := rr_tok s hn
    exact ⟨t, r, _, e, hn, hc⟩
theorem adc_next_inv {m : Nat} (hm : m < 3) {s : List UInt8} {x : Nat} {f : Bool} {z} (h : adc (m + 1) s x f = some z) : ∃ t r v, s = 46 :: (t ++ r) ∧ num t = some v ∧ Cln r := by
  rw [adc] at h
  split at h
  · cases h
  next hg =>
    rw [if_neg (show ¬ m = 3 by omega)] at h
    split at h
    · cases h
    next hn =>
      obtain ⟨t, r, e, hn, _, hc⟩ := rr_tok _ hn
      refine ⟨t, r, _, ?_, hn, hc⟩
      cases s with
      | nil => exact absurd ⟨by omega, .inl rfl⟩ hg
      | cons c s =>
        have hc : c = 46 := by
          by_cases h : c = 46
          · exact h
          · exact absurd ⟨by omega, .inr h⟩ hg
        subst hc
        exact congrArg _ e
/-- Four numbers with points between. -/
structure Four (l : List UInt8) (a b c d r : List UInt8) (va vb vc vd : Nat) : Prop where
  eq : l = a ++ 46 :: (b ++ 46 :: (c ++ 46 :: (d ++ r)))
  ha : num a = some va
  hb : num b = some vb
  hc : num c = some vc
  hd : num d = some vd
def ipv (va vb vc vd : Nat) : Nat := 256 * (256 * (256 * (256 * 0 + va % 256) + vb % 256) + vc % 256) + vd % 256
def fit (va vb vc vd : Nat) : Bool := (((true && decide (va ≤ 255)) && decide (vb ≤ 255)) && decide (vc ≤ 255)) && decide (vd ≤ 255)
theorem Four.adc {l a b c d r : List UInt8} {va vb vc vd : Nat} (h : Four l a b c d r va vb vc vd) (hr : Cln r) : adc 4 l 0 true = some (r, ipv va vb vc vd, fit va vb vc vd) := by
  have hp : isD 46 = false := rfl
  rw [h.eq, adc_first h.ha (Cln.cons hp), adc_next (by omega) h.hb (Cln.cons hp), adc_next (by omega) h.hc (Cln.cons hp), adc_next (by omega) h.hd hr]
  rfl
theorem four_of_adc {l : List UInt8} {z} (h : adc 4 l 0 true = some z) : ∃ a b c d r va vb vc vd, Four l a b c d r va vb vc vd ∧ Cln r := by
  have hp : isD 46 = false := rfl
  obtain ⟨a, r1, va, e1, h1, c1⟩ := adc_first_inv h
  rw [e1, adc_first h1 c1] at h
  obtain ⟨b, r2, vb, e2, h2, c2⟩ := adc_next_inv (by omega) h
  rw [e2, adc_next (by omega) h2 c2] at h
  obtain ⟨c, r3, vc, e3, h3, c3⟩ := adc_next_inv (by omega) h
  rw [e3, adc_next (by omega) h3 c3] at h
  obtain ⟨d, r4, vd, e4, h4, c4⟩ := adc_next_inv (by omega) h
  exact ⟨a, b, c, d, r4, va, vb, vc, vd, ⟨by rw [e1, e2, e3, e4], h1, h2, h3, h4⟩, c4⟩
theorem Four.parse {l a b c d : List UInt8} {va vb vc vd : Nat} (h : Four l a b c d [] va vb vc vd) : parseIP l = if fit va vb vc vd = true then (ipv va vb vc vd, 0) else (0, 24) := by
  have hp : isD 46 = false := rfl
  have c0 := cut_at 46 a (b ++ 46 :: (c ++ 46 :: d)) (num_no h.ha 46 hp)
  have c1 := cut_at 46 b (c ++ 46 :: d) (num_no h.hb 46 hp)
  have c2 := cut_at 46 c d (num_no h.hc 46 hp)
  have e := h.eq
  rw [List.append_nil] at e
  have r1 : rst l 1 = b ++ 46 :: (c ++ 46 :: d) := by show (cutAt 46 l).2 = _; rw [e, c0]
  have r2 : rst l 2 = c ++ 46 :: d := by show (cutAt 46 (rst l 1)).2 = _; rw [r1, c1]
  have r3 : rst l 3 = d := by show (cutAt 46 (rst l 2)).2 = _; rw [r2, c2]
  have f0 : fd l 0 = a := by show (cutAt 46 l).1 = _; rw [e, c0]
  have f1 : fd l 1 = b := by show (cutAt 46 (rst l 1)).1 = _; rw [r1, c1]
  have f2 : fd l 2 = c := by show (cutAt 46 (rst l 2)).1 = _; rw [r2, c2]
  have f3 : fd l 3 = d := r3
  unfold parseIP nok nv
  rw [f0, f1, f2, f3, h.ha, h.hb, h.hc, h.hd]
  unfold fit ipv
  simp only [Option.isSome_some, Option.getD_some, Bool.and_self, if_true, Bool.true_and]
  split
  next hf =>
    simp only [Bool.and_eq_true, decide_eq_true_eq] at hf
    refine congrArg (·, (0 : Int)) ?_
    omega
  next => rfl
theorem four_of_parse {l : List UInt8} (h : (parseIP l).2 ≠ 5) : ∃ a b c d va vb vc vd, Four l a b c d [] va vb vc vd := by
  have hk : ∀ k, k < 4 → ∃ v, num (fd l k) = some v := fun k hk => by
    cases hn : num (fd l k) with
    | none => exact absurd (by rw [parseIP_form l k hk hn]) h
    | some v => exact ⟨v, rfl⟩
  obtain ⟨va, ha⟩ := hk 0 (by omega)
  obtain ⟨vb, hb⟩ := hk 1 (by omega)
  obtain ⟨vc, hc⟩ := hk 2 (by omega)
  obtain ⟨vd, hd⟩ := hk 3 (by omega)
  have n3 : rst l 3 ≠ [] := fun e => by
    have : fd l 3 = rst l 3 := rfl
    rw [this, e, num_nil] at hd
    cases hd
  have e3 := cut_found 46 (rst l 2) n3
  have n2 : rst l 2 ≠ [] := fun e => by rw [e] at e3; simp [cutAt] at e3
  have e2 := cut_found 46 (rst l 1) n2
  have n1 : rst l 1 ≠ [] := fun e => by rw [e] at e2; simp [cutAt] at e2
  have e1 := cut_found 46 l n1
  refine ⟨fd l 0, fd l 1, fd l 2, fd l 3, va, vb, vc, vd, ⟨?_, ha, hb, hc, hd⟩⟩
  have g0 : fd l 0 = (cutAt 46 l).1 := rfl
  have g1 : fd l 1 = (cutAt 46 (rst l 1)).1 := rfl
  have g2 : fd l 2 = (cutAt 46 (rst l 2)).1 := rfl
  have g3 : fd l 3 = (cutAt 46 (rst l 2)).2 := rfl
  have q1 : rst l 1 = (cutAt 46 l).2 := rfl
  have q2 : rst l 2 = (cutAt 46 (rst l 1)).2 := rfl
  rw [List.append_nil, g2, g3, ← e3, g1, q2, ← e2, g0, q1, ← e1]
/-- The document's ParseIP. -/
def rparseIP (l : List UInt8) : Nat × Int :=
  match adc 4 l 0 true with
  | some (r, x, f) => if r ≠ [] then (0, 5) else if f = false then (0, 24) else (x, 0)
  | none => (0, 5)
theorem rparseIP_eq (l : List UInt8) : rparseIP l = parseIP l := by
  by_cases h : (parseIP l).2 = 5
  · have hz : parseIP l = (0, 5) := by
      have := parseIP_zero l (by rw [h]; decide)
      rw [← this, ← h]
    rw [hz]
    unfold rparseIP
    split
    next r x f ha =>
      obtain ⟨a, b, c, d, r', va, vb, vc, vd, h4, hc⟩ := four_of_adc ha
      rw [h4.adc hc] at ha
      injection ha with ha
      obtain ⟨rfl, _⟩ := Prod.mk.inj ha
      by_cases hr : r' = []
      · subst hr
        exfalso
        rw [h4.parse] at h
        split at h <;> cases h
      · rw [if_pos hr]
    next => rfl
  · obtain ⟨a, b, c, d, va, vb, vc, vd, h4⟩ := four_of_parse h
    unfold rparseIP
    rw [h4.adc (.inl rfl), h4.parse]
    simp only [ne_eq, not_true_eq_false, if_false]
    cases fit va vb vc vd <;> rfl
end Go.Proofs.YtfjhpeijlhlaeaaDoor
