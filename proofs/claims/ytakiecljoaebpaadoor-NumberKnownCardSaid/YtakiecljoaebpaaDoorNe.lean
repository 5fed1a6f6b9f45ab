
/-
  The document's row and Parse.
-/
import Derived.Test.YtakiecljoaebpaaDoorNd
namespace Go.Proofs.YtakiecljoaebpaaDoor
open Go.RowKit

/-- How many digits a text begins with. -/
def dl : List UInt8 → Nat
  | [] => 0
  | c :: l => if isD c = true then dl l + 1 else 0
theorem dl_le : ∀ l : List UInt8, dl l ≤ l.length
  | [] => Nat.le_refl _
  | c :: l => by
    unfold dl
    have := dl_le l
    split <;> simp <;> omega
theorem dl_ge : ∀ (l : List UInt8) (k : Nat), k ≤ l.length → (l.take k).all isD = true → k ≤ dl l
  | _, 0, _, _ => Nat.zero_le _
  | [], k + 1, h, _ => by simp at h
  | c :: l, k + 1, h, ha => by
    rw [List.take_succ_cons, List.all_cons, Bool.and_eq_true] at ha
    unfold dl
    rw [if_pos ha.1]
    have := dl_ge l k (by simpa using h) ha.2
    omega
theorem dl_eq : ∀ (l : List UInt8) (k : Nat), k ≤ l.length → (l.take k).all isD = true → (k = l.length ∨ isD (l.getD k 0) = false) → dl l = k
  | [], k, h, _, _ => by simp at h; subst h; rfl
  | c :: l, 0, _, _, he => by
    have : isD c = false := by rcases he with he | he; simp at he; exact he
    unfold dl
    rw [this]
    rfl
  | c :: l, k + 1, h, ha, he => by
    rw [List.take_succ_cons, List.all_cons, Bool.and_eq_true] at ha
    unfold dl
    rw [if_pos ha.1, dl_eq l k (by simpa using h) ha.2 (by rcases he with he | he; exact .inl (by simpa using he); exact .inr (by simpa using he))]
theorem dl_all : ∀ l : List UInt8, (l.take (dl l)).all isD = true
  | [] => rfl
  | c :: l => by
    unfold dl
    split
    next h => rw [List.take_succ_cons, List.all_cons, h, dl_all l]; rfl
    next => rfl
theorem dl_end : ∀ l : List UInt8, dl l = l.length ∨ isD (l.getD (dl l) 0) = false
  | [] => .inl rfl
  | c :: l => by
    unfold dl
    split
    · rcases dl_end l with h | h
      · exact .inl (by simp [h])
      · exact .inr (by simpa using h)
    next h => exact .inr (by simpa using h)
/-- The document's row of digits. -/
def rr (l : List UInt8) : Nat × Nat := if 10 < dl l ∨ 1 < dl l ∧ l.getD 0 0 = 48 then (0, 0) else (numV (l.take (dl l)), dl l)
theorem getD_take0 (l : List UInt8) (k : Nat) (h : 0 < k) : (l.take k).getD 0 0 = l.getD 0 0 := by
  cases l with
  | nil => simp
  | cons c l =>
    obtain ⟨j, rfl⟩ : ∃ j, k = j + 1 := ⟨k - 1, by omega⟩
    rfl
theorem rr_num (l : List UInt8) (k v : Nat) (hk : k ≤ l.length) (hn : num (l.take k) = some v) (he : k = l.length ∨ isD (l.getD k 0) = false) : rr l = (v, k) ∧ 0 < k := by
  unfold num at hn
  split at hn
  case isFalse => cases hn
  next ho =>
  injection hn with hn
  unfold numOk at ho
  simp only [Bool.and_eq_true, decide_eq_true_eq, Bool.not_eq_true', Bool.and_eq_false_iff, decide_eq_false_iff_not] at ho
  obtain ⟨⟨⟨hl0, hl10⟩, hz⟩, hall⟩ := ho
  rw [List.length_take, Nat.min_eq_left hk] at hl0 hl10 hz
  have hd := dl_eq l k hk hall he
  rw [getD_take0 l k hl0] at hz
  refine ⟨?_, hl0⟩
  unfold rr
  rw [hd, if_neg, hn]
  rintro (h | ⟨h1, h2⟩)
  · omega
  · rcases hz with hz | hz
    · exact hz h2
    · omega
theorem rr_some (l : List UInt8) (h : (rr l).2 ≠ 0) : (rr l).2 ≤ l.length ∧ num (l.take (rr l).2) = some (rr l).1 ∧ ((rr l).2 = l.length ∨ isD (l.getD (rr l).2 0) = false) := by
  unfold rr at h ⊢
  split at h
  · exact absurd rfl h
  next hc =>
    rw [if_neg hc]
    have h0 : dl l ≠ 0 := h
    have hle := dl_le l
    refine ⟨hle, ?_, dl_end l⟩
    unfold num
    rw [if_pos]
    unfold numOk
    have hg := getD_take0 l (dl l) (by omega)
    show (decide (0 < (l.take (dl l)).length) && decide ((l.take (dl l)).length ≤ 10) && !(decide ((l.take (dl l)).getD 0 0 = 48) && decide (1 < (l.take (dl l)).length)) && (l.take (dl l)).all isD) = true
    rw [dl_all l, hg, List.length_take, Nat.min_eq_left hle]
    have h1 : ¬ 10 < dl l := fun e => hc (.inl e)
    have h2 : (decide (l.getD 0 0 = 48) && decide (1 < dl l)) = false := by
      rw [Bool.and_eq_false_iff, decide_eq_false_iff_not, decide_eq_false_iff_not]
      by_cases e : l.getD 0 0 = 48
      · exact .inr (fun e2 => hc (.inr ⟨e2, e⟩))
      · exact .inl e
    rw [h2]
    simp
    omega
theorem rr_lt (l : List UInt8) : (rr l).1 < 10000000000 := by
  by_cases h : (rr l).2 = 0
  · unfold rr at h ⊢
    split at h
    next hc => rw [if_pos hc]; simp
    next hc =>
      rw [if_neg hc]
      have h : dl l = 0 := h
      simp [h, numV]
  · exact (num_some (rr_some l h).2.1).2
theorem rr_none (l : List UInt8) (h : (rr l).2 = 0) (k : Nat) (hk : k ≤ l.length) (he : k = l.length ∨ isD (l.getD k 0) = false) : num (l.take k) = none := by
  cases hn : num (l.take k) with
  | none => rfl
  | some v =>
    have ⟨e, h0⟩ := rr_num l k v hk hn he
    rw [e] at h
    exact absurd h (by simp; omega)
/-- The document's Parse, as plain lists. -/
def rparse (l : List UInt8) : Nat × Nat :=
  if (rr l).2 = 0 then (0, 5)
  else if (rr l).2 = l.length then (if 4294967295 < (rr l).1 then (0, 24) else ((rr l).1, 0))
  else if l.getD (rr l).2 0 ≠ 46 then (0, 5)
  else if (rr (l.drop ((rr l).2 + 1))).2 = 0 ∨ (rr l).2 + 1 + (rr (l.drop ((rr l).2 + 1))).2 ≠ l.length then (0, 5)
  else if 65535 < (rr l).1 ∨ 65535 < (rr (l.drop ((rr l).2 + 1))).1 then (0, 24)
  else ((rr l).1 * 65536 + (rr (l.drop ((rr l).2 + 1))).1, 0)
theorem cut_num {l : List UInt8} (hc : cutB 46 l = true) : (cutAt 46 l).1 = l.take (cutAt 46 l).1.length ∧ (cutAt 46 l).1.length < l.length ∧ l.getD (cutAt 46 l).1.length 0 = 46 := by
  have h := cut_split hc
  generalize (cutAt 46 l).1 = a at h ⊢
  generalize (cutAt 46 l).2 = b at h
  subst h
  refine ⟨by simp, by simp, ?_⟩
  rw [List.getD_eq_getElem?_getD]
  simp
theorem rparse_eq (l : List UInt8) : rparse l = parse l := by
  unfold rparse
  by_cases h0 : (rr l).2 = 0
  · rw [if_pos h0]
    unfold parse
    split
    next hc =>
      obtain ⟨e1, e2, e3⟩ := cut_num hc
      have : num (cutAt 46 l).1 = none := by
        rw [e1]
        exact rr_none l h0 _ (by omega) (.inr (by rw [e3]; rfl))
      rw [this]
    next hc =>
      have := rr_none l h0 l.length (Nat.le_refl _) (.inl rfl)
      rw [List.take_length] at this
      rw [this]
  · rw [if_neg h0]
    obtain ⟨hk, hn, he⟩ := rr_some l h0
    by_cases h1 : (rr l).2 = l.length
    · rw [if_pos h1]
      rw [h1, List.take_length] at hn
      have ha := dec_all (rr l).1
      rw [← (num_some hn).1] at ha
      have := (cut_none 46 l (no_dot ha)).2
      unfold parse
      rw [this, hn]
      rfl
    · rw [if_neg h1]
      by_cases h2 : l.getD (rr l).2 0 ≠ 46
      · rw [if_pos h2]
        unfold parse
        split
        next hc =>
          obtain ⟨e1, e2, e3⟩ := cut_num hc
          cases hm : num (cutAt 46 l).1 with
          | none => rfl
          | some v =>
            rw [e1] at hm
            have := (rr_num l _ v (by omega) hm (.inr (by rw [e3]; rfl))).1
            exfalso
            apply h2
            rw [this]
            exact e3
        next hc =>
          cases hm : num l with
          | none => rfl
          | some v =>
            have := (rr_num l l.length v (Nat.le_refl _) (by rw [List.take_length]; exact hm) (.inl rfl)).1
            exact absurd (by rw [this]) h1
      · rw [if_neg h2]
        have h2 : l.getD (rr l).2 0 = 46 := by simpa using h2
        have hlt : (rr l).2 < l.length := by omega
        have hs : l = l.take (rr l).2 ++ 46 :: l.drop ((rr l).2 + 1) := by
          have e : l[(rr l).2] = 46 := by rw [List.getD_eq_getElem?_getD, List.getElem?_eq_getElem hlt] at h2; exact h2
          have := (List.take_append_drop (rr l).2 l).symm
          rw [List.drop_eq_getElem_cons hlt, e] at this
          exact this
        have ha := dec_all (rr l).1
        rw [← (num_some hn).1] at ha
        have ⟨c1, c2⟩ := cut_at2 46 (l.take (rr l).2) (l.drop ((rr l).2 + 1)) (no_dot ha)
        rw [← hs] at c1 c2
        unfold parse
        rw [c2, c1, hn]
        simp only [if_true]
        have hdl : (l.drop ((rr l).2 + 1)).length = l.length - ((rr l).2 + 1) := List.length_drop
        generalize l.drop ((rr l).2 + 1) = d at hdl ⊢
        by_cases h3 : (rr d).2 = 0 ∨ (rr l).2 + 1 + (rr d).2 ≠ l.length
        · rw [if_pos h3]
          cases hm : num d with
          | none => rfl
          | some v =>
            have ⟨e, e0⟩ := rr_num d d.length v (Nat.le_refl _) (by rw [List.take_length]; exact hm) (.inl rfl)
            rw [e] at h3
            rcases h3 with h3 | h3
            · exact absurd h3 (by simp; omega)
            · exact absurd (by simp; omega) h3
        · rw [if_neg h3]
          have h3 : (rr d).2 ≠ 0 ∧ (rr l).2 + 1 + (rr d).2 = l.length := ⟨fun e => h3 (.inl e), Classical.not_not.1 (fun e => h3 (.inr e))⟩
          have := (rr_some d h3.1).2.1
          rw [show (rr d).2 = d.length by omega, List.take_length] at this
          rw [this]
          simp only
          by_cases h4 : 65535 < (rr l).1 ∨ 65535 < (rr d).1
          · rw [if_pos h4, if_pos (by omega)]
          · rw [if_neg h4, if_neg (by omega)]
end Go.Proofs.YtakiecljoaebpaaDoor
