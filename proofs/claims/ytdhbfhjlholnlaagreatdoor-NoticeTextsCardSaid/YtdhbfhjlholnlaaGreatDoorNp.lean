
/-
  Numbers' digits, there and back, as plain lists.
-/
import Derived.Test.YtdhbfhjlholnlaaGreatDoorNa
namespace Go.Proofs.YtdhbfhjlholnlaaGreatDoor
open Go.RowKit

theorem dec_small {n : Nat} (h : n < 10) : Lib.decDigits n = [UInt8.ofNat (48 + n)] := by rw [Lib.decDigits, dif_pos h]
theorem dec_step {n : Nat} (h : ¬ n < 10) : Lib.decDigits n = Lib.decDigits (n / 10) ++ [UInt8.ofNat (48 + n % 10)] := by rw [Lib.decDigits, dif_neg h]
theorem dg_nat (d : Nat) (h : d < 10) : (UInt8.ofNat (48 + d)).toNat = 48 + d := by
  rw [UInt8.toNat_ofNat']
  omega
theorem dg_isD (d : Nat) (h : d < 10) : isD (UInt8.ofNat (48 + d)) = true := by
  unfold isD
  rw [dg_nat d h]
  simp
  omega
theorem dec_ne : ∀ n : Nat, Lib.decDigits n ≠ [] := fun n => by
  by_cases h : n < 10
  · rw [dec_small h]; simp
  · rw [dec_step h]; simp
theorem dec_all (n : Nat) : (Lib.decDigits n).all isD = true := by
  induction n using Nat.strongRecOn with
  | ind n ih =>
    by_cases h : n < 10
    · rw [dec_small h, List.all_cons, List.all_nil, dg_isD n h]; rfl
    · rw [dec_step h, List.all_append, ih (n / 10) (by omega), List.all_cons, List.all_nil, dg_isD (n % 10) (by omega)]; rfl
theorem dec_numV (n : Nat) : numV (Lib.decDigits n) = n := by
  induction n using Nat.strongRecOn with
  | ind n ih =>
    by_cases h : n < 10
    · rw [dec_small h]
      have := dg_nat n h
      simp only [numV, List.foldl_cons, List.foldl_nil]
      omega
    · rw [dec_step h, numV_snoc, ih (n / 10) (by omega), dg_nat (n % 10) (by omega)]
      omega
theorem getD_app (a b : List UInt8) (h : a ≠ []) : (a ++ b).getD 0 0 = a.getD 0 0 := by
  cases a with
  | nil => exact absurd rfl h
  | cons x y => rfl
theorem dec_head (n : Nat) : (Lib.decDigits n).getD 0 0 = 48 → n = 0 := by
  induction n using Nat.strongRecOn with
  | ind n ih =>
    by_cases h : n < 10
    · rw [dec_small h]
      intro e
      have e : UInt8.ofNat (48 + n) = 48 := e
      have := congrArg UInt8.toNat e
      rw [dg_nat n h] at this
      have h2 : (48 : UInt8).toNat = 48 := rfl
      omega
    · rw [dec_step h]
      intro e
      rw [getD_app _ _ (dec_ne (n / 10))] at e
      have := ih (n / 10) (by omega) e
      omega
theorem dec_len (k n : Nat) (hk : 0 < k) (h : n < 10 ^ k) : (Lib.decDigits n).length ≤ k := by
  induction k generalizing n with
  | zero => omega
  | succ k ih =>
    by_cases h1 : n < 10
    · rw [dec_small h1]; simp
    · rw [dec_step h1]
      rw [Nat.pow_succ] at h
      by_cases hk0 : k = 0
      · subst hk0; omega
      · have := ih (n / 10) (by omega) (by omega)
        simp
        omega
theorem dec_len32 (n : Nat) (h : n < 4294967296) : (Lib.decDigits n).length ≤ 10 := dec_len 10 n (by omega) (by omega)
theorem num_dec (n : Nat) (h : n < 10000000000) : num (Lib.decDigits n) = some n := by
  have h1 := dec_len 10 n (by omega) (by omega)
  have h2 := List.length_pos_iff.2 (dec_ne n)
  have h3 : numOk (Lib.decDigits n) = true := by
    unfold numOk
    rw [dec_all n]
    have h4 : (decide ((Lib.decDigits n).getD 0 0 = 48) && decide (1 < (Lib.decDigits n).length)) = false := by
      by_cases h0 : n = 0
      · subst h0; rw [dec_small (by omega)]; simp
      · have : ¬ (Lib.decDigits n).getD 0 0 = 48 := fun e => h0 (dec_head n e)
        rw [decide_eq_false this]; rfl
    rw [h4]
    simp [h1, h2]
  unfold num
  rw [if_pos h3, dec_numV]
theorem isD_range {c : UInt8} (h : isD c = true) : 48 ≤ c.toNat ∧ c.toNat ≤ 57 := by simpa [isD] using h
theorem dec_of (k : Nat) : ∀ l : List UInt8, l.length = k → l ≠ [] → l.all isD = true → ¬ (l.getD 0 0 = 48 ∧ 1 < l.length) → Lib.decDigits (numV l) = l ∧ (1 < l.length → 0 < numV l) := by
  induction k with
  | zero => intro l hl h; exact absurd (List.eq_nil_of_length_eq_zero hl) h
  | succ k ih =>
    intro l hl hne hall hz
    obtain ⟨i, c, rfl⟩ : ∃ i c, l = i ++ [c] := ⟨l.dropLast, l.getLast hne, (List.dropLast_concat_getLast hne).symm⟩
    have hc : isD c = true := by rw [List.all_append] at hall; simp at hall; exact hall.2
    have hi : i.all isD = true := by rw [List.all_append] at hall; simp only [Bool.and_eq_true] at hall; exact hall.1
    obtain ⟨c1, c2⟩ := isD_range hc
    have hcc : UInt8.ofNat (48 + (c.toNat - 48)) = c := by
      have : 48 + (c.toNat - 48) = c.toNat := by omega
      rw [this]
      exact UInt8.ofNat_toNat
    rw [numV_snoc]
    by_cases h0 : i = []
    · subst h0
      have e : numV [] * 10 + (c.toNat - 48) = c.toNat - 48 := by simp [numV]
      rw [e, dec_small (by omega), hcc]
      exact ⟨rfl, fun h => by simp at h⟩
    · have hpos := List.length_pos_iff.2 h0
      have hg : (i ++ [c]).getD 0 0 = i.getD 0 0 := getD_app _ _ h0
      have hz' : ¬ i.getD 0 0 = 48 := fun e => hz ⟨by rw [hg]; exact e, by simp; omega⟩
      have hv : 0 < numV i := by
        by_cases h1 : 1 < i.length
        · exact (ih i (by simpa using hl) h0 hi (fun ⟨e, _⟩ => hz' e)).2 h1
        · obtain ⟨b, rfl⟩ := List.length_eq_one_iff.1 (by omega : i.length = 1)
          have hb : isD b = true := by simpa using hi
          have := isD_range hb
          have hb2 : b ≠ 48 := hz'
          have hb3 : b.toNat ≠ 48 := fun e => hb2 (UInt8.toNat_inj.1 (by rw [e]; rfl))
          simp only [numV, List.foldl_cons, List.foldl_nil]
          omega
      have := (ih i (by simpa using hl) h0 hi (fun ⟨e, _⟩ => hz' e)).1
      refine ⟨?_, fun _ => by omega⟩
      rw [dec_step (by omega)]
      have e1 : (numV i * 10 + (c.toNat - 48)) / 10 = numV i := by omega
      have e2 : (numV i * 10 + (c.toNat - 48)) % 10 = c.toNat - 48 := by omega
      rw [e1, e2, this, hcc]
theorem num_some {l : List UInt8} {v : Nat} (h : num l = some v) : l = Lib.decDigits v ∧ v < 10000000000 := by
  unfold num at h
  split at h
  case isFalse => cases h
  next ho =>
  injection h with h
  unfold numOk at ho
  simp only [Bool.and_eq_true, decide_eq_true_eq, Bool.not_eq_true', Bool.and_eq_false_iff, decide_eq_false_iff_not] at ho
  obtain ⟨⟨⟨hl0, hl10⟩, hz⟩, hall⟩ := ho
  have hb := numV_lt l hall
  have hp : (10 : Nat) ^ l.length ≤ 10 ^ 10 := Nat.pow_le_pow_right (by omega) hl10
  have := (dec_of l.length l rfl (List.length_pos_iff.1 hl0) hall (fun ⟨h1, h2⟩ => by rcases hz with hz | hz; exact hz h1; exact hz h2)).1
  rw [h] at this
  exact ⟨this.symm, by omega⟩
theorem num_zero_dec (n : Nat) : num (48 :: Lib.decDigits n) = none := by
  unfold num
  rw [if_neg]
  intro ho
  unfold numOk at ho
  have := List.length_pos_iff.2 (dec_ne n)
  simp at ho
  exact dec_ne n ho.1.2
theorem dec_inj {n m : Nat} (h : Lib.decDigits n = Lib.decDigits m) : n = m := by rw [← dec_numV n, ← dec_numV m, h]
theorem no_dot {l : List UInt8} (h : l.all isD = true) : (46 : UInt8) ∉ l := fun hm => by
  have := List.all_eq_true.1 h _ hm
  simp [isD] at this
theorem cut_none (c : UInt8) : ∀ l : List UInt8, c ∉ l → cutAt c l = (l, []) ∧ cutB c l = false := fun l h => by
  rcases cut_index c l with ⟨hm, _⟩ | ⟨hm, hi⟩
  · exact absurd (by rw [hm]; simp) h
  · exact ⟨hm, by unfold cutB; rw [hi]; rfl⟩
theorem cut_at2 (c : UInt8) : ∀ (d r : List UInt8), c ∉ d → cutAt c (d ++ c :: r) = (d, r) ∧ cutB c (d ++ c :: r) = true
  | [], r, _ => ⟨by simp [cutAt], by simp [cutB, Lib.indexByte]⟩
  | b :: d, r, h => by
    have hb : b ≠ c := fun e => h (by simp [e])
    have ⟨i1, i2⟩ := cut_at2 c d r (fun e => h (by simp [e]))
    refine ⟨by simp [cutAt, hb, i1], ?_⟩
    rcases cut_index c (b :: d ++ c :: r) with ⟨_, hi⟩ | ⟨hm, _⟩
    · unfold cutB; rw [hi]; simp
    · exfalso
      have : cutAt c (b :: d ++ c :: r) = (b :: (cutAt c (d ++ c :: r)).1, (cutAt c (d ++ c :: r)).2) := by simp [cutAt, hb]
      rw [this, i1] at hm
      have := congrArg (fun p => p.1.length) hm
      simp at this
theorem cut_split {c : UInt8} {l : List UInt8} (h : cutB c l = true) : l = (cutAt c l).1 ++ c :: (cutAt c l).2 := by
  rcases cut_index c l with ⟨hm, _⟩ | ⟨_, hi⟩
  · exact hm
  · unfold cutB at h
    rw [hi] at h
    cases h

/-- A number read of a text: the number, and what was wrong. -/
def parse (l : List UInt8) : Nat × Nat :=
  if cutB 46 l = true then
    match num (cutAt 46 l).1, num (cutAt 46 l).2 with
    | some a, some b => if 65535 < max a b then (0, 24) else (a * 65536 + b, 0)
    | _, _ => (0, 5)
  else match num l with
    | some n => if 4294967295 < n then (0, 24) else (n, 0)
    | none => (0, 5)
theorem parse_lt (l : List UInt8) : (parse l).1 < 4294967296 := by
  unfold parse
  split
  · split
    · split
      · simp
      · simp only; omega
    · simp
  · split
    · split
      · simp
      · simp only; omega
    · simp
theorem parse_err (l : List UInt8) : (parse l).2 = 0 ∨ (parse l).1 = 0 ∧ ((parse l).2 = 5 ∨ (parse l).2 = 24) := by
  unfold parse
  split
  · split
    · split <;> simp
    · simp
  · split
    · split <;> simp
    · simp
def dot (n : Nat) : List UInt8 := if 65535 < n then Lib.decDigits (n / 65536) ++ 46 :: Lib.decDigits (n % 65536) else Lib.decDigits n
theorem parse_dec (n : Nat) (h : n < 4294967296) : parse (Lib.decDigits n) = (n, 0) := by
  have ⟨_, h2⟩ := cut_none 46 (Lib.decDigits n) (no_dot (dec_all n))
  unfold parse
  rw [h2, num_dec n (by omega)]
  simp
  omega
theorem parse_pair (a b : Nat) (ha : a ≤ 65535) (hb : b ≤ 65535) : parse (Lib.decDigits a ++ 46 :: Lib.decDigits b) = (a * 65536 + b, 0) := by
  have ⟨h1, h2⟩ := cut_at2 46 (Lib.decDigits a) (Lib.decDigits b) (no_dot (dec_all a))
  unfold parse
  rw [h2, h1, num_dec a (by omega), num_dec b (by omega)]
  simp
  omega
theorem parse_dot (n : Nat) (h : n < 4294967296) : parse (dot n) = (n, 0) := by
  unfold dot
  split
  · rw [parse_pair _ _ (by omega) (by omega)]
    congr 1
    omega
  · exact parse_dec n h
theorem parse_nought (n : Nat) : (parse (48 :: Lib.decDigits n)).2 = 5 := by
  have hno : (46 : UInt8) ∉ 48 :: Lib.decDigits n := no_dot (by rw [List.all_cons, dec_all n]; rfl)
  have ⟨_, h2⟩ := cut_none 46 _ hno
  unfold parse
  rw [h2, num_zero_dec n]
  simp
/-- What is read of a text has that text, or that dotted one, unless it has a point behind 0. -/
theorem parse_inv (l : List UInt8) (h : (parse l).2 = 0) : Lib.decDigits (parse l).1 = l ∨ dot (parse l).1 = l ∨ (∃ r, l = 48 :: 46 :: r) ∧ l = 48 :: 46 :: Lib.decDigits (parse l).1 := by
  unfold parse at h ⊢
  split at h
  next hc =>
    rw [if_pos hc]
    have hs := cut_split hc
    split at h
    next a b ea eb =>
      split at h
      · cases h
      next hm =>
        simp only [if_neg hm]
        obtain ⟨e1, _⟩ := num_some ea
        obtain ⟨e2, _⟩ := num_some eb
        rw [e1, e2] at hs
        by_cases h0 : a = 0
        · subst h0
          refine .inr (.inr ?_)
          have e0 : Lib.decDigits 0 = [48] := dec_small (by omega)
          rw [e0] at hs
          have e3 : 0 * 65536 + b = b := by omega
          rw [e3]
          exact ⟨⟨_, hs⟩, hs⟩
        · refine .inr (.inl ?_)
          unfold dot
          rw [if_pos (by omega)]
          have e3 : (a * 65536 + b) / 65536 = a := by omega
          have e4 : (a * 65536 + b) % 65536 = b := by omega
          rw [e3, e4]
          exact hs.symm
    · cases h
  next hc =>
    rw [if_neg hc]
    split at h
    next n en =>
      split at h
      · cases h
      next hm =>
        simp only [if_neg hm]
        exact .inl (num_some en).1.symm
    · cases h
end Go.Proofs.YtdhbfhjlholnlaaGreatDoor
