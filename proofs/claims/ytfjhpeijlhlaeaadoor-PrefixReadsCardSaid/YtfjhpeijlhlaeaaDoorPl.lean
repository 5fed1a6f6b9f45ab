
/-
  Lists there and back, as plain data.
-/
import Derived.Test.YtfjhpeijlhlaeaaDoorPk
import Derived.Test.YtfjhpeijlhlaeaaDoorPt
namespace Go.Proofs.YtfjhpeijlhlaeaaDoor
open Go.RowKit

theorem div_step (x a b : Nat) (h : a ≤ b) : x / 2 ^ a * 2 ^ a / 2 ^ b = x / 2 ^ b := by
  obtain ⟨c, rfl⟩ : ∃ c, b = a + c := ⟨b - a, by omega⟩
  rw [Nat.pow_add, ← Nat.div_div_eq_div_mul, ← Nat.div_div_eq_div_mul, Nat.mul_div_cancel _ (Nat.pow_pos (by omega))]
theorem low_step (x n a : Nat) (h : a ≤ 32 - n) : low (x / 2 ^ a * 2 ^ a) n = low x n := by
  unfold low; rw [div_step x a (32 - n) h]
theorem low_low (x n : Nat) : low (low x n) n = low x n := low_step x n (32 - n) (Nat.le_refl _)
def ob (x : Nat) : List UInt8 := [UInt8.ofNat (oct x 0), UInt8.ofNat (oct x 1), UInt8.ofNat (oct x 2), UInt8.ofNat (oct x 3)]
theorem padJ_take (x m : Nat) (hx : x < 4294967296) (hm : m ≤ 4) : padJ ((ob x).take m) = x / 2 ^ (32 - 8 * m) * 2 ^ (32 - 8 * m) := by
  have h : ∀ k, (UInt8.ofNat (oct x k)).toNat = oct x k := fun k => ofNat_lt _ (oct_lt x k)
  obtain rfl | rfl | rfl | rfl | rfl : m = 0 ∨ m = 1 ∨ m = 2 ∨ m = 3 ∨ m = 4 := by omega
  all_goals
    simp only [padJ, ob, List.take_succ_cons, List.take_zero, List.getD_cons_zero, List.getD_cons_succ, List.getD_nil, h, UInt8.toNat_zero]
    try simp only [oct]
    omega
theorem pad_low (x n : Nat) (hx : x < 4294967296) (hn : n ≤ 32) (hl : x = low x n) : low (padJ ((ob x).take (szB n))) n = x := by
  rw [padJ_take x (szB n) hx (by unfold szB; omega), low_step _ _ _ (by unfold szB; omega)]
  exact hl.symm
def nats (l : List (Nat × Int)) : List (Nat × Nat) := l.map fun p => (p.1, p.2.toNat)
theorem pby_eq (x n : Nat) : pby x n = UInt8.ofNat n :: (ob x).take (szB n) := rfl
theorem read_bytes (l : List (Nat × Int)) (hm : mayL l = true) (hx : ∀ p ∈ l, p.1 < 4294967296) : readL (bytesL l) = (nats l, 0) := by
  induction l with
  | nil => rfl
  | cons p l ih =>
    obtain ⟨x, b⟩ := p
    unfold mayL at hm
    rw [List.all_cons, Bool.and_eq_true] at hm
    obtain ⟨n, rfl, hn, hlow⟩ := may_spec hm.1
    have ih := ih hm.2 (fun q hq => hx q (List.mem_cons_of_mem _ hq))
    have hx0 := hx (x, (n : Int)) (List.mem_cons_self ..)
    simp only at hx0
    have e : bytesL ((x, (n : Int)) :: l) = UInt8.ofNat n :: ((ob x).take (szB n) ++ bytesL l) := by
      show pby x ((n : Int)).toNat ++ bytesL l = _
      rw [Int.toNat_natCast, pby_eq]
      rfl
    have hsz : szB n ≤ 4 := by unfold szB; omega
    have hlen : ((ob x).take (szB n)).length = szB n := by rw [List.length_take]; simp [ob]; omega
    have hb : (UInt8.ofNat n).toNat = n := ofNat_lt n (by omega)
    rw [e, readL_cons, hb, if_neg (by omega), if_neg (by rw [List.length_append, hlen]; omega)]
    have h1 : ((ob x).take (szB n) ++ bytesL l).take (szB n) = (ob x).take (szB n) := by
      conv => lhs; arg 1; rw [← hlen]
      exact List.take_left ..
    have h2 : ((ob x).take (szB n) ++ bytesL l).drop (szB n) = bytesL l := by
      conv => lhs; arg 1; rw [← hlen]
      exact List.drop_left ..
    rw [h1, h2, ih, pad_low x n hx0 hn hlow]
    rfl
theorem read_cut (l : List (Nat × Int)) (hm : mayL l = true) (hx : ∀ p ∈ l, p.1 < 4294967296) : ∀ k, (∃ j, j ≤ l.length ∧ readL ((bytesL l).take k) = (nats (l.take j), 0)) ∨ readL ((bytesL l).take k) = ([], 4) := by
  induction l with
  | nil => intro k; exact .inl ⟨0, Nat.le_refl _, by simp [bytesL, readL, readP, nats]⟩
  | cons p l ih =>
    intro k
    obtain ⟨x, b⟩ := p
    unfold mayL at hm
    rw [List.all_cons, Bool.and_eq_true] at hm
    obtain ⟨n, rfl, hn, hlow⟩ := may_spec hm.1
    have ih := ih hm.2 (fun q hq => hx q (List.mem_cons_of_mem _ hq))
    have hx0 := hx (x, (n : Int)) (List.mem_cons_self ..)
    simp only at hx0
    have e : bytesL ((x, (n : Int)) :: l) = UInt8.ofNat n :: ((ob x).take (szB n) ++ bytesL l) := by
      show pby x ((n : Int)).toNat ++ bytesL l = _
      rw [Int.toNat_natCast, pby_eq]
      rfl
    have hsz : szB n ≤ 4 := by unfold szB; omega
    have hlen : ((ob x).take (szB n)).length = szB n := by rw [List.length_take]; simp [ob]; omega
    have hb : (UInt8.ofNat n).toNat = n := ofNat_lt n (by omega)
    rw [e]
    cases k with
    | zero => exact .inl ⟨0, Nat.zero_le _, by simp [readL, readP, nats]⟩
    | succ k =>
      rw [List.take_succ_cons, readL_cons, hb, if_neg (by omega)]
      by_cases hk : k < szB n
      · rw [if_pos (by rw [List.length_take]; omega)]
        exact .inr rfl
      · have h0 : ((ob x).take (szB n) ++ bytesL l).take k = (ob x).take (szB n) ++ (bytesL l).take (k - szB n) := by
          rw [List.take_append, hlen, List.take_of_length_le (by rw [hlen]; omega)]
        rw [h0, if_neg (by rw [List.length_append, hlen]; omega)]
        have h1 : ((ob x).take (szB n) ++ (bytesL l).take (k - szB n)).take (szB n) = (ob x).take (szB n) := by
          conv => lhs; arg 1; rw [← hlen]
          exact List.take_left ..
        have h2 : ((ob x).take (szB n) ++ (bytesL l).take (k - szB n)).drop (szB n) = (bytesL l).take (k - szB n) := by
          conv => lhs; arg 1; rw [← hlen]
          exact List.drop_left ..
        rw [h1, h2, pad_low x n hx0 hn hlow]
        rcases ih (k - szB n) with ⟨j, hj, hr⟩ | hr
        · rw [hr]
          exact .inl ⟨j + 1, by simp; omega, rfl⟩
        · rw [hr]
          exact .inr rfl
theorem low_lt (x n : Nat) (h : x < 4294967296) : low x n < 4294967296 := Nat.lt_of_le_of_lt (low_le x n) h
theorem read_inv (b : List UInt8) : ∀ l, (readL b) = (l, 0) → mayL (ups l) = true ∧ (∀ p ∈ ups l, p.1 < 4294967296) ∧ (bytesL (ups l)).length = b.length ∧ l.length ≤ b.length := by
  induction hn : b.length using Nat.strongRecOn generalizing b with
  | _ n ih =>
    intro l h
    cases b with
    | nil =>
      have : l = [] := by have := (Prod.mk.inj h).1; exact this.symm
      subst this
      subst hn
      exact ⟨rfl, (fun p hp => by cases hp), rfl, Nat.le_refl _⟩
    | cons c r =>
      rw [readL_cons] at h
      split at h
      · cases h
      · next h1 =>
        split at h
        · cases h
        · next h2 =>
          split at h
          · next h3 =>
            obtain ⟨rfl, _⟩ := Prod.mk.inj h
            have := ih (r.drop (szB c.toNat)).length (by rw [← hn]; simp; omega) (r.drop (szB c.toNat)) rfl (readL (r.drop (szB c.toNat))).1 (by rw [← h3])
            obtain ⟨i1, i2, i3, i4⟩ := this
            have hmy : may (low (padJ (r.take (szB c.toNat))) c.toNat) (c.toNat : Int) = true := may_of (by omega) (low_low _ _).symm
            refine ⟨?_, ?_, ?_, ?_⟩
            · show ((may _ _) && mayL (ups _)) = true
              rw [i1, hmy]; rfl
            · intro p hp
              rcases List.mem_cons.1 hp with rfl | hp
              · exact low_lt _ _ (padJ_lt _)
              · exact i2 p hp
            · show (pby _ ((c.toNat : Int)).toNat ++ bytesL (ups _)).length = _
              rw [List.length_append, i3, Int.toNat_natCast, pby_eq, List.length_cons, List.length_take, ← hn]
              simp only [ob, List.length_cons, List.length_nil, List.length_drop]
              unfold szB at h2 ⊢
              omega
            · simp only [List.length_cons, List.length_drop] at i4 hn ⊢
              omega
          · next h3 =>
            have := (Prod.mk.inj h).2
            exact absurd this h3
theorem nats_ups (l : List (Nat × Nat)) : nats (ups l) = l := by
  unfold nats ups
  rw [List.map_map]
  exact List.map_id'' (fun _ => rfl) l
theorem read_err (b : List UInt8) : (readL b).2 = 0 ∨ (readL b).2 = 4 ∨ (readL b).2 = 5 := by
  induction hn : b.length using Nat.strongRecOn generalizing b with
  | _ n ih =>
    cases b with
    | nil => exact .inl rfl
    | cons c r =>
      rw [readL_cons]
      split
      · exact .inr (.inr rfl)
      · split
        · exact .inr (.inl rfl)
        · split
          · exact .inl rfl
          · exact ih (r.drop (szB c.toNat)).length (by rw [← hn]; simp; omega) (r.drop (szB c.toNat)) rfl
end Go.Proofs.YtfjhpeijlhlaeaaDoor
