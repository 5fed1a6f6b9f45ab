
/-
  Texts there and back, as plain data.
-/
import Derived.Test.YtfjhpeijlhlaeaaDoorPi
namespace Go.Proofs.YtfjhpeijlhlaeaaDoor
open Go.RowKit

set_option maxRecDepth 100000 in
theorem num_dd' : ∀ n : Fin 256, num (dd n.val) = some n.val := by decide
theorem num_dd (n : Nat) (h : n < 256) : num (dd n) = some n := num_dd' ⟨n, h⟩
theorem ofNat_lt (n : Nat) (h : n < 256) : (UInt8.ofNat n).toNat = n := by
  rw [UInt8.toNat_ofNat']; omega
theorem dd_isD (n : Nat) (h : n < 1000) : ∀ c ∈ dd n, 48 ≤ c.toNat := by
  intro c hc
  unfold dd at hc
  split at hc
  · simp only [List.mem_singleton] at hc; subst hc; rw [ofNat_lt _ (by omega)]; omega
  · split at hc
    · simp only [List.mem_cons, List.not_mem_nil, or_false] at hc
      rcases hc with rfl | rfl <;> (rw [ofNat_lt _ (by omega)]; omega)
    · simp only [List.mem_cons, List.not_mem_nil, or_false] at hc
      rcases hc with rfl | rfl | rfl <;> (rw [ofNat_lt _ (by omega)]; omega)
theorem dd_ne (n : Nat) (h : n < 1000) (c : UInt8) (hc : c.toNat < 48) : c ∉ dd n := fun hm => by
  have := dd_isD n h c hm
  omega
theorem cut_at (c : UInt8) : ∀ (d r : List UInt8), c ∉ d → cutAt c (d ++ c :: r) = (d, r)
  | [], r, _ => by simp [cutAt]
  | a :: d, r, h => by
    have h1 : a ≠ c := fun e => h (by rw [e]; exact List.mem_cons_self ..)
    have h2 := cut_at c d r (fun hm => h (List.mem_cons_of_mem _ hm))
    rw [List.cons_append, cutAt, if_neg h1, h2]
theorem cut_found (c : UInt8) (l : List UInt8) (h : (cutAt c l).2 ≠ []) : l = (cutAt c l).1 ++ c :: (cutAt c l).2 := by
  rcases cut_index c l with ⟨hm, _⟩ | ⟨hm, _⟩
  · exact hm
  · rw [hm] at h; exact absurd rfl h

theorem ipTextD_eq (x : Nat) : ipTextD x = dd (oct x 0) ++ 46 :: (dd (oct x 1) ++ 46 :: (dd (oct x 2) ++ 46 :: dd (oct x 3))) := by
  unfold ipTextD
  simp [Lib.join, List.intercalate]
theorem octs (x : Nat) (hx : x < 4294967296) : ((oct x 0 * 256 + oct x 1) * 256 + oct x 2) * 256 + oct x 3 = x := by unfold oct; omega
theorem parseIP_text (x : Nat) (hx : x < 4294967296) : parseIP (ipTextD x) = (x, 0) := by
  have h : ∀ k, oct x k < 256 := fun k => by unfold oct; omega
  have n46 : ∀ k, (46 : UInt8) ∉ dd (oct x k) := fun k => dd_ne _ (by have := h k; omega) 46 (by decide)
  have c0 := cut_at 46 (dd (oct x 0)) (dd (oct x 1) ++ 46 :: (dd (oct x 2) ++ 46 :: dd (oct x 3))) (n46 0)
  have c1 := cut_at 46 (dd (oct x 1)) (dd (oct x 2) ++ 46 :: dd (oct x 3)) (n46 1)
  have c2 := cut_at 46 (dd (oct x 2)) (dd (oct x 3)) (n46 2)
  have r0 : rst (ipTextD x) 0 = ipTextD x := rfl
  have r1 : rst (ipTextD x) 1 = dd (oct x 1) ++ 46 :: (dd (oct x 2) ++ 46 :: dd (oct x 3)) := by
    show (cutAt 46 (ipTextD x)).2 = _
    rw [ipTextD_eq, c0]
  have r2 : rst (ipTextD x) 2 = dd (oct x 2) ++ 46 :: dd (oct x 3) := by
    show (cutAt 46 (rst (ipTextD x) 1)).2 = _
    rw [r1, c1]
  have r3 : rst (ipTextD x) 3 = dd (oct x 3) := by
    show (cutAt 46 (rst (ipTextD x) 2)).2 = _
    rw [r2, c2]
  have f0 : fd (ipTextD x) 0 = dd (oct x 0) := by
    show (cutAt 46 (ipTextD x)).1 = _
    rw [ipTextD_eq, c0]
  have f1 : fd (ipTextD x) 1 = dd (oct x 1) := by
    show (cutAt 46 (rst (ipTextD x) 1)).1 = _
    rw [r1, c1]
  have f2 : fd (ipTextD x) 2 = dd (oct x 2) := by
    show (cutAt 46 (rst (ipTextD x) 2)).1 = _
    rw [r2, c2]
  have f3 : fd (ipTextD x) 3 = dd (oct x 3) := r3
  have ok : nok (ipTextD x) 0 = true ∧ nok (ipTextD x) 1 = true ∧ nok (ipTextD x) 2 = true ∧ nok (ipTextD x) 3 = true := by
    unfold nok
    rw [f0, f1, f2, f3, num_dd _ (h 0), num_dd _ (h 1), num_dd _ (h 2), num_dd _ (h 3)]
    exact ⟨rfl, rfl, rfl, rfl⟩
  have v0 : nv (ipTextD x) 0 = oct x 0 := by unfold nv; rw [f0, num_dd _ (h 0)]; rfl
  have v1 : nv (ipTextD x) 1 = oct x 1 := by unfold nv; rw [f1, num_dd _ (h 1)]; rfl
  have v2 : nv (ipTextD x) 2 = oct x 2 := by unfold nv; rw [f2, num_dd _ (h 2)]; rfl
  have v3 : nv (ipTextD x) 3 = oct x 3 := by unfold nv; rw [f3, num_dd _ (h 3)]; rfl
  rw [parseIP_ok _ ok (by rw [v0, v1, v2, v3]; have := h 0; have := h 1; have := h 2; have := h 3; omega), v0, v1, v2, v3, octs x hx]

theorem fold_ge : ∀ (l : List UInt8) (n : Nat), n ≤ l.foldl (fun n c => n * 10 + (c.toNat - 48)) n
  | [], n => Nat.le_refl _
  | c :: l, n => Nat.le_trans (by omega) (fold_ge l (n * 10 + (c.toNat - 48)))
theorem toNat_of (a : UInt8) (n : Nat) (h : n = a.toNat) : UInt8.ofNat n = a := by subst h; exact UInt8.ofNat_toNat
theorem num_inv (l : List UInt8) (v : Nat) (h : num l = some v) (hv : v ≤ 255) : l = dd v := by
  unfold num at h
  split at h
  case isFalse => cases h
  next ho =>
  injection h with h
  unfold numOk at ho
  simp only [Bool.and_eq_true, decide_eq_true_eq, Bool.not_eq_true', Bool.and_eq_false_iff, decide_eq_false_iff_not] at ho
  obtain ⟨⟨⟨hl0, hl10⟩, hz⟩, hall⟩ := ho
  have hd : ∀ c ∈ l, 48 ≤ c.toNat ∧ c.toNat ≤ 57 := fun c hc => by
    have := List.all_eq_true.1 hall c hc
    simpa [isD] using this
  have hzn : ∀ a r, l = a :: r → r ≠ [] → a.toNat ≠ 48 := fun a r e hr => by
    subst e
    rcases hz with hz | hz
    · intro e2
      exact hz (by simp; exact UInt8.toNat_inj.1 (by rw [e2]; rfl))
    · exfalso; apply hz; cases r with
      | nil => exact absurd rfl hr
      | cons _ _ => simp
  rcases l with _ | ⟨a, _ | ⟨b, _ | ⟨c, _ | ⟨d, r⟩⟩⟩⟩
  · simp at hl0
  · have ha := hd a (by simp)
    simp [numV] at h
    unfold dd
    rw [if_pos (by omega), toNat_of a _ (by omega)]
  · have ha := hd a (by simp)
    have hb := hd b (by simp)
    have hn := hzn a [b] rfl (by simp)
    simp [numV] at h
    unfold dd
    rw [if_neg (by omega), if_pos (by omega), toNat_of a _ (by omega), toNat_of b _ (by omega)]
  · have ha := hd a (by simp)
    have hb := hd b (by simp)
    have hc := hd c (by simp)
    have hn := hzn a [b, c] rfl (by simp)
    simp [numV] at h
    unfold dd
    rw [if_neg (by omega), if_neg (by omega), toNat_of a _ (by omega), toNat_of b _ (by omega), toNat_of c _ (by omega)]
  · have ha := hd a (by simp)
    have hn := hzn a (b :: c :: d :: r) rfl (by simp)
    have hg := fold_ge r ((((a.toNat - 48) * 10 + (b.toNat - 48)) * 10 + (c.toNat - 48)) * 10 + (d.toNat - 48))
    simp only [numV, List.foldl_cons, Nat.zero_mul, Nat.zero_add] at h
    omega
theorem num_nil : num [] = none := rfl
theorem parseIP_inv (l : List UInt8) (h : (parseIP l).2 = 0) : ipTextD (parseIP l).1 = l := by
  have hok : ((nok l 0 && nok l 1 && nok l 2 && nok l 3) = true) ∧ ((decide (nv l 0 ≤ 255) && decide (nv l 1 ≤ 255) && decide (nv l 2 ≤ 255) && decide (nv l 3 ≤ 255)) = true) := by
    unfold parseIP at h
    split at h
    · next h1 =>
      split at h
      · next h2 => exact ⟨h1, h2⟩
      · cases h
    · cases h
  simp only [Bool.and_eq_true, decide_eq_true_eq] at hok
  obtain ⟨⟨⟨⟨k0, k1⟩, k2⟩, k3⟩, ⟨⟨b0, b1⟩, b2⟩, b3⟩ := hok
  rw [parseIP_ok l ⟨k0, k1, k2, k3⟩ ⟨b0, b1, b2, b3⟩]
  have e : ∀ k, nok l k = true → nv l k ≤ 255 → fd l k = dd (nv l k) := fun k hk hb => by
    unfold nok at hk
    obtain ⟨v, hv⟩ := Option.isSome_iff_exists.1 hk
    have : nv l k = v := by unfold nv; rw [hv]; rfl
    rw [this] at hb ⊢
    exact num_inv _ v hv hb
  have ne : ∀ n, dd n ≠ [] := fun n => by unfold dd; split; simp; split; simp; simp
  have e3 : rst l 3 = dd (nv l 3) := e 3 k3 b3
  have h2 := cut_found 46 (rst l 2) (by show rst l 3 ≠ []; rw [e3]; exact ne _)
  have h1 := cut_found 46 (rst l 1) (by show rst l 2 ≠ []; rw [h2]; simp)
  have h0 := cut_found 46 (rst l 0) (by show rst l 1 ≠ []; rw [h1]; simp)
  have hx : ∀ k, k < 4 → oct (((nv l 0 * 256 + nv l 1) * 256 + nv l 2) * 256 + nv l 3) k = nv l k := fun k hk => by
    obtain rfl | rfl | rfl | rfl : k = 0 ∨ k = 1 ∨ k = 2 ∨ k = 3 := by omega
    all_goals (unfold oct; omega)
  rw [ipTextD_eq]
  simp only
  rw [hx 0 (by omega), hx 1 (by omega), hx 2 (by omega), hx 3 (by omega), ← e 0 k0 b0, ← e 1 k1 b1, ← e 2 k2 b2, ← e3]
  refine Eq.symm (h0.trans ?_)
  show fld l 0 ++ 46 :: rst l 1 = fld l 0 ++ 46 :: (fld l 1 ++ 46 :: (fld l 2 ++ 46 :: rst l 3))
  rw [show rst l 1 = fld l 1 ++ 46 :: rst l 2 from h1]
  rw [show rst l 2 = fld l 2 ++ 46 :: rst l 3 from h2]
theorem parse_text (x n : Nat) (hx : x < 4294967296) (hn : n ≤ 32) (hm : may x (n : Int) = true) : parse (textD x (n : Int)) = ((x, n), 0) := by
  have ht : textD x (n : Int) = ipTextD x ++ 47 :: dd n := by unfold textD; rw [if_pos hm, Int.toNat_natCast]
  have h : ∀ k, oct x k < 1000 := fun k => by unfold oct; omega
  have n47 : (47 : UInt8) ∉ ipTextD x := by
    rw [ipTextD_eq]
    have hk : ∀ k, (47 : UInt8) ∉ dd (oct x k) := fun k => dd_ne _ (h k) 47 (by decide)
    simp [hk 0, hk 1, hk 2, hk 3]
  rw [ht]
  unfold parse
  rw [cut_at 47 _ _ n47]
  simp only
  rw [parseIP_text x hx, num_dd n (by omega)]
  simp only [Option.getD_some]
  rw [if_neg (by simp), if_neg (by simp; omega), if_pos hm]
theorem parse_inv (l : List UInt8) (h : (parse l).2 = 0) : textD (parse l).1.1 ((parse l).1.2 : Nat) = l ∧ may (parse l).1.1 ((parse l).1.2 : Nat) = true ∧ (parse l).1.1 < 4294967296 := by
  unfold parse at h ⊢
  split at h
  · cases h
  · next h1 =>
    split at h
    · cases h
    · next h2 =>
      split at h
      · next h3 =>
        rw [if_neg h1, if_neg h2, if_pos h3]
        simp only
        have h4 : num (cutAt 47 l).2 ≠ none := fun e => h1 (.inr e)
        obtain ⟨v, hv⟩ := Option.ne_none_iff_exists'.1 h4
        have hne : (cutAt 47 l).2 ≠ [] := fun e => by rw [e] at hv; cases hv
        rw [hv] at h2 h3 ⊢
        simp only [Option.getD_some] at h2 h3 ⊢
        have h5 : (parseIP (cutAt 47 l).1).2 = 0 := Decidable.byContradiction fun e => h2 (.inl e)
        have h6 : v ≤ 32 := Nat.le_of_not_lt fun e => h2 (.inr e)
        refine ⟨?_, h3, parseIP_lt _⟩
        unfold textD
        rw [if_pos h3, parseIP_inv _ h5, Int.toNat_natCast, ← num_inv _ v hv (by omega)]
        exact (cut_found 47 l hne).symm
      · cases h
theorem parse_zero (l : List UInt8) (h : (parse l).2 ≠ 0) : (parse l).1 = (0, 0) := by
  unfold parse at h ⊢
  split
  · rfl
  · split
    · rfl
    · split
      · next h1 h2 h3 => rw [if_neg h1, if_neg h2, if_pos h3] at h; exact absurd rfl h
      · rfl
theorem parseIP_zero (l : List UInt8) (h : (parseIP l).2 ≠ 0) : (parseIP l).1 = 0 := by
  unfold parseIP at h ⊢
  split
  · split
    · next h1 h2 => rw [if_pos h1, if_pos h2] at h; exact absurd rfl h
    · rfl
  · rfl
theorem ipText_inj (x y : Nat) (hx : x < 4294967296) (hy : y < 4294967296) (h : ipText x = ipText y) : x = y := by
  rw [ipText_eq, ipText_eq] at h
  have h1 := parseIP_text x hx
  rw [h, parseIP_text y hy] at h1
  exact (Prod.mk.inj h1).1.symm
end Go.Proofs.YtfjhpeijlhlaeaaDoor
