
/-
  PrefixReads: the document's Parse, pure; its number, walked.
-/
import Derived.Test.YtfjhpeijlhlaeaaDoorSa
namespace Go.Proofs.YtfjhpeijlhlaeaaDoor
open Go.RowKit

/-- The document's Parse. -/
def rparse (l : List UInt8) : (Nat × Nat) × Int :=
  match adc 4 l 0 true with
  | some (r, x, f) =>
    if r.getD 0 0 ≠ 47 then ((0, 0), 5)
    else if (rr (r.drop 1)).2 = 0 ∨ (rr (r.drop 1)).2 ≠ (r.drop 1).length then ((0, 0), 5)
    else if f = false ∨ may x ((rr (r.drop 1)).1 : Nat) = false then ((0, 0), 24)
    else ((x, (rr (r.drop 1)).1), 0)
  | none => ((0, 0), 5)
theorem parse_of {l A a b c d t : List UInt8} {va vb vc vd n : Nat} (e : l = A ++ 47 :: t) (h4 : Four A a b c d [] va vb vc vd) (ht : num t = some n) : rparse l = parse l := by
  have hp : isD 47 = false := rfl
  have h4' : Four l a b c d (47 :: t) va vb vc vd := ⟨by rw [e, h4.eq]; simp, h4.ha, h4.hb, h4.hc, h4.hd⟩
  have hA : (47 : UInt8) ∉ A := by
    rw [h4.eq]
    have h1 := num_no h4.ha 47 hp
    have h2 := num_no h4.hb 47 hp
    have h3 := num_no h4.hc 47 hp
    have h5 := num_no h4.hd 47 hp
    simp [h1, h2, h3, h5]
  have hc := cut_at 47 A t hA
  have hr : rr t = (n, t.length) := by have := tok_rr (r := []) ht (.inl rfl); rwa [List.append_nil] at this
  have h0 := (num_all ht).2
  unfold rparse parse
  rw [h4'.adc (Cln.cons hp), e, hc, h4.parse, ht]
  simp only [List.getD_cons_zero, ne_eq, not_true_eq_false, if_false, List.drop_succ_cons, List.drop_zero, hr, or_false, Option.getD_some, reduceCtorEq]
  rw [if_neg (by omega)]
  by_cases hf : fit va vb vc vd = true
  · rw [hf]
    simp only [if_true, false_or, not_true_eq_false, Bool.true_eq_false, Int.reduceEq, if_false]
    by_cases h32 : 32 < n
    · rw [if_pos h32, if_pos]
      cases hm : may (ipv va vb vc vd) (n : Int) with
      | false => rfl
      | true => obtain ⟨k, e1, e2, _⟩ := may_spec hm; omega
    · rw [if_neg h32]
      cases hm : may (ipv va vb vc vd) (n : Int) <;> simp
  · have hf : fit va vb vc vd = false := by simpa using hf
    rw [hf]
    simp
theorem rparse_eq (l : List UInt8) : rparse l = parse l := by
  by_cases h : ∃ A a b c d t va vb vc vd n, l = A ++ 47 :: t ∧ Four A a b c d [] va vb vc vd ∧ num t = some n
  · obtain ⟨A, a, b, c, d, t, va, vb, vc, vd, n, e, h4, ht⟩ := h
    exact parse_of e h4 ht
  · have h2 : parse l = ((0, 0), 5) := by
      unfold parse
      rw [if_pos]
      refine Classical.byContradiction fun hn => h ?_
      have h1 : (parseIP (cutAt 47 l).1).2 ≠ 5 := fun e => hn (.inl e)
      cases ht : num (cutAt 47 l).2 with
      | none => exact absurd (.inr ht) hn
      | some n =>
        obtain ⟨a, b, c, d, va, vb, vc, vd, h4⟩ := four_of_parse h1
        refine ⟨_, a, b, c, d, _, va, vb, vc, vd, n, cut_found 47 l ?_, h4, ht⟩
        intro e
        rw [e, num_nil] at ht
        cases ht
    rw [h2]
    unfold rparse
    split
    next r x f ha =>
      obtain ⟨a, b, c, d, r', va, vb, vc, vd, h4, hc⟩ := four_of_adc ha
      rw [h4.adc hc] at ha
      injection ha with ha
      obtain ⟨rfl, _⟩ := Prod.mk.inj ha
      by_cases h47 : r'.getD 0 0 ≠ 47
      · rw [if_pos h47]
      rw [if_neg h47]
      by_cases hn : (rr (r'.drop 1)).2 = 0 ∨ (rr (r'.drop 1)).2 ≠ (r'.drop 1).length
      · rw [if_pos hn]
      exfalso
      apply h
      obtain ⟨n1, n2⟩ := not_or.1 hn
      have n2 : (rr (r'.drop 1)).2 = (r'.drop 1).length := by simpa using n2
      have hs := (rr_some _ n1).2.1
      rw [n2, List.take_length] at hs
      have e47 : r' = 47 :: r'.drop 1 := by
        cases r' with
        | nil => exact absurd (by decide) h47
        | cons q r' =>
          have : q = 47 := by simpa using h47
          rw [this]
          rfl
      refine ⟨a ++ 46 :: (b ++ 46 :: (c ++ 46 :: d)), a, b, c, d, r'.drop 1, va, vb, vc, vd, _, ?_, ⟨by simp, h4.ha, h4.hb, h4.hc, h4.hd⟩, hs⟩
      rw [h4.eq]
      conv => lhs; rw [e47]
      simp
    next => rfl
theorem str_at (s : ByteArray) (p k : Nat) (h : p + k < s.size) (w : World) : (Instr.index 9 (.string s) (.int .i64 ((p : Int) + (k : Int)))).run Tryd.prog w = .ok (.int .u8 ((s.data.toList.drop p).getD k 0).toNat) w := by
  have e : (p : Int) + (k : Int) = ((p + k : Nat) : Int) := by omega
  have e2 : (s.data.toList.drop p).getD k 0 = s[p + k] := by
    rw [List.getD_eq_getElem?_getD, List.getElem?_drop, List.getElem?_eq_getElem (by simpa using h)]
    rfl
  rw [e, run_index_string w _ _ _ _ Tryd.underlying9, dif_pos ⟨by omega, by omega⟩, e2]
  rfl
theorem str_at0 (s : ByteArray) (p : Nat) (h : p < s.size) (w : World) : (Instr.index 9 (.string s) (.int .i64 (p : Int))).run Tryd.prog w = .ok (.int .u8 ((s.data.toList.drop p).getD 0 0).toNat) w := by
  have := str_at s p 0 (by omega) w
  simpa using this
theorem take_next (l : List UInt8) (k : Nat) (h : k < l.length) : l.take (k + 1) = l.take k ++ [l.getD k 0] := by
  rw [List.take_succ_eq_append_getElem h, List.getD_eq_getElem?_getD, List.getElem?_eq_getElem h]; rfl
set_option maxHeartbeats 4000000 in
theorem rnumber_any (s : ByteArray) (p : Nat) (hp : p ≤ s.size) (hs : s.size ≤ 100000) (w : World) :
    Calls Tryd.prog 53 #[.string s, .int .i64 (p : Int)] w fun e w' => e = .returned (.tuple #[.int .i64 ((rr (s.data.toList.drop p)).1 : Nat), .int .i64 ((rr (s.data.toList.drop p)).2 : Nat)]) ∧ w = w' := by
  have hI := str_at s p
  have hI0 := str_at0 s p
  have hL : (s.data.toList.drop p).length = s.size - p := by simp
  generalize s.data.toList.drop p = l at hI hI0 hL ⊢
  have HR : Hid (rr l = if 10 < dl l ∨ 1 < dl l ∧ l.getD 0 0 = 48 then (0, 0) else (numV (l.take (dl l)), dl l)) := Lib.hid rfl
  go_enter Tryd.func53, Tryd.ntmps53
  go_wp2
  go_loop [6, 7] (fun n m => ∃ k : Nat, k ≤ 11 ∧ k ≤ l.length ∧ m = .int .i64 k ∧ n = .int .i64 (numV (l.take k) : Nat) ∧ Hid ((l.take k).all isD = true)) (fun _ m => 11 - (intOf m).toNat)
  case atStart => exact ⟨0, by omega, by omega, rfl, rfl, Lib.hid rfl⟩
  case round =>
    obtain ⟨k, hk, hkl, rfl, rfl, HA⟩ := hrel
    have hv : numV (l.take k) < 100000000000 := by
      have := numV_lt _ HA.out
      have h2 : (10:Nat) ^ (l.take k).length ≤ 10 ^ 11 := Nat.pow_le_pow_right (by omega) (by simp; omega)
      omega
    have HV := Lib.hid hv
    by_cases hgo : p + k < s.size ∧ k < 11 ∧ isD (l.getD k 0) = true
    · have hi1 : (p : Int) + (k : Int) < (s.size : Int) := by omega
      have hi2 : (k : Int) < 11 := by omega
      have hx := hI k hgo.1
      have hr := isD_range hgo.2.2
      have HT := Lib.hid (take_next l k (by omega))
      have HD := Lib.hid hgo.2.2
      clear hI hI0
      generalize l.getD k 0 = c at hx hr HT HD
      have hc1 : (48 : Int) ≤ (c.toNat : Int) := by omega
      have hc2 : (c.toNat : Int) ≤ 57 := by omega
      generalize hv0 : numV (l.take k) = v at hv
      go_wp2
      go_round
      case rel => exact ⟨k + 1, by omega, by omega, by go_num, by rw [HT.out, numV_snoc, hv0]; go_num, Lib.hid (by rw [HT.out, List.all_append, HA.out, List.all_cons, HD.out]; rfl)⟩
      case measure => simp [intOf]; omega
    · have HE : (k = 11 ∧ 11 ≤ dl l) ∨ (k < 11 ∧ dl l = k) := by
        by_cases h11 : k = 11
        · exact .inl ⟨h11, h11 ▸ dl_ge l k hkl HA.out⟩
        · refine .inr ⟨by omega, dl_eq l k hkl HA.out ?_⟩
          by_cases hsz : p + k < s.size
          · exact .inr (by cases hd : isD (l.getD k 0) with | false => rfl | true => exact absurd ⟨hsz, by omega, hd⟩ hgo)
          · exact .inl (by omega)
      have HX : ((s.size : Int) ≤ (p : Int) + (k : Int)) ∨ ((p : Int) + (k : Int) < (s.size : Int) ∧ (∀ w, (Instr.index 9 (.string s) (.int .i64 ((p : Int) + (k : Int)))).run Tryd.prog w = .ok (.int .u8 (l.getD k 0).toNat) w) ∧ (((l.getD k 0).toNat : Int) < 48 ∨ (48 ≤ ((l.getD k 0).toNat : Int) ∧ (57 : Int) < ((l.getD k 0).toNat : Int)) ∨ ((48 ≤ ((l.getD k 0).toNat : Int) ∧ ((l.getD k 0).toNat : Int) ≤ 57) ∧ (11 : Int) ≤ (k : Int)))) := by
        by_cases hsz : p + k < s.size
        · refine .inr ⟨by omega, hI k hsz, ?_⟩
          by_cases hd : isD (l.getD k 0) = true
          · have hr := isD_range hd
            have : ¬ k < 11 := fun h11 => hgo ⟨hsz, h11, hd⟩
            omega
          · unfold isD at hd
            simp only [Bool.and_eq_true, decide_eq_true_eq] at hd
            omega
        · exact .inl (by omega)
      clear hgo
      have HF : (((k : Int) == 0) = true ∧ rr l = (0, 0)) ∨ ((((k : Int) == 0) = false ∧ (10 : Int) < (k : Int)) ∧ rr l = (0, 0)) ∨ ((((k : Int) == 0) = false ∧ (k : Int) ≤ 10 ∧ (k : Int) ≤ 1) ∧ rr l = (numV (l.take k), k)) ∨ ((((k : Int) == 0) = false ∧ (k : Int) ≤ 10 ∧ (1 : Int) < (k : Int)) ∧ (∀ w, (Instr.index 9 (.string s) (.int .i64 (p : Int))).run Tryd.prog w = .ok (.int .u8 (l.getD 0 0).toNat) w) ∧ ((((l.getD 0 0).toNat : Int) == 48) = true ∧ rr l = (0, 0) ∨ (((l.getD 0 0).toNat : Int) == 48) = false ∧ rr l = (numV (l.take k), k))) := by
        rw [HR.out]
        rcases HE with ⟨e1, e2⟩ | ⟨e1, e2⟩
        · exact .inr (.inl ⟨⟨by simp; omega, by omega⟩, if_pos (.inl (by omega))⟩)
        · rw [e2]
          by_cases h0 : k = 0
          · subst h0
            exact .inl ⟨rfl, by rw [if_neg (by omega)]; rfl⟩
          by_cases h1 : k ≤ 1
          · exact .inr (.inr (.inl ⟨⟨by simp; omega, by omega, by omega⟩, if_neg (by omega)⟩))
          · refine .inr (.inr (.inr ⟨⟨by simp; omega, by omega, by omega⟩, hI0 (by omega), ?_⟩))
            by_cases h48 : l.getD 0 0 = 48
            · exact .inl ⟨by rw [h48]; rfl, if_pos (.inr ⟨by omega, h48⟩)⟩
            · refine .inr ⟨?_, if_neg (fun h => by rcases h with h | h; omega; exact h48 h.2)⟩
              have : (l.getD 0 0).toNat ≠ 48 := fun e => h48 (UInt8.toNat_inj.1 (by rw [e]; rfl))
              simp only [beq_eq_false_iff_ne]
              omega
      clear HE HR hI hI0
      generalize hv0 : numV (l.take k) = v at hv HF
      generalize l.getD k 0 = c at HX
      generalize l.getD 0 0 = d at HF
      clear HV hv0
      rcases HF with ⟨f1, f2⟩ | ⟨⟨f1, f0⟩, f2⟩ | ⟨⟨f1, f0, f5⟩, f2⟩ | ⟨⟨f1, f0, f5⟩, f3, ⟨f4, f2⟩ | ⟨f4, f2⟩⟩
      all_goals
        replace f2 := Lib.hid f2
        rcases HX with x1 | ⟨x1, x3, x4 | ⟨x4, x5⟩ | ⟨⟨x4, x5⟩, x6⟩⟩
      all_goals try (exfalso; (first | omega | (simp at f1; omega)))
      all_goals
        go_wp2
        go_ret2
        exact ⟨by first | rfl | (rw [f2.out]; rfl), rfl⟩
end Go.Proofs.YtfjhpeijlhlaeaaDoor
