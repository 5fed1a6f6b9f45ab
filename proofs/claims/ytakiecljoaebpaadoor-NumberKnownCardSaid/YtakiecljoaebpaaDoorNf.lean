
/-
  The document's row and Parse, walked.
-/
import Derived.Test.YtakiecljoaebpaaDoorNe
namespace Go.Proofs.YtakiecljoaebpaaDoor
open Go.RowKit

theorem str_at (s : ByteArray) (p k : Nat) (h : p + k < s.size) (w : World) : (Instr.index 9 (.string s) (.int .i64 ((p : Int) + (k : Int)))).run Tryd.prog w = .ok (.int .u8 ((s.data.toList.drop p).getD k 0).toNat) w := by
  have e : (p : Int) + (k : Int) = ((p + k : Nat) : Int) := by omega
  have e2 : (s.data.toList.drop p).getD k 0 = s[p + k] := by
    rw [List.getD_eq_getElem?_getD, List.getElem?_drop, List.getElem?_eq_getElem (by simpa using h)]
    rfl
  rw [e, run_index_string w _ _ _ _ Tryd.underlying9, dif_pos ⟨by omega, by omega⟩, e2]
  rfl
theorem str_at0 (s : ByteArray) (p : Nat) (h : p < s.size) (w : World) : (Instr.index 9 (.string s) (.int .i64 (p : Int))).run Tryd.prog w = .ok (.int .u8 ((s.data.toList.drop p).getD 0 0).toNat) w := by
  have := str_at s p 0 (by omega) w
  simpa using this
theorem take_next (l : List UInt8) (k : Nat) (h : k < l.length) : l.take (k + 1) = l.take k ++ [l.getD k 0] := by
  rw [List.take_succ_eq_append_getElem h, List.getD_eq_getElem?_getD, List.getElem?_eq_getElem h]; rfl
set_option maxHeartbeats 4000000 in
theorem rrow_any (s : ByteArray) (p : Nat) (hp : p ≤ s.size) (hs : s.size ≤ 100000) (w : World) :
    Calls Tryd.prog 25 #[.string s, .int .i64 (p : Int)] w fun e w' => e = .returned (.tuple #[.int .i64 ((rr (s.data.toList.drop p)).1 : Nat), .int .i64 ((rr (s.data.toList.drop p)).2 : Nat)]) ∧ w = w' := by
  have hI := str_at s p
  have hI0 := str_at0 s p
  have hL : (s.data.toList.drop p).length = s.size - p := by simp
  generalize s.data.toList.drop p = l at hI hI0 hL ⊢
  have HR : Hid (rr l = if 10 < dl l ∨ 1 < dl l ∧ l.getD 0 0 = 48 then (0, 0) else (numV (l.take (dl l)), dl l)) := Lib.hid rfl
  go_enter Tryd.func25, Tryd.ntmps25
  go_wp2
  go_loop [6, 7] (fun n m => ∃ k : Nat, k ≤ 11 ∧ k ≤ l.length ∧ m = .int .i64 k ∧ n = .int .i64 (numV (l.take k) : Nat) ∧ Hid ((l.take k).all isD = true)) (fun _ m => 11 - (intOf m).toNat)
  case atStart => exact ⟨0, by omega, by omega, rfl, rfl, Lib.hid rfl⟩
  case round =>
    obtain ⟨k, hk, hkl, rfl, rfl, HA⟩ := hrel
    have hv : numV (l.take k) < 100000000000 := by
      have := numV_lt _ HA.out
      have h2 : (10:Nat) ^ (l.take k).length ≤ 10 ^ 11 := Nat.pow_le_pow_right (by omega) (by simp; omega)
      omega
    have HV := Lib.hid hv
    by_cases hgo : p + k < s.size ∧ k < 11 ∧ isD (l.getD k 0) = true
    · have hi1 : (p : Int) + (k : Int) < (s.size : Int) := by omega
      have hi2 : (k : Int) < 11 := by omega
      have hx := hI k hgo.1
      have hr := isD_range hgo.2.2
      have HT := Lib.hid (take_next l k (by omega))
      have HD := Lib.hid hgo.2.2
      clear hI hI0
      generalize l.getD k 0 = c at hx hr HT HD
      have hc1 : (48 : Int) ≤ (c.toNat : Int) := by omega
      have hc2 : (c.toNat : Int) ≤ 57 := by omega
      generalize hv0 : numV (l.take k) = v at hv
      go_wp2
      go_round
      case rel => exact ⟨k + 1, by omega, by omega, by go_num, by rw [HT.out, numV_snoc, hv0]; go_num, Lib.hid (by rw [HT.out, List.all_append, HA.out, List.all_cons, HD.out]; rfl)⟩
      case measure => simp [intOf]; omega
    · have HE : (k = 11 ∧ 11 ≤ dl l) ∨ (k < 11 ∧ dl l = k) := by
        by_cases h11 : k = 11
        · exact .inl ⟨h11, h11 ▸ dl_ge l k hkl HA.out⟩
        · refine .inr ⟨by omega, dl_eq l k hkl HA.out ?_⟩
          by_cases hsz : p + k < s.size
          · exact .inr (by cases hd : isD (l.getD k 0) with | false => rfl | true => exact absurd ⟨hsz, by omega, hd⟩ hgo)
          · exact .inl (by omega)
      have HX : ((s.size : Int) ≤ (p : Int) + (k : Int)) ∨ ((p : Int) + (k : Int) < (s.size : Int) ∧ (11 : Int) ≤ (k : Int)) ∨ (((p : Int) + (k : Int) < (s.size : Int) ∧ (k : Int) < 11) ∧ (∀ w, (Instr.index 9 (.string s) (.int .i64 ((p : Int) + (k : Int)))).run Tryd.prog w = .ok (.int .u8 (l.getD k 0).toNat) w) ∧ (((l.getD k 0).toNat : Int) < 48 ∨ (48 ≤ ((l.getD k 0).toNat : Int) ∧ (57 : Int) < ((l.getD k 0).toNat : Int)))) := by
        by_cases hsz : p + k < s.size
        · by_cases h11 : k < 11
          · refine .inr (.inr ⟨by omega, hI k hsz, ?_⟩)
            have hd : isD (l.getD k 0) = false := by cases hd : isD (l.getD k 0) with | false => rfl | true => exact absurd ⟨hsz, h11, hd⟩ hgo
            unfold isD at hd
            simp only [Bool.and_eq_false_iff, decide_eq_false_iff_not] at hd
            omega
          · exact .inr (.inl (by omega))
        · exact .inl (by omega)
      clear hgo
      have HF : (((10 : Int) < (k : Int)) ∧ rr l = (0, 0)) ∨ (((k : Int) ≤ 1) ∧ rr l = (numV (l.take k), k)) ∨ ((((k : Int) ≤ 10) ∧ (1 : Int) < (k : Int)) ∧ (∀ w, (Instr.index 9 (.string s) (.int .i64 (p : Int))).run Tryd.prog w = .ok (.int .u8 (l.getD 0 0).toNat) w) ∧ ((((l.getD 0 0).toNat : Int) == 48) = true ∧ rr l = (0, 0) ∨ (((l.getD 0 0).toNat : Int) == 48) = false ∧ rr l = (numV (l.take k), k))) := by
        rw [HR.out]
        rcases HE with ⟨e1, e2⟩ | ⟨e1, e2⟩
        · exact .inl ⟨by omega, if_pos (.inl (by omega))⟩
        · rw [e2]
          by_cases h1 : k ≤ 1
          · exact .inr (.inl ⟨by omega, if_neg (by omega)⟩)
          · refine .inr (.inr ⟨by omega, hI0 (by omega), ?_⟩)
            by_cases h48 : l.getD 0 0 = 48
            · exact .inl ⟨by rw [h48]; rfl, if_pos (.inr ⟨by omega, h48⟩)⟩
            · refine .inr ⟨?_, if_neg (fun h => by rcases h with h | h; omega; exact h48 h.2)⟩
              have : (l.getD 0 0).toNat ≠ 48 := fun e => h48 (UInt8.toNat_inj.1 (by rw [e]; rfl))
              simp only [beq_eq_false_iff_ne]
              omega
      clear HE HR hI hI0
      generalize hv0 : numV (l.take k) = v at hv HF
      generalize l.getD k 0 = c at HX
      generalize l.getD 0 0 = d at HF
      clear HV hv0
      rcases HF with ⟨f1, f2⟩ | ⟨f1, f2⟩ | ⟨⟨f0, f1⟩, f3, ⟨f4, f2⟩ | ⟨f4, f2⟩⟩
      all_goals
        replace f2 := Lib.hid f2
        rcases HX with x1 | ⟨x1, x2⟩ | ⟨⟨x1, x2⟩, x3, x4 | ⟨x4, x5⟩⟩
      all_goals try (exfalso; omega)
      all_goals
        go_wp2
        go_ret2
        exact ⟨by first | rfl | (rw [f2.out]; rfl), rfl⟩
set_option maxHeartbeats 1000000 in
theorem rparse_any (s : ByteArray) (hs : s.size ≤ 100000) (w : World) :
    Calls Tryd.prog 19 #[.string s] w fun e w' => e = .returned (.tuple #[.int .u32 ((rparse s.data.toList).1 : Nat), .int .i64 ((rparse s.data.toList).2 : Nat)]) ∧ w = w' := by
  have H0 : ∀ w, Calls Tryd.prog 25 #[.string s, .int .i64 0] w fun e w' => e = .returned (.tuple #[.int .i64 ((rr (s.data.toList.drop 0)).1 : Nat), .int .i64 ((rr (s.data.toList.drop 0)).2 : Nat)]) ∧ w = w' := fun w => rrow_any s 0 (by omega) hs w
  have H1 := fun p hp w => rrow_any s p hp hs w
  have HI := fun p h w => str_at0 s p h w
  have hl : s.data.toList.length = s.size := by simp
  have hrp := rparse.eq_1 s.data.toList
  have hg : ∀ p, (s.data.toList.drop p).getD 0 0 = s.data.toList.getD p 0 := fun p => by
    simp [List.getD_eq_getElem?_getD]
  simp only [hg, List.drop_zero] at H0 HI
  have htok : True := trivial
  have hlt := rr_lt s.data.toList
  have hle : (rr s.data.toList).2 ≤ s.size := by
    by_cases h : (rr s.data.toList).2 = 0
    · omega
    · have := (rr_some _ h).1; omega
  rw [hl] at hrp
  generalize s.data.toList = l at *
  generalize hn : (rr l).1 = n at *
  generalize hk : (rr l).2 = k at *
  clear hn hk hg
  by_cases h0 : k = 0
  · rw [if_pos h0] at hrp
    subst h0
    replace hrp := Lib.hid hrp
    replace H0 := Lib.hid H0
    clear H1 HI
    go_enter Tryd.func19, Tryd.ntmps19
    go_wp2_with (go_at_call 25; refine (H0.out _).mono ?_; rintro e w1 ⟨rfl, rfl⟩)
    go_ret2
    exact ⟨by rw [hrp.out]; rfl, rfl⟩
  rw [if_neg h0] at hrp
  have hk0 : ((k : Int) == 0) = false := by simp; omega
  by_cases h1 : k = s.size
  · rw [if_pos h1] at hrp
    subst h1
    replace H0 := Lib.hid H0
    clear H1 HI
    by_cases h2 : 4294967295 < n
    · replace hrp := Lib.hid (hrp.trans (if_pos h2))
      have h3 : (4294967295 : Int) < (n : Int) := by omega
      go_enter Tryd.func19, Tryd.ntmps19
      go_wp2_with (go_at_call 25; refine (H0.out _).mono ?_; rintro e w1 ⟨rfl, rfl⟩)
      go_ret2
      exact ⟨by rw [hrp.out]; rfl, rfl⟩
    · replace hrp := Lib.hid (hrp.trans (if_neg h2))
      have h3 : (n : Int) ≤ 4294967295 := by omega
      go_enter Tryd.func19, Tryd.ntmps19
      go_wp2_with (go_at_call 25; refine (H0.out _).mono ?_; rintro e w1 ⟨rfl, rfl⟩)
      go_ret2
      exact ⟨by rw [hrp.out]; go_num, rfl⟩
  rw [if_neg h1] at hrp
  have hks : ((k : Int) == (s.size : Int)) = false := by simp; omega
  have hi := HI k (by omega)
  have H1 := H1 (k + 1) (by omega)
  have ek : ((k + 1 : Nat) : Int) = (k : Int) + 1 := by omega
  rw [ek] at H1
  clear HI ek
  by_cases h2 : l.getD k 0 ≠ 46
  · replace hrp := Lib.hid (hrp.trans (if_pos h2))
    have h3 : (((l.getD k 0).toNat : Int) == 46) = false := by
      have : (l.getD k 0).toNat ≠ 46 := fun e => h2 (UInt8.toNat_inj.1 (by rw [e]; rfl))
      simp only [beq_eq_false_iff_ne]
      omega
    replace H0 := Lib.hid H0
    clear H1 h2
    generalize l.getD k 0 = c at hi h3
    go_enter Tryd.func19, Tryd.ntmps19
    go_wp2_with (go_at_call 25; refine (H0.out _).mono ?_; rintro e w1 ⟨rfl, rfl⟩)
    go_ret2
    exact ⟨by rw [hrp.out]; rfl, rfl⟩
  rw [if_neg h2] at hrp
  have h2 : l.getD k 0 = 46 := by simpa using h2
  rw [h2] at hi
  have hi : ∀ w, (Instr.index 9 (.string s) (.int .i64 (k : Int))).run Tryd.prog w = .ok (.int .u8 46) w := hi
  have hlt2 := rr_lt (l.drop (k + 1))
  have hle2 : (rr (l.drop (k + 1))).2 ≤ 100000 := by
    by_cases h : (rr (l.drop (k + 1))).2 = 0
    · omega
    · have := (rr_some _ h).1
      rw [List.length_drop] at this
      omega
  generalize l.drop (k + 1) = d at *
  generalize (rr d).1 = m at *
  generalize (rr d).2 = j at *
  replace H0 := Lib.hid H0
  replace H1 := Lib.hid H1
  clear h2
  have HZ : (((j : Int) == 0) = true ∧ Hid (rparse l = (0, 5))) ∨ (((j : Int) == 0) = false ∧ (((k : Int) + 1 + (j : Int) == (s.size : Int)) = false ∧ Hid (rparse l = (0, 5)) ∨ ((k : Int) + 1 + (j : Int) == (s.size : Int)) = true ∧ ((65535 : Int) < (n : Int) ∧ Hid (rparse l = (0, 24)) ∨ (n : Int) ≤ 65535 ∧ ((65535 : Int) < (m : Int) ∧ Hid (rparse l = (0, 24)) ∨ (m : Int) ≤ 65535 ∧ Hid (rparse l = (n * 65536 + m, 0)))))) := by
    by_cases a1 : j = 0
    · exact .inl ⟨by simp [a1], Lib.hid (hrp.trans (if_pos (.inl a1)))⟩
    · refine .inr ⟨by simp; omega, ?_⟩
      by_cases a2 : k + 1 + j = s.size
      · refine .inr ⟨by simp; omega, ?_⟩
        rw [if_neg (by omega)] at hrp
        by_cases a3 : 65535 < n
        · exact .inl ⟨by omega, Lib.hid (hrp.trans (if_pos (.inl a3)))⟩
        · refine .inr ⟨by omega, ?_⟩
          by_cases a4 : 65535 < m
          · exact .inl ⟨by omega, Lib.hid (hrp.trans (if_pos (.inr a4)))⟩
          · exact .inr ⟨by omega, Lib.hid (hrp.trans (if_neg (by omega)))⟩
      · exact .inl ⟨by simp; omega, Lib.hid (hrp.trans (if_pos (.inr a2)))⟩
  clear hrp
  rcases HZ with ⟨z1, hrp⟩ | ⟨z1, ⟨z2, hrp⟩ | ⟨z2, ⟨z3, hrp⟩ | ⟨z3, ⟨z4, hrp⟩ | ⟨z4, hrp⟩⟩⟩⟩
  all_goals
    go_enter Tryd.func19, Tryd.ntmps19
    go_wp2_with (first
      | (go_at_call 25; have _t := htok; refine (H0.out _).mono ?_; rintro e w1 ⟨rfl, rfl⟩; clear htok)
      | (go_at_call 25; refine (H1.out _).mono ?_; rintro e w2 ⟨rfl, rfl⟩))
    go_ret2
    exact ⟨by rw [hrp.out]; first | rfl | go_num, rfl⟩
end Go.Proofs.YtakiecljoaebpaaDoor
