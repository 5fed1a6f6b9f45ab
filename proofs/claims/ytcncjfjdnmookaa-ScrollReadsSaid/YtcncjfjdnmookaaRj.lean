/-
  One call done with both readers, the program's and the document's (function reads of the law's package): they answer alike, and are alike behind it.
-/
import Derived.Test.YtcncjfjdnmookaaRi
import Derived.Test.YtcncjfjdnmookaaWd
import Derived.Deep.RegionHeld3
namespace Go.Proofs.Ytcncjfjdnmookaa
open Go.RowKit

/-- The call x with n, the numbers of two and four bytes too. -/
def RS.step (s : RS) (x n : Int) : RS := if x = 1 then s.pass 2 else if x = 2 then s.pass 4 else s.act x n

theorem Rf.by_rd {w w' : World} {base p q : Nat} {F : Nat → Prop} {s t : RS} (hf : Rf w base F q s) (hr : Rd w p t) (hbp : base ≤ p) (k : Kept (Only p) w w') : Rf w' base F q s :=
  hf.kept k (fun g hg e => by
    obtain ⟨_, cs, ty, hh, ht⟩ := hf.kinds hg
    obtain ⟨_, _, hb, _⟩ := hr
    obtain rfl : g = p := e
    unfold Blk at hb
    rw [hb] at hh
    injection hh with hh
    injection hh with _ e2
    rcases ht with rfl | rfl <;> exact absurd e2 (by decide)) (fun g e => by rw [show g = p from e]; exact hbp)
theorem Rf.noRd {w : World} {base q : Nat} {F : Nat → Prop} {s : RS} (hf : Rf w base F q s) : NoRd w F := fun k hk cs t f e => by
  obtain ⟨_, cs', ty, hh, ht⟩ := hf.kinds hk
  rw [hh] at e
  injection e with e
  injection e with _ e2
  rcases ht with rfl | rfl <;> rw [← e2] <;> decide
theorem Rf.noBytes {w : World} {base q : Nat} {F : Nat → Prop} {s : RS} (hf : Rf w base F q s) : NoBytes w F := fun k hk cs f e => (hf.noRd k hk cs _ f e).1 rfl
theorem Rf.not_act {w : World} {base q b : Nat} {F : Nat → Prop} {s : RS} {cs : Array Value} (hf : Rf w base F q s) (hb : Blk w b 32 cs) : ¬ F b := fun hk => by
  obtain ⟨_, cs', ty, hh, ht⟩ := hf.kinds hk
  unfold Blk at hb
  rw [hh] at hb
  injection hb with hb
  injection hb with _ e2
  rcases ht with rfl | rfl <;> exact absurd e2 (by decide)
theorem Rd.not_act {w : World} {p b : Nat} {s : RS} {cs : Array Value} (hr : Rd w p s) (hb : Blk w b 32 cs) : ¬ Only p b := fun e => by
  obtain ⟨_, _, h, _⟩ := hr
  exact h.apart hb (by decide) e.symm

/-- What is left behind one call with both. -/
def Both (w w' : World) (p q base : Nat) (F : Nat → Prop) (t : RS) : Prop := ∃ F', Rd w' p t ∧ Rf w' base F' q t ∧ Kept (fun k => k = p ∨ F k) w w' ∧ Sub w F' F

theorem Both.of {w w1 w2 : World} {p q base : Nat} {F F' : Nat → Prop} {s t : RS} (hf1 : Rf w1 base F q s) (hr1 : Rd w1 p t) (k1 : Kept (Only p) w w1) (hf2 : Rf w2 base F' q t) (k2 : Kept F w1 w2) (hs : Sub w1 F' F) : Both w w2 p q base F t :=
  ⟨F', hr1.kept k2 hf1.noRd, hf2, (k1.mono (fun _ e => .inl e)).trans (k2.mono (fun _ e => .inr e)), fun k hk => (hs k hk).imp (fun x => x) (fun x => Nat.le_trans k1.size x)⟩

set_option maxHeartbeats 1600000 in
theorem reads_any (p q base : Nat) (F : Nat → Prop) (s : RS) (x n : Int) (w : World) (hr : Rd w p s) (hf : Rf w base F q s) (hbp : base ≤ p) (hd : s.es.length ≤ 1099511627776) :
    Calls Try.prog 10 #[.pointer (some ⟨p, 0, none⟩), .pointer (some ⟨q, 0, none⟩), .agg #[.int .i64 x, .int .i64 n]] w fun r w' => r = .returned (.bool true) ∧ Both w w' p q base F (s.step x n) := by
  have ka := (Kept.refl Nothing w).alloc (.cells #[.int .i64 x, .int .i64 n] 32)
  have R0 := Lib.hid (hr.kept ka (NoRd.nothing w))
  have F0 := Lib.hid (hf.old ka)
  have B0 := Lib.hid (Blk.fresh w 32 #[.int .i64 x, .int .i64 n])
  have KA := Lib.hid (fun (t : RS) (w' : World) (h : Both (w.alloc (.cells #[.int .i64 x, .int .i64 n] 32)) w' p q base F t) => show Both w w' p q base F t from by
    obtain ⟨F', h1, h2, h3, h4⟩ := h
    exact ⟨F', h1, h2, (ka.mono (fun _ x => x.elim)).trans h3, fun k hk => (h4 k hk).imp (fun x => x) (fun x => Nat.le_trans ka.size x)⟩)
  clear hr hf ka
  by_cases hx0 : x = 0
  · subst hx0
    as_aux_lemma =>
      have hnb : RS.num (s.got 1) < 256 := by
        have h1 := RS.num_lt (s.got 1)
        have h2 : (s.got 1).length ≤ 1 := RS.got_len (n := 1)
        exact Nat.lt_of_lt_of_le h1 (Nat.le_trans (Nat.pow_le_pow_right (by decide) h2) (by decide))
      have C0 := Lib.hid (rd_byte p s _ R0.out)
      have CN := Lib.hid (fun (w1 : World) (h : Rf w1 base F q s) => rf_number q base F s 1 w1 h (by decide))
      change Hid (∀ (w1 : World) (h : Rf w1 base F q s), Calls Try.prog 52 #[.pointer (some ⟨q, 0, none⟩), .int .i64 1] w1 fun r w' => r = .returned (.int .i64 (RS.num (s.got 1) : Int)) ∧ Rf w' base F q (s.pass 1) ∧ Kept F w1 w') at CN
      have HS : Hid (s.step 0 n = s.pass 1) := rfl
      rw [HS.out]
      generalize RS.num (s.got 1) = m at *
      generalize s.pass 1 = t at *
      clear HS
      go_enter Try.func10, Try.ntmps10
      go_wp2_with fail
      refine C0.out.mono ?_
      rintro e w1 ⟨rfl, hr, hk⟩
      have R1 := Lib.hid hr
      have K1 := Lib.hid hk
      have F1 := Lib.hid (F0.out.by_rd R0.out hbp hk)
      clear hr hk
      go_wp2_with fail
      refine (CN.out w1 F1.out).mono ?_
      rintro e w2 ⟨rfl, hr, hk⟩
      have F2 := Lib.hid hr
      have K2 := Lib.hid hk
      clear hr hk
      go_wp2
      go_ret
      exact ⟨ret_bool (by simp), KA.out _ _ (Both.of F1.out R1.out K1.out F2.out K2.out (Sub.refl _ _))⟩
  by_cases hx1 : x = 1
  · subst hx1
    as_aux_lemma =>
      have hnb : RS.num (s.got 2) < 65536 := by
        have h1 := RS.num_lt (s.got 2)
        have h2 : (s.got 2).length ≤ 2 := RS.got_len (n := 2)
        exact Nat.lt_of_lt_of_le h1 (Nat.le_trans (Nat.pow_le_pow_right (by decide) h2) (by decide))
      have C0 := Lib.hid (rd_two p s _ R0.out)
      have CN := Lib.hid (fun (w1 : World) (h : Rf w1 base F q s) => rf_number q base F s 2 w1 h (by decide))
      change Hid (∀ (w1 : World) (h : Rf w1 base F q s), Calls Try.prog 52 #[.pointer (some ⟨q, 0, none⟩), .int .i64 2] w1 fun r w' => r = .returned (.int .i64 (RS.num (s.got 2) : Int)) ∧ Rf w' base F q (s.pass 2) ∧ Kept F w1 w') at CN
      have HS : Hid (s.step 1 n = s.pass 2) := rfl
      rw [HS.out]
      generalize RS.num (s.got 2) = m at *
      generalize s.pass 2 = t at *
      clear HS
      go_enter Try.func10, Try.ntmps10
      go_wp2_with fail
      refine C0.out.mono ?_
      rintro e w1 ⟨rfl, hr, hk⟩
      have R1 := Lib.hid hr
      have K1 := Lib.hid hk
      have F1 := Lib.hid (F0.out.by_rd R0.out hbp hk)
      clear hr hk
      go_wp2_with fail
      refine (CN.out w1 F1.out).mono ?_
      rintro e w2 ⟨rfl, hr, hk⟩
      have F2 := Lib.hid hr
      have K2 := Lib.hid hk
      clear hr hk
      go_wp2
      go_ret
      exact ⟨ret_bool (by simp), KA.out _ _ (Both.of F1.out R1.out K1.out F2.out K2.out (Sub.refl _ _))⟩
  by_cases hx2 : x = 2
  · subst hx2
    as_aux_lemma =>
      have hnb : RS.num (s.got 4) < 4294967296 := by
        have h1 := RS.num_lt (s.got 4)
        have h2 : (s.got 4).length ≤ 4 := RS.got_len (n := 4)
        exact Nat.lt_of_lt_of_le h1 (Nat.le_trans (Nat.pow_le_pow_right (by decide) h2) (by decide))
      have C0 := Lib.hid (rd_four p s _ R0.out)
      have CN := Lib.hid (fun (w1 : World) (h : Rf w1 base F q s) => rf_number q base F s 4 w1 h (by decide))
      change Hid (∀ (w1 : World) (h : Rf w1 base F q s), Calls Try.prog 52 #[.pointer (some ⟨q, 0, none⟩), .int .i64 4] w1 fun r w' => r = .returned (.int .i64 (RS.num (s.got 4) : Int)) ∧ Rf w' base F q (s.pass 4) ∧ Kept F w1 w') at CN
      have HS : Hid (s.step 2 n = s.pass 4) := rfl
      rw [HS.out]
      generalize RS.num (s.got 4) = m at *
      generalize s.pass 4 = t at *
      clear HS
      go_enter Try.func10, Try.ntmps10
      go_wp2_with fail
      refine C0.out.mono ?_
      rintro e w1 ⟨rfl, hr, hk⟩
      have R1 := Lib.hid hr
      have K1 := Lib.hid hk
      have F1 := Lib.hid (F0.out.by_rd R0.out hbp hk)
      clear hr hk
      go_wp2_with fail
      refine (CN.out w1 F1.out).mono ?_
      rintro e w2 ⟨rfl, hr, hk⟩
      have F2 := Lib.hid hr
      have K2 := Lib.hid hk
      clear hr hk
      go_wp2
      go_ret
      exact ⟨ret_bool (by simp), KA.out _ _ (Both.of F1.out R1.out K1.out F2.out K2.out (Sub.refl _ _))⟩
  by_cases hx5 : x = 5
  · subst hx5
    as_aux_lemma =>
      have C0 := Lib.hid (rd_open p s n _ R0.out hd)
      have HS : Hid (s.step 5 n = s.opened n) := rfl
      rw [HS.out]
      clear HS
      go_enter Try.func10, Try.ntmps10
      go_wp2_with fail
      refine C0.out.mono ?_
      rintro e w1 ⟨rfl, hr, hk⟩
      have R1 := Lib.hid hr
      have K1 := Lib.hid hk
      have F1 := Lib.hid (F0.out.by_rd R0.out hbp hk)
      have B1 := Lib.hid (B0.out.kept hk (R0.out.not_act B0.out))
      have b1 : w1.cell? ⟨w.heap.size, 1, none⟩ = some (.int .i64 n) := B1.out.cell 1
      clear hr hk
      go_wp2_with fail
      refine (rf_open q base F s n w1 F1.out hd).mono ?_
      rintro e w2 ⟨F', rfl, hr, hk, hs⟩
      have F2 := Lib.hid hr
      have K2 := Lib.hid hk
      have S2 := Lib.hid hs
      clear hr hk
      go_wp2
      go_ret
      exact ⟨rfl, KA.out _ _ (Both.of F1.out R1.out K1.out F2.out K2.out S2.out)⟩
  by_cases hx6 : x = 6
  · subst hx6
    as_aux_lemma =>
      have C0 := Lib.hid (rd_close p s _ R0.out)
      have HS : Hid (s.step 6 n = s.close) := rfl
      rw [HS.out]
      clear HS
      go_enter Try.func10, Try.ntmps10
      go_wp2_with fail
      refine C0.out.mono ?_
      rintro e w1 ⟨rfl, hr, hk⟩
      have R1 := Lib.hid hr
      have K1 := Lib.hid hk
      have F1 := Lib.hid (F0.out.by_rd R0.out hbp hk)
      have B1 := Lib.hid (B0.out.kept hk (R0.out.not_act B0.out))
      have b1 : w1.cell? ⟨w.heap.size, 1, none⟩ = some (.int .i64 n) := B1.out.cell 1
      clear hr hk
      go_wp2_with fail
      refine (rf_close q base F s false w1 F1.out).mono ?_
      rintro e w2 ⟨F', rfl, hr, hk, hs⟩
      have F2 := Lib.hid hr
      have K2 := Lib.hid hk
      have S2 := Lib.hid hs
      clear hr hk
      go_wp2
      go_ret
      exact ⟨rfl, KA.out _ _ (Both.of F1.out R1.out K1.out F2.out K2.out S2.out)⟩
  by_cases hx7 : x = 7
  · subst hx7
    as_aux_lemma =>
      have C0 := Lib.hid (rd_skip p s _ R0.out)
      have HS : Hid (s.step 7 n = s.skip) := rfl
      rw [HS.out]
      clear HS
      go_enter Try.func10, Try.ntmps10
      go_wp2_with fail
      refine C0.out.mono ?_
      rintro e w1 ⟨rfl, hr, hk⟩
      have R1 := Lib.hid hr
      have K1 := Lib.hid hk
      have F1 := Lib.hid (F0.out.by_rd R0.out hbp hk)
      have B1 := Lib.hid (B0.out.kept hk (R0.out.not_act B0.out))
      have b1 : w1.cell? ⟨w.heap.size, 1, none⟩ = some (.int .i64 n) := B1.out.cell 1
      clear hr hk
      go_wp2_with fail
      refine (rf_close q base F s true w1 F1.out).mono ?_
      rintro e w2 ⟨F', rfl, hr, hk, hs⟩
      have F2 := Lib.hid hr
      have K2 := Lib.hid hk
      have S2 := Lib.hid hs
      clear hr hk
      go_wp2
      go_ret
      exact ⟨rfl, KA.out _ _ (Both.of F1.out R1.out K1.out F2.out K2.out S2.out)⟩
  by_cases hx8 : x = 8
  · subst hx8
    as_aux_lemma =>
      have C0 := Lib.hid (rd_fail p s n _ R0.out)
      have HS : Hid (s.step 8 n = s.fail n) := rfl
      rw [HS.out]
      clear HS
      go_enter Try.func10, Try.ntmps10
      go_wp2_with fail
      refine C0.out.mono ?_
      rintro e w1 ⟨rfl, hr, hk⟩
      have R1 := Lib.hid hr
      have K1 := Lib.hid hk
      have F1 := Lib.hid (F0.out.by_rd R0.out hbp hk)
      have B1 := Lib.hid (B0.out.kept hk (R0.out.not_act B0.out))
      have b1 : w1.cell? ⟨w.heap.size, 1, none⟩ = some (.int .i64 n) := B1.out.cell 1
      clear hr hk
      go_wp2_with fail
      refine (rf_fail q base F s n w1 F1.out).mono ?_
      rintro e w2 ⟨rfl, hr, hk⟩
      have F2 := Lib.hid hr
      have K2 := Lib.hid hk
      skip
      clear hr hk
      go_wp2
      go_ret
      exact ⟨rfl, KA.out _ _ (Both.of F1.out R1.out K1.out F2.out K2.out (Sub.refl _ _))⟩
  by_cases hx4 : x = 4
  · subst hx4
    as_aux_lemma =>
      have HS : Hid (s.step 4 n = s.pass s.left) := rfl
      rw [HS.out]
      clear HS
      go_enter Try.func10, Try.ntmps10
      go_wp2_with fail
      refine (rd_rest p s _ R0.out).mono ?_
      rintro e w1 ⟨v, rfl, hb, hr, hk⟩
      have R1 := Lib.hid hr
      have K1 := Lib.hid hk
      have V1 := Lib.hid hb
      have F1 := Lib.hid (F0.out.by_rd R0.out hbp hk)
      clear hr hk hb
      go_wp2_with fail
      refine (rf_left q base F s w1 F1.out).mono ?_
      rintro e w2 ⟨rfl, m, rfl⟩
      have F2 := Lib.hid (F1.out.drewN m)
      go_wp2_with fail
      refine (rf_take q base F s s.left _ F2.out).mono ?_
      rintro e w2 ⟨v2, rfl, hb, hr, hk⟩
      have F3 := Lib.hid hr
      have K3 := Lib.hid hk
      have E := by_equal v v2 _ _ w2 ((V1.out.kept ((Kept.refl Nothing w1).drewN m) (NoBytes.nothing _)).kept hk F2.out.noBytes).by hb.by
      rw [beq_self_eq_true] at E
      have HE := Lib.hid E
      clear hr hk hb E
      go_wp2_with fail
      refine HE.out.mono ?_
      rintro e w3 ⟨rfl, rfl⟩
      go_wp2
      go_ret
      exact ⟨rfl, KA.out _ _ (Both.of F2.out (R1.out.drewN m) (K1.out.drewN m) F3.out K3.out (Sub.refl _ _))⟩
  by_cases hx3 : x = 3
  · subst hx3
    as_aux_lemma =>
      have HS : Hid (s.step 3 n = s.pass n) := rfl
      rw [HS.out]
      clear HS
      go_enter Try.func10, Try.ntmps10
      go_wp2_with fail
      go_region_law (first
        | (go_simp; go_at_call 35; refine (rd_take p s n _ (by exact R0.out.drewN 1)).mono ?_; rintro e w1 ⟨v, rfl, hb, hr, hk⟩; (have R1 := Lib.hid hr); (have K1 := Lib.hid hk); (have V1 := Lib.hid hb); (have F1 := Lib.hid ((F0.out.drewN 1).by_rd (R0.out.drewN 1) hbp hk)); (have B1 := Lib.hid ((B0.out.drewN 1).kept hk ((R0.out.drewN 1).not_act (B0.out.drewN 1)))); (have b1 : w1.cell? ⟨w.heap.size, 1, none⟩ = some (.int .i64 n) := B1.out.cell 1); clear hr hk hb)
        | (go_simp; go_at_call 53; refine (rf_take q base F s n _ (by exact F1.out)).mono ?_; rintro e w2 ⟨v2, rfl, hb, hr, hk⟩; (have F3 := Lib.hid hr); (have K3 := Lib.hid hk); (have E := by_equal v v2 _ _ w2 (V1.out.kept hk F1.out.noBytes).by hb.by); rw [beq_self_eq_true] at E; (have HE := Lib.hid E); clear hr hk hb E)
        | (go_simp; go_at_call 16; refine HE.out.mono ?_; rintro e w3 ⟨rfl, rfl⟩))
      all_goals
        go_wp2
        go_ret
        exact ⟨rfl, KA.out _ _ (Both.of F1.out R1.out (((Kept.refl _ _).drewN 1).trans K1.out) F3.out K3.out (Sub.refl _ _))⟩
  · as_aux_lemma =>
      have t0 : (x == 0) = false := by simpa using hx0
      have t1 : (x == 1) = false := by simpa using hx1
      have t2 : (x == 2) = false := by simpa using hx2
      have t3 : (x == 3) = false := by simpa using hx3
      have t4 : (x == 4) = false := by simpa using hx4
      have t5 : (x == 5) = false := by simpa using hx5
      have t6 : (x == 6) = false := by simpa using hx6
      have t7 : (x == 7) = false := by simpa using hx7
      have t8 : (x == 8) = false := by simpa using hx8
      have HS : Hid (s.step x n = s) := by
        show _ = _
        unfold RS.step RS.act
        rw [if_neg hx1, if_neg hx2, if_neg hx0, if_neg hx3, if_neg hx4, if_neg hx5, if_neg hx6, if_neg hx7, if_neg hx8]
      rw [HS.out]
      clear HS hx0 hx1 hx2 hx3 hx4 hx5 hx6 hx7 hx8
      go_enter Try.func10, Try.ntmps10
      go_wp2
      go_ret
      exact ⟨rfl, KA.out _ _ (Both.of F0.out R0.out (Kept.refl _ _) F0.out (Kept.refl _ _) (Sub.refl _ _))⟩
end Go.Proofs.Ytcncjfjdnmookaa
