/-
  What the calls of the document's own writer (package consulateref01) do: Hold, Done.
-/
import Derived.Test.YtcncjfjdnmookaaVl
import Derived.Test.YtcncjfjdnmookaaWd
namespace Go.Proofs.Ytcncjfjdnmookaa
open Go.RowKit

theorem pair_info : (Try.prog.info? 86).map (fun i => (i.zero, i.size, i.bytes)) = some (some (.agg #[.int .i64 0, .int .i64 0]), 2, 16) := by kernel_rfl

/-- Behind append's store of the holds. -/
theorem Vr.put1 {w w1 : World} {q : Nat} {s : WS} {bv hv hv' : Value} {hs : List (Nat × Nat)} (hb : Blk w q 45 #[bv, hv, .int .i64 s.e])
    (h1 : w.ownsRow 0 5 1 bv s.l.length (bys s.l)) (h2 : w.ownsRow 0 86 2 hv s.hs.length (rcs s.hs)) (hok : WS.small { s with hs := hs })
    {n : Nat} {xs : List Value} (hn : n = hs.length) (hx : xs = rcs hs) (ho : w1.ownsRow 0 86 2 hv' n xs) (kg : Kept (fun k => hv.ownBlock = some k) w w1) (hat : hv'.ownBlock = hv.ownBlock ∨ ∃ g, hv'.ownBlock = some g ∧ w.heap.size ≤ g) :
    Blk w1 q 45 #[bv, hv, .int .i64 s.e] ∧ ∃ F', Vr (w1.setCell ⟨q, 1, none⟩ hv') F' q { s with hs := hs } ∧ Kept (wown q bv hv) w (w1.setCell ⟨q, 1, none⟩ hv') ∧ Sub w F' (wown q bv hv) := by
  subst hn hx
  have nb : ∀ g, hv.ownBlock = some g → g ≠ q := fun g hg => by
    obtain ⟨cs, hh⟩ := own_lt h2 hg
    exact (hb.apart (t' := 86) hh (by decide)).symm
  have hb1 := hb.kept kg (fun e => nb q e rfl)
  have h11 := own_kept h1 kg (fun g hg e => by
    obtain ⟨cs, hh⟩ := own_lt h1 hg
    obtain ⟨cs', hh'⟩ := own_lt h2 e
    rw [hh] at hh'
    injection hh' with hh'
    injection hh' with _ ht
    exact absurd ht (by decide))
  have k1 := Kept.own w1 q 1 hv'
  refine ⟨hb1, wown q bv hv', ⟨bv, hv', rfl, hb1.put 1 _, own_kept h11 k1 (fun g hg e => ?_), own_kept ho k1 (fun g hg e => ?_), hok⟩, ?_, ?_⟩
  · obtain ⟨cs, hh⟩ := own_lt h11 hg
    exact hb1.apart (t' := 5) hh (by decide) e.symm
  · obtain ⟨cs, hh⟩ := own_lt ho hg
    exact hb1.apart (t' := 86) hh (by decide) e.symm
  · exact (kg.mono (fun k hk => .inr (.inr hk))).trans (k1.mono (fun k e => .inl e))
  · intro k hk
    rcases hk with hk | hk | hk
    · exact .inl (.inl hk)
    · exact .inl (.inr (.inl hk))
    · rcases hat with h | ⟨g, h, hg⟩
      · rw [h] at hk; exact .inl (.inr (.inr hk))
      · rw [h] at hk
        injection hk with hk
        exact .inr (by omega)

set_option maxHeartbeats 1600000 in
theorem vr_hold (q : Nat) (F : Nat → Prop) (s : WS) (n : Int) (w : World) (h : Vr w F q s) (hl : s.l.length + 4 ≤ 1099511627776) (hd : s.hs.length < 1099511627776) :
    Calls Try.prog 24 #[.pointer (some ⟨q, 0, none⟩), .int .i64 n] w fun r w' => ∃ F', r = .returned (.tuple #[]) ∧ Vr w' F' q (s.hold n) ∧ Kept F w w' ∧ Sub w F' F := by
  have HV := Lib.hid h
  obtain ⟨bv, hv, hFF, hb, h1, h2, hok⟩ := h
  obtain ⟨⟨c0, c1, c2⟩, -, f1, f2⟩ := v_cells hb
  by_cases he : s.e = 0
  · have hne : (s.e != 0) = false := by simpa using he
    by_cases h12 : n = 1 ∨ n = 2
    · obtain ⟨A0, cc0, rfl, _, _⟩ := own_form h1
      obtain ⟨A1, cc1, rfl, _, _⟩ := own_form h2
      have HB := Lib.hid hb
      have H1 := Lib.hid h1
      have H2 := Lib.hid h2
      have HFF := Lib.hid hFF
      have plt := hb.lt
      obtain ⟨i1, hi, hz0, hz1, hz2⟩ := info_parts pair_info
      have HDD : Hid (s.hs.length + 1 ≤ maxLen ∧ (s.hs.length + 1) * 16 ≤ 140737488355328) := ⟨by unfold maxLen; omega, by omega⟩
      have HEQ : Hid (∀ m : Nat, m = 1 ∨ m = 2 → s.hold (m : Int) = WS.lay { s with hs := s.hs ++ [(m, s.l.length + m)] } (be 0 m)) := fun m hm => by
        rw [WS.hold_eq he hm]
        unfold WS.lay
        rw [if_pos he]
        rcases hm with rfl | rfl <;> rfl
      have HSM : Hid (∀ m : Nat, WS.small { s with hs := s.hs ++ [(m, s.l.length + m)] }) := fun m => ⟨by show s.l.length ≤ _; omega, by simp; omega⟩
      clear hb h1 h2 hFF hok he HV
      rcases h12 with rfl | rfl
      · go_enter Try.func24, Try.ntmps24
        go_wp2_with fail
        go_region_law (first | (refine step_app _ (by rfl) _ _ 43 (by rfl) 0 86 i1 _ 2 16 Try.underlying43 hi hz0 hz1 hz2 rfl (by decide) (.slice A1 s.hs.length cc1) s.hs.length (rcs s.hs) (by rfl) (own_kept H2.out (((Kept.refl Nothing w).alloc _).drew) (fun _ _ x => x)) (some ⟨w.heap.size, 0, none⟩) 1 1 [.int .i64 (s.l.length : Int), .int .i64 1] (by rfl) (src_new2 w _ _ _ rfl rfl) HDD.out.1 HDD.out.2 (Nat.zero_le _) ?_; intro v' w3 ho hg hat; (have HPE := Lib.hid (Vr.put1 (s := s) (hs := s.hs ++ [(1, s.l.length + 1)]) HB.out H1.out H2.out (HSM.out 1) List.length_append.symm (by rw [rcs_append]; simp [rcs]) ho (Kept.grown (((Kept.refl (fun k => (Value.slice A1 s.hs.length cc1).ownBlock = some k) w).alloc _).drew) hg (fun k hk _ => hk)) (hat.imp (fun e => e) (fun e => ⟨_, e, by simp⟩)))); (obtain ⟨⟨-, x1, -⟩, -, y1, -⟩ := v_cells HPE.out.1); (obtain ⟨A2, cc2, rfl, _, _⟩ := own_form ho); clear ho hg hat))
        all_goals
          obtain ⟨F2, a1, a2, a3⟩ := HPE.out.2
          have V2 := Lib.hid a1
          have K2 := Lib.hid a2
          have S2 := Lib.hid a3
          clear a1 a2 a3
          go_wp2_with fail
          have C := Lib.hid (vr_lay q F2 _ 0 1 0 1 rfl rfl _ V2.out (.inl rfl) (by decide) (by show s.l.length + 4 ≤ _; exact hl))
          rw [← HEQ.out 1 (.inl rfl)] at C
          refine C.out.mono ?_
          rintro e w4 ⟨F3, rfl, hw, hk, hs⟩
          have V4 := Lib.hid hw
          have K4 := Lib.hid hk
          have S4 := Lib.hid hs
          clear hw hk hs
          go_wp2
          first | go_end0 | refine bodyPost_ret (results_none rfl _ _ _) rfl ?_
          have k2 := K2.out
          have s2 := S2.out
          rw [← HFF.out] at k2 s2
          exact ⟨F3, rfl, V4.out, k2.sub s2 K4.out, s2.trans S4.out k2.size⟩
      · go_enter Try.func24, Try.ntmps24
        go_wp2_with fail
        go_region_law (first | (refine step_app _ (by rfl) _ _ 43 (by rfl) 0 86 i1 _ 2 16 Try.underlying43 hi hz0 hz1 hz2 rfl (by decide) (.slice A1 s.hs.length cc1) s.hs.length (rcs s.hs) (by rfl) (own_kept H2.out (((Kept.refl Nothing w).alloc _).drew) (fun _ _ x => x)) (some ⟨w.heap.size, 0, none⟩) 1 1 [.int .i64 (s.l.length : Int), .int .i64 2] (by rfl) (src_new2 w _ _ _ rfl rfl) HDD.out.1 HDD.out.2 (Nat.zero_le _) ?_; intro v' w3 ho hg hat; (have HPE := Lib.hid (Vr.put1 (s := s) (hs := s.hs ++ [(2, s.l.length + 2)]) HB.out H1.out H2.out (HSM.out 2) List.length_append.symm (by rw [rcs_append]; simp [rcs]) ho (Kept.grown (((Kept.refl (fun k => (Value.slice A1 s.hs.length cc1).ownBlock = some k) w).alloc _).drew) hg (fun k hk _ => hk)) (hat.imp (fun e => e) (fun e => ⟨_, e, by simp⟩)))); (obtain ⟨⟨-, x1, -⟩, -, y1, -⟩ := v_cells HPE.out.1); (obtain ⟨A2, cc2, rfl, _, _⟩ := own_form ho); clear ho hg hat))
        all_goals
          obtain ⟨F2, a1, a2, a3⟩ := HPE.out.2
          have V2 := Lib.hid a1
          have K2 := Lib.hid a2
          have S2 := Lib.hid a3
          clear a1 a2 a3
          go_wp2_with fail
          have C := Lib.hid (vr_lay q F2 _ 0 2 0 2 rfl rfl _ V2.out (.inr (.inl rfl)) (by decide) (by show s.l.length + 4 ≤ _; exact hl))
          rw [← HEQ.out 2 (.inr rfl)] at C
          refine C.out.mono ?_
          rintro e w4 ⟨F3, rfl, hw, hk, hs⟩
          have V4 := Lib.hid hw
          have K4 := Lib.hid hk
          have S4 := Lib.hid hs
          clear hw hk hs
          go_wp2
          first | go_end0 | refine bodyPost_ret (results_none rfl _ _ _) rfl ?_
          have k2 := K2.out
          have s2 := S2.out
          rw [← HFF.out] at k2 s2
          exact ⟨F3, rfl, V4.out, k2.sub s2 K4.out, s2.trans S4.out k2.size⟩
    · have HF : Hid (s.hold n = { s with e := 1 }) := by show _ = _; unfold WS.hold WS.note; rw [if_neg h12, if_pos he]
      rw [HF.out]
      have t1 : (n != 1) = true := by simp only [bne_iff_ne]; omega
      have t2 : (n != 2) = true := by simp only [bne_iff_ne]; omega
      clear HF h12 he hb h1 h2 hFF hok
      go_enter Try.func24, Try.ntmps24
      go_wp2
      first | go_end0 | refine bodyPost_ret (results_none rfl _ _ _) rfl ?_
      exact ⟨F, rfl, (HV.out.put2 1).1, (HV.out.put2 1).2, Sub.refl _ _⟩
  · have HF : Hid (s.hold n = s) := by
      show _ = _
      unfold WS.hold WS.note
      split <;> first | rfl | exact if_neg he
    rw [HF.out]
    have hne : (s.e != 0) = true := by simpa using he
    clear HF he hb h1 h2 hFF hok
    go_enter Try.func24, Try.ntmps24
    go_wp2
    first | go_end0 | refine bodyPost_ret (results_none rfl _ _ _) rfl ?_
    exact ⟨F, rfl, HV.out, Kept.refl _ _, Sub.refl _ _⟩

theorem vr_done (q : Nat) (F : Nat → Prop) (s : WS) (w : World) (h : Vr w F q s) :
    Calls Try.prog 28 #[.pointer (some ⟨q, 0, none⟩)] w fun r w' => ∃ v m, r = .returned (.tuple #[v, .int .i64 s.done.2]) ∧ Bs w v s.done.1 ∧ w' = w.drewN m := by
  obtain ⟨bv, hv, hFF, hb, h1, h2, hok⟩ := h
  obtain ⟨⟨c0, c1, c2⟩, -⟩ := v_cells hb
  obtain ⟨A0, cc0, rfl, _, _⟩ := own_form h1
  obtain ⟨A1, cc1, rfl, _, _⟩ := own_form h2
  by_cases he : s.e = 0
  · have hne : (s.e != 0) = false := by simpa using he
    by_cases h0 : s.hs = []
    · have HF : Hid (s.done = (s.l, 0)) := by show _ = _; unfold WS.done; rw [if_pos he, if_pos h0]
      rw [HF.out]
      rw [h0] at c1
      simp only [List.length_nil] at c1
      have HB := Lib.hid (Bs.of_own h1)
      clear HF he h0 hb h1 h2 hFF hok
      go_enter Try.func28, Try.ntmps28
      go_wp2
      go_ret2
      exact ⟨_, 0, rfl, HB.out, rfl⟩
    · have HF : Hid (s.done = ([], 26)) := by show _ = _; unfold WS.done; rw [if_pos he, if_neg h0]
      rw [HF.out]
      have hl : 0 < s.hs.length := List.length_pos_iff.2 h0
      have hlI : (0 : Int) < s.hs.length := by omega
      clear HF he h0 hb h1 h2 hFF hok
      go_enter Try.func28, Try.ntmps28
      go_wp2
      go_ret2
      exact ⟨_, 0, rfl, Bs.nil _, rfl⟩
  · have HF : Hid (s.done = ([], s.e)) := if_neg he
    rw [HF.out]
    have hne : (s.e != 0) = true := by simpa using he
    clear HF he hb h1 h2 hFF hok
    go_enter Try.func28, Try.ntmps28
    go_wp2
    go_quiet (fail)
    go_wp2
    go_ret2
    exact ⟨_, nq, rfl, Bs.nil _, rfl⟩
end Go.Proofs.Ytcncjfjdnmookaa
