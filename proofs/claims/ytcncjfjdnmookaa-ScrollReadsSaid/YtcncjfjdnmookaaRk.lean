/-
  The law ScrollReads: it returns true, whatever it is given, and leaves what was there as it was.
-/
import Derived.Test.YtcncjfjdnmookaaLaw
import Derived.Test.YtcncjfjdnmookaaWk
import Derived.Test.YtcncjfjdnmookaaRj
import Derived.Test.YtcncjfjdnmookaaQu
import Derived.Deep.DeepCutAuto
namespace Go.Proofs.Ytcncjfjdnmookaa
open Go.RowKit

theorem RS.step_l {s : RS} (h : s.ok) (x n : Int) : (s.step x n).l = s.l ∧ (s.step x n).es.length ≤ s.es.length + 1 := by
  unfold RS.step
  split
  · have := RS.pass_l s 2; exact ⟨this.1, by rw [this.2.1]; omega⟩
  · split
    · have := RS.pass_l s 4; exact ⟨this.1, by rw [this.2.1]; omega⟩
    · have := RS.act_way h x n
      refine ⟨this.1, ?_⟩
      rcases this.2.2 with e | ⟨e, _, _⟩ | e
      · rw [e]; omega
      · rw [e]; simp
      · have := congrArg List.length e; simp at this; omega

/-- What holds at each round's head. -/
def RkRel (W : World) (p q : Nat) (b : List UInt8) (ov : Value) (len : Nat) (i : Value) (wr : World) : Prop :=
  ∃ (k : Nat) (s : RS) (F : Nat → Prop), i = .int .i64 (k : Int) ∧ k ≤ len ∧ k ≤ 60 ∧ Rd wr p s ∧ Rf wr W.heap.size F q s ∧ Bs wr ov b ∧ s.l = b ∧ s.es.length ≤ k ∧ Kept Nothing W wr

/-- What holds behind the test of a round. -/
def RlRel (W : World) (p q : Nat) (b : List UInt8) (ov : Value) (t : RS) (wr : World) : Prop :=
  ∃ F, Rd wr p t ∧ Rf wr W.heap.size F q t ∧ Bs wr ov b ∧ Kept Nothing W wr

theorem RlRel.drewN {W : World} {p q : Nat} {b : List UInt8} {ov : Value} {t : RS} {wr : World} (h : RlRel W p q b ov t wr) (m : Nat) : RlRel W p q b ov t (wr.drewN m) := by
  obtain ⟨F, h1, h2, h3, h4⟩ := h
  exact ⟨F, h1.drewN m, h2.drewN m, h3.kept ((Kept.refl Nothing wr).drewN m) (NoBytes.nothing _), h4.drewN m⟩
theorem RlRel.of {W w w' : World} {p q : Nat} {F : Nat → Prop} {b : List UInt8} {ov : Value} {s t : RS} (hr : Rd w p s) (hf : Rf w W.heap.size F q s) (hp : W.heap.size ≤ p) (hb : Bs w ov b) (hk : Kept Nothing W w) (h : Both w w' p q W.heap.size F t) : RlRel W p q b ov t w' := by
  obtain ⟨F', h1, h2, h3, h4⟩ := h
  refine ⟨F', h1, h2, hb.kept h3 (fun k hk' cs f e => ?_), hk.trans_new h3 (fun i hi hx => ?_)⟩
  · rcases hk' with rfl | hk'
    · obtain ⟨_, _, hB, _⟩ := hr
      unfold Blk at hB
      rw [hB] at e
      injection e with e
      injection e with _ e2
      exact absurd e2 (by decide)
    · exact hf.noBytes k hk' cs f e
  · rcases hx with rfl | hx
    · omega
    · have := (hf.kinds hx).1; omega

set_option maxRecDepth 100000 in
set_option maxHeartbeats 16000000 in
theorem reads_law (v0 v1 : Value) (l : List UInt8) (acts : List (Int × Int)) (W : World) (h0 : By W v0 l) (h1 : Prs W v1 acts) :
    Calls Try.prog 3 #[v0, v1] W fun e w' => e = .returned (.bool true) ∧ Kept Nothing W w' := by
  obtain ⟨A, c, rfl, hc, hm⟩ := h0.form
  obtain ⟨A1, c1, rfl, hm1, hr1, hp1⟩ := h1
  have H0 := Lib.hid h0
  have HP := Lib.hid hp1
  clear h0 hp1 hr1
  unfold maxLen at hm hm1
  go_enter Try.func3, Try.ntmps3
  go_upto_region 1 with fail
  go_cut [0] (fun v wx => ∃ b : List UInt8, v = .slice A b.length c ∧ By W (.slice A b.length c) b ∧ b.length ≤ 300 ∧ W = wx)
  case first =>
    by_cases hle : l.length ≤ 300
    · as_aux_lemma =>
        go_wp2_with fail
        go_meet
        exact ⟨l, rfl, H0.out, hle, rfl⟩
    · as_aux_lemma =>
        go_wp2_with fail
        go_meet
        have e : (l.take 300).length = 300 := by rw [List.length_take]; omega
        refine ⟨l.take 300, by rw [e], ?_, by omega, rfl⟩
        rw [e]
        exact H0.out.pre (by omega)
  case rest =>
    obtain ⟨b, rfl, hb, hle, rfl⟩ := hcut
    have HB := Lib.hid hb
    clear hb H0 hc
    go_wp2_with fail
    refine (by_clone _ _ _ HB.out (by omega)).mono ?_
    rintro e w1 ⟨ov, rfl, ho, hk⟩
    have O1 := Lib.hid (Bs.of_own ho)
    have K1 := Lib.hid hk
    obtain ⟨Ao, co, rfl, _, _⟩ := own_form ho
    clear ho hk
    go_wp2_with fail
    refine (rd_new _ _ _ O1.out.by (by omega)).mono ?_
    rintro e w2 ⟨p, rfl, hr, hk, hp⟩
    have K2 := Lib.hid (K1.out.trans hk)
    have R2 := Lib.hid hr
    have O2 := Lib.hid (O1.out.kept hk (NoBytes.nothing _))
    have P2 := Lib.hid (Nat.le_trans K1.out.size hp)
    clear hk hr hp O1 K1
    go_wp2_with fail
    go_loopw [24] (fun i wr => RkRel W p w2.heap.size b (.slice Ao b.length co) acts.length i wr) (fun i _ => acts.length - (intOf i).toNat)
    case atStart =>
      have kb := (Kept.refl Nothing w2).alloc (.cells #[.slice A b.length c, .int .i64 0, .slice none 0 0, .int .i64 0] 30)
      refine ⟨0, ⟨b, 0, [], 0⟩, fown w2.heap.size (.slice none 0 0), rfl, Nat.zero_le _, by omega, R2.out.kept_old kb, ?_, O2.out.kept kb (NoBytes.nothing _), rfl, Nat.le_refl _, K2.out.trans kb⟩
      refine ⟨A, c, .slice none 0 0, rfl, K2.out.size, Blk.fresh w2 _ _, HB.out.old (K2.out.trans kb), fun a ha h0 => ?_, World.ownsRow_nil _ _ _ _, Nat.zero_le _, by show b.length ≤ _; omega⟩
      subst ha
      exact Src.lt HB.out.src (by rw [length_bys]; exact h0)
    case round =>
      obtain ⟨k, s, F, rfl, hk1, hk2, hr, hf, hov, hsl, hd, hkw⟩ := hrel
      have R3 := Lib.hid hr
      have F3 := Lib.hid hf
      have O3 := Lib.hid hov
      have K3 := Lib.hid hkw
      have HD := Lib.hid hd
      have HSL := Lib.hid hsl
      clear hr hf hov hkw hd hsl
      by_cases hlt : k < acts.length
      · obtain ⟨ba, oa, rfl, hcell⟩ := HP.out (by omega)
        obtain ⟨g0, g1⟩ := hcell k hlt
        have G0 := (K3.out.cell_some g0 (fun x => x))
        have G1 := (K3.out.cell_some g1 (fun x => x))
        clear g0 g1 hcell
        generalize (acts.getD k (0, 0)).1 = x at *
        generalize (acts.getD k (0, 0)).2 = n at *
        have ka := (Kept.refl Nothing wr).alloc (.cells #[.int .i64 x, .int .i64 n] 32)
        by_cases h60 : k = 60
        · subst h60
          as_aux_lemma =>
            have E := by_equal _ _ _ _ _ (O3.out.kept ka (NoBytes.nothing _)).by (HB.out.old (K3.out.trans ka))
            rw [beq_self_eq_true] at E
            have HE := Lib.hid E
            have K4 := Lib.hid (K3.out.trans ka)
            clear E ka
            go_wp2_with fail
            refine HE.out.mono ?_
            rintro e w4 ⟨rfl, rfl⟩
            go_wp2_with fail
            refine (wakes_any _).mono ?_
            rintro e w5 ⟨rfl, hkk⟩
            go_wp2
            go_ret
            exact ⟨rfl, K4.out.trans hkk⟩
        · have hk60 : ((k : Int) == 60) = false := by simp; omega
          have R4 := Lib.hid (R3.out.kept_old ka)
          have F4 := Lib.hid (F3.out.old ka)
          have O4 := Lib.hid (O3.out.kept ka (NoBytes.nothing _))
          have K4 := Lib.hid (K3.out.trans ka)
          clear ka
          go_upto_region 8 with fail
          go_cut [70] (fun c wx => c = .bool false ∧ RlRel W p w2.heap.size b (.slice Ao b.length co) (s.step x n) wx)
          case first =>
            have C0 := Lib.hid (fun (w' : World) (hr : Rd w' p s) (hf : Rf w' W.heap.size F w2.heap.size s) => reads_any p w2.heap.size W.heap.size F s x n w' hr hf P2.out (by have := HD.out; omega))
            generalize s.step x n = t at *
            clear G0 G1 HB HP R3 F3 O3 K3 HD HSL R2 K2 O2
            go_wp2_with fail
            refine wp_region_any (by kernel_rfl) ?_
            change wpAny _ _ _ _ _ _ _ (World.drew _)
            refine wpAny_take (i := 0) (v := .pointer (some ⟨p, 0, none⟩)) rfl (by kernel_rfl) (by kernel_rfl) (by kernel_rfl) (fun _ _ _ h => h) (Or.inl ⟨by rfl, fun _ => by rfl⟩) ?_
            refine wpAny_take (i := 1) (v := .pointer (some ⟨w2.heap.size, 0, none⟩)) rfl (by kernel_rfl) (by kernel_rfl) (by kernel_rfl) (fun _ _ _ h => h) (Or.inl ⟨by rfl, fun _ => by rfl⟩) ?_
            refine wpAny_ready (rs := [2]) (by kernel_rfl) (by simp) ?_
            refine AllReady.cons rfl ?_ AllReady.nil
            intro K hK
            go_simp
            refine hK _ _ ?_
            clear hK K
            refine wpAny_ready (rs := [3]) (by kernel_rfl) (by simp) ?_
            refine AllReady.cons rfl ?_ AllReady.nil
            intro K hK
            go_simp
            refine (C0.out _ (by exact R4.out.drewN 1) (by exact F4.out.drewN 1)).mono ?_
            rintro e w5 ⟨rfl, hb⟩
            have C5 := Lib.hid (RlRel.of (R4.out.drewN 1) (F4.out.drewN 1) P2.out (O4.out.kept ((Kept.refl Nothing _).drewN 1) (NoBytes.nothing _)) (K4.out.drewN 1) hb)
            obtain ⟨F', hr5, hf5, -, -⟩ := hb
            have R5 := Lib.hid hr5
            have F5 := Lib.hid hf5
            obtain ⟨A', c', ev', _, _, hb5, _, _, ho5, _⟩ := hf5
            obtain ⟨Ae, ce, rfl, _, _⟩ := own_form ho5
            obtain ⟨⟨-, q1, q2, q3⟩, -⟩ := f_cells4 hb5
            clear hr5 hb5 ho5
            refine hK _ _ ?_
            clear hK K
            refine wpAny_rest_quiet 4 _ (by rfl) (by kernel_rfl) (by kernel_rfl) ?_
            simp only [List.drop_succ_cons, List.drop_zero]
            repeat (go_big_quiet_step (first | (go_at_call 14; exact qq_at R5.out _) | (go_at_call 13; exact qq_deep R5.out _) | (go_at_call 15; exact qq_err R5.out _) | (go_at_call 11; exact qq_left R5.out _) | (go_at_call 12; exact qf_left F5.out _)))
            refine wpQuiet_nil ?_
            rintro _ ⟨nq, rfl⟩
            go_wp2_with fail
            go_meet
            exact ⟨rfl, C5.out.drewN nq⟩
          case rest =>
            obtain ⟨rfl, hrl⟩ := hcut
            have C5 := Lib.hid hrl
            clear hrl
            have HST := Lib.hid (RS.step_l R3.out.ok x n)
            generalize s.step x n = t at *
            go_wp2
            go_roundw
            case rel =>
              obtain ⟨F', a1, a2, a3, a4⟩ := C5.out
              exact ⟨k + 1, t, F', by go_num, by omega, by omega, a1, a2, a3, by rw [HST.out.1, HSL.out], by have := HST.out.2; have := HD.out; omega, a4⟩
            case measure => simp [intOf]; omega
      · as_aux_lemma =>
          have E := by_equal _ _ _ _ _ O3.out.by (HB.out.old K3.out)
          rw [beq_self_eq_true] at E
          have HE := Lib.hid E
          clear E
          go_wp2_with fail
          refine HE.out.mono ?_
          rintro e w4 ⟨rfl, rfl⟩
          go_wp2_with fail
          refine (wakes_any _).mono ?_
          rintro e w5 ⟨rfl, hkk⟩
          go_wp2
          go_ret
          exact ⟨rfl, K3.out.trans hkk⟩
end Go.Proofs.Ytcncjfjdnmookaa
