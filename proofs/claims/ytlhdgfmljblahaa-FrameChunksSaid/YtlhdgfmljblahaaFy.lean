
/-
  The law FrameChunks: it returns true, whatever it is given, and leaves what was there as it was.
-/
import Derived.Test.YtlhdgfmljblahaaLaw
import Derived.Test.YtlhdgfmljblahaaFx
import Derived.Deep.DeepCutAuto
import Derived.Deep.CutBlock
import Derived.Outline
namespace Go.Proofs.Ytlhdgfmljblahaa
open Go.RowKit

/-- The slice value v reads as the numbers l, each of two bytes. -/
def Nums (w : World) (v : Value) (l : List Nat) : Prop :=
  ∃ A c, v = .slice A l.length c ∧ l.length ≤ maxLen ∧ (∀ x ∈ l, x < 65536) ∧ (0 < l.length → ∃ b o, A = some ⟨b, o, none⟩ ∧ ∀ i, i < l.length → w.cell? ⟨b, o + i, none⟩ = some (.int .u16 ((l.getD i 0 : Nat) : Int)))

set_option maxRecDepth 100000 in
/-- An argument that is a slice of numbers of two bytes. -/
theorem open_nums {H : Type} {enc : TypeId × Value → H} {W : World} {base : Nat} {v : Value} {d : DataW H} {p : List MemPlace} (hv : Value.okWide Try.prog W .any base 51 v)
    (h : DataW.Trod enc Try.prog W 0 (fun _ => true) true 51 v d p) : ∃ l, Nums W v l := by
  obtain ⟨a0, len, cap, rfl⟩ := Go.WideShapes.okWide_slice Try.underlying51 hv
  obtain ⟨fuel, hf⟩ := h
  rcases Go.ChangeShapes.open_ints Try.underlying51 Try.underlying52 (by kernel_rfl) hf with ⟨hcs, hx⟩ | ⟨a, len', cap', zs, hcs, _, hl, hm, hz, hx, hcell, hwz⟩
  · simp [Value.cells] at hcs
    obtain ⟨rfl, rfl, rfl⟩ := hcs
    exact ⟨[], none, 0, rfl, by simp [maxLen], (fun x hx => by cases hx), fun h => absurd h (by simp)⟩
  · simp [Value.cells] at hcs
    obtain ⟨rfl, rfl, rfl⟩ := hcs
    simp only [if_true] at hz
    have hin : ∀ z ∈ zs, 0 ≤ z ∧ z ≤ 65535 := fun z hzm => by simpa [Lit.wf, IntKind.min, IntKind.max, IntKind.signed, IntKind.bits] using hwz z hzm
    have hlen : ((zs.take len).map (fun z => z.toNat)).length = len := by rw [List.length_map, List.length_take]; omega
    refine ⟨(zs.take len).map (fun z => z.toNat), some a, cap, by rw [hlen], by rw [hlen]; omega, fun x hx => ?_, fun h0 => ?_⟩
    · obtain ⟨z, hz', rfl⟩ := List.mem_map.1 hx
      have := hin z (List.mem_of_mem_take hz')
      omega
    · rw [hlen] at h0 ⊢
      obtain ⟨b, off, spot⟩ := a
      have hspot : spot = none := by simpa [Addr.add] using World.cell?_spot (hcell 0 (by omega))
      subst hspot
      refine ⟨b, off, rfl, fun i hi => ?_⟩
      have hc := hcell i (by omega)
      rw [add_none] at hc
      have hzi : zs[i]? = some (zs[i]'(by omega)) := List.getElem?_eq_getElem (by omega)
      have := hin (zs[i]'(by omega)) (List.getElem_mem _)
      rw [hc, List.getD_eq_getElem?_getD, List.getD_eq_getElem?_getD, List.getElem?_map, List.getElem?_take_of_lt hi, hzi]
      simp only [Option.getD_some, Option.map_some, Option.some.injEq, Value.int.injEq, true_and]
      omega

def ChLoop (W : World) (B p q : Nat) (lv : Value) (L : List Msg) (s1 : Fr.IS) (F1 D1 : Nat → Prop) (b : List UInt8) (mv rv : Value) (w : World) : Prop :=
  ∃ (F2 D2 : Nat → Prop) (pre r : List UInt8), ChP W B p q lv L s1 (Fr.feed Fr.IS.new pre).2 (Fr.feed Fr.IS.new pre).1 F1 D1 F2 D2 mv w ∧ By w rv r ∧ Off (fun k => W.heap.size ≤ k) rv ∧ b = pre ++ r
theorem ms_form {w : World} {B : Nat} {F : Nat → Prop} {A : Option Addr} {n c : Nat} {l : List Msg} (h : Ms w B F (.slice A n c) l) : ∃ tl : List (Msg × Value), tl.map (·.1) = l ∧ tl.length = n ∧ tl.length = l.length ∧ w.ownsRow B 43 2 (.slice A n c) tl.length (mcs tl) ∧ (∀ x ∈ tl, Bs w x.2 x.1.2 ∧ Off F x.2 ∧ Past B x.2) ∧ Src w 2 A n (mcs tl) := by
  obtain ⟨tl, h1, h2, h3⟩ := h
  obtain ⟨e, hs⟩ := own_src h2 (mcs_cells (P := fun _ => True) (fun x hx => ⟨(h3 x hx).1, trivial⟩))
  exact ⟨tl, h1, e.symm, by rw [← h1, List.length_map], h2, h3, by rw [e]; exact hs⟩

set_option maxRecDepth 100000 in
set_option maxHeartbeats 3200000 in
theorem chunks_law (v0 v1 : Value) (l : List UInt8) (parts : List Nat) (W : World) (h0 : By W v0 l) (h1 : Nums W v1 parts) :
    Calls Try.prog 5 #[v0, v1] W fun e w' => e = .returned (.bool true) ∧ Kept Nothing W w' := by
  obtain ⟨A, c, rfl, hc, hm⟩ := h0.form
  obtain ⟨A1, c1, rfl, hm1, hx1, hp1⟩ := h1
  have H0 := Lib.hid h0
  have HP := Lib.hid hp1
  have HX := Lib.hid hx1
  clear h0 hp1 hx1
  unfold maxLen at hm hm1
  go_enter Try.func5, Try.ntmps5
  go_upto_region 1 with fail
  go_cut [0] (fun v wx => ∃ b : List UInt8, v = .slice A b.length c ∧ By W (.slice A b.length c) b ∧ b.length ≤ 9000 ∧ W = wx)
  case first =>
    by_cases hle : l.length ≤ 9000
    · as_aux_lemma =>
        go_wp2_with fail
        go_meet
        exact ⟨l, rfl, H0.out, hle, rfl⟩
    · as_aux_lemma =>
        go_wp2_with fail
        go_meet
        have e : (l.take 9000).length = 9000 := by rw [List.length_take]; omega
        refine ⟨l.take 9000, by rw [e], ?_, by omega, rfl⟩
        rw [e]
        exact H0.out.pre (by omega)
  case rest =>
    obtain ⟨b, rfl, hb, hle, rfl⟩ := hcut
    have HB := Lib.hid hb
    clear hb H0 hc
    go_wp2_with fail
    refine (in_new2 _).mono ?_
    rintro e w1 ⟨p, F1, rfl, ha, ka, ra⟩
    have A1' := Lib.hid ha
    have K1 := Lib.hid ka
    have RA : Hid (∀ k, F1 k → W.heap.size ≤ k ∧ k < w1.heap.size) := fun k hk => ⟨ra k hk, ha.lt hk⟩
    clear ha ka ra
    go_wp2_with fail
    refine (in_new2 _).mono ?_
    rintro e w2 ⟨q, F2, rfl, hb, kb, rb⟩
    have A2 := Lib.hid (A1'.out.old kb)
    have B2 := Lib.hid hb
    have K2 := Lib.hid (K1.out.trans kb)
    have RB : Hid (∀ k, F2 k → w1.heap.size ≤ k ∧ k < w2.heap.size) := fun k hk => ⟨rb k hk, hb.lt hk⟩
    have ON : Hid (Off (fun k => W.heap.size ≤ k) (.slice A b.length c)) := HB.out.off_new (fun _ h => h)
    have z1 := K1.out.size
    have z2 := kb.size
    clear hb kb rb A1' K1
    go_wp2_with fail
    refine (in_feed p F1 Nothing Fr.IS.new _ b w2 A2.out (HB.out.old K2.out) (ON.out.mono (fun k hk => (RA.out k hk).1)) (by omega)).mono ?_
    rintro e w3 ⟨lv, rfl, F3, hm3, hi3, hk3, hs3⟩
    rw [Fr.feed_new] at hm3 hi3
    obtain ⟨AL, cL, rfl, hcL, hmL⟩ := alike_len hm3
    have C3 : ChP W w3.heap.size p q (.slice AL (Fr.run b).1.length cL) (Fr.run b).1 (Fr.run b).2 Fr.IS.new [] F3 (fun k => DD w2 Nothing k ∧ k < w3.heap.size) F2 Nothing (.slice none 0 0) w3 := by
      have ra := RA.out
      have rb := RB.out
      have hz := hk3.size
      refine ⟨hi3.tight, B2.out.kept hk3 (fun g hg x => by have := ra g x; have := rb g hg; omega) (fun g hg => hg.elim), (hm3.below (F' := F2) (fun k hk => (rb k hk).2)).base (by omega), fun g hg => ?_, Ms.nil _ _ _, K2.out.newly hk3 (fun i hi => (ra i hi).1), Nat.le_refl _, by omega, fun k hk => by have := rb k hk; omega, fun k hk => ?_, fun g hg => by simp [Value.ownBlock] at hg, fun k hk => hk.elim⟩
      · obtain ⟨tl, _, o1, _⟩ := hm3
        obtain ⟨cs, hh⟩ := own_lt o1 hg
        exact (Array.getElem?_eq_some_iff.1 hh).1
      · rcases hk with hk | hk
        · refine ⟨hi3.lt hk, fun x => ?_⟩
          have := rb k x
          rcases hs3 k hk with y | y
          · have := ra k y; omega
          · omega
        · refine ⟨hk.2, fun x => ?_⟩
          have := rb k x
          rcases hk.1 with y | y
          · exact y
          · omega
    have CH := Lib.hid C3
    have ML : (Fr.run b).1.length ≤ 9000 := Nat.le_trans (Fr.run_len _ b (Nat.le_refl _)) hle
    clear C3 hm3 hi3 hk3 hs3 A2 B2 K2 RA RB z1 z2
    obtain ⟨i0, hi, hz0, hz1, hz2⟩ := info_parts msg_info
    generalize (fun k => DD w2 Nothing k ∧ k < w3.heap.size) = D3 at *
    generalize w3.heap.size = BB at *
    go_upto_block 0 with fail
    go_cut [8, 9] (fun mv rv wx => ChLoop W BB p q (.slice AL (Fr.run b).1.length cL) (Fr.run b).1 (Fr.run b).2 F3 D3 b mv rv wx)
    case first =>
      go_wp2_with fail
      go_loopw [30, 8, 9] (fun i mv rv wr => ∃ k : Nat, i = .int .i64 (k : Int) ∧ k ≤ parts.length ∧ k ≤ 30 ∧ ChLoop W BB p q (.slice AL (Fr.run b).1.length cL) (Fr.run b).1 (Fr.run b).2 F3 D3 b mv rv wr) (fun i _ _ _ => parts.length - (intOf i).toNat)
      case atStart => exact ⟨0, rfl, Nat.zero_le _, by omega, F2, Nothing, [], b, by rw [show Fr.feed Fr.IS.new [] = ([], Fr.IS.new) from Fr.run_short (by decide)]; exact CH.out, HB.out.old CH.out.kept, ON.out, rfl⟩
      case round =>
        clear CH
        obtain ⟨k, rfl, hk1, hk2, hch⟩ := hrel
        by_cases hlt : k < parts.length
        · obtain ⟨ba, oa, rfl, hcell⟩ := HP.out (by omega)
          by_cases h30 : k = 30
          · subst h30
            have G0 := hch
            obtain ⟨_, _, _, _, hP, _⟩ := G0
            have g0 := hP.kept.cell_some (hcell 30 hlt) (fun x => x)
            have HC := Lib.hid hch
            have i1 : (0 : Int) ≤ ((30 : Nat) : Int) := by omega
            have i2 : ((30 : Nat) : Int) < (parts.length : Int) := by omega
            clear hP hch hcell
            go_wp2_with fail
            go_meet
            exact HC.out
          · have hk30 : ((k : Int) == 30) = false := by simp; omega
            obtain ⟨F4, D4, pre, r, hP, hr, hor, hbr⟩ := hch
            have g0 := hP.kept.cell_some (hcell k hlt) (fun x => x)
            have hx : parts.getD k 0 < 65536 := by
              rw [List.getD_eq_getElem?_getD, List.getElem?_eq_getElem hlt]
              exact HX.out _ (List.getElem_mem _)
            generalize parts.getD k 0 = x at *
            obtain ⟨Ar, cr, rfl, hcr, hmr⟩ := hr.form
            have hrl : r.length ≤ 9000 := by
              have := congrArg List.length hbr
              rw [List.length_append] at this
              omega
            unfold maxLen at hmr
            obtain ⟨nn, hnn⟩ : ∃ nn, nn = x % (r.length + 1) := ⟨_, rfl⟩
            have hnr : nn ≤ r.length := by
              have := Nat.mod_lt x (show 0 < r.length + 1 by omega)
              omega
            have hmod : (x : Int) % ((r.length : Int) + 1) = (nn : Int) := by rw [hnn, Int.natCast_emod, Int.natCast_add]; rfl
            have sh := slice_hi Ar r.length cr nn (by omega)
            have sl := slice_lo Ar r.length cr nn hnr
            have HPP := Lib.hid hP
            have HR := Lib.hid hr
            have HOR := Lib.hid hor
            have HBR := Lib.hid hbr
            have i1 : (0 : Int) ≤ (k : Int) := by omega
            have i2 : (k : Int) < (parts.length : Int) := by omega
            obtain ⟨Am, cm, emv, hcm, hmm⟩ := alike_len hP.m
            subst emv
            have hpl : (Fr.feed Fr.IS.new pre).1.length ≤ 9000 := by
              rw [Fr.feed_new]
              have h1 := Fr.run_len _ pre (Nat.le_refl _)
              have := congrArg List.length hbr
              rw [List.length_append] at this
              omega
            have C1 := Lib.hid (in_feed q F4 D4 (Fr.feed Fr.IS.new pre).2 (.slice Ar nn cr) (r.take nn) wr hP.two (hr.pre hnr) (fun a n c' e h0 x => by injection e with e1 e2 e3; exact hor a r.length cr (by rw [e1]) (by omega) (hP.news _ x)) (by rw [List.length_take]; omega))
            have FA := Lib.hid (Fr.feed_app (s := Fr.IS.new) pre (r.take nn))
            have hcl : (Fr.feed (Fr.feed Fr.IS.new pre).2 (r.take nn)).1.length ≤ 9000 := by
              have h1 := Fr.run_len _ (pre ++ r.take nn) (Nat.le_refl _)
              rw [← Fr.feed_new, FA.out, List.length_append] at h1
              have := congrArg List.length hbr
              rw [List.length_append] at this h1
              rw [List.length_take] at h1
              omega
            clear hP hr hor hbr hcell hnn
            go_wp2_with fail
            refine C1.out.mono ?_
            rintro e w4 ⟨v4, rfl, hfed⟩
            obtain ⟨F5, hP5, hm5, hk5⟩ := HPP.out.fed hfed
            obtain ⟨A4, c4, rfl, hc4, hm4⟩ := alike_len hm5
            obtain ⟨tl, e1, n1, m1, o1, b1, _⟩ := ms_form hP5.m
            obtain ⟨tl2, e2, n2, m2, _, b2, s2⟩ := ms_form hm5
            have HB5 := Lib.hid hP5
            have HM5 := Lib.hid hm5
            have HK5 := Lib.hid hk5
            have E1 := Lib.hid e1
            have N1 := Lib.hid n1
            have M1 := Lib.hid m1
            have O1 := Lib.hid o1
            have BB1 := Lib.hid b1
            have E2 := Lib.hid e2
            have N2 := Lib.hid n2
            have BB2 := Lib.hid b2
            have S2 := Lib.hid s2
            clear hfed hP5 hm5 hk5 e1 n1 o1 b1 e2 n2 b2 s2 m1 m2
            have HX5 : Hid (tl.length + (Fr.feed (Fr.feed Fr.IS.new pre).2 (r.take nn)).1.length ≤ maxLen ∧ (tl.length + (Fr.feed (Fr.feed Fr.IS.new pre).2 (r.take nn)).1.length) * 32 ≤ 140737488355328) := by
              have := M1.out
              exact ⟨by unfold maxLen; omega, by omega⟩
            have LE5 := Lib.hid HB5.out.size
            have KB5 := Lib.hid (Nat.le_trans HPP.out.size (Nat.le_refl _))
            go_wp2_with (at_builtin; refine wpList_app _ rfl _ _ 26 rfl BB 43 i0 (.agg #[.int .u8 0, .slice none 0 0]) 2 32 Try.underlying26 hi hz0 hz1 hz2 rfl (by decide) (.slice Am (Fr.feed Fr.IS.new pre).1.length cm) tl.length (mcs tl) rfl O1.out A4 (Fr.feed (Fr.feed Fr.IS.new pre).2 (r.take nn)).1.length c4 (mcs tl2) rfl S2.out HX5.out.1 HX5.out.2 LE5.out ?_; intro v6 w6 hown6 hg6 hat6; (have HO6 := Lib.hid hown6); (have HG6 := Lib.hid hg6); (have HA6 := Lib.hid hat6); (obtain ⟨A6, c6, rfl, _, _⟩ := own_form hown6); clear hown6 hg6 hat6)
            have ho6 := HO6.out
            have ha6 := HA6.out
            rw [← N2.out] at ho6 ha6
            obtain ⟨hP6, hk6⟩ := HB5.out.app KB5.out E1.out O1.out BB1.out E2.out BB2.out ho6 HG6.out ha6
            rw [N2.out] at hP6
            clear ha6
            have kk := HK5.out.trans hk6
            have hr6 := HR.out.off kk HOR.out
            have HP6 := Lib.hid hP6
            have HR6 := Lib.hid hr6
            clear ho6 hP6 hk6 kk hr6
            go_roundw
            case rel =>
              refine ⟨k + 1, by go_num, by omega, by omega, F5, (fun k => DD wr D4 k ∧ k < w4.heap.size), pre ++ r.take nn, r.drop nn, ?_, ?_, HOR.out.piece (by omega), by rw [List.append_assoc, List.take_append_drop]; exact HBR.out⟩
              · rw [FA.out]
                exact HP6.out
              · have := HR6.out.piece (k := nn) (m := r.length - nn) (by omega)
                rw [List.take_of_length_le (by rw [List.length_drop]; omega)] at this
                exact this
            case measure => simp [intOf]; omega
        · have HC := Lib.hid hch
          clear hch
          go_wp2_with fail
          go_meet
          exact HC.out
    case rest =>
      clear CH
      obtain ⟨F4, D4, pre, r, hP, hr, hor, hbr⟩ := hcut
      obtain ⟨Ar, cr, rfl, hcr, hmr⟩ := hr.form
      have hlb : r.length ≤ 9000 ∧ pre.length ≤ 9000 := by
        have := congrArg List.length hbr
        rw [List.length_append] at this
        omega
      have HPP := Lib.hid hP
      obtain ⟨Am, cm, emv, hcm, hmm⟩ := alike_len hP.m
      subst emv
      have hpl : (Fr.feed Fr.IS.new pre).1.length ≤ 9000 := by
        rw [Fr.feed_new]
        exact Nat.le_trans (Fr.run_len _ pre (Nat.le_refl _)) hlb.2
      have C1 := Lib.hid (in_feed q F4 D4 (Fr.feed Fr.IS.new pre).2 (.slice Ar r.length cr) r wc hP.two hr (fun a n c' e h0 x => hor a n c' e h0 (hP.news _ x)) (by omega))
      have FA := Lib.hid (Fr.feed_app (s := Fr.IS.new) pre r)
      have hcl : (Fr.feed (Fr.feed Fr.IS.new pre).2 r).1.length ≤ 9000 := by
        have h1 := Fr.run_len _ (pre ++ r) (Nat.le_refl _)
        rw [← Fr.feed_new, FA.out, ← hbr, List.length_append] at h1
        omega
      have EB : Hid (((Fr.feed Fr.IS.new pre).1 ++ (Fr.feed (Fr.feed Fr.IS.new pre).2 r).1, (Fr.feed (Fr.feed Fr.IS.new pre).2 r).2) = Fr.run b) := by
        show _ = _
        rw [← FA.out, ← hbr, Fr.feed_new]
      clear hP hr hor hbr
      go_wp2_with fail
      refine C1.out.mono ?_
      rintro e w4 ⟨v4, rfl, hfed⟩
      obtain ⟨F5, hP5, hm5, hk5⟩ := HPP.out.fed hfed
      obtain ⟨A4, c4, rfl, hc4, hm4⟩ := alike_len hm5
      obtain ⟨tl, e1, n1, m1, o1, b1, _⟩ := ms_form hP5.m
      obtain ⟨tl2, e2, n2, m2, _, b2, s2⟩ := ms_form hm5
      have HB5 := Lib.hid hP5
      have E1 := Lib.hid e1
      have M1 := Lib.hid m1
      have O1 := Lib.hid o1
      have BB1 := Lib.hid b1
      have E2 := Lib.hid e2
      have N2 := Lib.hid n2
      have BB2 := Lib.hid b2
      have S2 := Lib.hid s2
      clear hfed hP5 hm5 hk5 e1 n1 o1 b1 e2 n2 b2 s2 m1 m2
      have HX5 : Hid (tl.length + (Fr.feed (Fr.feed Fr.IS.new pre).2 r).1.length ≤ maxLen ∧ (tl.length + (Fr.feed (Fr.feed Fr.IS.new pre).2 r).1.length) * 32 ≤ 140737488355328) := by
        have := M1.out
        exact ⟨by unfold maxLen; omega, by omega⟩
      have LE5 := Lib.hid HB5.out.size
      have KB5 := Lib.hid HPP.out.size
      go_upto_region 15 with (at_builtin; refine wpList_app _ rfl _ _ 26 rfl BB 43 i0 (.agg #[.int .u8 0, .slice none 0 0]) 2 32 Try.underlying26 hi hz0 hz1 hz2 rfl (by decide) (.slice Am (Fr.feed Fr.IS.new pre).1.length cm) tl.length (mcs tl) rfl O1.out A4 (Fr.feed (Fr.feed Fr.IS.new pre).2 r).1.length c4 (mcs tl2) rfl S2.out HX5.out.1 HX5.out.2 LE5.out ?_; intro v6 w6 hown6 hg6 hat6; (have HO6 := Lib.hid hown6); (have HG6 := Lib.hid hg6); (have HA6 := Lib.hid hat6); (obtain ⟨A6, c6, rfl, _, _⟩ := own_form hown6); clear hown6 hg6 hat6)
      have ho6 := HO6.out
      have ha6 := HA6.out
      rw [← N2.out] at ho6 ha6
      obtain ⟨hP6, hk6⟩ := HB5.out.app KB5.out E1.out O1.out BB1.out E2.out BB2.out ho6 HG6.out ha6
      rw [N2.out] at hP6
      rw [show (Fr.feed (Fr.feed Fr.IS.new pre).2 r).2 = (Fr.run b).2 from congrArg (·.2) EB.out, show (Fr.feed Fr.IS.new pre).1 ++ (Fr.feed (Fr.feed Fr.IS.new pre).2 r).1 = (Fr.run b).1 from congrArg (·.1) EB.out] at hP6
      have HP6 := Lib.hid hP6
      clear ho6 ha6 hP6 hk6 HO6 HG6 HA6 HB5 E1 M1 O1 BB1 E2 N2 BB2 S2 HX5 LE5 KB5 HPP C1 FA EB
      go_wp2_with fail
      refine (in_fault p _ _ _ _ HP6.out.one).mono ?_
      rintro e w7 ⟨v7, rfl, hv7, hn7, hk7⟩
      have ke := hk7.alloc (.cells #[.int .u8 (codeOf (Fr.run b).2.s), .int .u8 ((Fr.run b).2.s : Int)] 35)
      have HP7 := Lib.hid (HP6.out.old ke)
      have V7 := Lib.hid (hv7.kept ((Kept.refl Nothing w7).alloc (.cells #[.int .u8 (codeOf (Fr.run b).2.s), .int .u8 ((Fr.run b).2.s : Int)] 35)) (NoBytes.nothing _))
      have E7 := Lib.hid (Blk.fresh w7 35 #[.int .u8 (codeOf (Fr.run b).2.s), .int .u8 ((Fr.run b).2.s : Int)])
      obtain ⟨A7, c7, rfl, _, _⟩ := hv7.form
      clear hv7 hn7 hk7 ke HP6
      go_wp2_with fail
      refine (in_fault q _ _ _ _ HP7.out.two).mono ?_
      rintro e w8 ⟨v8, rfl, hv8, hn8, hk8⟩
      have HP8 := Lib.hid (HP7.out.old hk8)
      have V8 := Lib.hid (V7.out.kept hk8 (NoBytes.nothing _))
      have W8 := Lib.hid hv8
      have E8 := Lib.hid (E7.out.kept hk8 (fun x => x))
      obtain ⟨A8, c8, rfl, _, _⟩ := hv8.form
      clear hv8 hn8 hk8 V7 E7 HP7
      go_upto_region 17 with fail
      refine (show ∀ W9, Kept Nothing w8 W9 → Blk W9 w8.heap.size 35 #[.int .u8 (codeOf (Fr.run b).2.s), .int .u8 ((Fr.run b).2.s : Int)] → Code.wp _ _ _ _ W9 from ?_) _ ((Kept.refl Nothing w8).alloc _) (Blk.fresh w8 _ _)
      intro w9 hk9 hf9
      have HP9 := Lib.hid (HP8.out.old hk9)
      have F9 := Lib.hid hf9
      have E9 := Lib.hid (E8.out.kept hk9 (fun x => x))
      have V9 := Lib.hid (V8.out.kept hk9 (NoBytes.nothing _))
      have X9 := Lib.hid (W8.out.kept hk9 (NoBytes.nothing _))
      clear hk9 hf9 HP8 E8 V8 W8
      generalize Fr.run b = rb at *
      go_wp2_with fail
      refine (alike_same _ _ rb.1 _ _ _ _ _ HP9.out.l HP9.out.m (by omega)).mono ?_
      rintro e w10 ⟨rfl, hk⟩
      have HP10 := Lib.hid (HP9.out.old hk)
      have f10 := F9.out.kept hk (fun x => x)
      have e10 := E9.out.kept hk (fun x => x)
      have d0 : w10.cell? ⟨w7.heap.size, 0, none⟩ = some (.int .u8 (codeOf rb.2.s)) := e10.cell 0
      have d1 : w10.cell? ⟨w7.heap.size, 1, none⟩ = some (.int .u8 (rb.2.s : Int)) := e10.cell 1
      have d2 : w10.cell? ⟨w8.heap.size, 0, none⟩ = some (.int .u8 (codeOf rb.2.s)) := f10.cell 0
      have d3 : w10.cell? ⟨w8.heap.size, 1, none⟩ = some (.int .u8 (rb.2.s : Int)) := f10.cell 1
      have eq := by_equal _ _ _ _ w10 (V9.out.kept hk (NoBytes.nothing _)).by (X9.out.kept hk (NoBytes.nothing _)).by
      rw [beq_self_eq_true] at eq
      have EQ := Lib.hid eq
      clear hk f10 e10 eq HP9 F9 E9 V9 X9
      go_wp2_with fail
      refine EQ.out.mono ?_
      rintro e w' ⟨rfl, rfl⟩
      go_wp2_with fail
      refine (in_waits2 p _ _ _ _ HP10.out.one).mono ?_
      rintro e w' ⟨rfl, rfl⟩
      go_wp2_with fail
      refine (in_waits2 q _ _ _ _ HP10.out.two).mono ?_
      rintro e w' ⟨rfl, rfl⟩
      go_wp2_with fail
      refine (wakes3 _).mono ?_
      rintro e w11 ⟨rfl, hk⟩
      go_wp2
      go_ret
      exact ⟨rfl, HP10.out.kept.trans hk⟩
end Go.Proofs.Ytlhdgfmljblahaa
