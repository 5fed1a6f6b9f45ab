
/-
  The law FrameFeeds: it returns true, whatever it is given, and leaves what was there as it was.
-/
import Derived.Test.YtohkhcobljenjaaGm
import Derived.Test.YtohkhcobljenjaaLaw
import Derived.Test.YtohkhcobljenjaaUp
import Derived.BigQuiet
import Derived.Deep.DeepCutAuto
import Derived.Deep.CutBlock
import Derived.Outline
namespace Go.Proofs.Ytohkhcobljenjaa
open Go.RowKit

set_option maxRecDepth 100000 in
set_option maxHeartbeats 3200000 in
theorem feeds_law (v0 : Value) (l : List (List UInt8)) (W : World) (h0 : Bss W v0 l) :
    Calls Try.prog 3 #[v0] W fun e w' => e = .returned (.bool true) ∧ Kept Nothing W w' := by
  obtain ⟨A0, c0, rfl, hm0, hp⟩ := h0
  have HP := Lib.hid hp
  clear hp
  unfold maxLen at hm0
  go_enter Try.func3, Try.ntmps3
  go_wp2_with fail
  refine (in_new2 _).mono ?_
  rintro e w1 ⟨p, F1, rfl, ha, ka, ra⟩
  have A1 := Lib.hid ha
  have K1 := Lib.hid ka
  have R1 := Lib.hid ra
  clear ha ka ra
  obtain ⟨i0, hi, hz0, hz1, hz2⟩ := info_parts msg_info
  obtain ⟨j0, hj, hy0, hy1, hy2⟩ := info_parts u8_info
  go_upto_block 0 with fail
  go_cut [6, 7] (fun tv kv wx => ∃ (F : Nat → Prop) (mv av : Value), Tw F mv av tv kv wx ∧ Kept Nothing W wx)
  case first =>
    go_wp2_with fail
    go_loopw [4, 5, 6, 7, 17] (fun av mv tv kv i wr => ∃ (k : Nat) (pre : List UInt8) (F D : Nat → Prop), i = .int .i64 (k : Int) ∧ k ≤ l.length ∧ k ≤ 20 ∧ pre.length ≤ 5000 * k ∧ Hid (FfP W p mv av (Fr.run pre).1 (Fr.run pre).2 pre F D wr) ∧ Hid (Tw F mv av tv kv wr)) (fun _ _ _ _ i _ => l.length - (intOf i).toNat)
    case atStart =>
      refine ⟨0, [], F1, Nothing, rfl, Nat.zero_le _, by omega, Nat.le_refl _, Lib.hid ?_, Lib.hid (.inl ⟨rfl, _, rfl⟩)⟩
      rw [show Fr.run [] = ([], Fr.IS.new) from Fr.run_short (by decide)]
      exact ⟨A1.out, Ms.nil _ _ _, World.ownsRow_nil _ _ _ _, K1.out, R1.out, fun k x => x.elim, fun g hg => by simp [Value.ownBlock] at hg, fun g hg => by simp [Value.ownBlock] at hg⟩
    case round =>
      clear A1 K1 R1
      obtain ⟨k, pre, F, D, rfl, hk1, hk2, hpl, HF, HT⟩ := hrel
      obtain ⟨ta, kz, rfl, rfl⟩ := HT.out.form
      obtain ⟨Am, cm, rfl, hcm, hmm⟩ := alike_len HF.out.m
      obtain ⟨Aa, ca, rfl, hca, hma⟩ := own_form HF.out.all
      by_cases hlt : k < l.length
      · obtain ⟨ba, oa, rfl, hcell⟩ := HP.out (by omega)
        obtain ⟨u, hu1, hu2⟩ := hcell k hlt
        have g0 := HF.out.kept.cell_some hu1 (fun x => x)
        obtain ⟨Au, cu, rfl, hcu, hmu⟩ := hu2.form
        by_cases h20 : k = 20
        · subst h20
          have i1 : (0 : Int) ≤ ((20 : Nat) : Int) := by omega
          have i2 : ((20 : Nat) : Int) < (l.length : Int) := by omega
          clear hcell hu1 hu2
          go_wp2_with fail
          go_meet
          exact ⟨F, _, _, HT.out, HF.out.kept⟩
        · have hk20 : ((k : Int) == 20) = false := by simp; omega
          have HU := Lib.hid hu2
          have i1 : (0 : Int) ≤ (k : Int) := by omega
          have i2 : (k : Int) < (l.length : Int) := by omega
          clear hcell hu1 hu2
          generalize l.getD k [] = b0 at *
          unfold maxLen at hmu
          go_upto_region 10 with fail
          go_cut [9] (fun v wx => ∃ b : List UInt8, v = .slice Au b.length cu ∧ By W (.slice Au b.length cu) b ∧ b.length ≤ 5000 ∧ wr = wx)
          case first =>
            by_cases hle : b0.length ≤ 5000
            · as_aux_lemma =>
                go_wp2_with fail
                go_meet
                exact ⟨b0, rfl, HU.out, hle, rfl⟩
            · as_aux_lemma =>
                go_wp2_with fail
                go_meet
                have e : (b0.take 5000).length = 5000 := by rw [List.length_take]; omega
                refine ⟨b0.take 5000, by rw [e], ?_, by omega, rfl⟩
                rw [e]
                exact HU.out.pre (by omega)
          case rest =>
            obtain ⟨b, rfl, hb, hb5, rfl⟩ := hcut
            have HB := Lib.hid hb
            clear hb HU hcu
            go_upto_region 11 with fail
            go_cut [33] (fun v wx => ∃ c : Bool, v = .bool c ∧ wr = wx)
            case first =>
              have hd : ((k : Int) == (l.length : Int) / 2) = true ∨ ((k : Int) == (l.length : Int) / 2) = false := by cases ((k : Int) == (l.length : Int) / 2) <;> simp
              rcases hd with hd | hd
              · as_aux_lemma =>
                  go_wp2_with fail
                  go_meet
                  exact ⟨_, rfl, rfl⟩
              · as_aux_lemma =>
                  go_wp2_with fail
                  go_meet
                  exact ⟨_, rfl, rfl⟩
            case rest =>
              obtain ⟨cc, rfl, rfl⟩ := hcut
              apply_assumption
              go_cut [6, 7] (fun tv kv wx => Hid (FfP W p (.slice Am (Fr.run pre).1.length cm) (.slice Aa pre.length ca) (Fr.run pre).1 (Fr.run pre).2 pre F D wx) ∧ Hid (Tw F (.slice Am (Fr.run pre).1.length cm) (.slice Aa pre.length ca) tv kv wx))
              case first =>
                cases cc with
                | true =>
                  as_aux_lemma =>
                    go_wp2_with fail
                    refine (in_copy p F D _ _ HF.out.one).mono ?_
                    rintro e w2 ⟨q, Ft, Dt, rfl, hi2, hk2, hn2⟩
                    have HF2 := Lib.hid (HF.out.old hk2)
                    have HT2 := Lib.hid (Tw.new HF.out hi2 hn2)
                    have HI2 := Lib.hid hi2
                    clear hi2 hk2 hn2
                    go_wp2_with fail
                    refine (in_waits2 q Ft Dt _ _ HI2.out).mono ?_
                    rintro e w3 ⟨rfl, rfl⟩
                    go_wp2_with fail
                    go_meet
                    exact ⟨HF2, HT2⟩
                | false =>
                  as_aux_lemma =>
                    go_wp2_with fail
                    go_meet
                    exact ⟨HF, HT⟩
              case rest =>
                clear HF HT
                obtain ⟨HF, HT⟩ := hcut
                obtain ⟨ta2, kz2, rfl, rfl⟩ := HT.out.form
                go_wp2_with fail
                refine (by_clone _ b wc (HB.out.old HF.out.kept) (by omega)).mono ?_
                rintro e w2 ⟨v2, rfl, o2, k2⟩
                obtain ⟨A2, x2, rfl, _, _⟩ := own_form o2
                have HF2 := Lib.hid (HF.out.old k2)
                have HT2 := Lib.hid (HT.out.old k2)
                have C1 := Lib.hid (in_feed p F D (Fr.run pre).2 _ b w2 HF2.out.one (Bs.of_own o2).by (Off.own o2 (fun k hk => HF.out.one.lt hk)) (by omega))
                have FA : Hid (Fr.run (pre ++ b) = ((Fr.run pre).1 ++ (Fr.feed (Fr.run pre).2 b).1, (Fr.feed (Fr.run pre).2 b).2)) := Lib.hid (by
                  have := Fr.feed_app (s := Fr.IS.new) pre b
                  rwa [Fr.feed_new, Fr.feed_new] at this)
                have hcl : (Fr.run pre).1.length + (Fr.feed (Fr.run pre).2 b).1.length ≤ 5000 * (k + 1) := by
                  have h1 := Fr.run_len _ (pre ++ b) (Nat.le_refl _)
                  rw [FA.out, List.length_append, List.length_append] at h1
                  have h2 : (pre ++ b).length = pre.length + b.length := List.length_append
                  omega
                have W2 := Lib.hid k2.size
                have ALT := Lib.hid (fun g hg => HF.out.alt (g := g) hg)
                have MLT := Lib.hid (fun g (hg : (Value.slice Am (Fr.run pre).1.length cm).ownBlock = some g) => (Array.getElem?_eq_some_iff.1 (HF.out.mrow hg).2.choose_spec).1)
                have O2 := Lib.hid o2
                have FLT := Lib.hid (fun k (hk : F k) => HF.out.one.lt hk)
                clear o2 k2 HF HT
                go_wp2_with fail
                refine C1.out.mono ?_
                rintro e w3 ⟨v3, rfl, hfed⟩
                obtain ⟨F3, hF3, hm3, hk3, hs3⟩ := HF2.out.fed hfed
                have hT3 : Tw F3 (.slice Am (Fr.run pre).1.length cm) (.slice Aa pre.length ca) (.pointer ta2) (.int .i64 kz2) w3 := HT2.out.step hk3 (fun _ x => .inl x) (fun g x => by
                  rcases x with x | x
                  · rcases hs3 g x with y | y
                    · exact .inl (.inl y)
                    · exact .inr y
                  · exact .inl (.inr x))
                have O3 := Lib.hid (own_kept O2.out hk3 (fun g hg x => by have := FLT.out g x; have := own_ge O2.out hg; omega))
                have KK3 := Lib.hid hF3.kept
                obtain ⟨A3, c3, rfl, hc3, hm3'⟩ := alike_len hm3
                obtain ⟨tl, e1, n1, m1, o1, b1, _⟩ := ms_form2 hF3.m
                obtain ⟨tl2, e2, n2, m2, _, b2, s2⟩ := ms_form2 hm3
                have HF3 := Lib.hid hF3
                have HT3 := Lib.hid hT3
                have E1 := Lib.hid e1
                have M1 := Lib.hid m1
                have O1 := Lib.hid o1
                have BB1 := Lib.hid b1
                have E2 := Lib.hid e2
                have N2 := Lib.hid n2
                have BB2 := Lib.hid b2
                have S2 := Lib.hid s2
                have KW2 := Lib.hid HF2.out.kept.size
                have KW3 := Lib.hid hF3.kept.size
                clear hfed hF3 hm3 hk3 hs3 hT3 e1 n1 o1 b1 e2 n2 b2 s2 m1 m2 HF2 HT2 C1 O2
                have HX5 : Hid (tl.length + (Fr.feed (Fr.run pre).2 b).1.length ≤ maxLen ∧ (tl.length + (Fr.feed (Fr.run pre).2 b).1.length) * 32 ≤ 140737488355328) := by
                  have := M1.out
                  exact ⟨by unfold maxLen; omega, by omega⟩
                generalize hD3 : (fun k => DD w2 D k ∧ k < w3.heap.size) = D3 at *
                clear hD3
                go_upto_region 16 with (at_builtin; refine wpList_app _ rfl _ _ 26 rfl W.heap.size 49 i0 (.agg #[.int .u8 0, .slice none 0 0]) 2 32 Try.underlying26 hi hz0 hz1 hz2 rfl (by decide) (.slice Am (Fr.run pre).1.length cm) tl.length (mcs tl) rfl O1.out A3 (Fr.feed (Fr.run pre).2 b).1.length c3 (mcs tl2) rfl S2.out HX5.out.1 HX5.out.2 KW3.out ?_; intro v6 w6 hown6 hg6 hat6; (have HO6 := Lib.hid hown6); (have HG6 := Lib.hid hg6); (have HA6 := Lib.hid hat6); (obtain ⟨A6, c6, rfl, _, _⟩ := own_form hown6); clear hown6 hg6 hat6)
                have ho6 := HO6.out
                have ha6 := HA6.out
                rw [← N2.out] at ho6 ha6
                obtain ⟨hF6, hk6⟩ := HF3.out.app KW2.out E1.out O1.out BB1.out E2.out BB2.out ho6 HG6.out ha6
                rw [N2.out] at hF6 ha6
                have hT6 : Tw F3 (.slice A6 (tl.length + (Fr.feed (Fr.run pre).2 b).1.length) c6) (.slice Aa pre.length ca) (.pointer ta2) (.int .i64 kz2) w6 := HT3.out.step hk6 (fun g x => .inr (.inl x)) (fun g x => by
                  rcases x with x | x | x
                  · exact .inl (.inl x)
                  · rcases ha6 with y | y
                    · rw [y] at x; exact .inl (.inr (.inl x))
                    · rw [y] at x
                      injection x with x
                      exact .inr (by omega)
                  · exact .inl (.inr (.inr x)))
                have O6 := Lib.hid (own_kept O3.out hk6 (fun g hg x => by have := MLT.out g x; have := own_ge O3.out hg; omega))
                have HF6 := Lib.hid hF6
                have HT6 := Lib.hid hT6
                have KW6 := Lib.hid hF6.kept.size
                have S6 := Lib.hid ((HB.out.old hF6.kept).src)
                clear ho6 ha6 hF6 hk6 hT6 HO6 HA6 HG6 E1 M1 O1 BB1 E2 N2 BB2 S2 HF3 HT3 O3 HX5 KW2 KW3 KK3
                have HX6 : Hid (pre.length + b.length ≤ maxLen ∧ (pre.length + b.length) * 1 ≤ 140737488355328) := Lib.hid ⟨by unfold maxLen; omega, by omega⟩
                go_upto_region 17 with (at_builtin; refine wpList_app _ rfl _ _ 25 rfl W.heap.size 5 j0 (.int .u8 0) 1 1 Try.underlying25 hj hy0 hy1 hy2 rfl (by decide) (.slice Aa pre.length ca) pre.length (bys pre) rfl HF6.out.all Au b.length cu (bys b) rfl S6.out HX6.out.1 HX6.out.2 KW6.out ?_; intro v7 w7 hown7 hg7 hat7; (have HO7 := Lib.hid hown7); (have HG7 := Lib.hid hg7); (have HA7 := Lib.hid hat7); (obtain ⟨A7, c7, rfl, _, _⟩ := own_form hown7); clear hown7 hg7 hat7)
                have ha7 := HA7.out
                obtain ⟨hF7, hk7⟩ := HF6.out.add HO7.out HG7.out ha7
                have hT7 : Tw F3 (.slice A6 (tl.length + (Fr.feed (Fr.run pre).2 b).1.length) c6) (.slice A7 (pre.length + b.length) c7) (.pointer ta2) (.int .i64 kz2) w7 := HT6.out.step hk7 (fun g x => .inr (.inr x)) (fun g x => by
                  rcases x with x | x | x
                  · exact .inl (.inl x)
                  · exact .inl (.inr (.inl x))
                  · rcases ha7 with y | y
                    · rw [y] at x; exact .inl (.inr (.inr x))
                    · rw [y] at x
                      injection x with x
                      exact .inr (by omega))
                have O7 := Lib.hid (own_kept O6.out hk7 (fun g hg x => by have := ALT.out g x; have := own_ge O6.out hg; omega))
                have eM : (Fr.run (pre ++ b)).1 = (Fr.run pre).1 ++ (Fr.feed (Fr.run pre).2 b).1 := by rw [FA.out]
                have eS : (Fr.run (pre ++ b)).2 = (Fr.feed (Fr.run pre).2 b).2 := by rw [FA.out]
                rw [← eM, ← eS] at hF7
                have eL : tl.length + (Fr.feed (Fr.run pre).2 b).1.length = (Fr.run (pre ++ b)).1.length := by
                  rw [eM, List.length_append]
                  obtain ⟨A', c', e, _⟩ := alike_len HF6.out.m
                  injection e with _ e2 _
                  rw [List.length_append] at e2
                  exact e2
                have eP : pre.length + b.length = (pre ++ b).length := List.length_append.symm
                rw [eL, eP] at hF7 hT7
                rw [eL, eP]
                have hpp : (pre ++ b).length ≤ 5000 * (k + 1) := by rw [List.length_append]; omega
                have hML : (Fr.run (pre ++ b)).1.length ≤ 5000 * (k + 1) := by rw [eM, List.length_append]; exact hcl
                have HF7 := Lib.hid hF7
                have HT7 := Lib.hid hT7
                clear ha7 hk7 hF7 hT7 HO7 HG7 HA7 HF6 HT6 KW6 S6 HX6 O6 eM eS eL eP FA hcl ALT MLT FLT hpl hi hz0 hz1 hz2 hj hy0 hy1 hy2
                generalize pre ++ b = all at *
                go_wp2_with fail
                refine (rr3_read _ all w7 (Bs.of_own HF7.out.all).by (by omega)).mono ?_
                rintro e w8 ⟨mv8, dv8, rfl, hc8, hd8, k8⟩
                obtain ⟨A8, c8, rfl, hcc8, hcm8⟩ := hc8.form
                obtain ⟨Ad, cd, rfl, _, _⟩ := hd8.form
                have HF8 := Lib.hid (HF7.out.old k8)
                have HT8 := Lib.hid (HT7.out.old k8)
                have O8 := Lib.hid (own_kept O7.out k8 (fun _ _ x => x))
                have HC8 := Lib.hid hc8
                have HD8 := Lib.hid hd8
                clear hc8 hd8 k8 HF7 HT7 O7
                have hwl : (Fr.run all).2.l.length ≤ 100000000 := by
                  have := HF8.out.one
                  obtain ⟨dv, hI, -, -, -, hok⟩ := this
                  by_cases h0 : (Fr.run all).2.s = 0
                  · have := ((Fr.run_parts _ all (Nat.le_refl _)).1 h0).1.lt
                    omega
                  · rw [((Fr.run_parts _ all (Nat.le_refl _)).2 h0).1]
                    exact Nat.zero_le _
                go_wp2_with fail
                refine (in_fault p F3 D3 _ _ (HF8.out.one.old ((Kept.refl Nothing w8).alloc _))).mono ?_
                rintro e w10 ⟨v10, rfl, hv10, hn10, hk10⟩
                obtain ⟨Af, cf, rfl, _, _⟩ := hv10.form
                have hk8 := ((Kept.refl Nothing w8).alloc (.cells #[.slice A8 (Fr.run all).1.length c8, .int .i64 (codeOf (Fr.run all).2.s), .int .i64 ((Fr.run all).2.s : Int), .slice Ad (Fr.run all).2.d.length cd, .int .i64 ((Fr.run all).2.l.length : Int)] 32)).trans hk10
                have b11 := (Blk.fresh w8 32 #[.slice A8 (Fr.run all).1.length c8, .int .i64 (codeOf (Fr.run all).2.s), .int .i64 ((Fr.run all).2.s : Int), .slice Ad (Fr.run all).2.d.length cd, .int .i64 ((Fr.run all).2.l.length : Int)]).kept hk10 (fun x => x)
                have HF10 := Lib.hid (HF8.out.old hk8)
                have HT10 := Lib.hid (HT8.out.old hk8)
                have O10 := Lib.hid (own_kept O8.out hk8 (fun _ _ x => x))
                have HC10 := Lib.hid (HC8.out.old hk8)
                have HD10 := Lib.hid (HD8.out.old hk8)
                have V10 := Lib.hid hv10
                have B11 := Lib.hid b11
                clear hv10 hn10 hk10 hk8 b11 HF8 HT8 O8 HC8 HD8
                go_upto_region 19 with fail
                have kf := (Kept.refl Nothing w10).alloc (.cells #[.int .u8 (codeOf (Fr.run all).2.s), .int .u8 ((Fr.run all).2.s : Int)] 35)
                have bf := Blk.fresh w10 35 #[.int .u8 (codeOf (Fr.run all).2.s), .int .u8 ((Fr.run all).2.s : Int)]
                generalize w10.alloc (.cells #[.int .u8 (codeOf (Fr.run all).2.s), .int .u8 ((Fr.run all).2.s : Int)] 35) = w11 at kf bf ⊢
                have b11 := B11.out.kept kf (fun x => x)
                have HF11 := Lib.hid (HF10.out.old kf)
                have HT11 := Lib.hid (HT10.out.old kf)
                have O11 := Lib.hid (own_kept O10.out kf (fun _ _ x => x))
                have HC11 := Lib.hid (HC10.out.old kf)
                have HD11 := Lib.hid (HD10.out.old kf)
                have V11 := Lib.hid (V10.out.kept kf (NoBytes.nothing _))
                have x0 := up_cell (b11.cell 0)
                have x1 := up_cell (b11.cell 1)
                have x2' := up_cell (b11.cell 2)
                have x3 := up_cell (b11.cell 3)
                have x4 := up_cell (b11.cell 4)
                have y0 := up_cell (bf.cell 0)
                have y1 := up_cell (bf.cell 1)
                have US : Hid (∀ g : Up w11, Calls Try.prog 11 #[.slice A6 (Fr.run all).1.length c6, .slice A8 (Fr.run all).1.length c8] g.w fun e w'' => e = .returned (.bool true) ∧ ∃ m : Up w11, w'' = m.w) := fun g => up_call (r3_same _ _ (Fr.run all).1 _ _ g.w (HF11.out.m.old g.kept) (HC11.out.old g.kept) (by omega))
                have UW : Hid (∀ g : Up w11, Calls Try.prog 6 #[.pointer (some ⟨p, 0, none⟩)] g.w fun e w'' => e = .returned (.int .i64 ((Fr.run all).2.l.length : Int)) ∧ ∃ m : Up w11, w'' = m.w) := fun g => up_same (in_waits2 p _ _ _ _ (HF11.out.one.old g.kept))
                have UD : Hid (∀ g : Up w11, Calls Try.prog 12 #[.slice Af (Fr.run all).2.d.length cf, .slice Ad (Fr.run all).2.d.length cd] g.w fun e w'' => e = .returned (.bool true) ∧ ∃ m : Up w11, w'' = m.w) := fun g => up_same (by
                  have := by_equal _ _ _ _ g.w (V11.out.by.old g.kept) (HD11.out.old g.kept)
                  rwa [beq_self_eq_true] at this)
                have UB : Hid (∀ g : Up w11, Calls Try.prog 12 #[.slice A2 b.length x2, .slice Au b.length cu] g.w fun e w'' => e = .returned (.bool true) ∧ ∃ m : Up w11, w'' = m.w) := fun g => up_same (by
                  have := by_equal _ _ _ _ g.w ((Bs.of_own O11.out).by.old g.kept) (HB.out.old (HF11.out.kept.trans g.kept))
                  rwa [beq_self_eq_true] at this)
                clear b11 bf kf B11 HF10 HT10 O10 HC10 HD10 V10 O11 HC11 HD11 V11
                have hss : (Fr.run all).2.s ≤ 3 := by
                  by_cases h0 : (Fr.run all).2.s = 0
                  · omega
                  · exact ((Fr.run_parts _ all (Nat.le_refl _)).2 h0).2.1
                have hcz : 0 ≤ codeOf (Fr.run all).2.s ∧ codeOf (Fr.run all).2.s ≤ 1 := by unfold codeOf; split <;> omega
                obtain ⟨hcz0, hcz1⟩ := hcz
                generalize codeOf (Fr.run all).2.s = cz at *
                generalize (Fr.run all).2.s = ss at *
                have hss0 : (0 : Int) ≤ (ss : Int) := by omega
                have hss3 : (ss : Int) ≤ 3 := by omega
                generalize hll : (Fr.run all).2.l.length = ll at *
                generalize (Fr.run all).2.d.length = ld at *
                refine wp_region_up (by kernel_rfl) (by kernel_rfl) ?_
                repeat (go_big_quiet_step (first | (go_at_call 11; exact US.out _) | (go_at_call 6; exact UW.out _) | (go_at_call 12; with_reducible exact UD.out _) | (go_at_call 12; with_reducible exact UB.out _)))
                refine wpQuiet_nil ?_
                rintro _ ⟨g, rfl⟩
                go_wp2
                go_roundw
                case rel =>
                  refine ⟨k + 1, all, F3, D3, by go_num, by omega, by omega, hpp, ?_, ?_⟩
                  · exact Lib.hid (HF11.out.old g.kept)
                  · exact Lib.hid (HT11.out.old g.kept)
                case measure => simp [intOf]; omega
      · clear hk2
        go_wp2_with fail
        go_meet
        exact ⟨F, _, _, HT.out, HF.out.kept⟩
  case rest =>
    obtain ⟨F, mv, av, hT, hK⟩ := hcut
    rcases hT with ⟨rfl, z, rfl⟩ | ⟨q, st, Ft, Dt, rfl, rfl, hI, -⟩
    · have K9 := Lib.hid hK
      clear hK A1 K1 R1
      go_wp2_with (go_at_call 13; refine (wakes3 _).mono ?_; rintro e w9 ⟨rfl, k9⟩)
      go_ret
      exact ⟨rfl, K9.out.trans k9⟩
    · have K9 := Lib.hid hK
      have I9 := Lib.hid hI
      clear hK hI A1 K1 R1
      go_wp2_with (first | (go_at_call 6; refine (in_waits2 q _ _ _ _ I9.out).mono ?_; rintro e w9 ⟨rfl, rfl⟩) | (go_at_call 13; refine (wakes3 _).mono ?_; rintro e w9 ⟨rfl, k9⟩))
      go_ret
      exact ⟨rfl, K9.out.trans k9⟩
end Go.Proofs.Ytohkhcobljenjaa
