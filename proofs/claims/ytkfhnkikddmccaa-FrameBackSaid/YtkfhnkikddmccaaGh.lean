
/-
  The law FrameBack.
-/
import Derived.Test.YtkfhnkikddmccaaGf
import Derived.Test.YtkfhnkikddmccaaFx
import Derived.Test.YtkfhnkikddmccaaGd
namespace Go.Proofs.Ytkfhnkikddmccaa
open Go.RowKit

theorem own_lenf {w : World} {base n m size : Nat} {e : TypeId} {v : Value} {xs : List Value} (h : w.ownsRow base e size v n xs) (e' : n = m) : w.ownsRow base e size v m xs := e' ▸ h
set_option maxRecDepth 20000 in
set_option maxHeartbeats 8000000 in
theorem back_law (v0 v1 : Value) (l : List Cp) (bh : List UInt8) (W : World) (h0 : Cps W v0 l) (h1 : By W v1 bh) :
    Calls Try.prog 4 #[v0, v1] W fun e w' => e = .returned (.bool true) ∧ Kept Nothing W w' := by
  obtain ⟨A, c, rfl, hc, hm⟩ := h0.form
  unfold maxLen at hm
  have H0 := Lib.hid h0
  obtain ⟨A1, c1, rfl, hc1, hm1⟩ := h1.form
  unfold maxLen at hm1
  have H1 := Lib.hid h1
  obtain ⟨i0, hi, hz0, hz1, hz2⟩ := info_parts u8_info
  obtain ⟨j0, hj, hy0, hy1, hy2⟩ := info_parts msg_info
  clear h0 h1
  go_enter Try.func4, Try.ntmps4
  go_upto_block 0 with fail
  go_cut [5, 6] (fun ov av wx => ∃ o : List Msg, (∀ m ∈ o, (Fr.bytes m).2 = 0) ∧ o.length ≤ 8 ∧ Acc W wx ov av o (Fr.forms o))
  case first =>
    go_wp2_with fail
    go_loopw [25, 5, 6] (fun i ov av wr => ∃ k : Nat, i = .int .i64 (k : Int) ∧ k ≤ l.length ∧ k ≤ 8 ∧ Acc W wr ov av (ownM (l.take k)) (Fr.forms (ownM (l.take k)))) (fun i _ _ _ => l.length - (intOf i).toNat)
    case atStart => exact ⟨0, rfl, Nat.zero_le _, Nat.zero_le _, ⟨⟨[], World.ownsRow_nil _ _ _ _, trivial⟩, World.ownsRow_nil _ _ _ _, Kept.refl _ _⟩⟩
    case round =>
      obtain ⟨k, rfl, hk, hk8, hacc⟩ := hrel
      have HA := Lib.hid hacc
      obtain ⟨Ao, co, rfl, _, _⟩ := hacc.cps.form
      obtain ⟨Aa, ca, rfl, _, _⟩ := hacc.by.form
      have hok := ownM_ok (l := l.take k)
      have hol := ownM_len (l.take k)
      rw [List.length_take] at hol
      have hfl := forms_len _ hok
      clear hacc
      by_cases hlt : k < l.length
      · obtain ⟨b, of, rfl, hcell⟩ := H0.out.at (by omega)
        obtain ⟨q0, u, q1, q2⟩ := hcell k hlt
        have e0 := HA.out.kept.cell_some q0 (fun x => x)
        have e1 := HA.out.kept.cell_some q1 (fun x => x)
        obtain ⟨A2, cc2, rfl, hc2, hm2⟩ := q2.form
        have HT := Lib.hid (List.take_succ_eq_append_getElem hlt)
        have HB := Lib.hid q2
        generalize hP : l[k] = P at *
        obtain ⟨kd, val⟩ := P
        simp only at e0 e1 HB hc2
        unfold by8 at e0
        clear hcell q0 q1 q2 hP
        by_cases h8 : k = 8
        · subst h8
          go_wp2_with fail
          go_meet
          exact ⟨_, hok, by omega, HA.out.old ((Kept.refl Nothing _).alloc _)⟩
        · have h8i : ((k : Int) == 8) = false := by simp; omega
          have hmin : (if (5000 : Int) < (val.length : Int) then (5000 : Int) else (val.length : Int)) = ((min val.length 5000 : Nat) : Int) := by split <;> omega
          have hsl := slice_tof A2 val.length cc2 (min val.length 5000) (by omega)
          have hpre := HB.out.pre (m := min val.length 5000) (by omega)
          have hlen : (val.take 5000).length = min val.length 5000 := by rw [List.length_take]; omega
          have htk : val.take (min val.length 5000) = val.take 5000 := by
            by_cases h : val.length ≤ 5000
            · rw [List.take_of_length_le (by omega), List.take_of_length_le (by omega)]
            · rw [show min val.length 5000 = 5000 by omega]
          rw [htk] at hpre
          have hcm : cutM (kd, val) = (kd, val.take 5000) := rfl
          have HY := Lib.hid (fun h => ownM_snoc_yes (l := l.take k) (m := (kd, val)) h)
          have HN := Lib.hid (fun h => ownM_snoc_no (l := l.take k) (m := (kd, val)) h)
          rw [hcm] at HY HN
          have hml : min val.length 5000 ≤ 5000 := by omega
          generalize min val.length 5000 = ml at *
          generalize val.take 5000 = vt at *
          have HP := Lib.hid hpre
          clear hcm hpre htk HB
          subst hlen
          go_wp2_with fail
          refine (msg_bytes (kd, vt) (.slice A2 vt.length cc2) _ (HP.out.old (HA.out.kept.alloc (.cells #[.int .u8 (kd.toNat : Int), .slice A2 vt.length cc2] 43))) hml).mono ?_
          rintro e w2 ⟨v2, rfl, hb2, hk2⟩
          have k12 := ((Kept.refl Nothing wr).alloc (.cells #[.int .u8 (kd.toNat : Int), .slice A2 vt.length cc2] 43)).trans hk2
          have HA2 := Lib.hid (HA.out.old k12)
          obtain ⟨g0, g1⟩ : w2.cell? ⟨wr.heap.size, 0, none⟩ = some (.int .u8 (kd.toNat : Int)) ∧ w2.cell? ⟨wr.heap.size, 1, none⟩ = some (.slice A2 vt.length cc2) := by
            have := (Blk.fresh wr 43 #[.int .u8 (kd.toNat : Int), .slice A2 vt.length cc2]).kept hk2 (fun x => x)
            exact ⟨this.cell 0, this.cell 1⟩
          have HB2 := Lib.hid hb2
          obtain ⟨A3, c3, rfl, _, _⟩ := hb2.by.form
          clear hb2 hk2 k12
          rcases bytes_err (kd, vt) with hz | ⟨hz, hzl⟩ | ⟨hz, hzl⟩
          · have HYZ := Lib.hid (HT.out ▸ HY.out hz : ownM (l.take (k + 1)) = ownM (l.take k) ++ [(kd, vt)])
            have hbl := Fr.bytes_length hz
            have HFS := Lib.hid (forms_snoc (ownM (l.take k)) (kd, vt))
            simp only at hbl
            rw [hz]
            clear HY HN hz
            have hbi : (((Fr.bytes (kd, vt)).1.length : Int) != 19 + (vt.length : Int)) = false := by simp; omega
            have hbm : (Fr.bytes (kd, vt)).1.length ≤ 5019 := by omega
            clear hbl
            generalize (Fr.bytes (kd, vt)).1 = fb at *
            generalize ownM (l.take k) = om at *
            generalize Fr.forms om = fo at *
            obtain ⟨xs, hxo, hxc⟩ := (HA2.out.old ((Kept.refl Nothing w2).alloc (.cells #[.int .u8 (kd.toNat : Int), .slice A2 vt.length cc2] 43))).own
            have HXO := Lib.hid hxo
            have HXC := Lib.hid hxc
            clear hxo hxc
            have hs2 := HA2.out.kept.size
            go_wp2_with (first
              | (at_builtin; refine wpList_app _ rfl (.tmp 65) (.tmp 67) 26 rfl W.heap.size 43 j0 _ 2 32 Try.underlying26 hj hy0 hy1 hy2 rfl (by decide) (.slice Ao om.length co) om.length xs rfl HXO.out (some ⟨w2.heap.size, 0, none⟩) 1 1 [.int .u8 (kd.toNat : Int), .slice A2 vt.length cc2] rfl (src_new w2 _ #[.int .u8 (kd.toNat : Int), .slice A2 vt.length cc2] 2 1 rfl (by simp [Value.oneCell'])) (by unfold maxLen; omega) (by omega) (by simp; omega) ?_; intro v3 w3 ho3 hg3 hat3; have HA3 := Lib.hid ((HA2.out.old ((Kept.refl Nothing w2).alloc (.cells #[.int .u8 (kd.toNat : Int), .slice A2 vt.length cc2] 43))).own_app (c := (kd, vt)) HXC.out HP.out ho3 hg3); have HB3 := Lib.hid ((HB2.out.kept ((Kept.refl Nothing w2).alloc (.cells #[.int .u8 (kd.toNat : Int), .slice A2 vt.length cc2] 43)) (NoBytes.nothing _)).by.kept (grown_keptf hg3) (fun a ha h0 e => by obtain ⟨cs, hh⟩ := ow_lt HXO.out e; have hb := HB2.out.kept ((Kept.refl Nothing w2).alloc (.cells #[.int .u8 (kd.toNat : Int), .slice A2 vt.length cc2] 43)) (NoBytes.nothing _); obtain ⟨Ab, cb, hv, _, _, hr⟩ := hb; injection hv with hv; obtain ⟨bb, ob, cs', f, hA', hb', _⟩ := hr h0; rw [ha, hA'] at hv; injection hv with hv; subst hv; rw [hh] at hb'; injection hb' with hb'; injection hb' with _ e3; exact absurd e3 (by decide))); obtain ⟨A4, c4, rfl, _, _⟩ := ow_form ho3; clear ho3 hg3 hat3)
              | (at_builtin; refine wpList_app _ rfl (.tmp 69) (.tmp 70) 25 rfl W.heap.size 5 i0 _ 1 1 Try.underlying25 hi hz0 hz1 hz2 rfl (by decide) (.slice Aa fo.length ca) fo.length (bys fo) rfl HA3.out.all A3 fb.length c3 (bys fb) rfl HB3.out.src (by unfold maxLen; omega) (by omega) (HA3.out.kept.size) ?_; intro v5 w5 ho5 hg5 hat5; have HA5 := Lib.hid (HA3.out.all_app (d := fb) ho5 hg5); obtain ⟨A5, c5, rfl, _, _⟩ := ow_form ho5; clear ho5 hg5 hat5))
            go_roundw
            case rel => exact ⟨k + 1, by go_num, by omega, by omega, by rw [HYZ.out, HFS.out]; exact HA5.out⟩
            case measure => simp [intOf]; omega
          · have HNZ := Lib.hid (HT.out ▸ HN.out (by rw [hz]; decide) : ownM (l.take (k + 1)) = ownM (l.take k))
            rw [hz, hzl]
            clear HY HN HB2
            go_wp2_with fail
            go_roundw
            case rel => exact ⟨k + 1, by go_num, by omega, by omega, by rw [HNZ.out]; exact HA2.out⟩
            case measure => simp [intOf]; omega
          · have HNZ := Lib.hid (HT.out ▸ HN.out (by rw [hz]; decide) : ownM (l.take (k + 1)) = ownM (l.take k))
            rw [hz, hzl]
            clear HY HN HB2
            go_wp2_with fail
            go_roundw
            case rel => exact ⟨k + 1, by go_num, by omega, by omega, by rw [HNZ.out]; exact HA2.out⟩
            case measure => simp [intOf]; omega
      · have hl8 : l.take k = l.take l.length := by rw [show k = l.length by omega]
        go_wp2_with fail
        go_meet
        exact ⟨_, hok, by omega, HA.out⟩
  case rest =>
    obtain ⟨o, hok, ho8, hacc⟩ := hcut
    have HA := Lib.hid hacc
    obtain ⟨Ao, co, rfl, _, _⟩ := hacc.cps.form
    obtain ⟨Aa, ca, rfl, _, _⟩ := hacc.by.form
    have hfl := forms_len o hok
    have HR1 : Hid (Fr.run (Fr.forms o) = (o, ⟨[], 0, []⟩)) := Lib.hid (by have := Fr.run_forms o [] hok; rw [List.append_nil, Fr.run_short (show ([] : List UInt8).length < 19 by decide)] at this; simpa using this)
    have HRR := Lib.hid (fun r => Fr.run_forms o r hok)
    have HFO : Hid (Fr.forms o = Fr.forms o) := Lib.hid rfl
    have HOK := Lib.hid hok
    clear hacc
    generalize hfo : Fr.forms o = fo at HA HR1 HRR hfl ⊢
    clear HFO
    have HFO := Lib.hid hfo
    clear hfo hok
    go_wp2_with fail
    refine (in_new2 wc).mono ?_
    rintro e w1 ⟨p, F1, rfl, hi1, hk1, hr1⟩
    go_wp2_with fail
    refine (in_feed p F1 Nothing Fr.IS.new _ fo w1 hi1 (HA.out.by.old hk1) (HA.out.by.off_new hr1) (by omega)).mono ?_
    rintro e w2 ⟨gv, rfl, F2, hm2, hi2, hk2, hs2⟩
    rw [Fr.feed_new, HR1.out] at hm2 hi2
    have K2 := Lib.hid (hk1.newly hk2 hr1)
    have G2 := Lib.hid hm2.cps
    have I2 := Lib.hid hi2
    obtain ⟨Ag, cg, rfl, _, _⟩ := hm2.cps.form
    clear hm2 hi2 hk2 hs2 hi1 hk1 hr1
    go_wp2_with fail
    refine (in_fault p F2 _ _ w2 I2.out).mono ?_
    rintro e w3 ⟨fv, rfl, hb3, hn3, hk3⟩
    rw [show codeOf (0 : Nat) = 0 from rfl]
    have kf := (Kept.refl Nothing w3).alloc (.cells #[.int .u8 0, .int .u8 0] 35)
    have K3 := Lib.hid ((K2.out.trans hk3).trans kf)
    have G3 := Lib.hid ((G2.out.old hk3).old kf)
    have O3 := Lib.hid (HA.out.cps.old K3.out)
    have I3 := Lib.hid ((I2.out.old hk3).old kf)
    have HGW : Hid (W.heap.size ≤ w3.heap.size) := Lib.hid (HA.out.kept.trans (K2.out.trans hk3)).size
    have FB3 := Lib.hid (Blk.fresh w3 35 #[.int .u8 0, .int .u8 0])
    clear hb3 hn3 hk3 kf G2 I2 K2
    go_wp2_with fail
    refine (alike_cps _ _ o _ G3.out O3.out (by omega)).mono ?_
    rintro e w4 ⟨rfl, hk4⟩
    obtain ⟨f0, f1⟩ : w4.cell? ⟨w3.heap.size, 0, none⟩ = some (.int .u8 0) ∧ w4.cell? ⟨w3.heap.size, 1, none⟩ = some (.int .u8 0) := by
      have := FB3.out.kept hk4 (fun x => x)
      exact ⟨this.cell 0, this.cell 1⟩
    have FB4 := Lib.hid (FB3.out.kept hk4 (fun x => x))
    have I4 := Lib.hid (I3.out.old hk4)
    have K4 := Lib.hid (K3.out.trans hk4)
    have HG4 : Hid (w3.heap.size < w4.heap.size) := Lib.hid (by have := hk4.size; rw [World.size_alloc] at this; omega)
    clear hk4 G3 O3 I3 K3 FB3
    have hmin : (if (5000 : Int) < (bh.length : Int) then (5000 : Int) else (bh.length : Int)) = ((min bh.length 5000 : Nat) : Int) := by split <;> omega
    have hsl := slice_tof A1 bh.length c1 (min bh.length 5000) (by omega)
    have hpre := H1.out.pre (m := min bh.length 5000) (by omega)
    have hlen : (bh.take (min bh.length 5000)).length = min bh.length 5000 := by rw [List.length_take]; omega
    have hml : min bh.length 5000 ≤ 5000 := by omega
    have hmc : min bh.length 5000 ≤ c1 := by omega
    generalize bh.take (min bh.length 5000) = bb at *
    generalize min bh.length 5000 = ml at *
    subst hlen
    have H1' := Lib.hid hpre
    clear hpre H1
    go_wp2_with (go_at_call 8; refine (in_waits2 p F2 _ _ w4 I4.out).mono ?_; rintro e w5 ⟨rfl, rfl⟩)
    refine (in_new2 w4).mono ?_
    rintro e w5 ⟨q, F5, rfl, hi5, hk5, hr5⟩
    have R5 : Hid (∀ k, F5 k → w4.heap.size ≤ k ∧ k < w5.heap.size) := Lib.hid (fun k hk => ⟨hr5 k hk, hi5.lt hk⟩)
    have I5 := Lib.hid hi5
    have K5 := Lib.hid hk5
    clear hi5 hk5 hr5 I4
    go_wp2_with fail
    refine (by_clone (.slice Aa fo.length ca) fo w5 (HA.out.by.old (K4.out.trans K5.out)) (by omega)).mono ?_
    rintro e w6 ⟨v6, rfl, ho6, hk6⟩
    obtain ⟨A6, c6, rfl, _, _⟩ := ow_form ho6
    have O6 := Lib.hid ho6
    have K6 := Lib.hid hk6
    have HS6 := Lib.hid ((H1'.out.old (HA.out.kept.trans (K4.out.trans (K5.out.trans hk6)))).src)
    clear ho6 hk6
    go_wp2_with (at_builtin; refine wpList_app _ rfl (.tmp 104) (.tmp 105) 25 rfl w5.heap.size 5 i0 _ 1 1 Try.underlying25 hi hz0 hz1 hz2 rfl (by decide) (.slice A6 fo.length c6) fo.length (bys fo) rfl O6.out A1 bb.length c1 (bys bb) rfl HS6.out (by unfold maxLen; omega) (by omega) K6.out.size ?_; intro v7 w7 ho7 hg7 hat7; have B7 := Lib.hid ((Bs.of_own (l := fo ++ bb) (own_lenf (by rw [bys_append]; exact ho7) (by simp))).by); have OF7 := Lib.hid (Off.own ho7 (fun k hk => (R5.out k hk).2)); have K57 := Lib.hid (K6.out.grown hg7 (fun k hk hlt => by have := (O6.out.lt k hk).1; omega)); obtain ⟨A7, c7, rfl, _, _⟩ := ow_form ho7; clear ho7 hg7 hat7)
    refine (in_feed q F5 Nothing Fr.IS.new _ (fo ++ bb) w7 (I5.out.old K57.out) B7.out OF7.out (by rw [List.length_append]; omega)).mono ?_
    rintro e w8 ⟨mv, rfl, F8, hm8, hi8, hk8, hs8⟩
    rw [Fr.feed_new, HRR.out bb] at hm8 hi8
    have K8 := Lib.hid ((K5.out.trans K57.out).newly hk8 (fun i hi => (R5.out i hi).1))
    have R8 : Hid (∀ k, F8 k → w4.heap.size ≤ k) := Lib.hid (fun k hk => by
      have h5 := (K5.out.trans K57.out).size
      rcases hs8 k hk with x | x
      · exact (R5.out k x).1
      · omega)
    have HDD : Hid (∀ k, DD w7 Nothing k → w4.heap.size ≤ k) := Lib.hid (fun k hk => by
      have h5 := (K5.out.trans K57.out).size
      rcases hk with x | x
      · exact x.elim
      · omega)
    have I8 := Lib.hid hi8
    have M8 := Lib.hid hm8.cps
    obtain ⟨pm1, pm2, t, pm3⟩ := Fr.run_made bb.length bb (Nat.le_refl _)
    have pm4 := (Fr.run_parts bb.length bb (Nat.le_refl _)).2
    have pm5 := Fr.run_len bb.length bb (Nat.le_refl _)
    generalize DD w7 Nothing = D8 at *
    clear hm8 hi8 hk8 hs8 HRR
    generalize Fr.run bb = RB at *
    obtain ⟨r, st⟩ := RB
    simp only at pm1 pm2 pm3 pm4 pm5 M8 I8
    have HP2 := Lib.hid pm2
    have HP3 : Hid (∃ t, Fr.forms r ++ t = bb) := Lib.hid ⟨t, pm3⟩
    have HP4 := Lib.hid (fun h => (pm4 h).1)
    have HPM : Hid (∀ m ∈ o ++ r, (Fr.bytes m).2 = 0) := Lib.hid (fun m hm => by
      rcases List.mem_append.1 hm with h | h
      · exact HOK.out m h
      · exact pm1 m h)
    have HMF : Hid (Fr.forms (o ++ r) = fo ++ Fr.forms r) := Lib.hid (by rw [← HFO.out]; unfold Fr.forms; rw [List.flatMap_append])
    have hfr : (Fr.forms r).length ≤ bb.length := by rw [← pm3, List.length_append]; omega
    have hml' : (o ++ r).length = o.length + r.length := List.length_append
    have PRE : Hid (∀ A c, Cps w8 (.slice A (o ++ r).length c) (o ++ r) → Cps w8 (.slice A o.length c) o) := Lib.hid (fun A c h => by
      have := h.pre (m := o.length) (by omega)
      rwa [List.take_left] at this)
    clear pm1 pm2 pm3 pm4 t
    generalize o ++ r = M at *
    obtain ⟨Am, cm, rfl, hcm, hmm⟩ := M8.out.form
    unfold maxLen at hmm
    have hnl : ¬ ((M.length : Int) < (o.length : Int)) := by omega
    have hsm := slice_msgs Am M.length cm o.length (by omega)
    have P8 := Lib.hid (PRE.out Am cm M8.out)
    have O8 := Lib.hid (HA.out.cps.old (K4.out.trans K8.out))
    go_wp2_with (go_at_call 17; refine (alike_cps _ _ o _ P8.out O8.out (by omega)).mono ?_; rintro e w9 ⟨rfl, hk9⟩; have K9 := Lib.hid hk9; clear hk9)
    have M9 := Lib.hid (M8.out.old K9.out)
    have I9 := Lib.hid (I8.out.old K9.out)
    have K49 := Lib.hid (K8.out.trans K9.out)
    clear M8 I8 PRE P8 O8 K5 K57 K6 O6 HS6 B7 OF7 I5 R5 K9
    go_loopw [124, 17] (fun i mv wr => ∃ k : Nat, i = .int .i64 (k : Int) ∧ k ≤ M.length ∧ wr.ownsRow w9.heap.size 5 1 mv (Fr.forms (M.take k)).length (bys (Fr.forms (M.take k))) ∧ Kept Nothing w9 wr) (fun i _ _ => M.length - (intOf i).toNat)
    case atStart => exact ⟨0, rfl, Nat.zero_le _, World.ownsRow_nil _ _ _ _, Kept.refl _ _⟩
    case round =>
      obtain ⟨k, rfl, hk, hrow, hkw⟩ := hrel
      have HROW := Lib.hid hrow
      have HKW := Lib.hid hkw
      obtain ⟨Ar, cr, rfl, _, _⟩ := ow_form hrow
      have hfk := (forms_len (M.take k) (fun m hm => HPM.out m (List.mem_of_mem_take hm))).1
      rw [List.length_take] at hfk
      clear hrow hkw
      by_cases hlt : k < M.length
      · obtain ⟨b, of, rfl, hcell⟩ := M9.out.at (by omega)
        obtain ⟨q0, u, q1, q2⟩ := hcell k hlt
        have e0 := HKW.out.cell_some q0 (fun x => x)
        have e1 := HKW.out.cell_some q1 (fun x => x)
        obtain ⟨A2, cc2, rfl, hc2, hm2⟩ := q2.form
        have HFS : Hid (Fr.forms (M.take (k + 1)) = Fr.forms (M.take k) ++ (Fr.bytes M[k]).1) := Lib.hid (by rw [List.take_succ_eq_append_getElem hlt, forms_snoc])
        have hz := HPM.out M[k] (List.getElem_mem hlt)
        have HB := Lib.hid q2
        generalize hPP : M[k] = P at *
        obtain ⟨kd, vt⟩ := P
        simp only at e0 e1 HB hc2
        unfold by8 at e0
        have hb1 := (Fr.bytes_ok hz).2.1
        have hbl := Fr.bytes_length hz
        simp only at hb1 hbl
        have hbm : (Fr.bytes (kd, vt)).1.length ≤ 4096 := by omega
        have HKA := Lib.hid (HKW.out.alloc (.cells #[.int .u8 (kd.toNat : Int), .slice A2 vt.length cc2] 43))
        have hs9 := HKW.out.size
        clear hcell q0 q1 q2 hPP hbl
        go_wp2_with fail
        refine (msg_bytes (kd, vt) (.slice A2 vt.length cc2) _ (HB.out.old HKA.out) (by simp only; omega)).mono ?_
        rw [hz]
        rintro e w10 ⟨v10, rfl, hb10, hk10⟩
        generalize (Fr.bytes (kd, vt)).1 = fb at *
        have HB10 := Lib.hid hb10.by
        have HK10 := Lib.hid (((Kept.refl Nothing wr).alloc (.cells #[.int .u8 (kd.toNat : Int), .slice A2 vt.length cc2] 43)).trans hk10)
        have HR10 := Lib.hid (ow_kept HROW.out HK10.out (fun _ _ x => x))
        obtain ⟨A10, c10, rfl, _, _⟩ := hb10.by.form
        clear hb10 hk10 hz
        generalize Fr.forms (M.take k) = fk at *
        go_wp2_with (at_builtin; refine wpList_app _ rfl (.tmp 135) (.tmp 136) 25 rfl w9.heap.size 5 i0 _ 1 1 Try.underlying25 hi hz0 hz1 hz2 rfl (by decide) (.slice Ar fk.length cr) fk.length (bys fk) rfl HR10.out A10 fb.length c10 (bys fb) rfl HB10.out.src (by unfold maxLen; omega) (by omega) (Nat.le_trans hs9 HK10.out.size) ?_; intro v11 w11 ho11 hg11 hat11; have HO11 := Lib.hid ho11; have HK11 := Lib.hid ((HKW.out.trans HK10.out).grown hg11 (fun k hk hlt => by have := (HR10.out.lt k hk).1; omega)); obtain ⟨A11, c11, rfl, _, _⟩ := ow_form ho11; clear ho11 hg11 hat11)
        go_roundw
        case rel => exact ⟨k + 1, by go_num, by omega, by rw [HFS.out, bys_append]; exact own_lenf HO11.out (by simp), HK11.out⟩
        case measure => simp [intOf]; omega
      · have hkl : M.take k = M := List.take_of_length_le (by omega)
        rw [hkl, HMF.out] at HROW
        rw [hkl, HMF.out]
        obtain ⟨t, ht⟩ := HP3.out
        have HPX : Hid (fo ++ Fr.forms r <+: fo ++ bb) := Lib.hid ⟨t, by rw [List.append_assoc, ht]⟩
        have hle : (Fr.forms r).length ≤ bb.length := hfr
        have HLL : Hid (∀ h : st.s = 0, (fo ++ Fr.forms r).length + st.l.length = fo.length + bb.length) := Lib.hid (fun h => by
          have := congrArg List.length (HP2.out h)
          rw [List.length_append] at this ⊢
          omega)
        have hmd : (fo ++ Fr.forms r).length ≤ fo.length + bb.length := by rw [List.length_append]; omega
        clear ht t HP3 HP2 HMF hkl hfk
        generalize fo ++ Fr.forms r = md at *
        have KW := Lib.hid (K4.out.trans (K49.out.trans HKW.out))
        have hz4 : Hid (w4.heap.size ≤ w9.heap.size) := Lib.hid K49.out.size
        go_wp2_with fail
        refine (by_clone (.slice Aa fo.length ca) fo wr (HA.out.by.old KW.out) (by omega)).mono ?_
        rintro e w12 ⟨v12, rfl, ho12, hk12⟩
        obtain ⟨A12, c12, rfl, _, _⟩ := ow_form ho12
        have O12 := Lib.hid ho12
        have K12 := Lib.hid hk12
        have HS12 := Lib.hid ((H1'.out.old (HA.out.kept.trans (KW.out.trans hk12))).src)
        clear ho12 hk12
        go_wp2_with (at_builtin; refine wpList_app _ rfl (.tmp 140) (.tmp 141) 25 rfl wr.heap.size 5 i0 _ 1 1 Try.underlying25 hi hz0 hz1 hz2 rfl (by decide) (.slice A12 fo.length c12) fo.length (bys fo) rfl O12.out A1 bb.length c1 (bys bb) rfl HS12.out (by unfold maxLen; omega) (by omega) K12.out.size ?_; intro v13 w13 ho13 hg13 hat13; have K13 := Lib.hid (K12.out.grown hg13 (fun k hk hlt => by have := (O12.out.lt k hk).1; omega)); have O13 := Lib.hid ho13; obtain ⟨A13, c13, rfl, _, _⟩ := ow_form ho13; clear ho13 hg13 hat13)
        have I13 := Lib.hid (I9.out.old (HKW.out.trans K13.out))
        have HR13 := Lib.hid (ow_kept HROW.out K13.out (fun _ _ x => x))
        refine (in_fault q F8 D8 st w13 I13.out).mono ?_
        rintro e w14 ⟨v14, rfl, hb14, hn14, hk14⟩
        have K14 := Lib.hid (K13.out.trans hk14)
        have FB14 := Lib.hid (FB4.out.kept (K49.out.trans (HKW.out.trans K14.out)) (fun x => x))
        have I14 := Lib.hid (I13.out.old hk14)
        have O14 := Lib.hid (ow_kept O13.out hk14 (fun _ _ x => x))
        have HR14 := Lib.hid (ow_kept HR13.out hk14 (fun _ _ x => x))
        have TW := Lib.hid (HA.out.kept.trans (KW.out.trans K14.out))
        have g0 := FB14.out.cell 0
        have g1 := FB14.out.cell 1
        have g0' := FB14.out.free 0
        have g1' := FB14.out.free 1
        have hz9 : Hid (w9.heap.size ≤ wr.heap.size) := Lib.hid HKW.out.size
        clear hb14 hn14 hk14 HROW HKW K12 K13 O12 HS12 O13 I13 HR13 K4 K49 KW H1' M9 I9
        generalize w3.heap.size = g at *
        have hcd : st.s = 0 ∨ st.s ≠ 0 := by omega
        rcases hcd with hs0 | hs0
        · rw [hs0]
          rw [show codeOf (0 : Nat) = 0 from rfl]
          have hne : ((md.length : Int) + (st.l.length : Int) != (fo.length : Int) + (bb.length : Int)) = false := by have := HLL.out hs0; simp; omega
          have hstl : st.l.length ≤ 1000000 := by have := HLL.out hs0; omega
          have k15 := ((Kept.refl (fun k => k = g) w14).setCell (p := ⟨g, 0, none⟩) (fun _ => rfl) (.int .u8 0)).setCell (p := ⟨g, 1, none⟩) (fun _ => rfl) (.int .u8 0)
          have FB15 : Hid (Blk ((w14.setCell ⟨g, 0, none⟩ (.int .u8 0)).setCell ⟨g, 1, none⟩ (.int .u8 0)) g 35 #[.int .u8 0, .int .u8 0]) := Lib.hid (by have := (FB14.out.put 0 (.int .u8 0)).put 1 (.int .u8 0); simpa using this)
          have T15 := Lib.hid (TW.out.newly k15 (fun i hi => by have := HGW.out; omega))
          have I15 := Lib.hid (I14.out.kept k15 (fun i hi e => by have := R8.out i hi; have := HG4.out; omega) (fun i hi e => by have := HDD.out i hi; have := HG4.out; omega))
          have B15 := Lib.hid (Bs.of_own (l := md) (ow_kept HR14.out k15 (fun i hi e => by have := (HR14.out.lt i hi).1; have := HG4.out; have := hz4.out; omega))).by
          have C15 := Lib.hid (Bs.of_own (l := fo ++ bb) (own_lenf (by rw [bys_append]; exact ow_kept O14.out k15 (fun i hi e => by have := (O14.out.lt i hi).1; have := HG4.out; have := hz4.out; have := hz9.out; omega)) (by simp))).by
          clear k15 TW I14 HR14 O14 FB14
          go_wp2_with fail
          refine (by_hasprefix _ _ (fo ++ bb) md _ C15.out B15.out HPX.out).mono ?_
          rintro e w16 ⟨rfl, hk16⟩
          have f0 : w16.cell? ⟨g, 0, none⟩ = some (.int .u8 0) := (FB15.out.kept hk16 (fun x => x)).cell 0
          have I16 := Lib.hid (I15.out.old hk16)
          have T16 := Lib.hid (T15.out.trans hk16)
          clear hk16 FB15 I15 T15 B15 C15 g0 g1 g0' g1'
          go_wp2_with (first
            | (go_at_call 8; refine (in_waits2 q F8 D8 st w16 I16.out).mono ?_; rintro e w17 ⟨rfl, rfl⟩)
            | (go_at_call 15; refine (wakes3 _).mono ?_; rintro e w18 ⟨rfl, hk18⟩))
          go_ret
          exact ⟨rfl, T16.out.trans hk18⟩
        · rw [show codeOf st.s = 1 from if_neg hs0]
          have hl0 : st.l = [] := HP4.out hs0
          have hll : st.l.length = 0 := by rw [hl0]; rfl
          have hwi : ((st.l.length : Int) != 0) = false := by rw [hll]; rfl
          have k15 := ((Kept.refl (fun k => k = g) w14).setCell (p := ⟨g, 0, none⟩) (fun _ => rfl) (.int .u8 1)).setCell (p := ⟨g, 1, none⟩) (fun _ => rfl) (.int .u8 (st.s : Int))
          have FB15 : Hid (Blk ((w14.setCell ⟨g, 0, none⟩ (.int .u8 1)).setCell ⟨g, 1, none⟩ (.int .u8 (st.s : Int))) g 35 #[.int .u8 1, .int .u8 (st.s : Int)]) := Lib.hid (by have := (FB14.out.put 0 (.int .u8 1)).put 1 (.int .u8 (st.s : Int)); simpa using this)
          have T15 := Lib.hid (TW.out.newly k15 (fun i hi => by have := HGW.out; omega))
          have I15 := Lib.hid (I14.out.kept k15 (fun i hi e => by have := R8.out i hi; have := HG4.out; omega) (fun i hi e => by have := HDD.out i hi; have := HG4.out; omega))
          have B15 := Lib.hid (Bs.of_own (l := md) (ow_kept HR14.out k15 (fun i hi e => by have := (HR14.out.lt i hi).1; have := HG4.out; have := hz4.out; omega))).by
          have C15 := Lib.hid (Bs.of_own (l := fo ++ bb) (own_lenf (by rw [bys_append]; exact ow_kept O14.out k15 (fun i hi e => by have := (O14.out.lt i hi).1; have := HG4.out; have := hz4.out; have := hz9.out; omega)) (by simp))).by
          clear k15 TW I14 HR14 O14 FB14
          go_wp2_with fail
          refine (by_hasprefix _ _ (fo ++ bb) md _ C15.out B15.out HPX.out).mono ?_
          rintro e w16 ⟨rfl, hk16⟩
          have f0 : w16.cell? ⟨g, 0, none⟩ = some (.int .u8 1) := (FB15.out.kept hk16 (fun x => x)).cell 0
          have I16 := Lib.hid (I15.out.old hk16)
          have T16 := Lib.hid (T15.out.trans hk16)
          clear hk16 FB15 I15 T15 B15 C15 g0 g1 g0' g1'
          go_wp2_with (first
            | (go_at_call 8; refine (in_waits2 q F8 D8 st w16 I16.out).mono ?_; rintro e w17 ⟨rfl, rfl⟩)
            | (go_at_call 15; refine (wakes3 _).mono ?_; rintro e w18 ⟨rfl, hk18⟩))
          go_ret
          exact ⟨rfl, T16.out.trans hk18⟩
end Go.Proofs.Ytkfhnkikddmccaa
