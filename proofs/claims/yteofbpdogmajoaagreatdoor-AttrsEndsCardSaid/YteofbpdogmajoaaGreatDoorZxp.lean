
/-
  The law AttrsEnds: what ends the reading; all of it once more (printed by wip/gen_xp.py).
-/
import Derived.Test.YteofbpdogmajoaaGreatDoorZxo
namespace Go.Proofs.YteofbpdogmajoaaGreatDoor
open Go.RowKit
attribute [local go_sem] Oper.semAt_some

namespace Ax
/-- What is known of what is laid. -/
structure Ep (four : Bool) (m : At) (B : List UInt8) (t : UInt8) (x : At) : Prop where
  put : putM m four = (B, 0)
  len : B.length ≤ 2000000
  bad : ∀ r, is m 6 = false → get ((B ++ [128, 6, 0]) ++ r) four false = (zeroA, 2, [])
  bad2 : ∀ r, get (([128, 6, 0] ++ B) ++ r) four false = (zeroA, 2, [])
  strange : ∀ r, get ((B ++ [64, t, 2, 1, 2]) ++ r) four false = (zeroA, 3, [64, t, 2, 1, 2])
  one : get B four false = (x, 0, [])
  two : get (B ++ B) four false = (x, if B = [] then 0 else 1, [])
theorem Mg.lf {four : Bool} {m : At} (h : Mg four m) : ∃ L, Lf four m L ∧ (putM m four).1.length ≤ 2000000 := by
  obtain ⟨L, hL⟩ := put_list h.av h.ov h.so
  refine ⟨L, hL, ?_⟩
  rw [hL.put]
  have h1 := forms_len L (fun o ho => (hL.ro o ho).1)
  have h2 := hL.len
  have h3 := h.ol
  have h4 : L.length * 65539 ≤ 25 * 65539 := Nat.mul_le_mul_right _ (by omega)
  exact Nat.le_trans h1 (Nat.le_trans h4 (by decide))
theorem ends_pure {four : Bool} {m : At} (h : Mg four m) (q : UInt8) : ∃ B x, Ep four m B (64 + q % 32) x := by
  obtain ⟨L, hL, hlen⟩ := h.lf
  have hkn : ∀ o ∈ m.others, known o.t = false := fun o ho => (h.ov.ok o ho).2.1
  have hf := hL.fin h.av hkn false
  have hf0 : fin (aft four false L) = (cutA four false m, 0, []) := by rw [hf]; rfl
  obtain ⟨hc, hf1⟩ := fin_one hf0 (by omega)
  have hB : (putM m four).1 = L.flatMap formO := by rw [hL.put]
  obtain ⟨s1, s2⟩ := strange_not q
  refine ⟨(putM m four).1, cutA four false m, by rw [hL.put], hlen, fun r hi => ?_, fun r => ?_, fun r => ?_, ?_, ?_⟩
  · rw [List.append_assoc, hL.get]
    exact rest_flags (hL.seen (by decide) hi hkn) r
  · rw [List.append_assoc]
    exact rest_flags (by simp) _
  · rw [List.append_assoc, hL.get]
    refine rest_strange s1 (hL.seen0 s1 (fun o ho e => ?_)) r
    have := (h.ot o ho).1
    rw [e] at this
    omega
  · have := hL.get false []
    rw [List.append_nil] at this
    rw [this]
    exact hf0
  · rw [hL.get]
    rw [hB]
    have ha := rest_again (four := four) (outside := false) L (aft four false L) hL.ro (fun o ho => ((hL.pk false).seen o.t).2 ⟨o, ho, rfl⟩)
    rw [ha]
    by_cases he : L = []
    · subst he
      rw [if_pos rfl]
      exact hf0
    · rw [if_neg he, if_neg (fun e => he ?_), hc]
      · exact hf1
      · have := forms_big L
        rw [e] at this
        exact List.eq_nil_of_length_eq_zero (by simp at this; omega)
end Ax

set_option maxRecDepth 20000 in
set_option maxHeartbeats 8000000 in
theorem ends_law (a : At) (pv cv qv ov bv : Value) (D : List UInt8) (four : Bool) (q : UInt8) (w : World) (h : Atp w a pv cv qv ov) (hb : By w bv D) (ht : Wtd w) :
    Calls Tryz.prog 5 #[.agg (Ax.agg a pv cv qv ov), bv, .bool four, .int .u8 (q.toNat : Int)] w fun e w' => e = .returned (.bool true) ∧ Kept Nothing w w' := by
  have hg := Ax.made_good a four h.2.2.2.2 h.1.fits h.2.2.1.fits h.2.1.1
  obtain ⟨B, x, hE⟩ := Ax.ends_pure hg q
  have HE := Lib.hid hE
  have HT := Lib.hid ht
  have HMD := Lib.hid (fun u (k : Kept Nothing w u) => at_made a pv cv qv ov four u (h.old k) (ht.kept k))
  have HBV := Lib.hid hb
  obtain ⟨m, hm⟩ : ∃ m, Ax.made10 a four = m := ⟨_, rfl⟩
  rw [hm] at HMD hg
  rw [hm] at HE
  have HPU := Lib.hid (fun (pv cv qv ov : Value) u (h : Atp u m pv cv qv ov) (ht : Wtd u) => at_put m pv cv qv ov four u h ht hg.small (by have := hg.comms; omega) (by have := hg.ol; omega))
  rw [HE.out.put] at HPU
  obtain ⟨tt, htt⟩ : ∃ tt, (64 + q % 32 : UInt8) = tt := ⟨_, rfl⟩
  have ht1 : IntKind.u8.wrap (64 + (q.toNat : Int).tmod 32) = (tt.toNat : Int) := by
    have hq := q.toNat_lt
    have e : tt.toNat = 64 + q.toNat % 32 := by rw [← htt, UInt8.toNat_add, UInt8.toNat_mod]; simp; omega
    rw [e, Int.tmod_eq_emod_of_nonneg (by omega)]
    simp [IntKind.wrap, IntKind.bits, IntKind.signed]
    omega
  have ht2 : 64 + (q.toNat : Int) % 32 = (tt.toNat : Int) := by
    have hq := q.toNat_lt
    have e : tt.toNat = 64 + q.toNat % 32 := by rw [← htt, UInt8.toNat_add, UInt8.toNat_mod]; simp; omega
    omega
  rw [htt] at HE
  obtain ⟨Av, cb, rfl, hcb, hcm⟩ := hb.form
  obtain ⟨Ep, ep, rfl, -, -⟩ := (show ∃ A c, pv = .slice A a.path.length c ∧ _ ∧ _ from h.1.form)
  obtain ⟨Ec, ec, rfl, -, -⟩ := h.2.1.form
  obtain ⟨Eq', eq', rfl, -, -⟩ := (show ∃ A c, qv = .slice A a.path4.length c ∧ _ ∧ _ from h.2.2.1.form)
  obtain ⟨Eo, eo, rfl, -, -⟩ := h.2.2.2.1.form
  clear hE hg hm htt h hb ht
  go_enter Tryz.func5, Tryz.ntmps5
  go_upto_region 1 with fail
  obtain ⟨W0, hW0⟩ : ∃ W0, w.alloc (.cells (Ax.agg a (.slice Ep a.path.length ep) (.slice Ec a.comms.length ec) (.slice Eq' a.path4.length eq') (.slice Eo a.others.length eo)) 33) = W0 := ⟨_, rfl⟩
  have K0 : Hid (Kept Nothing w W0) := Lib.hid (by rw [← hW0]; exact (Kept.refl Nothing _).alloc _)
  have B0 : Hid (Blk W0 w.heap.size 33 (Ax.agg a (.slice Ep a.path.length ep) (.slice Ec a.comms.length ec) (.slice Eq' a.path4.length eq') (.slice Eo a.others.length eo))) := Lib.hid (by rw [← hW0]; exact Blk.fresh w _ _)
  rw [hW0]
  clear hW0
  go_upto_region 2 with (first
    | (refine wpList_store_row rfl 33 _ _ rfl w.heap.size (Ax.agg m pv1 cv1 qv1 ov1) rfl rfl 33 _ B1.out (by kernel_rfl) rfl (AtO.one N1.out) ?_)
    | (go_at_call 13; refine (HMD.out _ K0.out).mono ?_; rintro e w1 ⟨pv1, cv1, qv1, ov1, rfl, n1, k1⟩; (have N1 := Lib.hid (n1.weak K0.out.size)); (have B1 := Lib.hid (B0.out.kept k1 (fun x => x))); (have K1 := Lib.hid (K0.out.trans k1)); clear n1 k1)
    | (refine wpList_load_row rfl 33 _ rfl w.heap.size rfl 33 _ (0, 0) _ B0.out Tryz.underlying33 rfl (by kernel_rfl) ?_))
  simp only [Act.put]
  have kz : Kept (Only w.heap.size) w1 (w1.setRow w.heap.size (Ax.agg m pv1 cv1 qv1 ov1)) := Kept.setRow _ _
  have BM : Hid (Blk (w1.setRow w.heap.size (Ax.agg m pv1 cv1 qv1 ov1)) w.heap.size 33 (Ax.agg m pv1 cv1 qv1 ov1)) := Lib.hid (setRow_heap w1 _ _ _ _ _ B1.out)
  have NM0 := N1.out.off5 kz (Off5.blk B1.out (by decide))
  have NM := Lib.hid (NM0.atp (Oown.ots NM0.2.2.2.1))
  have KM := Lib.hid (K1.out.trans_new kz (fun i hi (e : i = w.heap.size) => by omega))
  clear NM0
  generalize w1.setRow w.heap.size (Ax.agg m pv1 cv1 qv1 ov1) = W1 at *
  clear kz N1 B1 K1 B0 K0 HMD
  obtain ⟨Bp, np, rfl, -, -⟩ := (show ∃ A c, pv1 = .slice A m.path.length c ∧ _ ∧ _ from NM.out.1.form)
  obtain ⟨Bc, nc, rfl, -, -⟩ := NM.out.2.1.form
  obtain ⟨Bq, nq, rfl, -, -⟩ := (show ∃ A c, qv1 = .slice A m.path4.length c ∧ _ ∧ _ from NM.out.2.2.1.form)
  obtain ⟨Bo, no, rfl, -, -⟩ := NM.out.2.2.2.1.form
  have HP1 := Lib.hid (HPU.out _ _ _ _ W1 NM.out (HT.out.kept KM.out))
  clear HPU
  go_upto_region 5 with (first
    | (go_at_call 15; refine (HP1.out).mono ?_; rintro e W2 ⟨u, rfl, o2, k2⟩; (obtain ⟨Ab, nb, rfl, -, -⟩ := ow_form o2); (have OB : Hid (W2.ownsRow W1.heap.size 5 1 (.slice Ab B.length nb) B.length (bys B)) := Lib.hid o2); (have K2 := Lib.hid k2); clear o2 k2)
    | (refine wpList_load_row rfl 33 _ rfl w.heap.size rfl 33 _ (0, 0) _ BM.out Tryz.underlying33 rfl (by kernel_rfl) ?_))
  have KW := Lib.hid (KM.out.trans K2.out)
  have HBB : Hid (By W2 (.slice Ab B.length nb) B) := Lib.hid (own_by OB.out rfl)
  obtain ⟨md, hmd⟩ : ∃ md, min D.length 60 = md := ⟨_, rfl⟩
  have i1 : min (D.length : Int) 60 = (md : Int) := by omega
  have hmin : (if (60 : Int) < (D.length : Int) then (60 : Int) else (D.length : Int)) = (md : Int) := by split <;> omega
  have i2 : (md : Int) ≤ (cb : Int) := by omega
  have HD := Lib.hid ((HBV.out.old KW.out).pre (m := md) (by omega))
  have hdl : (D.take md).length = md := by rw [List.length_take]; omega
  obtain ⟨d, hd⟩ : ∃ d, D.take md = d := ⟨_, rfl⟩
  rw [hd] at HD hdl
  have HDL : Hid (d.length ≤ 60 ∧ d.length = md) := Lib.hid ⟨by omega, hdl⟩
  have HL := Lib.hid HE.out.len
  clear hd hdl hmd HBV
  go_upto_region 6 with fail
  clear i1 i2 hmin hcb
  go_upto_region 7 with (first
    | (at_builtin; refine wpList_appB rfl _ _ rfl W2.heap.size (.slice A38 B.length c38) B.length B rfl rfl (ow_kept O38.out ((Kept.refl Nothing u38).alloc _) (fun _ _ x => x)) (some ⟨u38.heap.size, 0, none⟩) 3 3 [128, 6, 0] rfl (by_lit u38 [128, 6, 0] _ rfl (by simp [maxLen])) (by have := HL.out; simp; omega) (Nat.le_trans K38.out.size ((Kept.refl Nothing u38).alloc (.cells #[.int .u8 128, .int .u8 6, .int .u8 0] 5)).size) ?_; intro A40 n40 c40 W3 hn40 o40 k40 _; (have N40 := Lib.hid hn40); clear hn40; (have O40 := Lib.hid o40); (have K3 := Lib.hid (k40 W2 (K38.out.alloc _) (Nat.le_refl _))); clear o40 k40)
    | (at_builtin; refine wpList_app0 rfl _ _ rfl W2.heap.size rfl Ab B.length nb B rfl HBB.out (by have := HL.out; omega) (Nat.le_refl _) ?_; intro A38 c38 u38 o38 k38; (have O38 := Lib.hid o38); (have K38 := Lib.hid (k38 W2 (Kept.refl _ _) (Nat.le_refl _))); clear o38 k38))
  clear O38 K38
  have HBB3 := Lib.hid (HBB.out.old K3.out)
  go_upto_region 8 with (first
    | (at_builtin; refine wpList_appB rfl _ _ rfl W3.heap.size (.slice A42 B.length c42) B.length B rfl rfl (ow_kept O42.out ((Kept.refl Nothing u42).alloc _) (fun _ _ x => x)) (some ⟨u42.heap.size, 0, none⟩) 5 5 [64, tt, 2, 1, 2] rfl (by_lit u42 [64, tt, 2, 1, 2] _ rfl (by simp [maxLen])) (by have := HL.out; simp; omega) (Nat.le_trans K42.out.size ((Kept.refl Nothing u42).alloc (.cells #[.int .u8 64, .int .u8 (tt.toNat : Int), .int .u8 2, .int .u8 1, .int .u8 2] 5)).size) ?_; intro A47 n47 c47 W4 hn47 o47 k47 _; (have N47 := Lib.hid hn47); clear hn47; (have O47 := Lib.hid o47); (have K4 := Lib.hid (k47 W3 (K42.out.alloc _) (Nat.le_refl _))); clear o47 k47)
    | (at_builtin; refine wpList_app0 rfl _ _ rfl W3.heap.size rfl Ab B.length nb B rfl HBB3.out (by have := HL.out; omega) (Nat.le_refl _) ?_; intro A42 c42 u42 o42 k42; (have O42 := Lib.hid o42); (have K42 := Lib.hid (k42 W3 (Kept.refl _ _) (Nat.le_refl _))); clear o42 k42))
  clear O42 K42 HBB3
  have K24 := Lib.hid (K3.out.trans K4.out)
  have KW4 := Lib.hid (KW.out.trans K24.out)
  have BM4 := Lib.hid (BM.out.kept (K2.out.trans K24.out) (fun x => x))
  have HIS := Lib.hid (show Calls Tryz.prog 18 #[.agg (Ax.agg m (.slice Bp m.path.length np) (.slice Bc m.comms.length nc) (.slice Bq m.path4.length nq) (.slice Bo m.others.length no)), .int .u8 6] W4 _ from at_is m _ _ _ _ 6 W4 (NM.out.old (K2.out.trans K24.out)) (HT.out.kept KW4.out))
  go_upto_if 49 with (first
    | (go_at_call 18; refine (HIS.out).mono ?_; rintro e W5 ⟨rfl, k5⟩; (have K5 := Lib.hid k5); clear k5)
    | (refine wpList_load_row rfl 33 _ rfl w.heap.size rfl 33 _ (0, 0) _ BM4.out Tryz.underlying33 rfl (by kernel_rfl) ?_))
  have HO40 := Lib.hid (ow_kept O40.out (K4.out.trans K5.out) (fun _ _ x => x))
  have HB5 := Lib.hid (HBB.out.old (K24.out.trans K5.out))
  have HSZ := Lib.hid (K24.out.trans K5.out).size
  clear HIS
  go_cut [11] (fun v wx => ∃ A n c F, v = .slice A n c ∧ Hid (n = F.length) ∧ Hid (F.length ≤ 2000003) ∧ Hid (wx.ownsRow W2.heap.size 5 1 (.slice A n c) n (bys F)) ∧ Hid (Kept Nothing W5 wx) ∧ Hid (∀ g, (Value.slice A n c).ownBlock = some g → g < W3.heap.size ∨ W5.heap.size ≤ g) ∧ Hid (∀ r, Ax.get (F ++ r) four false = (Ax.zeroA, 2, [])))
  case first =>
    cases his : Ax.is m 6 with
    | false =>
      have HBAD := Lib.hid (fun r => HE.out.bad r his)
      clear his
      go_wp2
      go_meet
      exact ⟨A40, n40, c40, B ++ [128, 6, 0], rfl, N40, Lib.hid (by have := HL.out; simp; omega), HO40, Lib.hid (Kept.refl _ _), Lib.hid (fun g hg => .inl (ow_ge O40.out hg).2), HBAD⟩
    | true =>
      have HBAD := Lib.hid HE.out.bad2
      clear his
      go_wp2_with (at_builtin; refine wpList_appB rfl _ _ rfl W5.heap.size (.slice (some ⟨W5.heap.size, 0, none⟩) 3 3) 3 [128, 6, 0] rfl rfl (own_lit W5 [128, 6, 0] _ rfl (by simp [maxLen])) Ab B.length nb B rfl (HB5.out.old ((Kept.refl Nothing W5).alloc _)) (by have := HL.out; simp; omega) ((Kept.refl Nothing W5).alloc (.cells #[.int .u8 128, .int .u8 6, .int .u8 0] 5)).size ?_; intro A52 n52 c52 W6 hn52 o52 k52 _; (have N52 := Lib.hid hn52); clear hn52; (have O52 := Lib.hid o52); (have K52 := Lib.hid (k52 W5 ((Kept.refl _ _).alloc _) (Nat.le_refl _))); clear o52 k52)
      go_meet
      exact ⟨A52, n52, c52, [128, 6, 0] ++ B, rfl, N52, Lib.hid (by have := HL.out; simp; omega), Lib.hid (own_weakA O52.out HSZ.out), K52, Lib.hid (fun g hg => .inr (ow_ge O52.out hg).1), HBAD⟩
  case rest =>
    obtain ⟨AF, nF, cF, F, rfl, NF, HFL, OF, K6, HAF, HF⟩ := hcut
    clear HO40 HB5 O40
    have K26 := Lib.hid ((K24.out.trans K5.out).trans K6.out)
    have KW6 := Lib.hid (KW.out.trans K26.out)
    have HD6 := Lib.hid (HD.out.old K26.out)
    have HMD6 := HDL.out.2
    go_upto_region 11 with (first
      | (go_at_call 8; refine (at_getN (.slice A56 n56 c56) (F ++ d) four false u56 (own_by O56.out N56.out) (by have := HFL.out; have := HDL.out.1; rw [List.length_append]; omega) (HT.out.kept (KW.out.trans K56.out)) (c := 2) (d := []) (HF.out d) (c' := 2) (x := 0) (y := 0) (n := 0) rfl rfl rfl rfl).mono ?_; rintro e x7 ⟨Ap1, np1, Ac1, nc1, Aq1, nq1, Ao1, no1, Ad1, nd1, rfl, t1, d1, k7⟩)
      | (at_builtin; refine wpList_appB rfl _ _ rfl W2.heap.size (.slice AF nF cF) nF F NF.out rfl OF.out Av md cb d rfl HD6.out (by have := HFL.out; have := HDL.out.1; omega) K26.out.size ?_; intro A56 n56 c56 u56 hn56 o56 k56 kg56; (have N56 := Lib.hid hn56); clear hn56; (have O56 := Lib.hid o56); (have K56 := Lib.hid (k56 W2 K26.out (Nat.le_refl _))); (have O47b := Lib.hid (ow_kept (ow_kept O47.out (K5.out.trans K6.out) (fun _ _ x => x)) kg56 (fun g hg hg2 => by have h1 := ow_ge O47.out hg; have h2 := HAF.out g hg2; have h3 := K5.out.size; omega))); (have KS56 := Lib.hid kg56.size); clear o56 k56 kg56))
    obtain ⟨W7, hW7⟩ : ∃ W7, (x7.alloc (.cells #[.int .u32 0, .int .u8 0, .slice Ap1 0 np1, .int .u32 0, .int .u32 0, .int .u32 0, .int .u32 0, .int .u32 0, .slice Ac1 0 nc1, .slice Aq1 0 nq1, .int .u32 0, .int .u32 0, .slice Ao1 0 no1] 33)).alloc (.cells #[.int .i64 2, .int .u8 0, .int .u8 0, .slice Ad1 0 nd1] 37) = W7 := ⟨_, rfl⟩
    have kz : Kept Nothing x7 W7 := by rw [← hW7]; exact ((Kept.refl Nothing _).alloc _).alloc _
    have BA1 : Hid (Blk W7 x7.heap.size 33 #[.int .u32 0, .int .u8 0, .slice Ap1 0 np1, .int .u32 0, .int .u32 0, .int .u32 0, .int .u32 0, .int .u32 0, .slice Ac1 0 nc1, .slice Aq1 0 nq1, .int .u32 0, .int .u32 0, .slice Ao1 0 no1]) := Lib.hid (by rw [← hW7]; exact (Blk.fresh x7 _ _).alloc _)
    have BF1 : Hid (Blk W7 (x7.heap.size + 1) 37 #[.int .i64 2, .int .u8 0, .int .u8 0, .slice Ad1 0 nd1]) := Lib.hid (by
      have h := Blk.fresh (x7.alloc (.cells #[.int .u32 0, .int .u8 0, .slice Ap1 0 np1, .int .u32 0, .int .u32 0, .int .u32 0, .int .u32 0, .int .u32 0, .slice Ac1 0 nc1, .slice Aq1 0 nq1, .int .u32 0, .int .u32 0, .slice Ao1 0 no1] 33)) 37 #[.int .i64 2, .int .u8 0, .int .u8 0, .slice Ad1 0 nd1]
      rw [World.size_alloc] at h
      rw [← hW7]
      exact h)
    rw [hW7]
    clear hW7
    have K27 := Lib.hid ((K56.out.trans k7).trans kz)
    have HX7 : Hid (W4.heap.size ≤ u56.heap.size) := Lib.hid (by have h1 := K5.out.size; have h2 := K6.out.size; have h3 := KS56.out; omega)
    have HX7b : Hid (u56.heap.size ≤ x7.heap.size) := Lib.hid k7.size
    have T1 := Lib.hid (t1.off5 kz (Off5.nothing _))
    have O7 := Lib.hid (ow_kept O47b.out (k7.trans kz) (fun _ _ x => x))
    have HD7 := Lib.hid (HD.out.old K27.out)
    have HLT : Hid (∀ g, (Value.slice A47 n47 c47).ownBlock = some g → g < u56.heap.size) := Lib.hid (fun g hg => by have h1 := (ow_ge O47.out hg).2; have h2 := HX7.out; omega)
    have HS23 : Hid (W2.heap.size ≤ W3.heap.size) := Lib.hid K3.out.size
    have HS37 : Hid (W3.heap.size ≤ W7.heap.size) := Lib.hid (by have h1 := K4.out.size; have h2 := HX7.out; have h3 := HX7b.out; have h4 := kz.size; omega)
    clear kz k7 t1 d1 O47b HD6
    go_upto_region 12 with (first
      | (go_at_call 8; refine (at_getN (.slice A64 n64 c64) ((B ++ [64, tt, 2, 1, 2]) ++ d) four false u64 (own_by O64.out N64.out) (by have h1 := HL.out; have h2 := HDL.out.1; simp only [List.length_append, List.length_cons, List.length_nil]; omega) (HT.out.kept (KW.out.trans K64.out)) (c := 3) (d := [64, tt, 2, 1, 2]) (HE.out.strange d) (c' := 3) (x := 3) (y := 2) (n := 5) rfl rfl rfl rfl).mono ?_; rintro e x8 ⟨Ap2, np2, Ac2, nc2, Aq2, nq2, Ao2, no2, Ad2, nd2, rfl, t2, d2, k8⟩)
      | (at_builtin; refine wpList_appB rfl _ _ rfl W3.heap.size (.slice A47 n47 c47) n47 (B ++ [64, tt, 2, 1, 2]) N47.out rfl O7.out Av md cb d rfl HD7.out (by have h1 := HL.out; have h2 := HDL.out.1; simp only [List.length_append, List.length_cons, List.length_nil]; omega) HS37.out ?_; intro A64 n64 c64 u64 hn64 o64 k64 kg64; (have N64 := Lib.hid hn64); clear hn64; (have O64 := Lib.hid o64); (have K64 := Lib.hid (k64 W2 K27.out HS23.out)); (have T1b := Lib.hid (T1.out.newer kg64 HLT.out)); (have BA1b := Lib.hid (BA1.out.kept kg64 (fun hg => by have h1 := HLT.out _ hg; have h2 := HX7b.out; omega))); (have BF1b := Lib.hid (BF1.out.kept kg64 (fun hg => by have h1 := HLT.out _ hg; have h2 := HX7b.out; omega))); clear o64 k64 kg64))
    obtain ⟨W8, hW8⟩ : ∃ W8, (x8.alloc (.cells #[.int .u32 0, .int .u8 0, .slice Ap2 0 np2, .int .u32 0, .int .u32 0, .int .u32 0, .int .u32 0, .int .u32 0, .slice Ac2 0 nc2, .slice Aq2 0 nq2, .int .u32 0, .int .u32 0, .slice Ao2 0 no2] 33)).alloc (.cells #[.int .i64 3, .int .u8 3, .int .u8 2, .slice Ad2 5 nd2] 37) = W8 := ⟨_, rfl⟩
    have kz : Kept Nothing x8 W8 := by rw [← hW8]; exact ((Kept.refl Nothing _).alloc _).alloc _
    have BA2 : Hid (Blk W8 x8.heap.size 33 #[.int .u32 0, .int .u8 0, .slice Ap2 0 np2, .int .u32 0, .int .u32 0, .int .u32 0, .int .u32 0, .int .u32 0, .slice Ac2 0 nc2, .slice Aq2 0 nq2, .int .u32 0, .int .u32 0, .slice Ao2 0 no2]) := Lib.hid (by rw [← hW8]; exact (Blk.fresh x8 _ _).alloc _)
    have BF2 : Hid (Blk W8 (x8.heap.size + 1) 37 #[.int .i64 3, .int .u8 3, .int .u8 2, .slice Ad2 5 nd2]) := Lib.hid (by
      have h := Blk.fresh (x8.alloc (.cells #[.int .u32 0, .int .u8 0, .slice Ap2 0 np2, .int .u32 0, .int .u32 0, .int .u32 0, .int .u32 0, .int .u32 0, .slice Ac2 0 nc2, .slice Aq2 0 nq2, .int .u32 0, .int .u32 0, .slice Ao2 0 no2] 33)) 37 #[.int .i64 3, .int .u8 3, .int .u8 2, .slice Ad2 5 nd2]
      rw [World.size_alloc] at h
      rw [← hW8]
      exact h)
    rw [hW8]
    clear hW8
    have K28 := Lib.hid ((K64.out.trans k8).trans kz)
    have T2 := Lib.hid (t2.off5 kz (Off5.nothing _))
    have T1c := Lib.hid (T1b.out.off5 (k8.trans kz) (Off5.nothing _))
    have BA1c := Lib.hid (BA1b.out.kept (k8.trans kz) (fun x => x))
    have BF1c := Lib.hid (BF1b.out.kept (k8.trans kz) (fun x => x))
    obtain ⟨bd, od, rfl, hcd0⟩ := d2.cell (i := 1) (by omega)
    have hcd : W8.cell? ⟨bd, od + 1, none⟩ = some (.int .u8 (tt.toNat : Int)) := kz.cell_some hcd0 (fun x => x)
    have HCD := Lib.hid hcd
    clear kz k8 t2 d2 hcd0 hcd T1 T1b BA1 BF1 BA1b BF1b O7 O64 O47 HLT HD7 HX7
    have HSZ1 := Lib.hid (fun u (k : Kept Nothing W8 u) => same_zero Ap1 Ac1 Aq1 Ao1 np1 nc1 nq1 no1 u (T1c.out.atp2.old k))
    have HSZ2 := Lib.hid (fun u (k : Kept Nothing W8 u) => same_zero Ap2 Ac2 Aq2 Ao2 np2 nc2 nq2 no2 u (T2.out.atp2.old k))
    have e1 : W8.cell? ⟨x7.heap.size + 1, 0, none⟩ = some (.int .i64 2) := BF1c.out.cell 0
    go_upto_if 104 with (first
      | (go_at_call 17; refine (HSZ2.out _ K9.out).mono ?_; rintro e u10 ⟨rfl, k10⟩; (have K10 := Lib.hid (K9.out.trans k10)); clear k10)
      | (go_at_call 17; refine (HSZ1.out _ (Kept.refl _ _)).mono ?_; rintro e u9 ⟨rfl, k9⟩; (have e2 : u9.cell? ⟨x8.heap.size + 1, 0, none⟩ = some (.int .i64 3) := (BF2.out.kept k9 (fun x => x)).cell 0); (have e3 : u9.cell? ⟨x8.heap.size + 1, 3, none⟩ = some (.slice (some ⟨bd, od, none⟩) 5 nd2) := (BF2.out.kept k9 (fun x => x)).cell 3); (have e4 : u9.cell? ⟨bd, od + 1, none⟩ = some (.int .u8 (tt.toNat : Int)) := k9.cell_some HCD.out (fun x => x)); (have BA2b := Lib.hid (BA2.out.kept k9 (fun x => x))); (have K9 := Lib.hid k9); clear k9)
      | (refine wpList_load_rowG rfl 33 _ rfl x8.heap.size rfl 33 _ (0, 0) _ BA2b.out Tryz.underlying33 rfl (by kernel_rfl) ?_)
      | (refine wpList_load_rowG rfl 33 _ rfl x7.heap.size rfl 33 _ (0, 0) _ BA1c.out Tryz.underlying33 rfl (by kernel_rfl) ?_))
    have KB8 := Lib.hid (HBB.out.old (K28.out.trans K10.out))
    obtain ⟨cB, hcB⟩ : ∃ cB : Nat, (if B = [] then 0 else 1) = cB := ⟨_, rfl⟩
    have HTWO := Lib.hid HE.out.two
    rw [hcB] at HTWO
    have hcb3 : cB ≠ 3 := by rw [← hcB]; split <;> omega
    have HC3 : (if cB = 3 then (3 : Int) else 0) = 0 := if_neg hcb3
    have HC2 : (if cB = 3 then (2 : Int) else 0) = 0 := if_neg hcb3
    have HCB : Hid ((cB = 0 ∧ ¬ (0 : Int) < (B.length : Int)) ∨ (cB = 1 ∧ (0 : Int) < (B.length : Int))) := Lib.hid (by
      rw [← hcB]
      by_cases h : B = []
      · rw [if_pos h, h]; simp
      · rw [if_neg h]
        have := List.length_pos_iff.2 h
        exact .inr ⟨rfl, by omega⟩)
    have HC3b := Lib.hid HC3
    have HC2b := Lib.hid HC2
    clear hcB hcb3 HSZ1 HSZ2 e1 e2 e3 e4 BA1c BF1c BA2 BF2 BA2b HCD T1c T2 HF OF HC3 HC2
    go_upto_region 15 with (first
      | (go_at_call 8; refine (at_getE (.slice A109 n109 c109) (B ++ B) four false u109 (own_by O109.out N109.out) (by have h1 := HL.out; simp only [List.length_append]; omega) (HT.out.kept ((KW.out.trans K28.out).trans K109.out)) HTWO.out rfl HC3b.out HC2b.out rfl).mono ?_; rintro e x9 ⟨Ap3, np3, Ac3, nc3, Aq3, nq3, Ao3, no3, Ad3, nd3, rfl, t3, d3, k9⟩)
      | (at_builtin; refine wpList_appB rfl _ _ rfl W8.heap.size (.slice A107 B.length c107) B.length B rfl rfl O107.out Ab B.length nb B rfl (HBB.out.old (K28.out.trans K107.out)) (by have h1 := HL.out; omega) K107.out.size ?_; intro A109 n109 c109 u109 hn109 o109 k109 _; (have N109 := Lib.hid hn109); clear hn109; (have O109 := Lib.hid o109); (have K109 := Lib.hid (k109 W8 K107.out (Nat.le_refl _))); clear o109 k109)
      | (at_builtin; refine wpList_app0 rfl _ _ rfl W8.heap.size rfl Ab B.length nb B rfl KB8.out (by have := HL.out; omega) K10.out.size ?_; intro A107 c107 u107 o107 k107; (have O107 := Lib.hid o107); (have K107 := Lib.hid (k107 W8 K10.out (Nat.le_refl _))); clear o107 k107))
    obtain ⟨W9, hW9⟩ : ∃ W9, (x9.alloc (.cells #[.int .u32 (x.has : Int), .int .u8 (x.origin.toNat : Int), .slice Ap3 x.path.length np3, .int .u32 (x.nh : Int), .int .u32 (x.med : Int), .int .u32 (x.pref : Int), .int .u32 (x.byA : Int), .int .u32 (x.byI : Int), .slice Ac3 x.comms.length nc3, .slice Aq3 x.path4.length nq3, .int .u32 (x.by4A : Int), .int .u32 (x.by4I : Int), .slice Ao3 x.others.length no3] 33)).alloc (.cells #[.int .i64 (cB : Int), .int .u8 0, .int .u8 0, .slice Ad3 0 nd3] 37) = W9 := ⟨_, rfl⟩
    have kz : Kept Nothing x9 W9 := by rw [← hW9]; exact ((Kept.refl Nothing _).alloc _).alloc _
    have BA3 : Hid (Blk W9 x9.heap.size 33 #[.int .u32 (x.has : Int), .int .u8 (x.origin.toNat : Int), .slice Ap3 x.path.length np3, .int .u32 (x.nh : Int), .int .u32 (x.med : Int), .int .u32 (x.pref : Int), .int .u32 (x.byA : Int), .int .u32 (x.byI : Int), .slice Ac3 x.comms.length nc3, .slice Aq3 x.path4.length nq3, .int .u32 (x.by4A : Int), .int .u32 (x.by4I : Int), .slice Ao3 x.others.length no3]) := Lib.hid (by rw [← hW9]; exact (Blk.fresh x9 _ _).alloc _)
    have BF3 : Hid (Blk W9 (x9.heap.size + 1) 37 #[.int .i64 (cB : Int), .int .u8 0, .int .u8 0, .slice Ad3 0 nd3]) := Lib.hid (by
      have h := Blk.fresh (x9.alloc (.cells #[.int .u32 (x.has : Int), .int .u8 (x.origin.toNat : Int), .slice Ap3 x.path.length np3, .int .u32 (x.nh : Int), .int .u32 (x.med : Int), .int .u32 (x.pref : Int), .int .u32 (x.byA : Int), .int .u32 (x.byI : Int), .slice Ac3 x.comms.length nc3, .slice Aq3 x.path4.length nq3, .int .u32 (x.by4A : Int), .int .u32 (x.by4I : Int), .slice Ao3 x.others.length no3] 33)) 37 #[.int .i64 (cB : Int), .int .u8 0, .int .u8 0, .slice Ad3 0 nd3]
      rw [World.size_alloc] at h
      rw [← hW9]
      exact h)
    rw [hW9]
    clear hW9
    have K29 := Lib.hid ((K28.out.trans (K109.out.trans k9)).trans kz)
    have T3 := Lib.hid (t3.off5 kz (Off5.nothing _))
    have KB9 := Lib.hid (HBB.out.old K29.out)
    have KW9 := Lib.hid (KW.out.trans K29.out)
    clear kz k9 t3 d3 KB8 O109 N109 K109 O107 K107 HTWO
    go_upto_region 16 with (go_at_call 8; refine (at_getE (.slice Ab B.length nb) B four false W9 KB9.out (by have h1 := HL.out; omega) (HT.out.kept KW9.out) HE.out.one (c' := 0) (x := 0) (y := 0) (n := 0) rfl rfl rfl rfl).mono ?_; rintro e x10 ⟨Ap4, np4, Ac4, nc4, Aq4, nq4, Ao4, no4, Ad4, nd4, rfl, t4, d4, k10⟩)
    obtain ⟨W10, hW10⟩ : ∃ W10, (x10.alloc (.cells #[.int .u32 (x.has : Int), .int .u8 (x.origin.toNat : Int), .slice Ap4 x.path.length np4, .int .u32 (x.nh : Int), .int .u32 (x.med : Int), .int .u32 (x.pref : Int), .int .u32 (x.byA : Int), .int .u32 (x.byI : Int), .slice Ac4 x.comms.length nc4, .slice Aq4 x.path4.length nq4, .int .u32 (x.by4A : Int), .int .u32 (x.by4I : Int), .slice Ao4 x.others.length no4] 33)).alloc (.cells #[.int .i64 0, .int .u8 0, .int .u8 0, .slice Ad4 0 nd4] 37) = W10 := ⟨_, rfl⟩
    have kz : Kept Nothing x10 W10 := by rw [← hW10]; exact ((Kept.refl Nothing _).alloc _).alloc _
    have BA4 : Hid (Blk W10 x10.heap.size 33 #[.int .u32 (x.has : Int), .int .u8 (x.origin.toNat : Int), .slice Ap4 x.path.length np4, .int .u32 (x.nh : Int), .int .u32 (x.med : Int), .int .u32 (x.pref : Int), .int .u32 (x.byA : Int), .int .u32 (x.byI : Int), .slice Ac4 x.comms.length nc4, .slice Aq4 x.path4.length nq4, .int .u32 (x.by4A : Int), .int .u32 (x.by4I : Int), .slice Ao4 x.others.length no4]) := Lib.hid (by rw [← hW10]; exact (Blk.fresh x10 _ _).alloc _)
    rw [hW10]
    clear hW10
    have KW10 := Lib.hid ((KW9.out.trans k10).trans kz)
    have T4 := Lib.hid (t4.off5 kz (Off5.nothing _)).atp2
    have T3b := Lib.hid (T3.out.off5 (k10.trans kz) (Off5.nothing _)).atp2
    have BA3b := Lib.hid (BA3.out.kept (k10.trans kz) (fun x => x))
    have BF3b := Lib.hid (BF3.out.kept (k10.trans kz) (fun x => x))
    have hsm := at_same2 x x _ _ _ _ _ _ _ _ W10 T3b.out T4.out
    rw [Ax.same_self] at hsm
    have HSM := Lib.hid hsm
    clear kz k10 t4 d4 T3 T4 T3b BA3 BF3 KB9 hsm HC3b HC2b
    rcases HCB.out with ⟨rfl, hlt⟩ | ⟨rfl, hlt⟩
    · clear HCB
      go_wp2_with (first
        | (go_at_call 12; refine (tells10 _ (HT.out.kept (KW10.out.trans Y1.out))).mono ?_; rintro e y4 ⟨rfl, k4⟩; (have Y4 := Lib.hid (Y1.out.trans k4)); clear k4)
        | (go_at_call 17; refine (HSM.out).mono ?_; rintro e y1 ⟨rfl, k1⟩; (have Y1 := Lib.hid k1); (have z0 : y1.cell? ⟨x9.heap.size + 1, 0, none⟩ = some (.int .i64 0) := (BF3b.out.kept k1 (fun x => x)).cell 0); clear k1)
        | (refine wpList_load_row rfl 33 _ rfl x9.heap.size rfl 33 _ (0, 0) _ BA3b.out Tryz.underlying33 rfl (by kernel_rfl) ?_)
        | (refine wpList_load_row rfl 33 _ rfl x10.heap.size rfl 33 _ (0, 0) _ BA4.out Tryz.underlying33 rfl (by kernel_rfl) ?_))
      all_goals first
        | (go_ret; exact ⟨rfl, KW10.out.trans Y4.out⟩)
        | (exfalso; have hnn := List.length_pos_iff.2 ‹¬ B = []›; omega)
        | (exfalso; have hnn := ‹B = []›; rw [hnn] at hlt; simp at hlt)
    · clear HCB
      go_wp2_with (first
        | (go_at_call 12; refine (tells10 _ (HT.out.kept (KW10.out.trans Y1.out))).mono ?_; rintro e y4 ⟨rfl, k4⟩; (have Y4 := Lib.hid (Y1.out.trans k4)); clear k4)
        | (go_at_call 17; refine (HSM.out).mono ?_; rintro e y1 ⟨rfl, k1⟩; (have Y1 := Lib.hid k1); (have z0 : y1.cell? ⟨x9.heap.size + 1, 0, none⟩ = some (.int .i64 1) := (BF3b.out.kept k1 (fun x => x)).cell 0); clear k1)
        | (refine wpList_load_row rfl 33 _ rfl x9.heap.size rfl 33 _ (0, 0) _ BA3b.out Tryz.underlying33 rfl (by kernel_rfl) ?_)
        | (refine wpList_load_row rfl 33 _ rfl x10.heap.size rfl 33 _ (0, 0) _ BA4.out Tryz.underlying33 rfl (by kernel_rfl) ?_))
      all_goals first
        | (go_ret; exact ⟨rfl, KW10.out.trans Y4.out⟩)
        | (exfalso; have hnn := List.length_pos_iff.2 ‹¬ B = []›; omega)
        | (exfalso; have hnn := ‹B = []›; rw [hnn] at hlt; simp at hlt)
end Go.Proofs.YteofbpdogmajoaaGreatDoor
