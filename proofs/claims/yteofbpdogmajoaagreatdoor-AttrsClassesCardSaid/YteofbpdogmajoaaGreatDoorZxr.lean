
/-
  The law AttrsClasses: a wrong value behind all else (printed by wip/gen_xr.py).
-/
import Derived.Test.YteofbpdogmajoaaGreatDoorZxs
import Derived.Test.YteofbpdogmajoaaGreatDoorZxg
namespace Go.Proofs.YteofbpdogmajoaaGreatDoor
open Go.RowKit Go.Maps
attribute [local go_sem] Oper.semAt_some

set_option maxRecDepth 20000 in
set_option maxHeartbeats 8000000 in
theorem classes_law (a : At) (pv cv qv ov : Value) (q : UInt8) (four : Bool) (w : World) (h : Atp w a pv cv qv ov) (ht : Wtd w) :
    Calls Tryz.prog 6 #[.agg (Ax.agg a pv cv qv ov), .int .u8 (q.toNat : Int), .bool four] w fun e w' => e = .returned (.bool true) ∧ Kept Nothing w w' := by
  have hg := Ax.made_good a four h.2.2.2.2 h.1.fits h.2.2.1.fits h.2.1.1
  obtain ⟨k, hk⟩ : ∃ k, q.toNat % 10 = k := ⟨_, rfl⟩
  have hk10 : k < 10 := by omega
  have hkI : (q.toNat : Int) % 10 = (k : Int) := by omega
  have hkT : (q.toNat : Int).tmod 10 = (k : Int) := by rw [Int.tmod_eq_emod_of_nonneg (by omega)]; exact hkI
  have hcell := tys_cell k hk10
  have hkn := (Ax.tys_known k hk10).1
  obtain ⟨t, htt⟩ : ∃ t, Ax.tys.getD k 0 = t := ⟨_, rfl⟩
  rw [htt] at hcell hkn
  obtain ⟨B, x, hE⟩ := Ax.classes_pure hg hkn
  have HE := Lib.hid hE
  have HT := Lib.hid ht
  have HKN := Lib.hid hkn
  have HMD := Lib.hid (fun u (k : Kept Nothing w u) => at_made a pv cv qv ov four u (h.old k) (ht.kept k))
  obtain ⟨m, hm⟩ : ∃ m, Ax.made10 a four = m := ⟨_, rfl⟩
  rw [hm] at HMD hg HE
  have HG := Lib.hid hg
  have HWO := Lib.hid (fun (pv cv qv ov : Value) u (h : Atp u m pv cv qv ov) (ht : Wtd u) => at_without m pv cv qv ov t u h ht hg.small (by have := hg.comms; omega) (by have := hg.ol; omega) (fun o ho => by have := (hg.ot o ho).2; omega) (fun o ho e => by have := (hg.ov.ok o ho).2.1; rw [e, hkn] at this; cases this))
  have HPU := Lib.hid (fun (pv cv qv ov : Value) u (h : Atp u (Ax.drop m t) pv cv qv ov) (ht : Wtd u) => at_put (Ax.drop m t) pv cv qv ov four u h ht (Ax.drop_ok t ⟨hg.small, hg.comms⟩).1 (by have := (Ax.drop_ok t ⟨hg.small, hg.comms⟩).2; omega) (by show m.others.length ≤ _; have := hg.ol; omega))
  rw [HE.out.put] at HPU
  obtain ⟨Ep, ep, rfl, -, -⟩ := (show ∃ A c, pv = .slice A a.path.length c ∧ _ ∧ _ from h.1.form)
  obtain ⟨Ec, ec, rfl, -, -⟩ := h.2.1.form
  obtain ⟨Eq', eq', rfl, -, -⟩ := (show ∃ A c, qv = .slice A a.path4.length c ∧ _ ∧ _ from h.2.2.1.form)
  obtain ⟨Eo, eo, rfl, -, -⟩ := h.2.2.2.1.form
  clear hE hg hm htt h ht hkn hk
  go_enter Tryz.func6, Tryz.ntmps6
  go_upto_region 1 with fail
  obtain ⟨W0, hW0⟩ : ∃ W0, w.alloc (.cells (Ax.agg a (.slice Ep a.path.length ep) (.slice Ec a.comms.length ec) (.slice Eq' a.path4.length eq') (.slice Eo a.others.length eo)) 33) = W0 := ⟨_, rfl⟩
  have K0 : Hid (Kept Nothing w W0) := Lib.hid (by rw [← hW0]; exact (Kept.refl Nothing _).alloc _)
  have B0 : Hid (Blk W0 w.heap.size 33 (Ax.agg a (.slice Ep a.path.length ep) (.slice Ec a.comms.length ec) (.slice Eq' a.path4.length eq') (.slice Eo a.others.length eo))) := Lib.hid (by rw [← hW0]; exact Blk.fresh w _ _)
  rw [hW0]
  clear hW0
  go_upto_region 2 with fail
  have hvk : ∀ hh, ([.int .u8 1, .int .u8 2, .int .u8 3, .int .u8 4, .int .u8 5, .int .u8 6, .int .u8 7, .int .u8 8, .int .u8 17, .int .u8 18] : List Value)[k]'hh = .int .u8 (t.toNat : Int) := fun hh => by
    have h1 : ([.int .u8 1, .int .u8 2, .int .u8 3, .int .u8 4, .int .u8 5, .int .u8 6, .int .u8 7, .int .u8 8, .int .u8 17, .int .u8 18] : List Value)[k]? = some (.int .u8 (t.toNat : Int)) := by rw [← hcell]; simp
    rw [List.getElem?_eq_getElem hh] at h1
    exact Option.some.inj h1
  rw [hvk]
  obtain ⟨W1, hW1⟩ : ∃ W1, W0.alloc (.cells #[.int .u8 1, .int .u8 2, .int .u8 3, .int .u8 4, .int .u8 5, .int .u8 6, .int .u8 7, .int .u8 8, .int .u8 17, .int .u8 18] 5) = W1 := ⟨_, rfl⟩
  have K1 := Lib.hid (show Kept Nothing w W1 by rw [← hW1]; exact K0.out.alloc _)
  have B1 : Hid (Blk W1 w.heap.size 33 (Ax.agg a (.slice Ep a.path.length ep) (.slice Ec a.comms.length ec) (.slice Eq' a.path4.length eq') (.slice Eo a.others.length eo))) := Lib.hid (by rw [← hW1]; exact B0.out.alloc _)
  rw [hW1]
  clear hW1 hvk hcell hkI hkT hk10 B0 K0
  go_upto_region 3 with (first
    | (refine wpList_store_row rfl 33 _ _ rfl w.heap.size (Ax.agg (Ax.drop m t) pv2 cv2 qv2 ov2) rfl rfl 33 _ B3.out (by kernel_rfl) rfl (AtO.one N3.out) ?_)
    | (go_at_call 16; refine (HWO.out _ _ _ _ _ N2.out.atp2 (HT.out.kept K2.out)).mono ?_; rintro e w3 ⟨pv2, cv2, qv2, ov2, rfl, n3, k3⟩; (have N3 := Lib.hid (n3.weak K2.out.size)); (have B3 := Lib.hid (B2.out.kept k3 (fun x => x))); (have K3 := Lib.hid (K2.out.trans k3)); clear n3 k3)
    | (go_at_call 13; refine (HMD.out _ K1.out).mono ?_; rintro e w2 ⟨pv1, cv1, qv1, ov1, rfl, n2, k2⟩; (have N2 := Lib.hid (n2.weak K1.out.size)); (have B2 := Lib.hid (B1.out.kept k2 (fun x => x))); (have K2 := Lib.hid (K1.out.trans k2)); clear n2 k2)
    | (refine wpList_load_row rfl 33 _ rfl w.heap.size rfl 33 _ (0, 0) _ B1.out Tryz.underlying33 rfl (by kernel_rfl) ?_))
  simp only [Act.put]
  have kz : Kept (Only w.heap.size) w3 (w3.setRow w.heap.size (Ax.agg (Ax.drop m t) pv2 cv2 qv2 ov2)) := Kept.setRow _ _
  have BM : Hid (Blk (w3.setRow w.heap.size (Ax.agg (Ax.drop m t) pv2 cv2 qv2 ov2)) w.heap.size 33 (Ax.agg (Ax.drop m t) pv2 cv2 qv2 ov2)) := Lib.hid (setRow_heap w3 _ _ _ _ _ B3.out)
  have NM := Lib.hid (N3.out.off5 kz (Off5.blk B3.out (by decide))).atp2
  have KM := Lib.hid (K3.out.trans_new kz (fun i hi (e : i = w.heap.size) => by omega))
  generalize w3.setRow w.heap.size (Ax.agg (Ax.drop m t) pv2 cv2 qv2 ov2) = W4 at *
  clear kz N2 N3 B1 B2 B3 K1 K2 K3 HMD HWO
  obtain ⟨Bp, np, rfl, -, -⟩ := (show ∃ A c, pv2 = .slice A (Ax.drop m t).path.length c ∧ _ ∧ _ from NM.out.1.form)
  obtain ⟨Bc, nc, rfl, -, -⟩ := NM.out.2.1.form
  obtain ⟨Bq, nq, rfl, -, -⟩ := (show ∃ A c, qv2 = .slice A (Ax.drop m t).path4.length c ∧ _ ∧ _ from NM.out.2.2.1.form)
  obtain ⟨Bo, no, rfl, -, -⟩ := NM.out.2.2.2.1.form
  have HP1 := Lib.hid (HPU.out _ _ _ _ W4 NM.out (HT.out.kept KM.out))
  clear HPU
  go_upto_region 6 with (first
    | (go_at_call 15; refine (HP1.out).mono ?_; rintro e W5 ⟨u, rfl, o2, k2⟩; (obtain ⟨Ab, nb, rfl, -, -⟩ := ow_form o2); (have OB : Hid (W5.ownsRow W4.heap.size 5 1 (.slice Ab B.length nb) B.length (bys B)) := Lib.hid o2); (have K5 := Lib.hid (KM.out.trans k2)); (have HS45 := Lib.hid k2.size); clear o2 k2)
    | (refine wpList_load_row rfl 33 _ rfl w.heap.size rfl 33 _ (0, 0) _ BM.out Tryz.underlying33 rfl (by kernel_rfl) ?_))
  clear HP1 BM NM
  have hmm := @run_makeMap Tryz.prog
  have hown := World.ownsMap_made (H := Unit) W5 Tryz.prog 5 (plainElem Tryz.prog 5)
  have k := (Kept.refl Nothing W5).alloc (.map #[] 0)
  have g := Fl.empty
  go_wp2
  refine upon_insertR keyedU8 Tryz.underlying65 hown (by simp [maxLen]) (keyOf_int_mk Tryz.underlying5 (by decide)) (plainElem_int Tryz.underlying5 (by decide)) ?_
  intro w1 hown2 hg
  replace k := k.grown hg (by intro j e hj; injection e with e; omega)
  replace g := g.put2 1 (n := 1) (c := 64) (by decide) (by decide)
  clear hown hg
  have hown := hown2
  clear hown2
  go_wp2
  refine upon_insertR keyedU8 Tryz.underlying65 hown (by simp [maxLen]) (keyOf_int_mk Tryz.underlying5 (by decide)) (plainElem_int Tryz.underlying5 (by decide)) ?_
  intro w2 hown2 hg
  replace k := k.grown hg (by intro j e hj; injection e with e; omega)
  replace g := g.put2 2 (n := 2) (c := 64) (by decide) (by decide)
  clear hown hg
  have hown := hown2
  clear hown2
  go_wp2
  refine upon_insertR keyedU8 Tryz.underlying65 hown (by simp [maxLen]) (keyOf_int_mk Tryz.underlying5 (by decide)) (plainElem_int Tryz.underlying5 (by decide)) ?_
  intro w3 hown2 hg
  replace k := k.grown hg (by intro j e hj; injection e with e; omega)
  replace g := g.put2 3 (n := 3) (c := 64) (by decide) (by decide)
  clear hown hg
  have hown := hown2
  clear hown2
  go_wp2
  refine upon_insertR keyedU8 Tryz.underlying65 hown (by simp [maxLen]) (keyOf_int_mk Tryz.underlying5 (by decide)) (plainElem_int Tryz.underlying5 (by decide)) ?_
  intro w4 hown2 hg
  replace k := k.grown hg (by intro j e hj; injection e with e; omega)
  replace g := g.put2 4 (n := 4) (c := 128) (by decide) (by decide)
  clear hown hg
  have hown := hown2
  clear hown2
  go_wp2
  refine upon_insertR keyedU8 Tryz.underlying65 hown (by simp [maxLen]) (keyOf_int_mk Tryz.underlying5 (by decide)) (plainElem_int Tryz.underlying5 (by decide)) ?_
  intro w5 hown2 hg
  replace k := k.grown hg (by intro j e hj; injection e with e; omega)
  replace g := g.put2 5 (n := 5) (c := 64) (by decide) (by decide)
  clear hown hg
  have hown := hown2
  clear hown2
  go_wp2
  refine upon_insertR keyedU8 Tryz.underlying65 hown (by simp [maxLen]) (keyOf_int_mk Tryz.underlying5 (by decide)) (plainElem_int Tryz.underlying5 (by decide)) ?_
  intro w6 hown2 hg
  replace k := k.grown hg (by intro j e hj; injection e with e; omega)
  replace g := g.put2 6 (n := 6) (c := 64) (by decide) (by decide)
  clear hown hg
  have hown := hown2
  clear hown2
  go_wp2
  refine upon_insertR keyedU8 Tryz.underlying65 hown (by simp [maxLen]) (keyOf_int_mk Tryz.underlying5 (by decide)) (plainElem_int Tryz.underlying5 (by decide)) ?_
  intro w7 hown2 hg
  replace k := k.grown hg (by intro j e hj; injection e with e; omega)
  replace g := g.put2 7 (n := 7) (c := 192) (by decide) (by decide)
  clear hown hg
  have hown := hown2
  clear hown2
  go_wp2
  refine upon_insertR keyedU8 Tryz.underlying65 hown (by simp [maxLen]) (keyOf_int_mk Tryz.underlying5 (by decide)) (plainElem_int Tryz.underlying5 (by decide)) ?_
  intro w8 hown2 hg
  replace k := k.grown hg (by intro j e hj; injection e with e; omega)
  replace g := g.put2 8 (n := 8) (c := 192) (by decide) (by decide)
  clear hown hg
  have hown := hown2
  clear hown2
  go_wp2
  refine upon_insertR keyedU8 Tryz.underlying65 hown (by simp [maxLen]) (keyOf_int_mk Tryz.underlying5 (by decide)) (plainElem_int Tryz.underlying5 (by decide)) ?_
  intro w9 hown2 hg
  replace k := k.grown hg (by intro j e hj; injection e with e; omega)
  replace g := g.put2 17 (n := 17) (c := 192) (by decide) (by decide)
  clear hown hg
  have hown := hown2
  clear hown2
  go_wp2
  refine upon_insertR keyedU8 Tryz.underlying65 hown (by simp [maxLen]) (keyOf_int_mk Tryz.underlying5 (by decide)) (plainElem_int Tryz.underlying5 (by decide)) ?_
  intro w10 hown2 hg
  replace k := k.grown hg (by intro j e hj; injection e with e; omega)
  replace g := g.put2 18 (n := 18) (c := 192) (by decide) (by decide)
  clear hown hg
  have hown := hown2
  clear hown2
  have OWN := Lib.hid hown
  have K6 := Lib.hid (K5.out.trans k)
  have K56 := Lib.hid k
  have HFV := Lib.hid (fun c (hc : _ = DataW.lit (.int .u8 c)) => g.val (zd := .lit (.int .u8 0)) HKN.out hc)
  have HKT := Lib.hid (keyT_of t)
  clear hown k g hmm
  go_upto_region 7 with (at_lookup; refine wpList_lookup_own_int _ rfl _ _ 65 rfl 5 5 .u8 keyedU8 Tryz.underlying65 Tryz.underlying5 (Tryz.zeroValue5 _) _ _ _ rfl OWN.out _ (keyT t) rfl HKT.out ?_; intro c hc _; (obtain rfl := HFV.out c hc); clear hc)
  have HL := Lib.hid HE.out.len
  obtain ⟨X, c, hXc, HYN⟩ : ∃ X c, Ax.get (B ++ [Ax.wanted t, t, 3, 9, 9, 9]) four false = (X, c, []) ∧ Hid (((t = 6 ∨ t = 7 ∨ t = 17 ∨ t = 18) ∧ X = x ∧ c = 1) ∨ (¬ (t = 6 ∨ t = 7 ∨ t = 17 ∨ t = 18) ∧ X = Ax.zeroA ∧ c = 2)) := by
    have hw := HE.out.wrong
    by_cases h4 : t = 6 ∨ t = 7 ∨ t = 17 ∨ t = 18
    · rw [if_pos h4] at hw
      exact ⟨_, _, hw, Lib.hid (.inl ⟨h4, rfl, rfl⟩)⟩
    · rw [if_neg h4] at hw
      exact ⟨_, _, hw, Lib.hid (.inr ⟨h4, rfl, rfl⟩)⟩
  have HXC := Lib.hid hXc
  have hc3 : c ≠ 3 := by rcases HYN.out with ⟨_, _, rfl⟩ | ⟨_, _, rfl⟩ <;> decide
  have HC3 := Lib.hid (show (if c = 3 then (3 : Int) else 0) = 0 from if_neg hc3)
  have HC2 := Lib.hid (show (if c = 3 then (2 : Int) else 0) = 0 from if_neg hc3)
  have OB6 := Lib.hid (ow_kept OB.out K56.out (fun _ _ x => x))
  have HS4 := Lib.hid (Nat.le_trans HS45.out K56.out.size)
  clear hXc hc3 HFV HKT OWN OB
  go_upto_region 8 with (first
    | (go_at_call 8; refine (at_getE (.slice A42 n42 c42) (B ++ [Ax.wanted t, t, 3, 9, 9, 9]) four false u42 HN42.out (by have h1 := HL.out; simp only [List.length_append, List.length_cons, List.length_nil]; omega) (HT.out.kept K42.out) HXC.out rfl HC3.out HC2.out rfl).mono ?_; rintro e x7 ⟨Ap1, np1, Ac1, nc1, Aq1, nq1, Ao1, no1, Ad1, nd1, rfl, t1, d1, k7⟩)
    | (at_builtin; refine wpList_appE rfl _ _ rfl W4.heap.size Ab B.length nb B rfl rfl (ow_kept OB6.out ((Kept.refl Nothing w10).alloc _) (fun _ _ x => x)) ⟨w10.heap.size, 0, none⟩ 6 6 [Ax.wanted t, t, 3, 9, 9, 9] rfl (by_lit w10 [Ax.wanted t, t, 3, 9, 9, 9] _ rfl (by simp [maxLen])) (by have := HL.out; simp; omega) (Nat.le_trans HS4.out ((Kept.refl Nothing w10).alloc (.cells #[.int .u8 ((Ax.wanted t).toNat : Int), .int .u8 (t.toNat : Int), .int .u8 3, .int .u8 9, .int .u8 9, .int .u8 9] 5)).size) ?_; intro A42 n42 c42 u42 hn42 b42 e42 k42; (have HN42 := Lib.hid b42); (have HB42 := Lib.hid e42); (have K42 := Lib.hid (k42 w (K6.out.alloc _) KM.out.size)); clear hn42 b42 e42 k42))
  obtain ⟨W7, hW7⟩ : ∃ W7, (x7.alloc (.cells #[.int .u32 (X.has : Int), .int .u8 (X.origin.toNat : Int), .slice Ap1 X.path.length np1, .int .u32 (X.nh : Int), .int .u32 (X.med : Int), .int .u32 (X.pref : Int), .int .u32 (X.byA : Int), .int .u32 (X.byI : Int), .slice Ac1 X.comms.length nc1, .slice Aq1 X.path4.length nq1, .int .u32 (X.by4A : Int), .int .u32 (X.by4I : Int), .slice Ao1 X.others.length no1] 33)).alloc (.cells #[.int .i64 (c : Int), .int .u8 0, .int .u8 0, .slice Ad1 0 nd1] 37) = W7 := ⟨_, rfl⟩
  have kz : Kept Nothing x7 W7 := by rw [← hW7]; exact ((Kept.refl Nothing _).alloc _).alloc _
  have BA1 : Hid (Blk W7 x7.heap.size 33 #[.int .u32 (X.has : Int), .int .u8 (X.origin.toNat : Int), .slice Ap1 X.path.length np1, .int .u32 (X.nh : Int), .int .u32 (X.med : Int), .int .u32 (X.pref : Int), .int .u32 (X.byA : Int), .int .u32 (X.byI : Int), .slice Ac1 X.comms.length nc1, .slice Aq1 X.path4.length nq1, .int .u32 (X.by4A : Int), .int .u32 (X.by4I : Int), .slice Ao1 X.others.length no1]) := Lib.hid (by rw [← hW7]; exact (Blk.fresh x7 _ _).alloc _)
  have BF1 : Hid (Blk W7 (x7.heap.size + 1) 37 #[.int .i64 (c : Int), .int .u8 0, .int .u8 0, .slice Ad1 0 nd1]) := Lib.hid (by
    have h := Blk.fresh (x7.alloc (.cells #[.int .u32 (X.has : Int), .int .u8 (X.origin.toNat : Int), .slice Ap1 X.path.length np1, .int .u32 (X.nh : Int), .int .u32 (X.med : Int), .int .u32 (X.pref : Int), .int .u32 (X.byA : Int), .int .u32 (X.byI : Int), .slice Ac1 X.comms.length nc1, .slice Aq1 X.path4.length nq1, .int .u32 (X.by4A : Int), .int .u32 (X.by4I : Int), .slice Ao1 X.others.length no1] 33)) 37 #[.int .i64 (c : Int), .int .u8 0, .int .u8 0, .slice Ad1 0 nd1]
    rw [World.size_alloc] at h
    rw [← hW7]
    exact h)
  rw [hW7]
  clear hW7
  have KW7 := Lib.hid ((K42.out.trans k7).trans kz)
  have T1 := Lib.hid (t1.off5 kz (Off5.nothing _))
  have HB7 := Lib.hid (HB42.out.old (k7.trans kz))
  clear kz k7 t1 d1 HXC HC3 HC2 OB6 HB42 HN42
  rcases HYN.out with ⟨hy, rfl, rfl⟩ | ⟨hn, rfl, rfl⟩
  · rcases hy with rfl | rfl | rfl | rfl
    · clear HYN
      go_upto_if 60 with fail
      go_upto_region 10 with (go_at_call 8; refine (at_getE (.slice Ab B.length nb) B four false W7 HB7.out (by have h1 := HL.out; omega) (HT.out.kept KW7.out) HE.out.one (c' := 0) (x := 0) (y := 0) (n := 0) rfl rfl rfl rfl).mono ?_; rintro e x8 ⟨Ap2, np2, Ac2, nc2, Aq2, nq2, Ao2, no2, Ad2, nd2, rfl, t2, d2, k8⟩)
      obtain ⟨W8, hW8⟩ : ∃ W8, (x8.alloc (.cells #[.int .u32 (X.has : Int), .int .u8 (X.origin.toNat : Int), .slice Ap2 X.path.length np2, .int .u32 (X.nh : Int), .int .u32 (X.med : Int), .int .u32 (X.pref : Int), .int .u32 (X.byA : Int), .int .u32 (X.byI : Int), .slice Ac2 X.comms.length nc2, .slice Aq2 X.path4.length nq2, .int .u32 (X.by4A : Int), .int .u32 (X.by4I : Int), .slice Ao2 X.others.length no2] 33)).alloc (.cells #[.int .i64 0, .int .u8 0, .int .u8 0, .slice Ad2 0 nd2] 37) = W8 := ⟨_, rfl⟩
      have kz : Kept Nothing x8 W8 := by rw [← hW8]; exact ((Kept.refl Nothing _).alloc _).alloc _
      have BA2 : Hid (Blk W8 x8.heap.size 33 #[.int .u32 (X.has : Int), .int .u8 (X.origin.toNat : Int), .slice Ap2 X.path.length np2, .int .u32 (X.nh : Int), .int .u32 (X.med : Int), .int .u32 (X.pref : Int), .int .u32 (X.byA : Int), .int .u32 (X.byI : Int), .slice Ac2 X.comms.length nc2, .slice Aq2 X.path4.length nq2, .int .u32 (X.by4A : Int), .int .u32 (X.by4I : Int), .slice Ao2 X.others.length no2]) := Lib.hid (by rw [← hW8]; exact (Blk.fresh x8 _ _).alloc _)
      rw [hW8]
      clear hW8
      have KW8 := Lib.hid ((KW7.out.trans k8).trans kz)
      have T2 := Lib.hid (t2.off5 kz (Off5.nothing _)).atp2
      have T1b := Lib.hid (T1.out.off5 (k8.trans kz) (Off5.nothing _)).atp2
      have BA1b := Lib.hid (BA1.out.kept (k8.trans kz) (fun x => x))
      have hsm := at_same2 X X _ _ _ _ _ _ _ _ W8 T1b.out T2.out
      rw [Ax.same_self] at hsm
      have HSM := Lib.hid hsm
      have z0 : W8.cell? ⟨x7.heap.size + 1, 0, none⟩ = some (.int .i64 1) := (BF1.out.kept (k8.trans kz) (fun x => x)).cell 0
      clear kz k8 t2 d2 T1 T2 T1b BA1 BF1 hsm
      go_wp2_with (first
        | (go_at_call 12; refine (tells10 _ (HT.out.kept (KW8.out.trans Y1.out))).mono ?_; rintro e y4 ⟨rfl, k4⟩; (have Y4 := Lib.hid (Y1.out.trans k4)); clear k4)
        | (go_at_call 17; refine (HSM.out).mono ?_; rintro e y1 ⟨rfl, k1⟩; (have Y1 := Lib.hid k1); clear k1)
        | (refine wpList_load_rowG rfl 33 _ rfl x7.heap.size rfl 33 _ (0, 0) _ BA1b.out Tryz.underlying33 rfl (by kernel_rfl) ?_)
        | (refine wpList_load_rowG rfl 33 _ rfl x8.heap.size rfl 33 _ (0, 0) _ BA2.out Tryz.underlying33 rfl (by kernel_rfl) ?_))
      go_ret
      exact ⟨rfl, KW8.out.trans Y4.out⟩
    · clear HYN
      go_upto_if 60 with fail
      go_upto_region 10 with (go_at_call 8; refine (at_getE (.slice Ab B.length nb) B four false W7 HB7.out (by have h1 := HL.out; omega) (HT.out.kept KW7.out) HE.out.one (c' := 0) (x := 0) (y := 0) (n := 0) rfl rfl rfl rfl).mono ?_; rintro e x8 ⟨Ap2, np2, Ac2, nc2, Aq2, nq2, Ao2, no2, Ad2, nd2, rfl, t2, d2, k8⟩)
      obtain ⟨W8, hW8⟩ : ∃ W8, (x8.alloc (.cells #[.int .u32 (X.has : Int), .int .u8 (X.origin.toNat : Int), .slice Ap2 X.path.length np2, .int .u32 (X.nh : Int), .int .u32 (X.med : Int), .int .u32 (X.pref : Int), .int .u32 (X.byA : Int), .int .u32 (X.byI : Int), .slice Ac2 X.comms.length nc2, .slice Aq2 X.path4.length nq2, .int .u32 (X.by4A : Int), .int .u32 (X.by4I : Int), .slice Ao2 X.others.length no2] 33)).alloc (.cells #[.int .i64 0, .int .u8 0, .int .u8 0, .slice Ad2 0 nd2] 37) = W8 := ⟨_, rfl⟩
      have kz : Kept Nothing x8 W8 := by rw [← hW8]; exact ((Kept.refl Nothing _).alloc _).alloc _
      have BA2 : Hid (Blk W8 x8.heap.size 33 #[.int .u32 (X.has : Int), .int .u8 (X.origin.toNat : Int), .slice Ap2 X.path.length np2, .int .u32 (X.nh : Int), .int .u32 (X.med : Int), .int .u32 (X.pref : Int), .int .u32 (X.byA : Int), .int .u32 (X.byI : Int), .slice Ac2 X.comms.length nc2, .slice Aq2 X.path4.length nq2, .int .u32 (X.by4A : Int), .int .u32 (X.by4I : Int), .slice Ao2 X.others.length no2]) := Lib.hid (by rw [← hW8]; exact (Blk.fresh x8 _ _).alloc _)
      rw [hW8]
      clear hW8
      have KW8 := Lib.hid ((KW7.out.trans k8).trans kz)
      have T2 := Lib.hid (t2.off5 kz (Off5.nothing _)).atp2
      have T1b := Lib.hid (T1.out.off5 (k8.trans kz) (Off5.nothing _)).atp2
      have BA1b := Lib.hid (BA1.out.kept (k8.trans kz) (fun x => x))
      have hsm := at_same2 X X _ _ _ _ _ _ _ _ W8 T1b.out T2.out
      rw [Ax.same_self] at hsm
      have HSM := Lib.hid hsm
      have z0 : W8.cell? ⟨x7.heap.size + 1, 0, none⟩ = some (.int .i64 1) := (BF1.out.kept (k8.trans kz) (fun x => x)).cell 0
      clear kz k8 t2 d2 T1 T2 T1b BA1 BF1 hsm
      go_wp2_with (first
        | (go_at_call 12; refine (tells10 _ (HT.out.kept (KW8.out.trans Y1.out))).mono ?_; rintro e y4 ⟨rfl, k4⟩; (have Y4 := Lib.hid (Y1.out.trans k4)); clear k4)
        | (go_at_call 17; refine (HSM.out).mono ?_; rintro e y1 ⟨rfl, k1⟩; (have Y1 := Lib.hid k1); clear k1)
        | (refine wpList_load_rowG rfl 33 _ rfl x7.heap.size rfl 33 _ (0, 0) _ BA1b.out Tryz.underlying33 rfl (by kernel_rfl) ?_)
        | (refine wpList_load_rowG rfl 33 _ rfl x8.heap.size rfl 33 _ (0, 0) _ BA2.out Tryz.underlying33 rfl (by kernel_rfl) ?_))
      go_ret
      exact ⟨rfl, KW8.out.trans Y4.out⟩
    · clear HYN
      go_upto_if 60 with fail
      go_upto_region 10 with (go_at_call 8; refine (at_getE (.slice Ab B.length nb) B four false W7 HB7.out (by have h1 := HL.out; omega) (HT.out.kept KW7.out) HE.out.one (c' := 0) (x := 0) (y := 0) (n := 0) rfl rfl rfl rfl).mono ?_; rintro e x8 ⟨Ap2, np2, Ac2, nc2, Aq2, nq2, Ao2, no2, Ad2, nd2, rfl, t2, d2, k8⟩)
      obtain ⟨W8, hW8⟩ : ∃ W8, (x8.alloc (.cells #[.int .u32 (X.has : Int), .int .u8 (X.origin.toNat : Int), .slice Ap2 X.path.length np2, .int .u32 (X.nh : Int), .int .u32 (X.med : Int), .int .u32 (X.pref : Int), .int .u32 (X.byA : Int), .int .u32 (X.byI : Int), .slice Ac2 X.comms.length nc2, .slice Aq2 X.path4.length nq2, .int .u32 (X.by4A : Int), .int .u32 (X.by4I : Int), .slice Ao2 X.others.length no2] 33)).alloc (.cells #[.int .i64 0, .int .u8 0, .int .u8 0, .slice Ad2 0 nd2] 37) = W8 := ⟨_, rfl⟩
      have kz : Kept Nothing x8 W8 := by rw [← hW8]; exact ((Kept.refl Nothing _).alloc _).alloc _
      have BA2 : Hid (Blk W8 x8.heap.size 33 #[.int .u32 (X.has : Int), .int .u8 (X.origin.toNat : Int), .slice Ap2 X.path.length np2, .int .u32 (X.nh : Int), .int .u32 (X.med : Int), .int .u32 (X.pref : Int), .int .u32 (X.byA : Int), .int .u32 (X.byI : Int), .slice Ac2 X.comms.length nc2, .slice Aq2 X.path4.length nq2, .int .u32 (X.by4A : Int), .int .u32 (X.by4I : Int), .slice Ao2 X.others.length no2]) := Lib.hid (by rw [← hW8]; exact (Blk.fresh x8 _ _).alloc _)
      rw [hW8]
      clear hW8
      have KW8 := Lib.hid ((KW7.out.trans k8).trans kz)
      have T2 := Lib.hid (t2.off5 kz (Off5.nothing _)).atp2
      have T1b := Lib.hid (T1.out.off5 (k8.trans kz) (Off5.nothing _)).atp2
      have BA1b := Lib.hid (BA1.out.kept (k8.trans kz) (fun x => x))
      have hsm := at_same2 X X _ _ _ _ _ _ _ _ W8 T1b.out T2.out
      rw [Ax.same_self] at hsm
      have HSM := Lib.hid hsm
      have z0 : W8.cell? ⟨x7.heap.size + 1, 0, none⟩ = some (.int .i64 1) := (BF1.out.kept (k8.trans kz) (fun x => x)).cell 0
      clear kz k8 t2 d2 T1 T2 T1b BA1 BF1 hsm
      go_wp2_with (first
        | (go_at_call 12; refine (tells10 _ (HT.out.kept (KW8.out.trans Y1.out))).mono ?_; rintro e y4 ⟨rfl, k4⟩; (have Y4 := Lib.hid (Y1.out.trans k4)); clear k4)
        | (go_at_call 17; refine (HSM.out).mono ?_; rintro e y1 ⟨rfl, k1⟩; (have Y1 := Lib.hid k1); clear k1)
        | (refine wpList_load_rowG rfl 33 _ rfl x7.heap.size rfl 33 _ (0, 0) _ BA1b.out Tryz.underlying33 rfl (by kernel_rfl) ?_)
        | (refine wpList_load_rowG rfl 33 _ rfl x8.heap.size rfl 33 _ (0, 0) _ BA2.out Tryz.underlying33 rfl (by kernel_rfl) ?_))
      go_ret
      exact ⟨rfl, KW8.out.trans Y4.out⟩
    · clear HYN
      go_upto_if 60 with fail
      go_upto_region 10 with (go_at_call 8; refine (at_getE (.slice Ab B.length nb) B four false W7 HB7.out (by have h1 := HL.out; omega) (HT.out.kept KW7.out) HE.out.one (c' := 0) (x := 0) (y := 0) (n := 0) rfl rfl rfl rfl).mono ?_; rintro e x8 ⟨Ap2, np2, Ac2, nc2, Aq2, nq2, Ao2, no2, Ad2, nd2, rfl, t2, d2, k8⟩)
      obtain ⟨W8, hW8⟩ : ∃ W8, (x8.alloc (.cells #[.int .u32 (X.has : Int), .int .u8 (X.origin.toNat : Int), .slice Ap2 X.path.length np2, .int .u32 (X.nh : Int), .int .u32 (X.med : Int), .int .u32 (X.pref : Int), .int .u32 (X.byA : Int), .int .u32 (X.byI : Int), .slice Ac2 X.comms.length nc2, .slice Aq2 X.path4.length nq2, .int .u32 (X.by4A : Int), .int .u32 (X.by4I : Int), .slice Ao2 X.others.length no2] 33)).alloc (.cells #[.int .i64 0, .int .u8 0, .int .u8 0, .slice Ad2 0 nd2] 37) = W8 := ⟨_, rfl⟩
      have kz : Kept Nothing x8 W8 := by rw [← hW8]; exact ((Kept.refl Nothing _).alloc _).alloc _
      have BA2 : Hid (Blk W8 x8.heap.size 33 #[.int .u32 (X.has : Int), .int .u8 (X.origin.toNat : Int), .slice Ap2 X.path.length np2, .int .u32 (X.nh : Int), .int .u32 (X.med : Int), .int .u32 (X.pref : Int), .int .u32 (X.byA : Int), .int .u32 (X.byI : Int), .slice Ac2 X.comms.length nc2, .slice Aq2 X.path4.length nq2, .int .u32 (X.by4A : Int), .int .u32 (X.by4I : Int), .slice Ao2 X.others.length no2]) := Lib.hid (by rw [← hW8]; exact (Blk.fresh x8 _ _).alloc _)
      rw [hW8]
      clear hW8
      have KW8 := Lib.hid ((KW7.out.trans k8).trans kz)
      have T2 := Lib.hid (t2.off5 kz (Off5.nothing _)).atp2
      have T1b := Lib.hid (T1.out.off5 (k8.trans kz) (Off5.nothing _)).atp2
      have BA1b := Lib.hid (BA1.out.kept (k8.trans kz) (fun x => x))
      have hsm := at_same2 X X _ _ _ _ _ _ _ _ W8 T1b.out T2.out
      rw [Ax.same_self] at hsm
      have HSM := Lib.hid hsm
      have z0 : W8.cell? ⟨x7.heap.size + 1, 0, none⟩ = some (.int .i64 1) := (BF1.out.kept (k8.trans kz) (fun x => x)).cell 0
      clear kz k8 t2 d2 T1 T2 T1b BA1 BF1 hsm
      go_wp2_with (first
        | (go_at_call 12; refine (tells10 _ (HT.out.kept (KW8.out.trans Y1.out))).mono ?_; rintro e y4 ⟨rfl, k4⟩; (have Y4 := Lib.hid (Y1.out.trans k4)); clear k4)
        | (go_at_call 17; refine (HSM.out).mono ?_; rintro e y1 ⟨rfl, k1⟩; (have Y1 := Lib.hid k1); clear k1)
        | (refine wpList_load_rowG rfl 33 _ rfl x7.heap.size rfl 33 _ (0, 0) _ BA1b.out Tryz.underlying33 rfl (by kernel_rfl) ?_)
        | (refine wpList_load_rowG rfl 33 _ rfl x8.heap.size rfl 33 _ (0, 0) _ BA2.out Tryz.underlying33 rfl (by kernel_rfl) ?_))
      go_ret
      exact ⟨rfl, KW8.out.trans Y4.out⟩
  · rcases known_cases t HKN.out with rfl | rfl | rfl | rfl | rfl | rfl | rfl | rfl | rfl | rfl
    · first
        | (exfalso; revert hn; decide)
        | (clear HYN hn
           have z0 : W7.cell? ⟨x7.heap.size + 1, 0, none⟩ = some (.int .i64 2) := BF1.out.cell 0
           have z1 : W7.cell? ⟨x7.heap.size, 0, none⟩ = some (.int .u32 0) := BA1.out.cell 0
           clear BA1 BF1 T1
           go_upto_if 60 with fail
           go_wp2_with (go_at_call 12; refine (tells10 _ (HT.out.kept KW7.out)).mono ?_; rintro e y4 ⟨rfl, k4⟩; (have Y4 := Lib.hid k4); clear k4)
           go_ret
           exact ⟨rfl, KW7.out.trans Y4.out⟩)
    · first
        | (exfalso; revert hn; decide)
        | (clear HYN hn
           have z0 : W7.cell? ⟨x7.heap.size + 1, 0, none⟩ = some (.int .i64 2) := BF1.out.cell 0
           have z1 : W7.cell? ⟨x7.heap.size, 0, none⟩ = some (.int .u32 0) := BA1.out.cell 0
           clear BA1 BF1 T1
           go_upto_if 60 with fail
           go_wp2_with (go_at_call 12; refine (tells10 _ (HT.out.kept KW7.out)).mono ?_; rintro e y4 ⟨rfl, k4⟩; (have Y4 := Lib.hid k4); clear k4)
           go_ret
           exact ⟨rfl, KW7.out.trans Y4.out⟩)
    · first
        | (exfalso; revert hn; decide)
        | (clear HYN hn
           have z0 : W7.cell? ⟨x7.heap.size + 1, 0, none⟩ = some (.int .i64 2) := BF1.out.cell 0
           have z1 : W7.cell? ⟨x7.heap.size, 0, none⟩ = some (.int .u32 0) := BA1.out.cell 0
           clear BA1 BF1 T1
           go_upto_if 60 with fail
           go_wp2_with (go_at_call 12; refine (tells10 _ (HT.out.kept KW7.out)).mono ?_; rintro e y4 ⟨rfl, k4⟩; (have Y4 := Lib.hid k4); clear k4)
           go_ret
           exact ⟨rfl, KW7.out.trans Y4.out⟩)
    · first
        | (exfalso; revert hn; decide)
        | (clear HYN hn
           have z0 : W7.cell? ⟨x7.heap.size + 1, 0, none⟩ = some (.int .i64 2) := BF1.out.cell 0
           have z1 : W7.cell? ⟨x7.heap.size, 0, none⟩ = some (.int .u32 0) := BA1.out.cell 0
           clear BA1 BF1 T1
           go_upto_if 60 with fail
           go_wp2_with (go_at_call 12; refine (tells10 _ (HT.out.kept KW7.out)).mono ?_; rintro e y4 ⟨rfl, k4⟩; (have Y4 := Lib.hid k4); clear k4)
           go_ret
           exact ⟨rfl, KW7.out.trans Y4.out⟩)
    · first
        | (exfalso; revert hn; decide)
        | (clear HYN hn
           have z0 : W7.cell? ⟨x7.heap.size + 1, 0, none⟩ = some (.int .i64 2) := BF1.out.cell 0
           have z1 : W7.cell? ⟨x7.heap.size, 0, none⟩ = some (.int .u32 0) := BA1.out.cell 0
           clear BA1 BF1 T1
           go_upto_if 60 with fail
           go_wp2_with (go_at_call 12; refine (tells10 _ (HT.out.kept KW7.out)).mono ?_; rintro e y4 ⟨rfl, k4⟩; (have Y4 := Lib.hid k4); clear k4)
           go_ret
           exact ⟨rfl, KW7.out.trans Y4.out⟩)
    · first
        | (exfalso; revert hn; decide)
        | (clear HYN hn
           have z0 : W7.cell? ⟨x7.heap.size + 1, 0, none⟩ = some (.int .i64 2) := BF1.out.cell 0
           have z1 : W7.cell? ⟨x7.heap.size, 0, none⟩ = some (.int .u32 0) := BA1.out.cell 0
           clear BA1 BF1 T1
           go_upto_if 60 with fail
           go_wp2_with (go_at_call 12; refine (tells10 _ (HT.out.kept KW7.out)).mono ?_; rintro e y4 ⟨rfl, k4⟩; (have Y4 := Lib.hid k4); clear k4)
           go_ret
           exact ⟨rfl, KW7.out.trans Y4.out⟩)
    · first
        | (exfalso; revert hn; decide)
        | (clear HYN hn
           have z0 : W7.cell? ⟨x7.heap.size + 1, 0, none⟩ = some (.int .i64 2) := BF1.out.cell 0
           have z1 : W7.cell? ⟨x7.heap.size, 0, none⟩ = some (.int .u32 0) := BA1.out.cell 0
           clear BA1 BF1 T1
           go_upto_if 60 with fail
           go_wp2_with (go_at_call 12; refine (tells10 _ (HT.out.kept KW7.out)).mono ?_; rintro e y4 ⟨rfl, k4⟩; (have Y4 := Lib.hid k4); clear k4)
           go_ret
           exact ⟨rfl, KW7.out.trans Y4.out⟩)
    · first
        | (exfalso; revert hn; decide)
        | (clear HYN hn
           have z0 : W7.cell? ⟨x7.heap.size + 1, 0, none⟩ = some (.int .i64 2) := BF1.out.cell 0
           have z1 : W7.cell? ⟨x7.heap.size, 0, none⟩ = some (.int .u32 0) := BA1.out.cell 0
           clear BA1 BF1 T1
           go_upto_if 60 with fail
           go_wp2_with (go_at_call 12; refine (tells10 _ (HT.out.kept KW7.out)).mono ?_; rintro e y4 ⟨rfl, k4⟩; (have Y4 := Lib.hid k4); clear k4)
           go_ret
           exact ⟨rfl, KW7.out.trans Y4.out⟩)
    · first
        | (exfalso; revert hn; decide)
        | (clear HYN hn
           have z0 : W7.cell? ⟨x7.heap.size + 1, 0, none⟩ = some (.int .i64 2) := BF1.out.cell 0
           have z1 : W7.cell? ⟨x7.heap.size, 0, none⟩ = some (.int .u32 0) := BA1.out.cell 0
           clear BA1 BF1 T1
           go_upto_if 60 with fail
           go_wp2_with (go_at_call 12; refine (tells10 _ (HT.out.kept KW7.out)).mono ?_; rintro e y4 ⟨rfl, k4⟩; (have Y4 := Lib.hid k4); clear k4)
           go_ret
           exact ⟨rfl, KW7.out.trans Y4.out⟩)
    · first
        | (exfalso; revert hn; decide)
        | (clear HYN hn
           have z0 : W7.cell? ⟨x7.heap.size + 1, 0, none⟩ = some (.int .i64 2) := BF1.out.cell 0
           have z1 : W7.cell? ⟨x7.heap.size, 0, none⟩ = some (.int .u32 0) := BA1.out.cell 0
           clear BA1 BF1 T1
           go_upto_if 60 with fail
           go_wp2_with (go_at_call 12; refine (tells10 _ (HT.out.kept KW7.out)).mono ?_; rintro e y4 ⟨rfl, k4⟩; (have Y4 := Lib.hid k4); clear k4)
           go_ret
           exact ⟨rfl, KW7.out.trans Y4.out⟩)
end Go.Proofs.YteofbpdogmajoaaGreatDoor
