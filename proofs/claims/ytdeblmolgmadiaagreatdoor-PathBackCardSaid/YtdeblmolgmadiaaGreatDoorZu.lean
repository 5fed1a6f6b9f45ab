
/-
  The law PathBack.
-/
import Derived.Test.YtdeblmolgmadiaaGreatDoorZt
import Derived.Deep.RegionHeld3
namespace Go.Proofs.YtdeblmolgmadiaaGreatDoor
open Go.RowKit Go.Shelf
attribute [local go_sem] Oper.semAt_some

/-- What the law's loop holds: its cell tells whether all numbers so far are short. -/
def ShJ (W0 : World) (c : Nat) (pre : List (UInt8 × Nat)) (W : World) : Prop := Kept (Only c) W0 W ∧ Blk W c 4 #[.bool (pre.all fun x => decide (x.2 < 65536))]

theorem slice_hiB (A : Option Addr) (n c k : Nat) (hk : k ≤ c) (w : World) :
    (Instr.slice 28 (.slice A n c) none (some (.int .i64 (k : Int))) none).run Tryz.prog w = .ok (.slice A k c) w := by
  have hz := Tryz.sizeOf5
  have he : Tryz.prog.elem 28 = 5 := by kernel_rfl
  rw [run_slice_h w 28 A n c (by kernel_rfl) .i64 k (by omega) (by omega), he, hz]
  cases A with
  | none => simp [sliced]
  | some a => simp [sliced, Addr.add]

set_option maxRecDepth 20000 in
set_option maxHeartbeats 8000000 in
theorem law_back7 (v0 v1 : Value) (p q : List Seg) (A9 : Option Addr) (c9 : Nat) (B S : List UInt8) (wd : Bool) (w : World) (hp : Pts w v0 p) (hq : Pts w v1 q) (hB : By w (.slice A9 B.length c9) B) (hr : Rdy2 w) (hs : Bkt w) :
    Calls Tryz.prog 4 #[v0, v1, .agg #[.slice A9 B.length c9, .bool wd, .string ⟨S.toArray⟩]] w fun e w' => e = .returned (.bool true) ∧ Kept Nothing w w' := by
  have hmf := run_mkFunc
  have HB0 := Lib.hid (fun u (k : Kept Nothing w u) => brought v0 p u (hp.old k))
  have HB1 := Lib.hid (fun u (k : Kept Nothing w u) => brought v1 q u (hq.old k))
  have HM0 := Lib.hid (brF_may1 p)
  have HM1 := Lib.hid (brF_may1 q)
  have HN0 := Lib.hid (fun s hs => @brF_num p s hs)
  have HN1 := Lib.hid (fun s hs => @brF_num q s hs)
  have hl0 := brF_len p
  have hl1 := brF_len q
  have HR := Lib.hid hr
  have HS := Lib.hid hs
  have HBY := Lib.hid hB
  clear hp hq hr hs hB
  generalize brF p = P at *
  generalize brF q = Q at *
  clear p q
  have KB := Lib.hid ((Kept.refl Nothing w).alloc (.cells #[.slice A9 B.length c9, .bool wd, .string ⟨S.toArray⟩] 47))
  have BX := Lib.hid (Blk.fresh w 47 #[.slice A9 B.length c9, .bool wd, .string ⟨S.toArray⟩])
  refine (callsIn_wide (n := 4)).1 (callsIn_of_wp_marks Tryz.func4 rfl trivial ?_ rfl)
  rw [wpIn_wide]
  simp only [Tryz.ntmps4, List.size_toArray, List.length_cons, List.length_nil, Nat.reduceAdd, Nat.reduceSub, Array.replicate_succ, Array.replicate_zero, List.push_toArray, List.append_toArray, List.nil_append, List.cons_append]
  go_upto_region 2 with (first
    | (go_at_call 27; refine (HB1.out _ (KB.out.trans K1.out)).mono ?_; rintro e w2 ⟨v3, rfl, p2, k2⟩; (have P2 := Lib.hid p2.pts); (have K2 := Lib.hid k2); clear p2 k2)
    | (go_at_call 27; refine (HB0.out _ KB.out).mono ?_; rintro e w1 ⟨v2, rfl, p1, k1⟩; (have P1 := Lib.hid p1.pts); (have K1 := Lib.hid k1); clear p1 k1))
  have XP := Lib.hid (P1.out.old K2.out)
  have XQ := P2
  have KW := Lib.hid (KB.out.trans (K1.out.trans K2.out))
  have B2 := Lib.hid (BX.out.kept (K1.out.trans K2.out) (fun x => x))
  obtain ⟨A2, c2, rfl, hc2, hm2⟩ := XP.out.form
  obtain ⟨A3, c3, rfl, hc3, hm3⟩ := XQ.out.form
  clear P1 P2 K1 K2 HB0 HB1 KB BX
  have FP := Lib.hid XP.out.fits
  have FQ := Lib.hid XQ.out.fits
  have CB := Lib.hid (fun wd u (k : Kept Nothing w2 u) => path_bytes _ P wd u (XP.out.old k) (by omega) (fun s hs => by have := (HN0.out s hs).1; omega))
  have CBQ := Lib.hid (fun u (k : Kept Nothing w2 u) => path_bytes _ Q true u (XQ.out.old k) (by omega) (fun s hs => by have := (HN1.out s hs).1; omega))
  rw [Pt.bytes_true HM1.out] at CBQ
  have CBT := Lib.hid (CB.out true)
  have CBF := Lib.hid (CB.out false)
  rw [Pt.bytes_true HM0.out] at CBT
  have CM := Lib.hid (fun u (k : Kept Nothing w2 u) => path_may _ P u (XP.out.old k) (by omega))
  rw [HM0.out] at CM
  have CS := Lib.hid (fun v u (k : Kept Nothing w2 u) (h : Pts u v P) => path_same v _ P P u h (XP.out.old k))
  simp only [decide_true] at CS
  have CSQ := Lib.hid (fun u (k : Kept Nothing w2 u) => path_same _ _ P Q u (XP.out.old k) (XQ.out.old k))
  have CT := Lib.hid (fun u (k : Kept Nothing w2 u) => path_text _ P u (XP.out.old k) (by omega) (HR.out.1.kept (KW.out.trans k)) (HS.out.kept (KW.out.trans k)))
  have CTQ := Lib.hid (fun u (k : Kept Nothing w2 u) => path_text _ Q u (XQ.out.old k) (by omega) (HR.out.1.kept (KW.out.trans k)) (HS.out.kept (KW.out.trans k)))
  have CR := Lib.hid (fun v b wide u (h : By u v b) (hb : b.length ≤ 1000000) => path_read v b wide u h hb)
  have CP := Lib.hid (fun l (hl : l.length ≤ 90000) u (k : Kept Nothing w2 u) => parseP_any l (asc_all l) hl u (HR.out.kept (KW.out.trans k)) (HS.out.kept (KW.out.trans k)))
  have CW := Lib.hid (fun u (k : Kept Nothing w2 u) => wakes_true u (HR.out.kept (KW.out.trans k)) (HS.out.kept (KW.out.trans k)))
  have LF : Hid ((Pt.form true P).length ≤ 1000000 ∧ (Pt.form true Q).length ≤ 1000000) := Lib.hid ⟨by have := Pt.length_form true P (fun s hs => by have := (HN0.out s hs).1; omega); omega, by have := Pt.length_form true Q (fun s hs => by have := (HN1.out s hs).1; omega); omega⟩
  have RF := Lib.hid (Pt.read_form (wide := true) HM0.out FP.out (fun e : true = false => by cases e))
  have RT := Lib.hid (Pt.parse_text HM0.out FP.out)
  have LT := Lib.hid (Pt.text_len HM0.out FP.out)
  have EQF := Lib.hid (Pt.form_inj HM1.out HM0.out FQ.out FP.out)
  have EQT := Lib.hid (Pt.text_inj HM1.out HM0.out FQ.out FP.out)
  rw [show decide (Q = P) = decide (P = Q) from by rw [Bool.eq_iff_iff]; simp [eq_comm]] at EQF EQT
  generalize decide (P = Q) = dd at *
  generalize Pt.form true P = fa at *
  generalize Pt.form true Q = fb at *
  generalize Pt.text P = tp at *
  generalize Pt.text Q = tq at *
  have CRF := Lib.hid (fun v u (h : By u v fa) => CR.out v fa true u h LF.out.1)
  rw [RF.out] at CRF
  have CPT := Lib.hid (CP.out tp LT.out)
  rw [RT.out] at CPT
  go_upto_region 3 with (go_at_call 13; refine (CBT.out _ (Kept.refl _ _)).mono ?_; rintro e w3 ⟨v4, rfl, o4, k4⟩; (have B4 := Lib.hid (Bs.of_own o4).by); (have K3 := Lib.hid k4); (obtain ⟨A4, c4, rfl, _, _⟩ := ow_form o4); clear o4 k4)
  go_upto_region 4 with (go_at_call 28; refine (CRF.out _ _ B4.out).mono ?_; rintro e w4 ⟨v5, rfl, p5, k5⟩; (have P5 := Lib.hid p5.pts); (have K4 := Lib.hid (K3.out.trans k5)); (have K34 := Lib.hid k5); (obtain ⟨A5, c5, rfl, _, _⟩ := P5.out.form); clear p5 k5)
  go_upto_region 5 with (first
    | (go_at_call 29; refine (CPT.out _ (K4.out.trans k6)).mono ?_; rintro e w6 ⟨v7, rfl, p7, k7⟩; (have P6 := Lib.hid p7.pts); (have K46 := Lib.hid (k6.trans k7)); (obtain ⟨A6, c6, rfl, _, _⟩ := P6.out.form); clear p7 k7 k6)
    | (go_at_call 23; refine (CT.out _ K4.out).mono ?_; rintro e w5 ⟨rfl, k6⟩))
  have K6 := Lib.hid (K4.out.trans K46.out)
  have S1 := Lib.hid (fun u (k : Kept Nothing w6 u) => CS.out _ u (K6.out.trans k) (P5.out.old (K46.out.trans k)))
  have S2 := Lib.hid (fun u (k : Kept Nothing w6 u) => CS.out _ u (K6.out.trans k) (P6.out.old k))
  have BX6 := Lib.hid (B2.out.kept K6.out (fun x => x))
  have B46 := Lib.hid (B4.out.old (K34.out.trans K46.out))
  have K := Lib.hid (Kept.refl Nothing w6)
  clear CBT CRF CPT P5 P6 K3 K4 K34 K46 B4 B2 RF RT LT
  have t1 : True := trivial
  go_upto_region 8 with (first
    | (go_at_call 18; (have _t := t1); refine (S1.out _ K.out).mono ?_; rintro e w8 ⟨rfl, k8⟩; replace K := Lib.hid (K.out.trans k8); clear k8 t1)
    | (go_at_call 18; refine (S2.out _ K.out).mono ?_; rintro e w9 ⟨rfl, k9⟩; replace K := Lib.hid (K.out.trans k9); clear k9)
    | (go_at_call 16; refine (CM.out _ (K6.out.trans K.out)).mono ?_; rintro e w7 ⟨rfl, k7⟩; replace K := Lib.hid (K.out.trans k7); clear k7))
  have bS := Blk.fresh w9 4 #[.bool true]
  have kS := (Kept.refl Nothing w9).alloc (.cells #[.bool true] 4)
  have hzS : (w9.alloc (.cells #[.bool true] 4)).heap.size = w9.heap.size + 1 := World.size_alloc _ _
  have hg6 := K.out.size
  have hg2 := K6.out.size
  generalize w9.alloc (.cells #[.bool true] 4) = wB at bS kS hzS ⊢
  have K9 := Lib.hid (K.out.trans kS)
  clear kS K S1 S2 CM
  generalize w9.heap.size = g at *
  go_wp2_with fail
  refine wp_rf1 (gf := 30) (fs := #[.slice A2 P.length c2]) (u := fun x : UInt8 × Nat => .int .u8 (x.1.toNat : Int)) (v := fun x => .int .u32 (x.2 : Int)) (q2 := 15) (xs := Pt.all P) (S := Only g) rfl (enters_of Tryz.func30 (by kernel_rfl) rfl) (fun k (e : k = g) => by omega)
    (all_seq w2 _ P _ wB XP.out (K6.out.trans K9.out) (fun k (e : k = g) => by omega) (fun k (e : k = g) => by omega) (by omega) (fun s hs => by have := (HN0.out s hs).1; omega))
    (ShJ wB g) (fun s X Y hs hX hk => ⟨hs.1.trans_new hk (fun i hi x => by omega), hs.2.kept hk (by omega)⟩) ⟨Kept.refl _ _, bS⟩ ?assign ?body ?post
  case assign =>
    intro l x W K hK
    simp only [List.setIfInBounds_toArray, List.set_cons_succ, List.set_cons_zero] at hK ⊢
    gi_wp2
    exact hK
  case body =>
    rintro l pre x W ⟨hk, hb⟩ hp2 hz
    simp only [List.setIfInBounds_toArray, List.set_cons_succ, List.set_cons_zero]
    have e : (pre ++ [x]).all (fun x => decide (x.2 < 65536)) = (pre.all (fun x => decide (x.2 < 65536)) && decide (x.2 < 65536)) := by simp [List.all_append]
    have c0 := hb.cell 0
    have f0 := hb.free 0
    cases hp : pre.all (fun x => decide (x.2 < 65536)) with
    | false =>
      rw [hp] at c0 e
      gi_wp2
      refine ⟨Kept.own W g 0 _, hk.setCell (p := ⟨g, 0, none⟩) (fun _ => rfl) (.bool false), ?_⟩
      rw [e]
      exact hb.put 0 _
    | true =>
      rw [hp] at c0 e
      by_cases hx : x.2 < 65536
      · have hxi : (x.2 : Int) < 65536 := by omega
        rw [decide_eq_true hx] at e
        gi_wp2
        refine ⟨Kept.own W g 0 _, hk.setCell (p := ⟨g, 0, none⟩) (fun _ => rfl) (.bool true), ?_⟩
        rw [e]
        exact hb.put 0 _
      · have hxi : ¬ (x.2 : Int) < 65536 := by omega
        rw [decide_eq_false hx] at e
        gi_wp2
        refine ⟨Kept.own W g 0 _, hk.setCell (p := ⟨g, 0, none⟩) (fun _ => rfl) (.bool false), ?_⟩
        rw [e]
        exact hb.put 0 _
  case post =>
    intro D wL hD hG hd
    obtain ⟨hk, hbL⟩ := hG
    rw [Pt.short_all] at hbL
    have KL6 := Lib.hid (K9.out.trans_new hk (fun i hi (e : i = g) => by omega))
    have KL := Lib.hid (K6.out.trans KL6.out)
    have BXL := Lib.hid (BX6.out.kept KL6.out (fun x => x))
    have B4L := Lib.hid (B46.out.old KL6.out)
    have BYL := Lib.hid (HBY.out.old (KW.out.trans KL.out))
    have HD := Lib.hid hd
    have hDz : D < wL.heap.size := (Array.getElem?_eq_some_iff.1 hd).1
    have HBL := Lib.hid hbL
    have hDw : w.heap.size ≤ D := by have := KW.out.size; omega
    clear hk hd hbL K9 KL6 BX6 B46 HBY bS hzS
    have SP := Lib.hid (fun v u (k : Kept Nothing wL u) (h : Pts u v P) => CS.out v u (KL.out.trans k) h)
    have HZ : Hid (w2.heap.size ≤ g ∧ g < wL.heap.size) := Lib.hid ⟨by omega, HBL.out.lt⟩
    have HFS : Hid ((Pt.form false P).length ≤ 1000000) := Lib.hid (by have := Pt.length_form false P (fun s hs => by have := (HN0.out s hs).1; omega); omega)
    have hBc : B.length ≤ c9 := by obtain ⟨A, c, h1, h2, _⟩ := BYL.out.form; injection h1 with _ _ h1; omega
    have hwl : w.heap.size < wL.heap.size := BXL.out.lt
    have RSH := Lib.hid (fun (h : Pt.hasW P = false) => Pt.read_form (wide := false) HM0.out FP.out (fun _ => Pt.not_wide h))
    have m5 : ∃ m bb, m = min B.length 500 ∧ bb = B.take m ∧ bb.length = m := ⟨_, _, rfl, rfl, by rw [List.length_take]; omega⟩
    obtain ⟨m, bb, hm, hbb, hbl⟩ := m5
    have BYM : Hid (By wL (.slice A9 m c9) bb) := Lib.hid (by rw [hbb]; exact BYL.out.pre (by omega))
    have hmin : min (B.length : Int) 500 = (m : Int) := by omega
    have hsl := slice_hiB A9 B.length c9 m (by omega)
    have hm5 : m ≤ 500 := by omega
    have RB := Lib.hid (fun (y : List Seg) (h : Pt.read wd bb = (y, 0)) => Pt.bytes_read h)
    have RM := Lib.hid (fun (y : List Seg) (h : Pt.read wd bb = (y, 0)) => Pt.may_len (Pt.form_read h).2.1)
    have RN := Lib.hid (@Pt.read_fault wd bb)
    have CRM := Lib.hid (fun u (k : Kept Nothing wL u) => CR.out _ bb wd u (BYM.out.old k) (by omega))
    have hbl2 := Lib.hid hbl
    clear hbb hm hbl
    have m3 : ∃ m' ss, m' = min S.length 300 ∧ ss = S.take m' ∧ ss.length = m' := ⟨_, _, rfl, rfl, by rw [List.length_take]; omega⟩
    obtain ⟨m', ss, hm', hss, hsl'⟩ := m3
    have hmin3 : min (S.length : Int) 300 = (m' : Int) := by omega
    have hm3 : m' ≤ 300 ∧ m' ≤ S.length := by omega
    have HXT : (⟨S.toArray⟩ : ByteArray).extract 0 m' = ⟨ss.toArray⟩ := by rw [hss]; exact take60 _ _
    have CPS := Lib.hid (fun u (k : Kept Nothing wL u) => CP.out ss (by omega) u (KL.out.trans k))
    have SM := Lib.hid (fun (z : List Seg) (h : Pt.parseP ss = (z, 0)) => Pt.parseP_may h)
    have SN := Lib.hid (fun (h : (Pt.parseP ss).2 ≠ 0) => Pt.parseP_fault h)
    clear hss hm' hsl'
    generalize Pt.read wd bb = RR at *
    generalize Pt.parseP ss = PS at *
    obtain ⟨y, ye⟩ := RR
    obtain ⟨z, ze⟩ := PS
    simp only at CRM CPS RN SN
    have ebb : (bb == bb) = true := beq_self_eq_true _
    have edd : (dd != dd) = false := by cases dd <;> rfl
    have BXU := Lib.hid (fun u (k : Kept Nothing wL u) => BXL.out.kept k (fun x => x))
    have B4U := Lib.hid (fun u (k : Kept Nothing wL u) => B4L.out.old k)
    have DU := Lib.hid (fun u (k : Kept Nothing wL u) => (k.block D hDz (fun x => x)).trans HD.out)
    rcases Bool.eq_false_or_eq_true (Pt.hasW P) with hw | hw
    case inl =>
      rw [hw] at HBL
      rw [Pt.bytes_long HM0.out hw] at CBF
      have CR2 := Lib.hid (fun v u (h : By u v []) => CR.out v [] false u h (by simp))
      rw [Pt.read_none] at CR2
      go_upto_region 13 with (first
        | (go_at_call 28; refine (CR2.out _ _ BH.out).mono ?_; rintro e wN ⟨v10, rfl, p10, k10⟩; (have PN := Lib.hid p10.pts); (have KN := Lib.hid (KM.out.trans k10)); (obtain ⟨AN, cN, rfl, _, _⟩ := PN.out.form); clear p10 k10)
        | (go_at_call 13; refine (CBF.out _ KL.out).mono ?_; rintro e wM ⟨v9, rfl, o9, k9⟩; (have BH := Lib.hid (Bs.of_own o9).by); (have KM := Lib.hid k9); (obtain ⟨AM, cM, rfl, _, _⟩ := ow_form o9); clear o9 k9))
      have cS : wN.cell? ⟨g, 0, none⟩ = some (.bool (!true)) := (HBL.out.kept KN.out (fun x => x)).cell 0
      have K := Lib.hid KN.out
      go_upto_region 15 with fail
      go_upto_region 16 with (go_at_call 13; refine (CBQ.out _ (KL.out.trans K.out)).mono ?_; rintro e w16 ⟨v16, rfl, o16, k16⟩; (have B20 := Lib.hid (Bs.of_own o16).by); replace K := Lib.hid (K.out.trans k16); (obtain ⟨A20, c20, rfl, _, _⟩ := ow_form o16); clear o16 k16)
      have t3 : True := trivial
      have et := EQT.out
      have edt : (dd == dd) = true := beq_self_eq_true _
      go_upto_region 18 with (first
        | (go_at_call 15; refine (by_equal _ _ fb fa _ B20.out (B4U.out _ K.out)).mono ?_; rw [EQF.out]; rintro e w17 ⟨rfl, rfl⟩)
        | (go_at_call 18; refine (CSQ.out _ (KL.out.trans K.out)).mono ?_; rintro e w18 ⟨rfl, k18⟩; replace K := Lib.hid (K.out.trans k18); clear k18)
        | (go_at_call 23; (have _t := t3); refine (CTQ.out _ (KL.out.trans K.out)).mono ?_; rintro e w19 ⟨rfl, k19⟩; replace K := Lib.hid (K.out.trans k19); clear k19 t3)
        | (go_at_call 23; refine (CT.out _ (KL.out.trans K.out)).mono ?_; rintro e w20 ⟨rfl, k20⟩; replace K := Lib.hid (K.out.trans k20); clear k20))
      clear et edt edd
      have q0 := (BXU.out _ K.out).cell 0
      have q1 := (BXU.out _ K.out).cell 1
      have q2 := (BXU.out _ K.out).cell 2
      by_cases hye : ye = 0
      · subst hye
        have HY := Lib.hid (RB.out y rfl)
        have HYM := Lib.hid (RM.out y rfl)
        go_upto_region 20 with (go_at_call 28; refine (CRM.out _ K.out).mono ?_; rintro e w23 ⟨v23, rfl, p23, k23⟩; (have Y23 := Lib.hid p23.pts); replace K := Lib.hid (K.out.trans k23); (have r1 := (BXU.out _ K.out).cell 1); (obtain ⟨A23, c23, rfl, _, _⟩ := Y23.out.form); clear p23 k23)
        go_upto_region 21 with fail
        go_upto_region 22 with (go_at_call 13; refine (path_bytes _ y wd _ Y23.out (by have := HYM.out.1; omega) (fun s hs => by have := HYM.out.2 s hs; omega)).mono ?_; rw [HY.out]; rintro e w25 ⟨v25, rfl, o25, k25⟩; (have B25 := Lib.hid (Bs.of_own o25).by); replace K := Lib.hid (K.out.trans k25); (obtain ⟨A25, c25, rfl, _, _⟩ := ow_form o25); clear o25 k25)
        go_upto_region 26 with (go_at_call 15; refine (by_equal _ _ bb bb _ B25.out (BYM.out.old K.out)).mono ?_; rw [ebb]; rintro e w26 ⟨rfl, rfl⟩)
        have q3 := (BXU.out _ K.out).cell 2
        by_cases hze : ze = 0
        · subst hze
          have HZM := Lib.hid (SM.out z rfl)
          go_upto_region 27 with (go_at_call 29; refine (CPS.out _ K.out).mono ?_; rintro e w30 ⟨v30, rfl, p30, k30⟩; (have Z30 := Lib.hid p30.pts); replace K := Lib.hid (K.out.trans k30); clear p30 k30)
          have FZ := Z30.out.fits
          have CPZ := Lib.hid (CP.out (Pt.text z) (Pt.text_len HZM.out FZ))
          rw [Pt.parse_text HZM.out FZ] at CPZ
          have ZU := Lib.hid (fun u (k : Kept Nothing w30 u) => Z30.out.old k)
          have LZ := Lib.hid (Pt.may_le HZM.out)
          have K30 := K
          have J := Lib.hid (Kept.refl Nothing w30)
          obtain ⟨A30, c30, rfl, _, _⟩ := Z30.out.form
          clear FZ
          go_upto_region 30 with (first
            | (go_at_call 29; refine (CPZ.out _ (KL.out.trans (K30.out.trans J.out))).mono ?_; rintro e w32 ⟨v32, rfl, p32, k32⟩; (have Z32 := Lib.hid p32.pts); replace J := Lib.hid (J.out.trans k32); (obtain ⟨A32, c32, rfl, _, _⟩ := Z32.out.form); clear p32 k32)
            | (go_at_call 23; refine (path_text _ z _ (ZU.out _ J.out) (by have := LZ.out; omega) (HR.out.1.kept (KW.out.trans (KL.out.trans (K30.out.trans J.out)))) (HS.out.kept (KW.out.trans (KL.out.trans (K30.out.trans J.out))))).mono ?_; rintro e w31 ⟨rfl, k31⟩; replace J := Lib.hid (J.out.trans k31); clear k31))
          go_wp2_with (first
            | (go_at_call 26; refine (CW.out _ (KL.out.trans (K30.out.trans J.out))).mono ?_; rintro e w35 ⟨rfl, k35⟩; replace J := Lib.hid (J.out.trans k35); clear k35)
            | (go_at_call 18; refine (path_same _ _ z z _ (Z32.out.old JJ.out) (ZU.out _ J.out)).mono ?_; rw [decide_eq_true rfl]; rintro e w34 ⟨rfl, k34⟩; replace J := Lib.hid (J.out.trans k34); clear k34)
            | (go_at_call 16; refine (path_may _ z _ (ZU.out _ J.out) (by have := LZ.out; omega)).mono ?_; rw [HZM.out]; rintro e w33 ⟨rfl, k33⟩; replace J := Lib.hid (J.out.trans k33); (have JJ := Lib.hid k33); clear k33))
          have d := DU.out _ (K30.out.trans J.out)
          have kf := (KW.out.trans (KL.out.trans (K30.out.trans J.out))).trans_new ((Kept.putObj _ D (.deferred none)).mono (fun k (e : k = D) => e)) (fun i hi (e : i = D) => by omega)
          refine ⟨by simp, .inl ⟨_, _, rfl, run_takeDeferred d, ?_⟩⟩
          exact ⟨.bool true, by simp [results, Tryz.results4, go_sem], rfl, kf⟩
        · obtain rfl : z = [] := SN.out hze
          have hzb : ((ze : Int) == 0) = false := beq_eq_false_iff_ne.2 (by omega)
          go_wp2_with (first
            | (go_at_call 26; refine (CW.out _ (KL.out.trans K.out)).mono ?_; rintro e w35 ⟨rfl, k35⟩; replace K := Lib.hid (K.out.trans k35); clear k35)
            | (go_at_call 29; refine (CPS.out _ K.out).mono ?_; rintro e w30 ⟨v30, rfl, p30, k30⟩; (have Z30 := Lib.hid p30.pts); replace K := Lib.hid (K.out.trans k30); (obtain ⟨A30, c30, rfl, _, _⟩ := Z30.out.form); clear p30 k30))
          have d := DU.out _ K.out
          have kf := (KW.out.trans (KL.out.trans K.out)).trans_new ((Kept.putObj _ D (.deferred none)).mono (fun k (e : k = D) => e)) (fun i hi (e : i = D) => by omega)
          refine ⟨by simp, .inl ⟨_, _, rfl, run_takeDeferred d, ?_⟩⟩
          exact ⟨.bool true, by simp [results, Tryz.results4, go_sem], rfl, kf⟩
      · obtain rfl : y = [] := RN.out hye
        have hyb : ((ye : Int) == 0) = false := beq_eq_false_iff_ne.2 (by omega)
        go_upto_region 20 with (go_at_call 28; refine (CRM.out _ K.out).mono ?_; rintro e w23 ⟨v23, rfl, p23, k23⟩; (have Y23 := Lib.hid p23.pts); replace K := Lib.hid (K.out.trans k23); (obtain ⟨A23, c23, rfl, _, _⟩ := Y23.out.form); clear p23 k23)
        go_upto_region 26 with fail
        have q3 := (BXU.out _ K.out).cell 2
        by_cases hze : ze = 0
        · subst hze
          have HZM := Lib.hid (SM.out z rfl)
          go_upto_region 27 with (go_at_call 29; refine (CPS.out _ K.out).mono ?_; rintro e w30 ⟨v30, rfl, p30, k30⟩; (have Z30 := Lib.hid p30.pts); replace K := Lib.hid (K.out.trans k30); clear p30 k30)
          have FZ := Z30.out.fits
          have CPZ := Lib.hid (CP.out (Pt.text z) (Pt.text_len HZM.out FZ))
          rw [Pt.parse_text HZM.out FZ] at CPZ
          have ZU := Lib.hid (fun u (k : Kept Nothing w30 u) => Z30.out.old k)
          have LZ := Lib.hid (Pt.may_le HZM.out)
          have K30 := K
          have J := Lib.hid (Kept.refl Nothing w30)
          obtain ⟨A30, c30, rfl, _, _⟩ := Z30.out.form
          clear FZ
          go_upto_region 30 with (first
            | (go_at_call 29; refine (CPZ.out _ (KL.out.trans (K30.out.trans J.out))).mono ?_; rintro e w32 ⟨v32, rfl, p32, k32⟩; (have Z32 := Lib.hid p32.pts); replace J := Lib.hid (J.out.trans k32); (obtain ⟨A32, c32, rfl, _, _⟩ := Z32.out.form); clear p32 k32)
            | (go_at_call 23; refine (path_text _ z _ (ZU.out _ J.out) (by have := LZ.out; omega) (HR.out.1.kept (KW.out.trans (KL.out.trans (K30.out.trans J.out)))) (HS.out.kept (KW.out.trans (KL.out.trans (K30.out.trans J.out))))).mono ?_; rintro e w31 ⟨rfl, k31⟩; replace J := Lib.hid (J.out.trans k31); clear k31))
          go_wp2_with (first
            | (go_at_call 26; refine (CW.out _ (KL.out.trans (K30.out.trans J.out))).mono ?_; rintro e w35 ⟨rfl, k35⟩; replace J := Lib.hid (J.out.trans k35); clear k35)
            | (go_at_call 18; refine (path_same _ _ z z _ (Z32.out.old JJ.out) (ZU.out _ J.out)).mono ?_; rw [decide_eq_true rfl]; rintro e w34 ⟨rfl, k34⟩; replace J := Lib.hid (J.out.trans k34); clear k34)
            | (go_at_call 16; refine (path_may _ z _ (ZU.out _ J.out) (by have := LZ.out; omega)).mono ?_; rw [HZM.out]; rintro e w33 ⟨rfl, k33⟩; replace J := Lib.hid (J.out.trans k33); (have JJ := Lib.hid k33); clear k33))
          have d := DU.out _ (K30.out.trans J.out)
          have kf := (KW.out.trans (KL.out.trans (K30.out.trans J.out))).trans_new ((Kept.putObj _ D (.deferred none)).mono (fun k (e : k = D) => e)) (fun i hi (e : i = D) => by omega)
          refine ⟨by simp, .inl ⟨_, _, rfl, run_takeDeferred d, ?_⟩⟩
          exact ⟨.bool true, by simp [results, Tryz.results4, go_sem], rfl, kf⟩
        · obtain rfl : z = [] := SN.out hze
          have hzb : ((ze : Int) == 0) = false := beq_eq_false_iff_ne.2 (by omega)
          go_wp2_with (first
            | (go_at_call 26; refine (CW.out _ (KL.out.trans K.out)).mono ?_; rintro e w35 ⟨rfl, k35⟩; replace K := Lib.hid (K.out.trans k35); clear k35)
            | (go_at_call 29; refine (CPS.out _ K.out).mono ?_; rintro e w30 ⟨v30, rfl, p30, k30⟩; (have Z30 := Lib.hid p30.pts); replace K := Lib.hid (K.out.trans k30); (obtain ⟨A30, c30, rfl, _, _⟩ := Z30.out.form); clear p30 k30))
          have d := DU.out _ K.out
          have kf := (KW.out.trans (KL.out.trans K.out)).trans_new ((Kept.putObj _ D (.deferred none)).mono (fun k (e : k = D) => e)) (fun i hi (e : i = D) => by omega)
          refine ⟨by simp, .inl ⟨_, _, rfl, run_takeDeferred d, ?_⟩⟩
          exact ⟨.bool true, by simp [results, Tryz.results4, go_sem], rfl, kf⟩
    case inr =>
      rw [hw] at HBL
      rw [Pt.bytes_short HM0.out hw] at CBF
      have CR2 := Lib.hid (fun v u (h : By u v (Pt.form false P)) => CR.out v _ false u h HFS.out)
      rw [RSH.out hw] at CR2
      generalize Pt.form false P = L2 at *
      go_upto_region 13 with (first
        | (go_at_call 28; refine (CR2.out _ _ BH.out).mono ?_; rintro e wN ⟨v10, rfl, p10, k10⟩; (have PN := Lib.hid p10.pts); (have KN := Lib.hid (KM.out.trans k10)); (obtain ⟨AN, cN, rfl, _, _⟩ := PN.out.form); clear p10 k10)
        | (go_at_call 13; refine (CBF.out _ KL.out).mono ?_; rintro e wM ⟨v9, rfl, o9, k9⟩; (have BH := Lib.hid (Bs.of_own o9).by); (have KM := Lib.hid k9); (obtain ⟨AM, cM, rfl, _, _⟩ := ow_form o9); clear o9 k9))
      have cS : wN.cell? ⟨g, 0, none⟩ = some (.bool (!false)) := (HBL.out.kept KN.out (fun x => x)).cell 0
      have K := Lib.hid KN.out
      go_upto_region 15 with (go_at_call 18; refine (SP.out _ _ KN.out PN.out).mono ?_; rintro e w15 ⟨rfl, k15⟩; replace K := Lib.hid (KN.out.trans k15); clear k15)
      go_upto_region 16 with (go_at_call 13; refine (CBQ.out _ (KL.out.trans K.out)).mono ?_; rintro e w16 ⟨v16, rfl, o16, k16⟩; (have B20 := Lib.hid (Bs.of_own o16).by); replace K := Lib.hid (K.out.trans k16); (obtain ⟨A20, c20, rfl, _, _⟩ := ow_form o16); clear o16 k16)
      have t3 : True := trivial
      have et := EQT.out
      have edt : (dd == dd) = true := beq_self_eq_true _
      go_upto_region 18 with (first
        | (go_at_call 15; refine (by_equal _ _ fb fa _ B20.out (B4U.out _ K.out)).mono ?_; rw [EQF.out]; rintro e w17 ⟨rfl, rfl⟩)
        | (go_at_call 18; refine (CSQ.out _ (KL.out.trans K.out)).mono ?_; rintro e w18 ⟨rfl, k18⟩; replace K := Lib.hid (K.out.trans k18); clear k18)
        | (go_at_call 23; (have _t := t3); refine (CTQ.out _ (KL.out.trans K.out)).mono ?_; rintro e w19 ⟨rfl, k19⟩; replace K := Lib.hid (K.out.trans k19); clear k19 t3)
        | (go_at_call 23; refine (CT.out _ (KL.out.trans K.out)).mono ?_; rintro e w20 ⟨rfl, k20⟩; replace K := Lib.hid (K.out.trans k20); clear k20))
      clear et edt edd
      have q0 := (BXU.out _ K.out).cell 0
      have q1 := (BXU.out _ K.out).cell 1
      have q2 := (BXU.out _ K.out).cell 2
      by_cases hye : ye = 0
      · subst hye
        have HY := Lib.hid (RB.out y rfl)
        have HYM := Lib.hid (RM.out y rfl)
        go_upto_region 20 with (go_at_call 28; refine (CRM.out _ K.out).mono ?_; rintro e w23 ⟨v23, rfl, p23, k23⟩; (have Y23 := Lib.hid p23.pts); replace K := Lib.hid (K.out.trans k23); (have r1 := (BXU.out _ K.out).cell 1); (obtain ⟨A23, c23, rfl, _, _⟩ := Y23.out.form); clear p23 k23)
        go_upto_region 21 with fail
        go_upto_region 22 with (go_at_call 13; refine (path_bytes _ y wd _ Y23.out (by have := HYM.out.1; omega) (fun s hs => by have := HYM.out.2 s hs; omega)).mono ?_; rw [HY.out]; rintro e w25 ⟨v25, rfl, o25, k25⟩; (have B25 := Lib.hid (Bs.of_own o25).by); replace K := Lib.hid (K.out.trans k25); (obtain ⟨A25, c25, rfl, _, _⟩ := ow_form o25); clear o25 k25)
        go_upto_region 26 with (go_at_call 15; refine (by_equal _ _ bb bb _ B25.out (BYM.out.old K.out)).mono ?_; rw [ebb]; rintro e w26 ⟨rfl, rfl⟩)
        have q3 := (BXU.out _ K.out).cell 2
        by_cases hze : ze = 0
        · subst hze
          have HZM := Lib.hid (SM.out z rfl)
          go_upto_region 27 with (go_at_call 29; refine (CPS.out _ K.out).mono ?_; rintro e w30 ⟨v30, rfl, p30, k30⟩; (have Z30 := Lib.hid p30.pts); replace K := Lib.hid (K.out.trans k30); clear p30 k30)
          have FZ := Z30.out.fits
          have CPZ := Lib.hid (CP.out (Pt.text z) (Pt.text_len HZM.out FZ))
          rw [Pt.parse_text HZM.out FZ] at CPZ
          have ZU := Lib.hid (fun u (k : Kept Nothing w30 u) => Z30.out.old k)
          have LZ := Lib.hid (Pt.may_le HZM.out)
          have K30 := K
          have J := Lib.hid (Kept.refl Nothing w30)
          obtain ⟨A30, c30, rfl, _, _⟩ := Z30.out.form
          clear FZ
          go_upto_region 30 with (first
            | (go_at_call 29; refine (CPZ.out _ (KL.out.trans (K30.out.trans J.out))).mono ?_; rintro e w32 ⟨v32, rfl, p32, k32⟩; (have Z32 := Lib.hid p32.pts); replace J := Lib.hid (J.out.trans k32); (obtain ⟨A32, c32, rfl, _, _⟩ := Z32.out.form); clear p32 k32)
            | (go_at_call 23; refine (path_text _ z _ (ZU.out _ J.out) (by have := LZ.out; omega) (HR.out.1.kept (KW.out.trans (KL.out.trans (K30.out.trans J.out)))) (HS.out.kept (KW.out.trans (KL.out.trans (K30.out.trans J.out))))).mono ?_; rintro e w31 ⟨rfl, k31⟩; replace J := Lib.hid (J.out.trans k31); clear k31))
          go_wp2_with (first
            | (go_at_call 26; refine (CW.out _ (KL.out.trans (K30.out.trans J.out))).mono ?_; rintro e w35 ⟨rfl, k35⟩; replace J := Lib.hid (J.out.trans k35); clear k35)
            | (go_at_call 18; refine (path_same _ _ z z _ (Z32.out.old JJ.out) (ZU.out _ J.out)).mono ?_; rw [decide_eq_true rfl]; rintro e w34 ⟨rfl, k34⟩; replace J := Lib.hid (J.out.trans k34); clear k34)
            | (go_at_call 16; refine (path_may _ z _ (ZU.out _ J.out) (by have := LZ.out; omega)).mono ?_; rw [HZM.out]; rintro e w33 ⟨rfl, k33⟩; replace J := Lib.hid (J.out.trans k33); (have JJ := Lib.hid k33); clear k33))
          have d := DU.out _ (K30.out.trans J.out)
          have kf := (KW.out.trans (KL.out.trans (K30.out.trans J.out))).trans_new ((Kept.putObj _ D (.deferred none)).mono (fun k (e : k = D) => e)) (fun i hi (e : i = D) => by omega)
          refine ⟨by simp, .inl ⟨_, _, rfl, run_takeDeferred d, ?_⟩⟩
          exact ⟨.bool true, by simp [results, Tryz.results4, go_sem], rfl, kf⟩
        · obtain rfl : z = [] := SN.out hze
          have hzb : ((ze : Int) == 0) = false := beq_eq_false_iff_ne.2 (by omega)
          go_wp2_with (first
            | (go_at_call 26; refine (CW.out _ (KL.out.trans K.out)).mono ?_; rintro e w35 ⟨rfl, k35⟩; replace K := Lib.hid (K.out.trans k35); clear k35)
            | (go_at_call 29; refine (CPS.out _ K.out).mono ?_; rintro e w30 ⟨v30, rfl, p30, k30⟩; (have Z30 := Lib.hid p30.pts); replace K := Lib.hid (K.out.trans k30); (obtain ⟨A30, c30, rfl, _, _⟩ := Z30.out.form); clear p30 k30))
          have d := DU.out _ K.out
          have kf := (KW.out.trans (KL.out.trans K.out)).trans_new ((Kept.putObj _ D (.deferred none)).mono (fun k (e : k = D) => e)) (fun i hi (e : i = D) => by omega)
          refine ⟨by simp, .inl ⟨_, _, rfl, run_takeDeferred d, ?_⟩⟩
          exact ⟨.bool true, by simp [results, Tryz.results4, go_sem], rfl, kf⟩
      · obtain rfl : y = [] := RN.out hye
        have hyb : ((ye : Int) == 0) = false := beq_eq_false_iff_ne.2 (by omega)
        go_upto_region 20 with (go_at_call 28; refine (CRM.out _ K.out).mono ?_; rintro e w23 ⟨v23, rfl, p23, k23⟩; (have Y23 := Lib.hid p23.pts); replace K := Lib.hid (K.out.trans k23); (obtain ⟨A23, c23, rfl, _, _⟩ := Y23.out.form); clear p23 k23)
        go_upto_region 26 with fail
        have q3 := (BXU.out _ K.out).cell 2
        by_cases hze : ze = 0
        · subst hze
          have HZM := Lib.hid (SM.out z rfl)
          go_upto_region 27 with (go_at_call 29; refine (CPS.out _ K.out).mono ?_; rintro e w30 ⟨v30, rfl, p30, k30⟩; (have Z30 := Lib.hid p30.pts); replace K := Lib.hid (K.out.trans k30); clear p30 k30)
          have FZ := Z30.out.fits
          have CPZ := Lib.hid (CP.out (Pt.text z) (Pt.text_len HZM.out FZ))
          rw [Pt.parse_text HZM.out FZ] at CPZ
          have ZU := Lib.hid (fun u (k : Kept Nothing w30 u) => Z30.out.old k)
          have LZ := Lib.hid (Pt.may_le HZM.out)
          have K30 := K
          have J := Lib.hid (Kept.refl Nothing w30)
          obtain ⟨A30, c30, rfl, _, _⟩ := Z30.out.form
          clear FZ
          go_upto_region 30 with (first
            | (go_at_call 29; refine (CPZ.out _ (KL.out.trans (K30.out.trans J.out))).mono ?_; rintro e w32 ⟨v32, rfl, p32, k32⟩; (have Z32 := Lib.hid p32.pts); replace J := Lib.hid (J.out.trans k32); (obtain ⟨A32, c32, rfl, _, _⟩ := Z32.out.form); clear p32 k32)
            | (go_at_call 23; refine (path_text _ z _ (ZU.out _ J.out) (by have := LZ.out; omega) (HR.out.1.kept (KW.out.trans (KL.out.trans (K30.out.trans J.out)))) (HS.out.kept (KW.out.trans (KL.out.trans (K30.out.trans J.out))))).mono ?_; rintro e w31 ⟨rfl, k31⟩; replace J := Lib.hid (J.out.trans k31); clear k31))
          go_wp2_with (first
            | (go_at_call 26; refine (CW.out _ (KL.out.trans (K30.out.trans J.out))).mono ?_; rintro e w35 ⟨rfl, k35⟩; replace J := Lib.hid (J.out.trans k35); clear k35)
            | (go_at_call 18; refine (path_same _ _ z z _ (Z32.out.old JJ.out) (ZU.out _ J.out)).mono ?_; rw [decide_eq_true rfl]; rintro e w34 ⟨rfl, k34⟩; replace J := Lib.hid (J.out.trans k34); clear k34)
            | (go_at_call 16; refine (path_may _ z _ (ZU.out _ J.out) (by have := LZ.out; omega)).mono ?_; rw [HZM.out]; rintro e w33 ⟨rfl, k33⟩; replace J := Lib.hid (J.out.trans k33); (have JJ := Lib.hid k33); clear k33))
          have d := DU.out _ (K30.out.trans J.out)
          have kf := (KW.out.trans (KL.out.trans (K30.out.trans J.out))).trans_new ((Kept.putObj _ D (.deferred none)).mono (fun k (e : k = D) => e)) (fun i hi (e : i = D) => by omega)
          refine ⟨by simp, .inl ⟨_, _, rfl, run_takeDeferred d, ?_⟩⟩
          exact ⟨.bool true, by simp [results, Tryz.results4, go_sem], rfl, kf⟩
        · obtain rfl : z = [] := SN.out hze
          have hzb : ((ze : Int) == 0) = false := beq_eq_false_iff_ne.2 (by omega)
          go_wp2_with (first
            | (go_at_call 26; refine (CW.out _ (KL.out.trans K.out)).mono ?_; rintro e w35 ⟨rfl, k35⟩; replace K := Lib.hid (K.out.trans k35); clear k35)
            | (go_at_call 29; refine (CPS.out _ K.out).mono ?_; rintro e w30 ⟨v30, rfl, p30, k30⟩; (have Z30 := Lib.hid p30.pts); replace K := Lib.hid (K.out.trans k30); (obtain ⟨A30, c30, rfl, _, _⟩ := Z30.out.form); clear p30 k30))
          have d := DU.out _ K.out
          have kf := (KW.out.trans (KL.out.trans K.out)).trans_new ((Kept.putObj _ D (.deferred none)).mono (fun k (e : k = D) => e)) (fun i hi (e : i = D) => by omega)
          refine ⟨by simp, .inl ⟨_, _, rfl, run_takeDeferred d, ?_⟩⟩
          exact ⟨.bool true, by simp [results, Tryz.results4, go_sem], rfl, kf⟩
end Go.Proofs.YtdeblmolgmadiaaGreatDoor
