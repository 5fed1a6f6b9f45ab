
/-
  attrs: keep, walked.
-/
import Derived.Test.YteofbpdogmajoaaGreatDoorZu
import Derived.Maps.OwnOps
namespace Go.Proofs.YteofbpdogmajoaaGreatDoor
open Go.RowKit Go.Maps
attribute [local go_sem] Oper.semAt_some
theorem nz_s (m : Nat) : ((m : Int) + 1 == 0) = false := by rw [beq_eq_false_iff_ne]; omega
attribute [local go_sem] nz_s

namespace Ax
/-- What is kept of a known type's value in a session, and its class. -/
def keepS (four outside : Bool) (a : At) (t : UInt8) (v : List UInt8) : At × Nat := if t ∈ haves four outside then keepM four a t v else (a, 1)
end Ax

theorem wf_u8 (t : UInt8) : (Lit.int .u8 (t.toNat : Int)).wf = true := by
  have : ∀ z : Fin 256, (Lit.int .u8 (z.val : Int)).wf = true := by decide +kernel
  exact this ⟨t.toNat, t.toNat_lt⟩

theorem gone_t (v : Value) : gone true v = .slice none 0 0 := rfl
theorem gone_f (v : Value) : gone false v = v := rfl
theorem AtO.drop {w : World} {B : Nat} {a : At} {pv cv qv ov : Value} (h : AtO w B a pv cv qv ov) (t : UInt8) : AtO w B (Ax.drop a t) (gone (t.toNat = 2) pv) (gone (t.toNat = 8) cv) (gone (t.toNat = 17) qv) ov := by
  obtain ⟨h1, ⟨h2, h2n⟩, h3, h4, f0, f3, f4, f5, f6, f7, f10, f11⟩ := h
  refine ⟨?_, ⟨?_, ?_⟩, ?_, h4, ?_⟩
  · by_cases e : t.toNat = 2
    · simp only [Ax.drop, e, decide_true, if_true, gone_t]; exact Pown.nil _ _
    · simp only [Ax.drop, e, decide_false, if_false, gone_f]; exact h1
  · by_cases e : t.toNat = 8
    · simp only [Ax.drop, e, decide_true, if_true, gone_t]; exact World.ownsRow_nil _ _ _ _
    · simp only [Ax.drop, e, decide_false, if_false, gone_f]; exact h2
  · by_cases e : t.toNat = 8
    · simp only [Ax.drop, e, if_true]; intro n hn; cases hn
    · simp only [Ax.drop, e, if_false]; exact h2n
  · by_cases e : t.toNat = 17
    · simp only [Ax.drop, e, decide_true, if_true, gone_t]; exact Pown.nil _ _
    · simp only [Ax.drop, e, decide_false, if_false, gone_f]; exact h3
  · have z : ∀ (c : Prop) [Decidable c] (n : Nat), n < 4294967296 → (if c then 0 else n) < 4294967296 := fun c _ n hn => by split <;> omega
    refine ⟨?_, z _ _ f3, z _ _ f4, z _ _ f5, z _ _ f6, z _ _ f7, z _ _ f10, z _ _ f11⟩
    show Ax.hasOff a t < 4294967296
    unfold Ax.hasOff
    split
    · exact Ax.off_lt _ _
    · exact f0
theorem keep_end {pa B z : Nat} {w : World} {a : At} {pv cv qv ov : Value} (hb : Blk w pa 33 (Ax.agg a pv cv qv ov)) (ho : AtO w B a pv cv qv ov) (hz : z < 4294967296) :
    Blk (w.setCell ⟨pa, 0, none⟩ (.int .u32 (z : Int))).drew pa 33 (Ax.agg { a with has := z } pv cv qv ov) ∧ AtO (w.setCell ⟨pa, 0, none⟩ (.int .u32 (z : Int))).drew B { a with has := z } pv cv qv ov := by
  have h1 : Blk (w.setCell ⟨pa, 0, none⟩ (.int .u32 (z : Int))) pa 33 (Ax.agg { a with has := z } pv cv qv ov) := hb.put 0 _
  refine ⟨h1, ?_⟩
  have h2 := (ho.off5 (Kept.own w pa 0 (.int .u32 (z : Int))) (Off5.blk hb (by decide))).off5 ((Kept.refl Nothing _).drew) (Off5.nothing _)
  exact ⟨h2.1, h2.2.1, h2.2.2.1, h2.2.2.2.1, hz, h2.2.2.2.2.2⟩

theorem rdv_has (four : Bool) (a : At) (t : UInt8) (v : List UInt8) : (Ax.rdv four a t v).has = a.has ∧ (Ax.rdv four a t v).others = a.others := by
  unfold Ax.rdv
  repeat' split
  all_goals exact ⟨rfl, rfl⟩
set_option maxRecDepth 20000 in
set_option maxHeartbeats 4000000 in
theorem at_keep (pa pb pf b B : Nat) (four outside : Bool) (f t : UInt8) (x : Value) (v : List UInt8) (a : At) (pv cv qv ov : Value) (w : World)
    (hb : Blk w pa 33 (Ax.agg a pv cv qv ov)) (ho : AtO w B a pv cv qv ov) (hbb : Blk w pb 133 #[.pointer (some ⟨pa, 0, none⟩)]) (hbf : Blk w pf 4 #[.bool four]) (hm : Rdm w pb pf b four outside) (hB : B ≤ w.heap.size)
    (hx : By w x v) (hl : v.length ≤ 70000) (ht : Wtd w) (hsm : Ax.small a) (hk : Ax.known t = true) (hpg : pa ≠ 0) :
    Calls Tryz.prog 30 #[.pointer (some ⟨pa, 0, none⟩), .agg #[.int .u8 (f.toNat : Int), .int .u8 (t.toNat : Int), x], .map (some b)] w fun e w' => e = .returned (.int .i64 ((Ax.keepS four outside a t v).2 : Int)) ∧
      (∃ pv' cv' qv', Blk w' pa 33 (Ax.agg (Ax.keepS four outside a t v).1 pv' cv' qv' ov) ∧ AtO w' B (Ax.keepS four outside a t v).1 pv' cv' qv' ov) ∧ Kept (Only pa) w w' := by
  obtain ⟨Ax_, cx, rfl, -, -⟩ := hx.form
  obtain ⟨D, n, hown, hgd⟩ := hm
  have hhas := (hgd.2 t).1
  obtain ⟨t0, r0, -⟩ := fnR_mk pb pf 0
  replace r0 : fnR pb pf .nilFunc = some (.lit (.int .u8 (t0.toNat : Int)), []) := r0
  have R0 := Lib.hid r0
  have hkey : keyOf Tryz.prog 5 (.int .u8 (t.toNat : Int)) = some (keyT t) := keyOf_int_mk Tryz.underlying5 (wf_u8 t)
  have k1 := (Kept.refl Nothing w).alloc (.cells #[.int .u8 (f.toNat : Int), .int .u8 (t.toNat : Int), .slice Ax_ v.length cx] 73)
  have bo := Blk.fresh w 73 #[.int .u8 (f.toNat : Int), .int .u8 (t.toNat : Int), .slice Ax_ v.length cx]
  have KEY := Lib.hid hkey
  have OWN := Lib.hid (hown.alloc (.cells #[.int .u8 (f.toNat : Int), .int .u8 (t.toNat : Int), .slice Ax_ v.length cx] 73))
  have BO := Lib.hid bo
  have K1 := Lib.hid k1
  have HX := Lib.hid (hx.old k1)
  have c0 := bo.cell 1
  have c2 := bo.cell 2
  have HGD := Lib.hid hgd
  clear r0 hkey k1 bo hown
  by_cases hin : t ∈ Ax.haves four outside
  · have HE : Hid (Ax.keepS four outside a t v = Ax.keepM four a t v) := Lib.hid (if_pos hin)
    rw [decide_eq_true hin] at hhas
    have HHAS := Lib.hid hhas
    obtain ⟨N, cb, hfn, en, hcl⟩ := reader_did pa pb pf t hk
    have HCL := Lib.hid hcl
    obtain ⟨t', hat, hte⟩ := (hgd.2 t).2 hin
    have HAT := Lib.hid (fun v ps (h : fnR pb pf v = some (D.atKey (keyT t) (.lit (.int .u8 (t0.toNat : Int))), ps)) => show v = .func (.func N) #[] cb from by rw [← hfn, ← hte]; exact fnR_val (by rw [hat] at h; exact h))
    rw [HE.out]
    clear hin HE hgd hhas hcl hat hte hfn hk
    go_enter Tryz.func30, Tryz.ntmps30
    go_wp2_with (at_lookup; refine wpList_lookup_own_ok _ rfl _ _ 80 rfl 5 135 keyedU8 Tryz.underlying80 (fnR pb pf) (Tryz.zeroValue135 _) (.lit (.int .u8 (t0.toNat : Int))) [] R0.out b n D rfl OWN.out _ (keyT t) rfl KEY.out ?_; intro v1 ps hv1; (obtain rfl := HAT.out _ _ hv1); rw [HHAS.out])
    refine (rd_new _ v _ HX.out (by omega)).mono ?_
    rintro e w2 ⟨p, rfl, r2, k2, hp⟩
    go_wp2_with fail
    have hpaw := hb.lt
    have hpw : w.heap.size + 1 ≤ p := by rw [World.size_alloc] at hp; exact hp
    refine (HCL.out p B four w2 v a pv cv qv ov ⟨r2, hb.kept (K1.out.trans k2) (fun x => x), ho.off5 (K1.out.trans k2) (Off5.nothing _), hbb.kept (K1.out.trans k2) (fun x => x), hbf.kept (K1.out.trans k2) (fun x => x), Nat.le_trans hB (K1.out.trans k2).size⟩ (by omega)).mono ?_
    rintro e w3 ⟨rfl, ⟨s3, a3, pv3, cv3, qv3, re3, hw3, hval3, hdrop3, hsm3, hnn3⟩, k3⟩
    have hpp : w.heap.size ≠ p := by omega
    have hppa : w.heap.size ≠ pa := by omega
    have bo3 := (BO.out.kept k2 (fun x => x)).kept k3 (fun x => x.elim hpp hppa)
    have K3 : Hid (Kept (Only pa) w w3) := Lib.hid (((K1.out.trans k2).mono (fun _ x => x.elim)).trans_new k3 (fun i hi h => h.elim (fun e => by omega) (fun e => e)))
    have WT3 : Hid (Wtd w3) := Lib.hid ((ht.kept (K1.out.trans k2)).keptS k3 (fun x => x.elim (fun e => by have := ht.lt; omega) (fun e => hpg e.symm)))
    have BO3 := Lib.hid bo3
    have RE3 := Lib.hid re3
    have HS3 := Lib.hid (hsm3 hsm)
    have HV3 := Lib.hid hval3
    have HD3 := Lib.hid hdrop3
    have HW3 := Lib.hid hw3
    have q1 := bo3.cell 1
    obtain ⟨Ap, np, rfl, -, -⟩ := (show ∃ A c, pv3 = .slice A a3.path.length c ∧ _ ∧ _ from re3.own.1.pts.form)
    obtain ⟨Ac, nc, rfl, -, -⟩ := ow_form re3.own.2.1.1
    obtain ⟨Aq, nq, rfl, -, -⟩ := (show ∃ A c, qv3 = .slice A a3.path4.length c ∧ _ ∧ _ from re3.own.2.2.1.pts.form)
    obtain ⟨Ao, no, rfl, -, -⟩ := re3.own.2.2.2.1.ots.form
    clear r2 k2 hp hb ho hbb hbf hx ht hsm hB KEY OWN BO K1 HX c0 c2 HGD HHAS HCL HAT re3 k3 hw3 hval3 hdrop3 hsm3 bo3 R0
    have HDROP := Lib.hid (fun u (hb : Blk u pa 33 (Ax.agg a3 (.slice Ap a3.path.length np) (.slice Ac a3.comms.length nc) (.slice Aq a3.path4.length nq) (.slice Ao a3.others.length no))) (h : Wtd u) => at_drop pa a3 _ _ _ _ t u hb h)
    have HLOST := Lib.hid (fun u => lost_any t u)
    have HPPA := Lib.hid hppa
    clear hppa hpp
    by_cases he : s3.e = 0
    · by_cases hl0 : s3.left = 0
      · have HOK : Hid (Ax.okv four t v = true) := Lib.hid (by rw [← HW3.out]; unfold RS.well; rw [he, hl0]; rfl)
        have HA : Hid (a3 = Ax.rdv four a t v) := Lib.hid (HV3.out HOK.out)
        have HERR := Lib.hid (fun u (h : Rd u p s3) => show Calls Tryz.prog _ _ u fun r w' => r = .returned (.int .i64 0) ∧ u = w' from by have := rd_err p s3 u h; rw [he] at this; exact this)
        have HLEFT := Lib.hid (fun u (h : Rd u p s3) => show Calls Tryz.prog _ _ u fun r w' => r = .returned (.int .i64 0) ∧ ∃ n, w' = u.drewN n from by have := rd_left p s3 u h; rw [hl0] at this; exact this)
        have HRIGHT := Lib.hid (fun u (k : Kept Nothing w3 u) => at_right a3 _ _ _ _ t u ((RE3.out.own.off5 k (Off5.nothing _)).atp (RE3.out.own.2.2.2.1.off5 k (Off5.nothing _)).ots) (by have := HS3.out.1; omega) (by have := HS3.out.2.1; omega) (fun s hs => by have := HS3.out.2.2.2 s hs; omega))
        have g0 := RE3.out.blk.cell 0
        have g1 := RE3.out.blk.cell 1
        have g2 := RE3.out.blk.cell 2
        have g3 := RE3.out.blk.cell 3
        have g4 := RE3.out.blk.cell 4
        have g5 := RE3.out.blk.cell 5
        have g6 := RE3.out.blk.cell 6
        have g7 := RE3.out.blk.cell 7
        have g8 := RE3.out.blk.cell 8
        have g9 := RE3.out.blk.cell 9
        have g10 := RE3.out.blk.cell 10
        have g11 := RE3.out.blk.cell 11
        have g12 := RE3.out.blk.cell 12
        unfold Ax.agg at g0 g1 g2 g3 g4 g5 g6 g7 g8 g9 g10 g11 g12 HRIGHT
        clear he hl0 HW3
        have HBI := Lib.hid (fun u => bit_any7 t u)
        have HAH : Hid (a3.has = a.has) := Lib.hid (by rw [HA.out]; exact (rdv_has four a t v).1)
        obtain ⟨rt, hrt⟩ : ∃ rt, Ax.right a3 t = rt := ⟨_, rfl⟩
        rw [hrt] at HRIGHT
        have HRT := Lib.hid hrt
        clear hrt
        cases rt with
        | true =>
          have HM : Hid (Ax.keepM four a t v = ({ a3 with has := a.has ||| Ax.bit t }, 0)) := Lib.hid (by
            unfold Ax.keepM
            rw [if_pos (by rw [HOK.out, ← HA.out, HRT.out]; rfl), ← HA.out])
          go_upto_region 6 with fail
          go_region_law (first
            | (go_simp; go_at_call 44; refine (HRIGHT.out _ (by exact (Kept.refl Nothing w3).drewN _)).mono ?_; rintro e w6 ⟨rfl, k6⟩; (have K6 := Lib.hid k6); clear k6)
            | (go_simp; go_at_call 24; refine (HLEFT.out _ (by exact RE3.out.rd.drewN 1)).mono ?_; rintro e w5 ⟨rfl, m5, rfl⟩)
            | (go_simp; go_at_call 27; refine (HERR.out _ (by exact RE3.out.rd.drewN 1)).mono ?_; rintro e w4 ⟨rfl, rfl⟩))
          all_goals
            have K7 := Lib.hid (((Kept.refl Nothing w3).drewN (1 + m5)).trans K6.out)
            have RE7 := Lib.hid (RE3.out.old K7.out)
            have h0 := RE7.out.blk.cell 0
            have f0 := RE7.out.blk.free 0
            have hq1 := (BO3.out.kept K7.out (fun x => x)).cell 1
            have HOR : Hid (bits .or .u32 (a3.has : Int) (Ax.bit t : Int) = ((a3.has ||| Ax.bit t : Nat) : Int)) := Lib.hid (bits_or_u32_nat _ _ RE3.out.own.2.2.2.2.1 (bit_lt t))
            have hor := HOR.out
            have HLT : Hid (a3.has ||| Ax.bit t < 4294967296) := Lib.hid (Nat.or_lt_two_pow (n := 32) RE3.out.own.2.2.2.2.1 (bit_lt t))
            unfold Ax.agg at h0
            generalize hz : a3.has ||| Ax.bit t = z at *
            have HZ := Lib.hid hz
            clear hz
            go_upto_region 7 with fail
            go_region_law (go_simp; go_at_call 45; refine (HBI.out _).mono ?_; rintro e w8 ⟨rfl, rfl⟩)
            all_goals
              go_wp2
              go_ret
              have HE2 := keep_end RE7.out.blk RE7.out.own HLT.out
              have hz2 : a.has ||| Ax.bit t = z := by rw [← HZ.out, HAH.out]
              refine ⟨by rw [HM.out]; rfl, ⟨_, _, _, by rw [HM.out, hz2]; exact HE2.1, by rw [HM.out, hz2]; exact HE2.2⟩, ?_⟩
              exact (((K3.out.trans (K7.out.mono (fun _ x => x.elim))).trans (Kept.own w6 pa 0 (.int .u32 (z : Int)))).trans ((Kept.refl _ _).drew))
        | false =>
          have HM : Hid (Ax.keepM four a t v = (Ax.drop a t, Ax.lost t)) := Lib.hid (by
            unfold Ax.keepM
            rw [if_neg (by rw [← HA.out, HRT.out]; simp)])
          go_upto_region 6 with fail
          go_region_law (first
            | (go_simp; go_at_call 44; refine (HRIGHT.out _ (by exact (Kept.refl Nothing w3).drewN _)).mono ?_; rintro e w6 ⟨rfl, k6⟩; (have K6 := Lib.hid k6); clear k6)
            | (go_simp; go_at_call 24; refine (HLEFT.out _ (by exact RE3.out.rd.drewN 1)).mono ?_; rintro e w5 ⟨rfl, m5, rfl⟩)
            | (go_simp; go_at_call 27; refine (HERR.out _ (by exact RE3.out.rd.drewN 1)).mono ?_; rintro e w4 ⟨rfl, rfl⟩))
          all_goals
            have K7 := Lib.hid (((Kept.refl Nothing w3).drewN (1 + m5)).trans K6.out)
            have RE7 := Lib.hid (RE3.out.old K7.out)
            have WT7 := Lib.hid (WT3.out.kept K7.out)
            have hq1 := (BO3.out.kept K7.out (fun x => x)).cell 1
            go_wp2_with (first
              | (go_at_call 88; refine (HLOST.out _).mono ?_; rintro e w9 ⟨rfl, e9⟩; cases e9)
              | (go_at_call 43; refine (HDROP.out _ RE7.out.blk WT7.out).mono ?_; rintro e w8 ⟨⟨v8, rfl⟩, b8, k8⟩; (have B8 := Lib.hid b8); (have K8 := Lib.hid k8); (have q8 := ((BO3.out.kept K7.out (fun x => x)).kept k8 (fun e => HPPA.out e)).cell 1); clear b8 k8))
            go_ret
            refine ⟨by rw [HM.out]; rfl, ⟨_, _, _, by rw [HM.out, ← HD3.out]; exact B8.out, by rw [HM.out, ← HD3.out]; exact (RE7.out.own.off5 K8.out (Off5.blk RE7.out.blk (by decide))).drop t⟩, (K3.out.trans (K7.out.mono (fun _ x => x.elim))).trans K8.out⟩
      · have HOK : Hid (Ax.okv four t v = false) := Lib.hid (by rw [← HW3.out]; unfold RS.well; simp [hl0])
        have HM : Hid (Ax.keepM four a t v = (Ax.drop a t, Ax.lost t)) := Lib.hid (by
          unfold Ax.keepM
          rw [if_neg (by rw [HOK.out]; simp)])
        have HERR := Lib.hid (fun u (h : Rd u p s3) => show Calls Tryz.prog _ _ u fun r w' => r = .returned (.int .i64 0) ∧ u = w' from by have := rd_err p s3 u h; rw [he] at this; exact this)
        obtain ⟨m3, hm3⟩ : ∃ m, s3.left = m + 1 := ⟨s3.left - 1, by omega⟩
        have HLEFT := Lib.hid (fun u (h : Rd u p s3) => show Calls Tryz.prog _ _ u fun r w' => r = .returned (.int .i64 (Int.ofNat (m3 + 1))) ∧ ∃ n, w' = u.drewN n from by have := rd_left p s3 u h; rw [hm3] at this; exact this)
        clear hm3
        clear he hl0 HW3 HV3
        go_upto_region 6 with fail
        first | (go_region_law (first
          | (go_simp; go_at_call 24; refine (HLEFT.out _ (by exact RE3.out.rd.drewN 1)).mono ?_; rintro e w5 ⟨rfl, m5, rfl⟩)
          | (go_simp; go_at_call 27; refine (HERR.out _ (by exact RE3.out.rd.drewN 1)).mono ?_; rintro e w4 ⟨rfl, rfl⟩))) | fail
        all_goals
          have K7 := Lib.hid ((Kept.refl Nothing w3).drewN (1 + m5))
          have RE7 := Lib.hid (RE3.out.old K7.out)
          have WT7 := Lib.hid (WT3.out.kept K7.out)
          have hq1 := (BO3.out.kept K7.out (fun x => x)).cell 1
          go_wp2_with (first
            | (go_at_call 88; refine (HLOST.out _).mono ?_; rintro e w9 ⟨rfl, e9⟩; cases e9)
            | (go_at_call 43; refine (HDROP.out _ RE7.out.blk WT7.out).mono ?_; rintro e w8 ⟨⟨v8, rfl⟩, b8, k8⟩; (have B8 := Lib.hid b8); (have K8 := Lib.hid k8); (have q8 := ((BO3.out.kept K7.out (fun x => x)).kept k8 (fun e => HPPA.out e)).cell 1); clear b8 k8))
          go_ret
          refine ⟨by rw [HM.out]; rfl, ⟨_, _, _, by rw [HM.out, ← HD3.out]; exact B8.out, by rw [HM.out, ← HD3.out]; exact (RE7.out.own.off5 K8.out (Off5.blk RE7.out.blk (by decide))).drop t⟩, (K3.out.trans (K7.out.mono (fun _ x => x.elim))).trans K8.out⟩
    · have HOK : Hid (Ax.okv four t v = false) := Lib.hid (by rw [← HW3.out]; unfold RS.well; simp [he])
      have HM : Hid (Ax.keepM four a t v = (Ax.drop a t, Ax.lost t)) := Lib.hid (by
        unfold Ax.keepM
        rw [if_neg (by rw [HOK.out]; simp)])
      obtain ⟨m3, hm3⟩ : ∃ m : Nat, s3.e = Int.ofNat (m + 1) := ⟨s3.e.toNat - 1, by show s3.e = ((s3.e.toNat - 1 + 1 : Nat) : Int); omega⟩
      have HERR := Lib.hid (fun u (h : Rd u p s3) => show Calls Tryz.prog _ _ u fun r w' => r = .returned (.int .i64 (Int.ofNat (m3 + 1))) ∧ u = w' from by have := rd_err p s3 u h; rw [hm3] at this; exact this)
      clear hm3
      clear he HW3 HV3
      go_upto_region 6 with fail
      first | (go_region_law (go_simp; go_at_call 27; refine (HERR.out _ (by exact RE3.out.rd.drewN 1)).mono ?_; rintro e w4 ⟨rfl, rfl⟩)) | fail
      all_goals
        have K7 := Lib.hid ((Kept.refl Nothing w3).drew)
        have RE7 := Lib.hid (RE3.out.old K7.out)
        have WT7 := Lib.hid (WT3.out.kept K7.out)
        have hq1 := (BO3.out.kept K7.out (fun x => x)).cell 1
        go_wp2_with (first
          | (go_at_call 88; refine (HLOST.out _).mono ?_; rintro e w9 ⟨rfl, e9⟩; cases e9)
          | (go_at_call 43; refine (HDROP.out _ RE7.out.blk WT7.out).mono ?_; rintro e w8 ⟨⟨v8, rfl⟩, b8, k8⟩; (have B8 := Lib.hid b8); (have K8 := Lib.hid k8); (have q8 := ((BO3.out.kept K7.out (fun x => x)).kept k8 (fun e => HPPA.out e)).cell 1); clear b8 k8))
        go_ret
        refine ⟨by rw [HM.out]; rfl, ⟨_, _, _, by rw [HM.out, ← HD3.out]; exact B8.out, by rw [HM.out, ← HD3.out]; exact (RE7.out.own.off5 K8.out (Off5.blk RE7.out.blk (by decide))).drop t⟩, (K3.out.trans (K7.out.mono (fun _ x => x.elim))).trans K8.out⟩
  · have HE : Hid (Ax.keepS four outside a t v = (a, 1)) := Lib.hid (if_neg hin)
    rw [decide_eq_false hin] at hhas
    have HHAS := Lib.hid hhas
    clear hin hgd hhas hk
    go_enter Tryz.func30, Tryz.ntmps30
    go_wp2_with (at_lookup; refine wpList_lookup_own_ok _ rfl _ _ 80 rfl 5 135 keyedU8 Tryz.underlying80 (fnR pb pf) (Tryz.zeroValue135 _) (.lit (.int .u8 (t0.toNat : Int))) [] R0.out b n D rfl OWN.out _ (keyT t) rfl KEY.out ?_; intro v1 ps hv1; rw [HHAS.out])
    go_ret
    exact ⟨by rw [HE.out]; rfl, ⟨_, _, _, by rw [HE.out]; exact hb.kept K1.out (fun x => x), by rw [HE.out]; exact ho.off5 K1.out (Off5.nothing _)⟩, K1.out.mono (fun _ x => x.elim)⟩
end Go.Proofs.YteofbpdogmajoaaGreatDoor
