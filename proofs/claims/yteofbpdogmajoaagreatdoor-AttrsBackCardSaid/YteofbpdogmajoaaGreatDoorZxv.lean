
/-
  The law AttrsBack: what is laid is read again; cut short (printed by wip/gen_xv.py).
-/
import Derived.Test.YteofbpdogmajoaaGreatDoorZxa
import Derived.Test.YteofbpdogmajoaaGreatDoorZxo
import Derived.Test.YteofbpdogmajoaaGreatDoorZxg
namespace Go.Proofs.YteofbpdogmajoaaGreatDoor
open Go.RowKit

namespace Ax
theorem off_none {x y : Nat} (h : ∀ i, x.testBit i = true → y.testBit i = true) : off x y = 0 := by
  refine Nat.eq_of_testBit_eq (fun i => ?_)
  unfold off
  rw [BitVec.testBit_toNat, BitVec.getLsbD_and, BitVec.getLsbD_not, BitVec.getLsbD_ofNat, BitVec.getLsbD_ofNat, Nat.zero_testBit]
  cases e : x.testBit i with
  | false => simp
  | true => rw [h i e]; simp
/-- What is known of what is laid. -/
structure Bp (four : Bool) (m : At) (B : List UInt8) : Prop where
  may : mayM m = true
  put : putM m four = (B, 0)
  len : B.length ≤ 2000000
  one : get B four false = (cutA four false m, 0, [])
  two : get B four true = (cutA four true m, if is m 5 = true then 1 else 0, [])
  no : B = [] → m.has &&& 510 = 0
  last : B ≠ [] → get (B.take (B.length - 1)) four false = (zeroA, 2, [])
  cut : ∀ k, ∃ y c, get (B.take k) four false = (y, c, []) ∧ (c = 0 ∨ (c = 2 ∧ y = zeroA)) ∧ ∀ i, y.has.testBit i = true → m.has.testBit i = true
theorem and_510 (x : Nat) (h : ∀ t : UInt8, known t = true → t.toNat ≤ 8 → x.testBit t.toNat = false) : x &&& 510 = 0 := by
  refine Nat.eq_of_testBit_eq (fun i => ?_)
  rw [Nat.testBit_and, Nat.zero_testBit]
  by_cases hi : i < 9
  · have : ∀ z : Fin 9, Nat.testBit 510 z.val = false ∨ (known (UInt8.ofNat z.val) = true ∧ (UInt8.ofNat z.val).toNat = z.val) := by decide
    rcases this ⟨i, hi⟩ with h1 | ⟨h1, h2⟩
    · simp only at h1
      rw [h1, Bool.and_false]
    · simp only at h1 h2
      have := h _ h1 (by omega)
      rw [h2] at this
      rw [this, Bool.false_and]
  · have : Nat.testBit 510 i = false := Nat.testBit_lt_two_pow (Nat.lt_of_lt_of_le (by decide : 510 < 2 ^ 9) (Nat.pow_le_pow_right (by decide) (by omega)))
    rw [this, Bool.and_false]
theorem back_pure {four : Bool} {m : At} (h : Mg four m) : ∃ B, Bp four m B := by
  obtain ⟨L, hL⟩ := put_list h.av h.ov h.so
  have hkn : ∀ o ∈ m.others, known o.t = false := fun o ho => (h.ov.ok o ho).2.1
  have hg : ∀ outside, get (putM m four).1 four outside = fin (aft four outside L) := fun outside => by
    have := hL.get outside []
    rw [List.append_nil] at this
    exact this
  refine ⟨(putM m four).1, may_goodA h.av h.ov h.so, by rw [hL.put], ?_, ?_, ?_, fun he => ?_, fun hne => hL.last hne, fun k => ?_⟩
  · rw [hL.put]
    have h1 := forms_len L (fun o ho => (hL.ro o ho).1)
    have h2 := hL.len
    have h3 := h.ol
    have h4 : L.length * 65539 ≤ 25 * 65539 := Nat.mul_le_mul_right _ (by omega)
    exact Nat.le_trans h1 (Nat.le_trans h4 (by decide))
  · rw [hg, hL.fin h.av hkn false]; rfl
  · rw [hg, hL.fin h.av hkn true]
    simp
  · rw [hL.put] at he
    have hl : L = [] := by
      have := forms_big L
      simp only at he
      rw [he] at this
      exact List.eq_nil_of_length_eq_zero (by simp at this; omega)
    refine and_510 _ (fun t hk ht => ?_)
    cases hb : m.has.testBit t.toNat with
    | false => rfl
    | true =>
      exfalso
      have hlay : lays m four t = true := by
        unfold lays
        rw [is_known m hk, hb, hk]
        have : beside t = false := by
          revert ht
          rcases known_cases t hk with rfl | rfl | rfl | rfl | rfl | rfl | rfl | rfl | rfl | rfl <;> decide
        rw [this]
        simp
      have := (hL.mem ⟨wanted t, t, (val m four t).1⟩).2 (.inr ⟨hlay, rfl, rfl⟩)
      rw [hl] at this
      cases this
  · rcases hL.cut hkn k with h1 | ⟨y, h1, h2⟩
    · exact ⟨_, _, h1, .inr ⟨rfl, rfl⟩, fun i hi => by rw [show zeroA.has = 0 from rfl, Nat.zero_testBit] at hi; cases hi⟩
    · exact ⟨y, 0, h1, .inl rfl, h2⟩
end Ax
end Go.Proofs.YteofbpdogmajoaaGreatDoor
namespace Go.Proofs.YteofbpdogmajoaaGreatDoor
open Go.RowKit
attribute [local go_sem] Oper.semAt_some

def ksBk (Y : At) : Nat → Value → World → Prop
  | 16, v, w => ∃ p c q o, v = .agg (Ax.agg Y p c q o) ∧ Atp w Y p c q o
  | _, _, _ => True
theorem ksBk_stab (Y : At) (k : Nat) (v : Value) (w w' : World) (kk : Kept Nothing w w') (h : ksBk Y k v w) : ksBk Y k v w' := by
  unfold ksBk at h ⊢
  split at h
  all_goals first
    | (obtain ⟨p, c, q, o, h1, h2⟩ := h; exact ⟨p, c, q, o, h1, h2.old kk⟩)
    | trivial

set_option maxRecDepth 20000 in
set_option maxHeartbeats 8000000 in
theorem back_law (a : At) (pv cv qv ov : Value) (four : Bool) (q : Nat) (hq : q < 65536) (w : World) (h : Atp w a pv cv qv ov) (ht : Wtd w) :
    Calls Tryz.prog 4 #[.agg (Ax.agg a pv cv qv ov), .bool four, .int .u16 (q : Int)] w fun e w' => e = .returned (.bool true) ∧ Kept Nothing w w' := by
  have hg := Ax.made_good a four h.2.2.2.2 h.1.fits h.2.2.1.fits h.2.1.1
  obtain ⟨B, hE⟩ := Ax.back_pure hg
  have HE := Lib.hid hE
  have HT := Lib.hid ht
  have HMD := Lib.hid (fun u (k : Kept Nothing w u) => at_made a pv cv qv ov four u (h.old k) (ht.kept k))
  obtain ⟨m, hm⟩ : ∃ m, Ax.made10 a four = m := ⟨_, rfl⟩
  rw [hm] at HMD hg HE
  have HG := Lib.hid hg
  have HPU := Lib.hid (fun (pv cv qv ov : Value) u (h : Atp u m pv cv qv ov) (ht : Wtd u) => at_put m pv cv qv ov four u h ht hg.small (by have := hg.comms; omega) (by have := hg.ol; omega))
  rw [HE.out.put] at HPU
  have HMY := Lib.hid (fun (pv cv qv ov : Value) u (h : Atp u m pv cv qv ov) (ht : Wtd u) => at_may m pv cv qv ov u h ht hg.small)
  rw [HE.out.may] at HMY
  have HWO := Lib.hid (fun (m' : At) (t : UInt8) (hm' : Ax.small m' ∧ m'.comms.length ≤ 70) (ho : m'.others = m.others) (hk : Ax.known t = true) (pv cv qv ov : Value) u (h : Atp u m' pv cv qv ov) (ht : Wtd u) => at_without m' pv cv qv ov t u h ht hm'.1 (by have := hm'.2; omega) (by rw [ho]; have := hg.ol; omega) (fun o hh => by rw [ho] at hh; have := (hg.ot o hh).2; omega) (fun o hh e => by rw [ho] at hh; have := (hg.ov.ok o hh).2.1; rw [e, hk] at this; cases this))
  obtain ⟨Ep, ep, rfl, -, -⟩ := (show ∃ A c, pv = .slice A a.path.length c ∧ _ ∧ _ from h.1.form)
  obtain ⟨Ec, ec, rfl, -, -⟩ := h.2.1.form
  obtain ⟨Eq', eq', rfl, -, -⟩ := (show ∃ A c, qv = .slice A a.path4.length c ∧ _ ∧ _ from h.2.2.1.form)
  obtain ⟨Eo, eo, rfl, -, -⟩ := h.2.2.2.1.form
  clear hE hg hm h ht
  go_enter Tryz.func4, Tryz.ntmps4
  go_upto_region 1 with fail
  obtain ⟨W0, hW0⟩ : ∃ W0, w.alloc (.cells (Ax.agg a (.slice Ep a.path.length ep) (.slice Ec a.comms.length ec) (.slice Eq' a.path4.length eq') (.slice Eo a.others.length eo)) 33) = W0 := ⟨_, rfl⟩
  have K0 : Hid (Kept Nothing w W0) := Lib.hid (by rw [← hW0]; exact (Kept.refl Nothing _).alloc _)
  have B0 : Hid (Blk W0 w.heap.size 33 (Ax.agg a (.slice Ep a.path.length ep) (.slice Ec a.comms.length ec) (.slice Eq' a.path4.length eq') (.slice Eo a.others.length eo))) := Lib.hid (by rw [← hW0]; exact Blk.fresh w _ _)
  rw [hW0]
  clear hW0
  go_upto_region 2 with (first
    | (refine wpList_store_row rfl 33 _ _ rfl w.heap.size (Ax.agg m pv1 cv1 qv1 ov1) rfl rfl 33 _ B1.out (by kernel_rfl) rfl (AtO.one N1.out) ?_)
    | (go_at_call 13; refine (HMD.out _ K0.out).mono ?_; rintro e w1 ⟨pv1, cv1, qv1, ov1, rfl, n1, k1⟩; (have N1 := Lib.hid (n1.weak K0.out.size)); (have B1 := Lib.hid (B0.out.kept k1 (fun x => x))); (have K1 := Lib.hid (K0.out.trans k1)); clear n1 k1)
    | (refine wpList_load_row rfl 33 _ rfl w.heap.size rfl 33 _ (0, 0) _ B0.out Tryz.underlying33 rfl (by kernel_rfl) ?_))
  simp only [Act.put]
  have kz : Kept (Only w.heap.size) w1 (w1.setRow w.heap.size (Ax.agg m pv1 cv1 qv1 ov1)) := Kept.setRow _ _
  have BM : Hid (Blk (w1.setRow w.heap.size (Ax.agg m pv1 cv1 qv1 ov1)) w.heap.size 33 (Ax.agg m pv1 cv1 qv1 ov1)) := Lib.hid (setRow_heap w1 _ _ _ _ _ B1.out)
  have NM := Lib.hid (N1.out.off5 kz (Off5.blk B1.out (by decide))).atp2
  have KM := Lib.hid (K1.out.trans_new kz (fun i hi (e : i = w.heap.size) => by omega))
  generalize w1.setRow w.heap.size (Ax.agg m pv1 cv1 qv1 ov1) = W1 at *
  clear kz N1 B1 K1 B0 K0 HMD
  obtain ⟨Bp, np, rfl, -, -⟩ := (show ∃ A c, pv1 = .slice A m.path.length c ∧ _ ∧ _ from NM.out.1.form)
  obtain ⟨Bc, nc, rfl, -, -⟩ := NM.out.2.1.form
  obtain ⟨Bq, nq, rfl, -, -⟩ := (show ∃ A c, qv1 = .slice A m.path4.length c ∧ _ ∧ _ from NM.out.2.2.1.form)
  obtain ⟨Bo, no, rfl, -, -⟩ := NM.out.2.2.2.1.form
  have HM1 := Lib.hid (HMY.out _ _ _ _ W1 NM.out (HT.out.kept KM.out))
  clear HMY
  go_upto_region 4 with (first
    | (go_at_call 14; refine (HM1.out).mono ?_; rintro e W2 ⟨rfl, k2⟩; (have K12 := Lib.hid k2); clear k2)
    | (refine wpList_load_row rfl 33 _ rfl w.heap.size rfl 33 _ (0, 0) _ BM.out Tryz.underlying33 rfl (by kernel_rfl) ?_))
  have BM2 := Lib.hid (BM.out.kept K12.out (fun x => x))
  have K2 := Lib.hid (KM.out.trans K12.out)
  have HP1 := Lib.hid (HPU.out _ _ _ _ W2 (NM.out.old K12.out) (HT.out.kept K2.out))
  clear HPU HM1 BM
  go_upto_region 5 with (first
    | (go_at_call 15; refine (HP1.out).mono ?_; rintro e W3 ⟨u, rfl, o2, k2⟩; (obtain ⟨Ab, nb, rfl, -, -⟩ := ow_form o2); (have HBB : Hid (By W3 (.slice Ab B.length nb) B) := Lib.hid (own_by o2 rfl)); (have K23 := Lib.hid k2); clear o2 k2)
    | (refine wpList_load_row rfl 33 _ rfl w.heap.size rfl 33 _ (0, 0) _ BM2.out Tryz.underlying33 rfl (by kernel_rfl) ?_))
  have BM3 := Lib.hid (BM2.out.kept K23.out (fun x => x))
  have K3 := Lib.hid (K2.out.trans K23.out)
  have NM3 := Lib.hid (NM.out.old (K12.out.trans K23.out))
  clear HP1 BM2 NM
  go_upto_if 31 with (first
    | (refine wpList_store_row rfl 33 _ _ rfl W3.heap.size (Ax.agg m (.slice Bp m.path.length np) (.slice Bc m.comms.length nc) (.slice Bq m.path4.length nq) (.slice Bo m.others.length no)) rfl rfl 33 _ (Blk.fresh W3 _ _) (by kernel_rfl) rfl (Ax.agg_one ..) ?_)
    | (refine wpList_load_row rfl 33 _ rfl w.heap.size rfl 33 _ (0, 0) _ BM3.out Tryz.underlying33 rfl (by kernel_rfl) ?_))
  obtain ⟨W4, hW4⟩ : ∃ W4, (W3.alloc (.cells #[.int .u32 0, .int .u8 0, .slice none 0 0, .int .u32 0, .int .u32 0, .int .u32 0, .int .u32 0, .int .u32 0, .slice none 0 0, .slice none 0 0, .int .u32 0, .int .u32 0, .slice none 0 0] 33)).setRow W3.heap.size (Ax.agg m (.slice Bp m.path.length np) (.slice Bc m.comms.length nc) (.slice Bq m.path4.length nq) (.slice Bo m.others.length no)) = W4 := ⟨_, rfl⟩
  have K34 : Hid (Kept Nothing W3 W4) := Lib.hid (by rw [← hW4]; exact ((Kept.refl Nothing W3).alloc _).trans_new (Kept.setRow _ _) (fun i hi (e : i = W3.heap.size) => by omega))
  have BW4 : Hid (Blk W4 W3.heap.size 33 (Ax.agg m (.slice Bp m.path.length np) (.slice Bc m.comms.length nc) (.slice Bq m.path4.length nq) (.slice Bo m.others.length no))) := Lib.hid (by rw [← hW4]; exact setRow_heap _ _ _ _ _ _ (Blk.fresh W3 _ _))
  rw [hW4]
  clear hW4
  have NM4 := Lib.hid (NM3.out.old K34.out)
  have K4 := Lib.hid (K3.out.trans K34.out)
  have HR34 : Hid (W3.heap.size < W4.heap.size) := Lib.hid BW4.out.lt
  go_cut [] (fun wx => ∃ Cp cp Cc cc Cq cq Co co, Hid (Blk wx W3.heap.size 33 (Ax.agg (Ax.cutA four false m) (.slice Cp (Ax.cutA four false m).path.length cp) (.slice Cc (Ax.cutA four false m).comms.length cc) (.slice Cq (Ax.cutA four false m).path4.length cq) (.slice Co (Ax.cutA four false m).others.length co))) ∧ Hid (Atp wx (Ax.cutA four false m) (.slice Cp (Ax.cutA four false m).path.length cp) (.slice Cc (Ax.cutA four false m).comms.length cc) (.slice Cq (Ax.cutA four false m).path4.length cq) (.slice Co (Ax.cutA four false m).others.length co)) ∧ Hid (Kept Nothing W3 wx))
  case first =>
    cases four with
    | false =>
      go_wp2
      go_meet
      exact ⟨Bp, np, Bc, nc, Bq, nq, Bo, no, BW4, NM4, K34⟩
    | true =>
      have h17 := Ax.drop_ok 17 ⟨HG.out.small, HG.out.comms⟩
      have HW1 := Lib.hid (HWO.out m 17 ⟨HG.out.small, HG.out.comms⟩ rfl (by decide) _ _ _ _ W4 NM4.out (HT.out.kept K4.out))
      have HW2 := Lib.hid (HWO.out (Ax.drop m 17) 18 h17 rfl (by decide))
      clear HWO h17
      go_wp2_with (first
        | (refine wpList_store_row rfl 33 _ _ rfl W3.heap.size (Ax.agg (Ax.drop (Ax.drop m 17) 18) pv3 cv3 qv3 ov3) rfl rfl 33 _ B6.out (by kernel_rfl) rfl (AtO.one N6.out) ?_)
        | (go_at_call 16; refine (HW2.out _ _ _ _ _ N5.out.atp2 (HT.out.kept (K4.out.trans K45.out))).mono ?_; rintro e W6 ⟨pv3, cv3, qv3, ov3, rfl, n6, k6⟩; (have N6 := Lib.hid (n6.weak K45.out.size)); (have B6 := Lib.hid (BW4.out.kept (K45.out.trans k6) (fun x => x))); (have K46 := Lib.hid (K45.out.trans k6)); clear n6 k6)
        | (go_at_call 16; refine (HW1.out).mono ?_; rintro e W5 ⟨pv2, cv2, qv2, ov2, rfl, n5, k5⟩; (have N5 := Lib.hid n5); (have K45 := Lib.hid k5); clear n5 k5)
        | (refine wpList_load_row rfl 33 _ rfl w.heap.size rfl 33 _ (0, 0) _ (BM3.out.kept K34.out (fun x => x)) Tryz.underlying33 rfl (by kernel_rfl) ?_))
      simp only [Act.put]
      have kz : Kept (Only W3.heap.size) W6 (W6.setRow W3.heap.size (Ax.agg (Ax.drop (Ax.drop m 17) 18) pv3 cv3 qv3 ov3)) := Kept.setRow _ _
      have BZ : Blk (W6.setRow W3.heap.size (Ax.agg (Ax.drop (Ax.drop m 17) 18) pv3 cv3 qv3 ov3)) W3.heap.size 33 (Ax.agg (Ax.drop (Ax.drop m 17) 18) pv3 cv3 qv3 ov3) := setRow_heap W6 _ _ _ _ _ B6.out
      have NZ := (N6.out.off5 kz (Off5.blk B6.out (by decide))).atp2
      have KZ := (K34.out.trans K46.out).trans_new kz (fun i hi (e : i = W3.heap.size) => by omega)
      obtain ⟨Cp, cp, rfl, -, -⟩ := (show ∃ A c, pv3 = .slice A (Ax.drop (Ax.drop m 17) 18).path.length c ∧ _ ∧ _ from NZ.1.form)
      obtain ⟨Cc, cc, rfl, -, -⟩ := NZ.2.1.form
      obtain ⟨Cq, cq, rfl, -, -⟩ := (show ∃ A c, qv3 = .slice A (Ax.drop (Ax.drop m 17) 18).path4.length c ∧ _ ∧ _ from NZ.2.2.1.form)
      obtain ⟨Co, co, rfl, -, -⟩ := NZ.2.2.2.1.form
      have BZh := Lib.hid BZ
      have NZh := Lib.hid NZ
      have KZh := Lib.hid KZ
      clear kz BZ NZ KZ N6 B6 N5
      generalize W6.setRow W3.heap.size _ = W7 at *
      go_wp2
      go_meet
      exact ⟨Cp, cp, Cc, cc, Cq, cq, Co, co, BZh, NZh, KZh⟩
  case rest =>
    obtain ⟨Cp, cp, Cc, cc, Cq, cq, Co, co, BW, NW, K5⟩ := hcut
    have K35 := Lib.hid (K3.out.trans K5.out)
    have BM5 := Lib.hid (BM3.out.kept K5.out (fun x => x))
    have NM5 := Lib.hid (NM3.out.old K5.out)
    have HBW := Lib.hid (HBB.out.old K5.out)
    have HL := Lib.hid HE.out.len
    have HSM5 := Lib.hid (show Ax.small (Ax.cutA four false m) ∧ (Ax.cutA four false m).comms.length ≤ 70 from by
      cases four
      · exact ⟨HG.out.small, HG.out.comms⟩
      · exact Ax.drop_ok 18 (Ax.drop_ok 17 ⟨HG.out.small, HG.out.comms⟩))
    have HOT5 : Hid ((Ax.cutA four false m).others = m.others) := Lib.hid (Ax.cut_others _ _ _)
    have HSD : Hid (Ax.drop (Ax.cutA four false m) 5 = Ax.cutA four true m) := Lib.hid rfl
    obtain ⟨b5, hb5⟩ : ∃ b5, Ax.is m 5 = b5 := ⟨_, rfl⟩
    have HB5 := Lib.hid hb5
    obtain ⟨X, hX⟩ : ∃ X, Ax.cutA four false m = X := ⟨_, rfl⟩
    obtain ⟨Y, hY⟩ : ∃ Y, Ax.cutA four true m = Y := ⟨_, rfl⟩
    have HON := Lib.hid HE.out.one
    have HTW := Lib.hid HE.out.two
    rw [hX] at BW NW HSM5 HOT5 HSD HON
    rw [hY] at HSD HTW
    rw [hb5] at HTW
    clear hX hY hb5 BM3 NM4 BW4 K34
    obtain ⟨c5, hc5⟩ : ∃ c5 : Nat, (if b5 = true then 1 else 0) = c5 := ⟨_, rfl⟩
    rw [hc5] at HTW
    have HC5 : Hid ((b5 = true ∧ c5 = 1) ∨ (b5 = false ∧ c5 = 0)) := Lib.hid (by cases b5 <;> simp at hc5 <;> simp [hc5])
    have hc3 : c5 ≠ 3 := by rcases HC5.out with ⟨_, rfl⟩ | ⟨_, rfl⟩ <;> decide
    have HC3 := Lib.hid (show (if c5 = 3 then (3 : Int) else 0) = 0 from if_neg hc3)
    have HC2 := Lib.hid (show (if c5 = 3 then (2 : Int) else 0) = 0 from if_neg hc3)
    clear hc5 hc3
    go_upto_region 9 with (go_at_call 8; refine (at_getE (.slice Ab B.length nb) B four false wc HBW.out (by have h1 := HL.out; omega) (HT.out.kept K35.out) HON.out (c' := 0) (x := 0) (y := 0) (n := 0) rfl rfl rfl rfl).mono ?_; rintro e x7 ⟨Ap1, np1, Ac1, nc1, Aq1, nq1, Ao1, no1, Ad1, nd1, rfl, t1, d1, k7⟩)
    obtain ⟨W7, hW⟩ : ∃ W7, (x7.alloc (.cells #[.int .u32 (X.has : Int), .int .u8 (X.origin.toNat : Int), .slice Ap1 X.path.length np1, .int .u32 (X.nh : Int), .int .u32 (X.med : Int), .int .u32 (X.pref : Int), .int .u32 (X.byA : Int), .int .u32 (X.byI : Int), .slice Ac1 X.comms.length nc1, .slice Aq1 X.path4.length nq1, .int .u32 (X.by4A : Int), .int .u32 (X.by4I : Int), .slice Ao1 X.others.length no1] 33)).alloc (.cells #[.int .i64 0, .int .u8 0, .int .u8 0, .slice Ad1 0 nd1] 37) = W7 := ⟨_, rfl⟩
    have kz : Kept Nothing x7 W7 := by rw [← hW]; exact ((Kept.refl Nothing _).alloc _).alloc _
    have BA1 : Hid (Blk W7 x7.heap.size 33 #[.int .u32 (X.has : Int), .int .u8 (X.origin.toNat : Int), .slice Ap1 X.path.length np1, .int .u32 (X.nh : Int), .int .u32 (X.med : Int), .int .u32 (X.pref : Int), .int .u32 (X.byA : Int), .int .u32 (X.byI : Int), .slice Ac1 X.comms.length nc1, .slice Aq1 X.path4.length nq1, .int .u32 (X.by4A : Int), .int .u32 (X.by4I : Int), .slice Ao1 X.others.length no1]) := Lib.hid (by rw [← hW]; exact (Blk.fresh x7 _ _).alloc _)
    have BF1 : Hid (Blk W7 (x7.heap.size + 1) 37 #[.int .i64 0, .int .u8 0, .int .u8 0, .slice Ad1 0 nd1]) := Lib.hid (by
      have h := Blk.fresh (x7.alloc (.cells #[.int .u32 (X.has : Int), .int .u8 (X.origin.toNat : Int), .slice Ap1 X.path.length np1, .int .u32 (X.nh : Int), .int .u32 (X.med : Int), .int .u32 (X.pref : Int), .int .u32 (X.byA : Int), .int .u32 (X.byI : Int), .slice Ac1 X.comms.length nc1, .slice Aq1 X.path4.length nq1, .int .u32 (X.by4A : Int), .int .u32 (X.by4I : Int), .slice Ao1 X.others.length no1] 33)) 37 #[.int .i64 0, .int .u8 0, .int .u8 0, .slice Ad1 0 nd1]
      rw [World.size_alloc] at h
      rw [← hW]
      exact h)
    rw [hW]
    clear hW
    have K57 := Lib.hid (k7.trans kz)
    have T1 := Lib.hid (t1.off5 kz (Off5.nothing _)).atp2
    clear kz k7 t1 d1
    generalize x7.heap.size = g7 at *
    go_upto_region 10 with (go_at_call 8; refine (at_getE (.slice Ab B.length nb) B four true W7 (HBW.out.old K57.out) (by have h1 := HL.out; omega) (HT.out.kept (K35.out.trans K57.out)) HTW.out rfl HC3.out HC2.out rfl).mono ?_; rintro e x8 ⟨Ap2, np2, Ac2, nc2, Aq2, nq2, Ao2, no2, Ad2, nd2, rfl, t2, d2, k8⟩)
    obtain ⟨W8, hW⟩ : ∃ W8, (x8.alloc (.cells #[.int .u32 (Y.has : Int), .int .u8 (Y.origin.toNat : Int), .slice Ap2 Y.path.length np2, .int .u32 (Y.nh : Int), .int .u32 (Y.med : Int), .int .u32 (Y.pref : Int), .int .u32 (Y.byA : Int), .int .u32 (Y.byI : Int), .slice Ac2 Y.comms.length nc2, .slice Aq2 Y.path4.length nq2, .int .u32 (Y.by4A : Int), .int .u32 (Y.by4I : Int), .slice Ao2 Y.others.length no2] 33)).alloc (.cells #[.int .i64 (c5 : Int), .int .u8 0, .int .u8 0, .slice Ad2 0 nd2] 37) = W8 := ⟨_, rfl⟩
    have kz : Kept Nothing x8 W8 := by rw [← hW]; exact ((Kept.refl Nothing _).alloc _).alloc _
    have BA2 : Hid (Blk W8 x8.heap.size 33 #[.int .u32 (Y.has : Int), .int .u8 (Y.origin.toNat : Int), .slice Ap2 Y.path.length np2, .int .u32 (Y.nh : Int), .int .u32 (Y.med : Int), .int .u32 (Y.pref : Int), .int .u32 (Y.byA : Int), .int .u32 (Y.byI : Int), .slice Ac2 Y.comms.length nc2, .slice Aq2 Y.path4.length nq2, .int .u32 (Y.by4A : Int), .int .u32 (Y.by4I : Int), .slice Ao2 Y.others.length no2]) := Lib.hid (by rw [← hW]; exact (Blk.fresh x8 _ _).alloc _)
    have BF2 : Hid (Blk W8 (x8.heap.size + 1) 37 #[.int .i64 (c5 : Int), .int .u8 0, .int .u8 0, .slice Ad2 0 nd2]) := Lib.hid (by
      have h := Blk.fresh (x8.alloc (.cells #[.int .u32 (Y.has : Int), .int .u8 (Y.origin.toNat : Int), .slice Ap2 Y.path.length np2, .int .u32 (Y.nh : Int), .int .u32 (Y.med : Int), .int .u32 (Y.pref : Int), .int .u32 (Y.byA : Int), .int .u32 (Y.byI : Int), .slice Ac2 Y.comms.length nc2, .slice Aq2 Y.path4.length nq2, .int .u32 (Y.by4A : Int), .int .u32 (Y.by4I : Int), .slice Ao2 Y.others.length no2] 33)) 37 #[.int .i64 (c5 : Int), .int .u8 0, .int .u8 0, .slice Ad2 0 nd2]
      rw [World.size_alloc] at h
      rw [← hW]
      exact h)
    rw [hW]
    clear hW
    have K78 := Lib.hid (k8.trans kz)
    have K58 := Lib.hid (K57.out.trans K78.out)
    have K8 := Lib.hid (K35.out.trans K58.out)
    have T2 := Lib.hid (t2.off5 kz (Off5.nothing _)).atp2
    have T1b := Lib.hid (T1.out.old K78.out)
    have BA1b := Lib.hid (BA1.out.kept K78.out (fun x => x))
    have BF1b := Lib.hid (BF1.out.kept K78.out (fun x => x))
    have BW8 := Lib.hid (BW.out.kept K58.out (fun x => x))
    have BM8 := Lib.hid (BM5.out.kept K58.out (fun x => x))
    have NW8 := Lib.hid (NW.out.old K58.out)
    have HB8 := Lib.hid (HBW.out.old K58.out)
    have NM8 := Lib.hid (NM5.out.old K58.out)
    clear kz k8 t2 d2 BA1 BF1 BW BM5 NW T1
    generalize x8.heap.size = g8 at *
    have P0 : Hid (W8.cell? ⟨g7, 0, none⟩ = some (.int .u32 (X.has : Int))) := Lib.hid (BA1b.out.cell 0)
    have P1 : Hid (W8.cell? ⟨g7, 1, none⟩ = some (.int .u8 (X.origin.toNat : Int))) := Lib.hid (BA1b.out.cell 1)
    have P2 : Hid (W8.cell? ⟨g7, 2, none⟩ = some (.slice Ap1 X.path.length np1)) := Lib.hid (BA1b.out.cell 2)
    have P3 : Hid (W8.cell? ⟨g7, 3, none⟩ = some (.int .u32 (X.nh : Int))) := Lib.hid (BA1b.out.cell 3)
    have P4 : Hid (W8.cell? ⟨g7, 4, none⟩ = some (.int .u32 (X.med : Int))) := Lib.hid (BA1b.out.cell 4)
    have P5 : Hid (W8.cell? ⟨g7, 5, none⟩ = some (.int .u32 (X.pref : Int))) := Lib.hid (BA1b.out.cell 5)
    have P6 : Hid (W8.cell? ⟨g7, 6, none⟩ = some (.int .u32 (X.byA : Int))) := Lib.hid (BA1b.out.cell 6)
    have P7 : Hid (W8.cell? ⟨g7, 7, none⟩ = some (.int .u32 (X.byI : Int))) := Lib.hid (BA1b.out.cell 7)
    have P8 : Hid (W8.cell? ⟨g7, 8, none⟩ = some (.slice Ac1 X.comms.length nc1)) := Lib.hid (BA1b.out.cell 8)
    have P9 : Hid (W8.cell? ⟨g7, 9, none⟩ = some (.slice Aq1 X.path4.length nq1)) := Lib.hid (BA1b.out.cell 9)
    have P10 : Hid (W8.cell? ⟨g7, 10, none⟩ = some (.int .u32 (X.by4A : Int))) := Lib.hid (BA1b.out.cell 10)
    have P11 : Hid (W8.cell? ⟨g7, 11, none⟩ = some (.int .u32 (X.by4I : Int))) := Lib.hid (BA1b.out.cell 11)
    have P12 : Hid (W8.cell? ⟨g7, 12, none⟩ = some (.slice Ao1 X.others.length no1)) := Lib.hid (BA1b.out.cell 12)
    have Q0 : Hid (W8.cell? ⟨W3.heap.size, 0, none⟩ = some (.int .u32 (X.has : Int))) := Lib.hid (BW8.out.cell 0)
    have Q1 : Hid (W8.cell? ⟨W3.heap.size, 1, none⟩ = some (.int .u8 (X.origin.toNat : Int))) := Lib.hid (BW8.out.cell 1)
    have Q2 : Hid (W8.cell? ⟨W3.heap.size, 2, none⟩ = some (.slice Cp X.path.length cp)) := Lib.hid (BW8.out.cell 2)
    have Q3 : Hid (W8.cell? ⟨W3.heap.size, 3, none⟩ = some (.int .u32 (X.nh : Int))) := Lib.hid (BW8.out.cell 3)
    have Q4 : Hid (W8.cell? ⟨W3.heap.size, 4, none⟩ = some (.int .u32 (X.med : Int))) := Lib.hid (BW8.out.cell 4)
    have Q5 : Hid (W8.cell? ⟨W3.heap.size, 5, none⟩ = some (.int .u32 (X.pref : Int))) := Lib.hid (BW8.out.cell 5)
    have Q6 : Hid (W8.cell? ⟨W3.heap.size, 6, none⟩ = some (.int .u32 (X.byA : Int))) := Lib.hid (BW8.out.cell 6)
    have Q7 : Hid (W8.cell? ⟨W3.heap.size, 7, none⟩ = some (.int .u32 (X.byI : Int))) := Lib.hid (BW8.out.cell 7)
    have Q8 : Hid (W8.cell? ⟨W3.heap.size, 8, none⟩ = some (.slice Cc X.comms.length cc)) := Lib.hid (BW8.out.cell 8)
    have Q9 : Hid (W8.cell? ⟨W3.heap.size, 9, none⟩ = some (.slice Cq X.path4.length cq)) := Lib.hid (BW8.out.cell 9)
    have Q10 : Hid (W8.cell? ⟨W3.heap.size, 10, none⟩ = some (.int .u32 (X.by4A : Int))) := Lib.hid (BW8.out.cell 10)
    have Q11 : Hid (W8.cell? ⟨W3.heap.size, 11, none⟩ = some (.int .u32 (X.by4I : Int))) := Lib.hid (BW8.out.cell 11)
    have Q12 : Hid (W8.cell? ⟨W3.heap.size, 12, none⟩ = some (.slice Co X.others.length co)) := Lib.hid (BW8.out.cell 12)
    have R0 : Hid (W8.cell? ⟨g8, 0, none⟩ = some (.int .u32 (Y.has : Int))) := Lib.hid (BA2.out.cell 0)
    have R1 : Hid (W8.cell? ⟨g8, 1, none⟩ = some (.int .u8 (Y.origin.toNat : Int))) := Lib.hid (BA2.out.cell 1)
    have R2 : Hid (W8.cell? ⟨g8, 2, none⟩ = some (.slice Ap2 Y.path.length np2)) := Lib.hid (BA2.out.cell 2)
    have R3 : Hid (W8.cell? ⟨g8, 3, none⟩ = some (.int .u32 (Y.nh : Int))) := Lib.hid (BA2.out.cell 3)
    have R4 : Hid (W8.cell? ⟨g8, 4, none⟩ = some (.int .u32 (Y.med : Int))) := Lib.hid (BA2.out.cell 4)
    have R5 : Hid (W8.cell? ⟨g8, 5, none⟩ = some (.int .u32 (Y.pref : Int))) := Lib.hid (BA2.out.cell 5)
    have R6 : Hid (W8.cell? ⟨g8, 6, none⟩ = some (.int .u32 (Y.byA : Int))) := Lib.hid (BA2.out.cell 6)
    have R7 : Hid (W8.cell? ⟨g8, 7, none⟩ = some (.int .u32 (Y.byI : Int))) := Lib.hid (BA2.out.cell 7)
    have R8 : Hid (W8.cell? ⟨g8, 8, none⟩ = some (.slice Ac2 Y.comms.length nc2)) := Lib.hid (BA2.out.cell 8)
    have R9 : Hid (W8.cell? ⟨g8, 9, none⟩ = some (.slice Aq2 Y.path4.length nq2)) := Lib.hid (BA2.out.cell 9)
    have R10 : Hid (W8.cell? ⟨g8, 10, none⟩ = some (.int .u32 (Y.by4A : Int))) := Lib.hid (BA2.out.cell 10)
    have R11 : Hid (W8.cell? ⟨g8, 11, none⟩ = some (.int .u32 (Y.by4I : Int))) := Lib.hid (BA2.out.cell 11)
    have R12 : Hid (W8.cell? ⟨g8, 12, none⟩ = some (.slice Ao2 Y.others.length no2)) := Lib.hid (BA2.out.cell 12)
    have S0 : Hid (W8.cell? ⟨w.heap.size, 0, none⟩ = some (.int .u32 (m.has : Int))) := Lib.hid (BM8.out.cell 0)
    have S1 : Hid (W8.cell? ⟨w.heap.size, 1, none⟩ = some (.int .u8 (m.origin.toNat : Int))) := Lib.hid (BM8.out.cell 1)
    have S2 : Hid (W8.cell? ⟨w.heap.size, 2, none⟩ = some (.slice Bp m.path.length np)) := Lib.hid (BM8.out.cell 2)
    have S3 : Hid (W8.cell? ⟨w.heap.size, 3, none⟩ = some (.int .u32 (m.nh : Int))) := Lib.hid (BM8.out.cell 3)
    have S4 : Hid (W8.cell? ⟨w.heap.size, 4, none⟩ = some (.int .u32 (m.med : Int))) := Lib.hid (BM8.out.cell 4)
    have S5 : Hid (W8.cell? ⟨w.heap.size, 5, none⟩ = some (.int .u32 (m.pref : Int))) := Lib.hid (BM8.out.cell 5)
    have S6 : Hid (W8.cell? ⟨w.heap.size, 6, none⟩ = some (.int .u32 (m.byA : Int))) := Lib.hid (BM8.out.cell 6)
    have S7 : Hid (W8.cell? ⟨w.heap.size, 7, none⟩ = some (.int .u32 (m.byI : Int))) := Lib.hid (BM8.out.cell 7)
    have S8 : Hid (W8.cell? ⟨w.heap.size, 8, none⟩ = some (.slice Bc m.comms.length nc)) := Lib.hid (BM8.out.cell 8)
    have S9 : Hid (W8.cell? ⟨w.heap.size, 9, none⟩ = some (.slice Bq m.path4.length nq)) := Lib.hid (BM8.out.cell 9)
    have S10 : Hid (W8.cell? ⟨w.heap.size, 10, none⟩ = some (.int .u32 (m.by4A : Int))) := Lib.hid (BM8.out.cell 10)
    have S11 : Hid (W8.cell? ⟨w.heap.size, 11, none⟩ = some (.int .u32 (m.by4I : Int))) := Lib.hid (BM8.out.cell 11)
    have S12 : Hid (W8.cell? ⟨w.heap.size, 12, none⟩ = some (.slice Bo m.others.length no)) := Lib.hid (BM8.out.cell 12)
    have F1 : Hid (W8.cell? ⟨g7 + 1, 0, none⟩ = some (.int .i64 0)) := Lib.hid (BF1b.out.cell 0)
    have F2 : Hid (W8.cell? ⟨g8 + 1, 0, none⟩ = some (.int .i64 (c5 : Int))) := Lib.hid (BF2.out.cell 0)
    have HS1 := Lib.hid (fun u (k : Kept Nothing W8 u) => show Calls Tryz.prog 17 #[.agg #[.int .u32 (X.has : Int), .int .u8 (X.origin.toNat : Int), .slice Ap1 X.path.length np1, .int .u32 (X.nh : Int), .int .u32 (X.med : Int), .int .u32 (X.pref : Int), .int .u32 (X.byA : Int), .int .u32 (X.byI : Int), .slice Ac1 X.comms.length nc1, .slice Aq1 X.path4.length nq1, .int .u32 (X.by4A : Int), .int .u32 (X.by4I : Int), .slice Ao1 X.others.length no1], .agg #[.int .u32 (X.has : Int), .int .u8 (X.origin.toNat : Int), .slice Cp X.path.length cp, .int .u32 (X.nh : Int), .int .u32 (X.med : Int), .int .u32 (X.pref : Int), .int .u32 (X.byA : Int), .int .u32 (X.byI : Int), .slice Cc X.comms.length cc, .slice Cq X.path4.length cq, .int .u32 (X.by4A : Int), .int .u32 (X.by4I : Int), .slice Co X.others.length co]] u fun e w' => e = .returned (.bool true) ∧ Kept Nothing u w' from by
      have := at_same2 X X _ _ _ _ _ _ _ _ u (T1b.out.old k) (NW8.out.old k)
      rw [Ax.same_self] at this
      exact this)
    have HS2 := Lib.hid (fun u (k : Kept Nothing W8 u) p c q o (h : Atp u Y p c q o) => show Calls Tryz.prog 17 #[.agg #[.int .u32 (Y.has : Int), .int .u8 (Y.origin.toNat : Int), .slice Ap2 Y.path.length np2, .int .u32 (Y.nh : Int), .int .u32 (Y.med : Int), .int .u32 (Y.pref : Int), .int .u32 (Y.byA : Int), .int .u32 (Y.byI : Int), .slice Ac2 Y.comms.length nc2, .slice Aq2 Y.path4.length nq2, .int .u32 (Y.by4A : Int), .int .u32 (Y.by4I : Int), .slice Ao2 Y.others.length no2], .agg (Ax.agg Y p c q o)] u fun e w' => e = .returned (.bool true) ∧ Kept Nothing u w' from by
      have := at_same2 Y Y _ _ _ _ p c q o u (T2.out.old k) h
      rw [Ax.same_self] at this
      exact this)
    have HW5 := Lib.hid (fun u (k : Kept Nothing W8 u) => show Calls Tryz.prog 16 #[.agg #[.int .u32 (X.has : Int), .int .u8 (X.origin.toNat : Int), .slice Cp X.path.length cp, .int .u32 (X.nh : Int), .int .u32 (X.med : Int), .int .u32 (X.pref : Int), .int .u32 (X.byA : Int), .int .u32 (X.byI : Int), .slice Cc X.comms.length cc, .slice Cq X.path4.length cq, .int .u32 (X.by4A : Int), .int .u32 (X.by4I : Int), .slice Co X.others.length co], .int .u8 5] u fun e w' => ∃ pv' cv' qv' ov', e = .returned (.agg (Ax.agg Y pv' cv' qv' ov')) ∧ AtO w' u.heap.size Y pv' cv' qv' ov' ∧ Kept Nothing u w' from by
      have := HWO.out X 5 HSM5.out HOT5.out (by decide) _ _ _ _ u (NW8.out.old k) (HT.out.kept (K8.out.trans k))
      rw [HSD.out] at this
      exact this)
    have HI5 := Lib.hid (fun u (k : Kept Nothing W8 u) => show Calls Tryz.prog 18 #[.agg #[.int .u32 (m.has : Int), .int .u8 (m.origin.toNat : Int), .slice Bp m.path.length np, .int .u32 (m.nh : Int), .int .u32 (m.med : Int), .int .u32 (m.pref : Int), .int .u32 (m.byA : Int), .int .u32 (m.byI : Int), .slice Bc m.comms.length nc, .slice Bq m.path4.length nq, .int .u32 (m.by4A : Int), .int .u32 (m.by4I : Int), .slice Bo m.others.length no], .int .u8 5] u fun e w' => e = .returned (.bool b5) ∧ Kept Nothing u w' from by
      have := at_is m _ _ _ _ 5 u (NM8.out.old k) (HT.out.kept (K8.out.trans k))
      rw [HB5.out] at this
      exact this)
    have hst : Kept Nothing W8 W8.drew := (Kept.refl Nothing W8).drew
    clear T1b NW8 NM8 HWO HSM5 HOT5 HSD HB5 BW8 BA1b BM8
    refine wp_region_tail W8 (Facts [some (.int .i64 0), some (.bool false), some (.bool false), some (.pointer (some ⟨g7 + 1, 0, none⟩)), some (.int .i64 0), some (.bool false), some (.bool false), some (.bool false), some (.agg #[.int .u32 (X.has : Int), .int .u8 (X.origin.toNat : Int), .slice Ap1 X.path.length np1, .int .u32 (X.nh : Int), .int .u32 (X.med : Int), .int .u32 (X.pref : Int), .int .u32 (X.byA : Int), .int .u32 (X.byI : Int), .slice Ac1 X.comms.length nc1, .slice Aq1 X.path4.length nq1, .int .u32 (X.by4A : Int), .int .u32 (X.by4I : Int), .slice Ao1 X.others.length no1]), some (.agg #[.int .u32 (X.has : Int), .int .u8 (X.origin.toNat : Int), .slice Cp X.path.length cp, .int .u32 (X.nh : Int), .int .u32 (X.med : Int), .int .u32 (X.pref : Int), .int .u32 (X.byA : Int), .int .u32 (X.byI : Int), .slice Cc X.comms.length cc, .slice Cq X.path4.length cq, .int .u32 (X.by4A : Int), .int .u32 (X.by4I : Int), .slice Co X.others.length co]), some (.bool true), some (.bool false), some (.bool false), some (.bool false), some (.agg #[.int .u32 (Y.has : Int), .int .u8 (Y.origin.toNat : Int), .slice Ap2 Y.path.length np2, .int .u32 (Y.nh : Int), .int .u32 (Y.med : Int), .int .u32 (Y.pref : Int), .int .u32 (Y.byA : Int), .int .u32 (Y.byI : Int), .slice Ac2 Y.comms.length nc2, .slice Aq2 Y.path4.length nq2, .int .u32 (Y.by4A : Int), .int .u32 (Y.by4I : Int), .slice Ao2 Y.others.length no2]), some (.agg #[.int .u32 (X.has : Int), .int .u8 (X.origin.toNat : Int), .slice Cp X.path.length cp, .int .u32 (X.nh : Int), .int .u32 (X.med : Int), .int .u32 (X.pref : Int), .int .u32 (X.byA : Int), .int .u32 (X.byI : Int), .slice Cc X.comms.length cc, .slice Cq X.path4.length cq, .int .u32 (X.by4A : Int), .int .u32 (X.by4I : Int), .slice Co X.others.length co]), none, some (.bool true), some (.bool false), some (.bool false), some (.bool false), some (.pointer (some ⟨g8 + 1, 0, none⟩)), some (.int .i64 (c5 : Int)), some (.bool b5), some (.agg #[.int .u32 (m.has : Int), .int .u8 (m.origin.toNat : Int), .slice Bp m.path.length np, .int .u32 (m.nh : Int), .int .u32 (m.med : Int), .int .u32 (m.pref : Int), .int .u32 (m.byA : Int), .int .u32 (m.byI : Int), .slice Bc m.comms.length nc, .slice Bq m.path4.length nq, .int .u32 (m.by4A : Int), .int .u32 (m.by4I : Int), .slice Bo m.others.length no]), some (.bool b5), some (.bool false)] (ksBk Y)) 27 (by decide) (by kernel_rfl) (by kernel_rfl) (by kernel_rfl) (by decide +kernel) (by intro d hd; simp [dsts] at hd ⊢; omega) (ready_nil (by kernel_rfl)) (fun _ => false) (by kernel_rfl) ?_ (Facts.stab (ksBk_stab Y)) hst ?_ ?_
    · refine Facts.guards2 (gv := (fun _ => false)) (E := [2, 7, 13, 20]) (by kernel_rfl) ?_
      repeat (first | refine List.forall_mem_cons.2 ⟨by rfl, ?_⟩ | exact List.forall_mem_nil _)
    · refine OweTo.cons ?_ (by rfl) ?_
      · intro u aa hk hf hfar
        have v8 : aa.tmps.getD 8 undef = .int .i64 0 := hfar 8 (by decide)
        have w8 := v8
        rw [Array.getD_eq_getD_getElem?] at w8
        clear hf hfar
        go_simp
        exact ⟨_, rfl, Kept.refl _ _, rfl⟩
      refine OweTo.cons ?_ (by rfl) ?_
      · intro u aa hk hf hfar
        have v47 : aa.tmps.getD 47 undef = .int .i64 0 := hf 0 _ 47 rfl rfl ⟨⟨0, .data⟩, Array.mem_of_getElem? (i := 0) rfl, rfl, rfl⟩
        have w47 := v47
        rw [Array.getD_eq_getD_getElem?] at w47
        clear hf hfar
        go_simp
        exact ⟨_, rfl, Kept.refl _ _, rfl⟩
      refine OweTo.cons ?_ (by rfl) ?_
      · intro u aa hk hf hfar
        have v48 : aa.tmps.getD 48 undef = .bool false := hf 1 _ 48 rfl rfl ⟨⟨1, .data⟩, Array.mem_of_getElem? (i := 0) rfl, rfl, rfl⟩
        have w48 := v48
        rw [Array.getD_eq_getD_getElem?] at w48
        clear hf hfar
        go_simp
        exact ⟨_, rfl, Kept.refl _ _, rfl⟩
      refine OweTo.cons ?_ (by rfl) ?_
      · intro u aa hk hf hfar
        have v11 : aa.tmps.getD 11 undef = .pointer (some ⟨g7 + 1, 0, none⟩) := hfar 11 (by decide)
        have w11 := v11
        rw [Array.getD_eq_getD_getElem?] at w11
        clear hf hfar
        go_simp
        exact ⟨_, rfl, Kept.refl _ _, rfl⟩
      refine OweTo.cons ?_ (by rfl) ?_
      · intro u aa hk hf hfar
        have v50 : aa.tmps.getD 50 undef = .pointer (some ⟨g7 + 1, 0, none⟩) := hf 3 _ 50 rfl rfl ⟨⟨3, .data⟩, Array.mem_of_getElem? (i := 0) rfl, rfl, rfl⟩
        have w50 := v50
        rw [Array.getD_eq_getD_getElem?] at w50
        have b0 := hk.cell_some F1.out (fun x => x)
        clear hf hfar
        go_simp
        exact ⟨_, rfl, Kept.refl _ _, rfl⟩
      refine OweTo.cons ?_ (by rfl) ?_
      · intro u aa hk hf hfar
        have v51 : aa.tmps.getD 51 undef = .int .i64 0 := hf 4 _ 51 rfl rfl ⟨⟨4, .data⟩, Array.mem_of_getElem? (i := 0) rfl, rfl, rfl⟩
        have w51 := v51
        rw [Array.getD_eq_getD_getElem?] at w51
        clear hf hfar
        go_simp
        exact ⟨_, rfl, Kept.refl _ _, rfl⟩
      refine OweTo.cons ?_ (by rfl) ?_
      · intro u aa hk hf hfar
        have v49 : aa.tmps.getD 49 undef = .bool false := hf 2 _ 49 rfl rfl ⟨⟨2, .data⟩, Array.mem_of_getElem? (i := 0) rfl, rfl, rfl⟩
        have w49 := v49
        rw [Array.getD_eq_getD_getElem?] at w49
        have v52 : aa.tmps.getD 52 undef = .bool false := hf 5 _ 52 rfl rfl ⟨⟨5, .data⟩, Array.mem_of_getElem? (i := 1) rfl, rfl, rfl⟩
        have w52 := v52
        rw [Array.getD_eq_getD_getElem?] at w52
        clear hf hfar
        go_simp
        exact ⟨_, rfl, Kept.refl _ _, rfl⟩
      refine OweTo.cons ?_ (by rfl) ?_
      · intro u aa hk hf hfar
        have v53 : aa.tmps.getD 53 undef = .bool false := hf 6 _ 53 rfl rfl ⟨⟨6, .data⟩, Array.mem_of_getElem? (i := 0) rfl, rfl, rfl⟩
        have w53 := v53
        rw [Array.getD_eq_getD_getElem?] at w53
        clear hf hfar
        go_simp
        exact ⟨_, rfl, Kept.refl _ _, rfl⟩
      refine OweTo.cons ?_ (by rfl) ?_
      · intro u aa hk hf hfar
        have v10 : aa.tmps.getD 10 undef = .pointer (some ⟨g7, 0, none⟩) := hfar 10 (by decide)
        have w10 := v10
        rw [Array.getD_eq_getD_getElem?] at w10
        have b0 := hk.cell_some P0.out (fun x => x)
        have b1 := hk.cell_some P1.out (fun x => x)
        have b2 := hk.cell_some P2.out (fun x => x)
        have b3 := hk.cell_some P3.out (fun x => x)
        have b4 := hk.cell_some P4.out (fun x => x)
        have b5 := hk.cell_some P5.out (fun x => x)
        have b6 := hk.cell_some P6.out (fun x => x)
        have b7 := hk.cell_some P7.out (fun x => x)
        have b8 := hk.cell_some P8.out (fun x => x)
        have b9 := hk.cell_some P9.out (fun x => x)
        have b10 := hk.cell_some P10.out (fun x => x)
        have b11 := hk.cell_some P11.out (fun x => x)
        have b12 := hk.cell_some P12.out (fun x => x)
        clear hf hfar
        go_simp
        exact ⟨_, rfl, Kept.refl _ _, rfl⟩
      refine OweTo.cons ?_ (by rfl) ?_
      · intro u aa hk hf hfar
        have v9 : aa.tmps.getD 9 undef = .pointer (some ⟨W3.heap.size, 0, none⟩) := hfar 9 (by decide)
        have w9 := v9
        rw [Array.getD_eq_getD_getElem?] at w9
        have b0 := hk.cell_some Q0.out (fun x => x)
        have b1 := hk.cell_some Q1.out (fun x => x)
        have b2 := hk.cell_some Q2.out (fun x => x)
        have b3 := hk.cell_some Q3.out (fun x => x)
        have b4 := hk.cell_some Q4.out (fun x => x)
        have b5 := hk.cell_some Q5.out (fun x => x)
        have b6 := hk.cell_some Q6.out (fun x => x)
        have b7 := hk.cell_some Q7.out (fun x => x)
        have b8 := hk.cell_some Q8.out (fun x => x)
        have b9 := hk.cell_some Q9.out (fun x => x)
        have b10 := hk.cell_some Q10.out (fun x => x)
        have b11 := hk.cell_some Q11.out (fun x => x)
        have b12 := hk.cell_some Q12.out (fun x => x)
        clear hf hfar
        go_simp
        exact ⟨_, rfl, Kept.refl _ _, rfl⟩
      refine OweTo.cons ?_ (by rfl) ?_
      · intro u aa hk hf hfar
        have v55 : aa.tmps.getD 55 undef = .agg #[.int .u32 (X.has : Int), .int .u8 (X.origin.toNat : Int), .slice Ap1 X.path.length np1, .int .u32 (X.nh : Int), .int .u32 (X.med : Int), .int .u32 (X.pref : Int), .int .u32 (X.byA : Int), .int .u32 (X.byI : Int), .slice Ac1 X.comms.length nc1, .slice Aq1 X.path4.length nq1, .int .u32 (X.by4A : Int), .int .u32 (X.by4I : Int), .slice Ao1 X.others.length no1] := hf 8 _ 55 rfl rfl ⟨⟨8, .data⟩, Array.mem_of_getElem? (i := 0) rfl, rfl, rfl⟩
        have w55 := v55
        rw [Array.getD_eq_getD_getElem?] at w55
        have v56 : aa.tmps.getD 56 undef = .agg #[.int .u32 (X.has : Int), .int .u8 (X.origin.toNat : Int), .slice Cp X.path.length cp, .int .u32 (X.nh : Int), .int .u32 (X.med : Int), .int .u32 (X.pref : Int), .int .u32 (X.byA : Int), .int .u32 (X.byI : Int), .slice Cc X.comms.length cc, .slice Cq X.path4.length cq, .int .u32 (X.by4A : Int), .int .u32 (X.by4I : Int), .slice Co X.others.length co] := hf 9 _ 56 rfl rfl ⟨⟨9, .data⟩, Array.mem_of_getElem? (i := 1) rfl, rfl, rfl⟩
        have w56 := v56
        rw [Array.getD_eq_getD_getElem?] at w56
        clear hf hfar
        go_simp
        refine (HS1.out u hk).mono ?_
        rintro e u' ⟨rfl, hk'⟩
        exact ⟨_, rfl, hk', rfl⟩
      refine OweTo.cons ?_ (by rfl) ?_
      · intro u aa hk hf hfar
        have v57 : aa.tmps.getD 57 undef = .bool true := hf 10 _ 57 rfl rfl ⟨⟨10, .data⟩, Array.mem_of_getElem? (i := 0) rfl, rfl, rfl⟩
        have w57 := v57
        rw [Array.getD_eq_getD_getElem?] at w57
        clear hf hfar
        go_simp
        exact ⟨_, rfl, Kept.refl _ _, rfl⟩
      refine OweTo.cons ?_ (by rfl) ?_
      · intro u aa hk hf hfar
        have v54 : aa.tmps.getD 54 undef = .bool false := hf 7 _ 54 rfl rfl ⟨⟨7, .data⟩, Array.mem_of_getElem? (i := 0) rfl, rfl, rfl⟩
        have w54 := v54
        rw [Array.getD_eq_getD_getElem?] at w54
        have v58 : aa.tmps.getD 58 undef = .bool false := hf 11 _ 58 rfl rfl ⟨⟨11, .data⟩, Array.mem_of_getElem? (i := 1) rfl, rfl, rfl⟩
        have w58 := v58
        rw [Array.getD_eq_getD_getElem?] at w58
        clear hf hfar
        go_simp
        exact ⟨_, rfl, Kept.refl _ _, rfl⟩
      refine OweTo.cons ?_ (by rfl) ?_
      · intro u aa hk hf hfar
        have v59 : aa.tmps.getD 59 undef = .bool false := hf 12 _ 59 rfl rfl ⟨⟨12, .data⟩, Array.mem_of_getElem? (i := 0) rfl, rfl, rfl⟩
        have w59 := v59
        rw [Array.getD_eq_getD_getElem?] at w59
        clear hf hfar
        go_simp
        exact ⟨_, rfl, Kept.refl _ _, rfl⟩
      refine OweTo.cons ?_ (by rfl) ?_
      · intro u aa hk hf hfar
        have v12 : aa.tmps.getD 12 undef = .pointer (some ⟨g8, 0, none⟩) := hfar 12 (by decide)
        have w12 := v12
        rw [Array.getD_eq_getD_getElem?] at w12
        have b0 := hk.cell_some R0.out (fun x => x)
        have b1 := hk.cell_some R1.out (fun x => x)
        have b2 := hk.cell_some R2.out (fun x => x)
        have b3 := hk.cell_some R3.out (fun x => x)
        have b4 := hk.cell_some R4.out (fun x => x)
        have b5 := hk.cell_some R5.out (fun x => x)
        have b6 := hk.cell_some R6.out (fun x => x)
        have b7 := hk.cell_some R7.out (fun x => x)
        have b8 := hk.cell_some R8.out (fun x => x)
        have b9 := hk.cell_some R9.out (fun x => x)
        have b10 := hk.cell_some R10.out (fun x => x)
        have b11 := hk.cell_some R11.out (fun x => x)
        have b12 := hk.cell_some R12.out (fun x => x)
        clear hf hfar
        go_simp
        exact ⟨_, rfl, Kept.refl _ _, rfl⟩
      refine OweTo.cons ?_ (by rfl) ?_
      · intro u aa hk hf hfar
        have v9 : aa.tmps.getD 9 undef = .pointer (some ⟨W3.heap.size, 0, none⟩) := hfar 9 (by decide)
        have w9 := v9
        rw [Array.getD_eq_getD_getElem?] at w9
        have b0 := hk.cell_some Q0.out (fun x => x)
        have b1 := hk.cell_some Q1.out (fun x => x)
        have b2 := hk.cell_some Q2.out (fun x => x)
        have b3 := hk.cell_some Q3.out (fun x => x)
        have b4 := hk.cell_some Q4.out (fun x => x)
        have b5 := hk.cell_some Q5.out (fun x => x)
        have b6 := hk.cell_some Q6.out (fun x => x)
        have b7 := hk.cell_some Q7.out (fun x => x)
        have b8 := hk.cell_some Q8.out (fun x => x)
        have b9 := hk.cell_some Q9.out (fun x => x)
        have b10 := hk.cell_some Q10.out (fun x => x)
        have b11 := hk.cell_some Q11.out (fun x => x)
        have b12 := hk.cell_some Q12.out (fun x => x)
        clear hf hfar
        go_simp
        exact ⟨_, rfl, Kept.refl _ _, rfl⟩
      refine OweTo.cons ?_ (by rfl) ?_
      · intro u aa hk hf hfar
        have v62 : aa.tmps.getD 62 undef = .agg #[.int .u32 (X.has : Int), .int .u8 (X.origin.toNat : Int), .slice Cp X.path.length cp, .int .u32 (X.nh : Int), .int .u32 (X.med : Int), .int .u32 (X.pref : Int), .int .u32 (X.byA : Int), .int .u32 (X.byI : Int), .slice Cc X.comms.length cc, .slice Cq X.path4.length cq, .int .u32 (X.by4A : Int), .int .u32 (X.by4I : Int), .slice Co X.others.length co] := hf 15 _ 62 rfl rfl ⟨⟨15, .data⟩, Array.mem_of_getElem? (i := 0) rfl, rfl, rfl⟩
        have w62 := v62
        rw [Array.getD_eq_getD_getElem?] at w62
        clear hf hfar
        go_simp
        refine (HW5.out u hk).mono ?_
        rintro e u' ⟨p, c, q, o, rfl, n', hk'⟩
        exact ⟨_, rfl, hk', p, c, q, o, rfl, n'.atp2⟩
      refine OweTo.cons ?_ (by rfl) ?_
      · intro u aa hk hf hfar
        have v61 : aa.tmps.getD 61 undef = .agg #[.int .u32 (Y.has : Int), .int .u8 (Y.origin.toNat : Int), .slice Ap2 Y.path.length np2, .int .u32 (Y.nh : Int), .int .u32 (Y.med : Int), .int .u32 (Y.pref : Int), .int .u32 (Y.byA : Int), .int .u32 (Y.byI : Int), .slice Ac2 Y.comms.length nc2, .slice Aq2 Y.path4.length nq2, .int .u32 (Y.by4A : Int), .int .u32 (Y.by4I : Int), .slice Ao2 Y.others.length no2] := hf 14 _ 61 rfl rfl ⟨⟨14, .data⟩, Array.mem_of_getElem? (i := 0) rfl, rfl, rfl⟩
        have w61 := v61
        rw [Array.getD_eq_getD_getElem?] at w61
        obtain ⟨pZ, cZ, qZ, oZ, v63, hZ⟩ : ∃ p c q o, (aa.tmps.getD 63 undef) = .agg (Ax.agg Y p c q o) ∧ Atp u Y p c q o := hf 16 _ 63 rfl rfl ⟨⟨16, .data⟩, Array.mem_of_getElem? (i := 1) rfl, rfl, rfl⟩
        have w63 := v63
        rw [Array.getD_eq_getD_getElem?] at w63
        clear hf hfar
        go_simp
        refine (HS2.out u hk _ _ _ _ hZ).mono ?_
        rintro e u' ⟨rfl, hk'⟩
        exact ⟨_, rfl, hk', rfl⟩
      refine OweTo.cons ?_ (by rfl) ?_
      · intro u aa hk hf hfar
        have v64 : aa.tmps.getD 64 undef = .bool true := hf 17 _ 64 rfl rfl ⟨⟨17, .data⟩, Array.mem_of_getElem? (i := 0) rfl, rfl, rfl⟩
        have w64 := v64
        rw [Array.getD_eq_getD_getElem?] at w64
        clear hf hfar
        go_simp
        exact ⟨_, rfl, Kept.refl _ _, rfl⟩
      refine OweTo.cons ?_ (by rfl) ?_
      · intro u aa hk hf hfar
        have v60 : aa.tmps.getD 60 undef = .bool false := hf 13 _ 60 rfl rfl ⟨⟨13, .data⟩, Array.mem_of_getElem? (i := 0) rfl, rfl, rfl⟩
        have w60 := v60
        rw [Array.getD_eq_getD_getElem?] at w60
        have v65 : aa.tmps.getD 65 undef = .bool false := hf 18 _ 65 rfl rfl ⟨⟨18, .data⟩, Array.mem_of_getElem? (i := 1) rfl, rfl, rfl⟩
        have w65 := v65
        rw [Array.getD_eq_getD_getElem?] at w65
        clear hf hfar
        go_simp
        exact ⟨_, rfl, Kept.refl _ _, rfl⟩
      refine OweTo.cons ?_ (by rfl) ?_
      · intro u aa hk hf hfar
        have v66 : aa.tmps.getD 66 undef = .bool false := hf 19 _ 66 rfl rfl ⟨⟨19, .data⟩, Array.mem_of_getElem? (i := 0) rfl, rfl, rfl⟩
        have w66 := v66
        rw [Array.getD_eq_getD_getElem?] at w66
        clear hf hfar
        go_simp
        exact ⟨_, rfl, Kept.refl _ _, rfl⟩
      refine OweTo.cons ?_ (by rfl) ?_
      · intro u aa hk hf hfar
        have v13 : aa.tmps.getD 13 undef = .pointer (some ⟨g8 + 1, 0, none⟩) := hfar 13 (by decide)
        have w13 := v13
        rw [Array.getD_eq_getD_getElem?] at w13
        clear hf hfar
        go_simp
        exact ⟨_, rfl, Kept.refl _ _, rfl⟩
      refine OweTo.cons ?_ (by rfl) ?_
      · intro u aa hk hf hfar
        have v68 : aa.tmps.getD 68 undef = .pointer (some ⟨g8 + 1, 0, none⟩) := hf 21 _ 68 rfl rfl ⟨⟨21, .data⟩, Array.mem_of_getElem? (i := 0) rfl, rfl, rfl⟩
        have w68 := v68
        rw [Array.getD_eq_getD_getElem?] at w68
        have b0 := hk.cell_some F2.out (fun x => x)
        clear hf hfar
        go_simp
        exact ⟨_, rfl, Kept.refl _ _, rfl⟩
      refine OweTo.cons ?_ (by rfl) ?_
      · intro u aa hk hf hfar
        have v69 : aa.tmps.getD 69 undef = .int .i64 (c5 : Int) := hf 22 _ 69 rfl rfl ⟨⟨22, .data⟩, Array.mem_of_getElem? (i := 0) rfl, rfl, rfl⟩
        have w69 := v69
        rw [Array.getD_eq_getD_getElem?] at w69
        clear hf hfar
        rcases HC5.out with ⟨rfl, rfl⟩ | ⟨rfl, rfl⟩ <;> (go_simp; exact ⟨_, rfl, Kept.refl _ _, rfl⟩)
      refine OweTo.cons ?_ (by rfl) ?_
      · intro u aa hk hf hfar
        have v3 : aa.tmps.getD 3 undef = .pointer (some ⟨w.heap.size, 0, none⟩) := hfar 3 (by decide)
        have w3 := v3
        rw [Array.getD_eq_getD_getElem?] at w3
        have b0 := hk.cell_some S0.out (fun x => x)
        have b1 := hk.cell_some S1.out (fun x => x)
        have b2 := hk.cell_some S2.out (fun x => x)
        have b3 := hk.cell_some S3.out (fun x => x)
        have b4 := hk.cell_some S4.out (fun x => x)
        have b5 := hk.cell_some S5.out (fun x => x)
        have b6 := hk.cell_some S6.out (fun x => x)
        have b7 := hk.cell_some S7.out (fun x => x)
        have b8 := hk.cell_some S8.out (fun x => x)
        have b9 := hk.cell_some S9.out (fun x => x)
        have b10 := hk.cell_some S10.out (fun x => x)
        have b11 := hk.cell_some S11.out (fun x => x)
        have b12 := hk.cell_some S12.out (fun x => x)
        clear hf hfar
        go_simp
        exact ⟨_, rfl, Kept.refl _ _, rfl⟩
      refine OweTo.cons ?_ (by rfl) ?_
      · intro u aa hk hf hfar
        have v71 : aa.tmps.getD 71 undef = .agg #[.int .u32 (m.has : Int), .int .u8 (m.origin.toNat : Int), .slice Bp m.path.length np, .int .u32 (m.nh : Int), .int .u32 (m.med : Int), .int .u32 (m.pref : Int), .int .u32 (m.byA : Int), .int .u32 (m.byI : Int), .slice Bc m.comms.length nc, .slice Bq m.path4.length nq, .int .u32 (m.by4A : Int), .int .u32 (m.by4I : Int), .slice Bo m.others.length no] := hf 24 _ 71 rfl rfl ⟨⟨24, .data⟩, Array.mem_of_getElem? (i := 0) rfl, rfl, rfl⟩
        have w71 := v71
        rw [Array.getD_eq_getD_getElem?] at w71
        clear hf hfar
        go_simp
        refine (HI5.out u hk).mono ?_
        rintro e u' ⟨rfl, hk'⟩
        exact ⟨_, rfl, hk', rfl⟩
      refine OweTo.cons ?_ (by rfl) ?_
      · intro u aa hk hf hfar
        have v70 : aa.tmps.getD 70 undef = .bool b5 := hf 23 _ 70 rfl rfl ⟨⟨23, .data⟩, Array.mem_of_getElem? (i := 0) rfl, rfl, rfl⟩
        have w70 := v70
        rw [Array.getD_eq_getD_getElem?] at w70
        have v72 : aa.tmps.getD 72 undef = .bool b5 := hf 25 _ 72 rfl rfl ⟨⟨25, .data⟩, Array.mem_of_getElem? (i := 1) rfl, rfl, rfl⟩
        have w72 := v72
        rw [Array.getD_eq_getD_getElem?] at w72
        clear hf hfar
        cases b5 <;> (go_simp; exact ⟨_, rfl, Kept.refl _ _, rfl⟩)
      exact OweTo.last (by decide)
    · intro AA u hk hsz hdef hfar hfacts
      have x47 : AA.tmps.getD 47 undef = .int .i64 0 := hfacts 0 _ 47 (by decide) rfl rfl
      have x48 : AA.tmps.getD 48 undef = .bool false := hfacts 1 _ 48 (by decide) rfl rfl
      have x49 : AA.tmps.getD 49 undef = .bool false := hfacts 2 _ 49 (by decide) rfl rfl
      have x50 : AA.tmps.getD 50 undef = .pointer (some ⟨g7 + 1, 0, none⟩) := hfacts 3 _ 50 (by decide) rfl rfl
      have x51 : AA.tmps.getD 51 undef = .int .i64 0 := hfacts 4 _ 51 (by decide) rfl rfl
      have x52 : AA.tmps.getD 52 undef = .bool false := hfacts 5 _ 52 (by decide) rfl rfl
      have x53 : AA.tmps.getD 53 undef = .bool false := hfacts 6 _ 53 (by decide) rfl rfl
      have x54 : AA.tmps.getD 54 undef = .bool false := hfacts 7 _ 54 (by decide) rfl rfl
      have x55 : AA.tmps.getD 55 undef = .agg #[.int .u32 (X.has : Int), .int .u8 (X.origin.toNat : Int), .slice Ap1 X.path.length np1, .int .u32 (X.nh : Int), .int .u32 (X.med : Int), .int .u32 (X.pref : Int), .int .u32 (X.byA : Int), .int .u32 (X.byI : Int), .slice Ac1 X.comms.length nc1, .slice Aq1 X.path4.length nq1, .int .u32 (X.by4A : Int), .int .u32 (X.by4I : Int), .slice Ao1 X.others.length no1] := hfacts 8 _ 55 (by decide) rfl rfl
      have x56 : AA.tmps.getD 56 undef = .agg #[.int .u32 (X.has : Int), .int .u8 (X.origin.toNat : Int), .slice Cp X.path.length cp, .int .u32 (X.nh : Int), .int .u32 (X.med : Int), .int .u32 (X.pref : Int), .int .u32 (X.byA : Int), .int .u32 (X.byI : Int), .slice Cc X.comms.length cc, .slice Cq X.path4.length cq, .int .u32 (X.by4A : Int), .int .u32 (X.by4I : Int), .slice Co X.others.length co] := hfacts 9 _ 56 (by decide) rfl rfl
      have x57 : AA.tmps.getD 57 undef = .bool true := hfacts 10 _ 57 (by decide) rfl rfl
      have x58 : AA.tmps.getD 58 undef = .bool false := hfacts 11 _ 58 (by decide) rfl rfl
      have x59 : AA.tmps.getD 59 undef = .bool false := hfacts 12 _ 59 (by decide) rfl rfl
      have x60 : AA.tmps.getD 60 undef = .bool false := hfacts 13 _ 60 (by decide) rfl rfl
      have x61 : AA.tmps.getD 61 undef = .agg #[.int .u32 (Y.has : Int), .int .u8 (Y.origin.toNat : Int), .slice Ap2 Y.path.length np2, .int .u32 (Y.nh : Int), .int .u32 (Y.med : Int), .int .u32 (Y.pref : Int), .int .u32 (Y.byA : Int), .int .u32 (Y.byI : Int), .slice Ac2 Y.comms.length nc2, .slice Aq2 Y.path4.length nq2, .int .u32 (Y.by4A : Int), .int .u32 (Y.by4I : Int), .slice Ao2 Y.others.length no2] := hfacts 14 _ 61 (by decide) rfl rfl
      have x62 : AA.tmps.getD 62 undef = .agg #[.int .u32 (X.has : Int), .int .u8 (X.origin.toNat : Int), .slice Cp X.path.length cp, .int .u32 (X.nh : Int), .int .u32 (X.med : Int), .int .u32 (X.pref : Int), .int .u32 (X.byA : Int), .int .u32 (X.byI : Int), .slice Cc X.comms.length cc, .slice Cq X.path4.length cq, .int .u32 (X.by4A : Int), .int .u32 (X.by4I : Int), .slice Co X.others.length co] := hfacts 15 _ 62 (by decide) rfl rfl
      obtain ⟨pZ, cZ, qZ, oZ, x63, hZ⟩ : ∃ p c q o, (AA.tmps.getD 63 undef) = .agg (Ax.agg Y p c q o) ∧ Atp u Y p c q o := hfacts 16 _ 63 (by decide) rfl rfl
      have x64 : AA.tmps.getD 64 undef = .bool true := hfacts 17 _ 64 (by decide) rfl rfl
      have x65 : AA.tmps.getD 65 undef = .bool false := hfacts 18 _ 65 (by decide) rfl rfl
      have x66 : AA.tmps.getD 66 undef = .bool false := hfacts 19 _ 66 (by decide) rfl rfl
      have x67 : AA.tmps.getD 67 undef = .bool false := hfacts 20 _ 67 (by decide) rfl rfl
      have x68 : AA.tmps.getD 68 undef = .pointer (some ⟨g8 + 1, 0, none⟩) := hfacts 21 _ 68 (by decide) rfl rfl
      have x69 : AA.tmps.getD 69 undef = .int .i64 (c5 : Int) := hfacts 22 _ 69 (by decide) rfl rfl
      have x70 : AA.tmps.getD 70 undef = .bool b5 := hfacts 23 _ 70 (by decide) rfl rfl
      have x71 : AA.tmps.getD 71 undef = .agg #[.int .u32 (m.has : Int), .int .u8 (m.origin.toNat : Int), .slice Bp m.path.length np, .int .u32 (m.nh : Int), .int .u32 (m.med : Int), .int .u32 (m.pref : Int), .int .u32 (m.byA : Int), .int .u32 (m.byI : Int), .slice Bc m.comms.length nc, .slice Bq m.path4.length nq, .int .u32 (m.by4A : Int), .int .u32 (m.by4I : Int), .slice Bo m.others.length no] := hfacts 24 _ 71 (by decide) rfl rfl
      have x72 : AA.tmps.getD 72 undef = .bool b5 := hfacts 25 _ 72 (by decide) rfl rfl
      have x73 : AA.tmps.getD 73 undef = .bool false := hfacts 26 _ 73 (by decide) rfl rfl
      have hA := arr_put AA.tmps [47, 48, 49, 50, 51, 52, 53, 54, 55, 56, 57, 58, 59, 60, 61, 62, 63, 64, 65, 66, 67, 68, 69, 70, 71, 72, 73, 74] _ hsz (fun t ht => hfar t ht)
      obtain ⟨At, Ad⟩ := AA
      simp only at hdef x47 x48 x49 x50 x51 x52 x53 x54 x55 x56 x57 x58 x59 x60 x61 x62 x63 x64 x65 x66 x67 x68 x69 x70 x71 x72 x73 hA
      subst hdef
      simp only [List.foldl_cons, List.foldl_nil, x47, x48, x49, x50, x51, x52, x53, x54, x55, x56, x57, x58, x59, x60, x61, x62, x63, x64, x65, x66, x67, x68, x69, x70, x71, x72, x73] at hA
      clear hfar hfacts hsz x47 x48 x49 x50 x51 x52 x53 x54 x55 x56 x57 x58 x59 x60 x61 x62 x63 x64 x65 x66 x67 x68 x69 x70 x71 x72 x73
      generalize At.getD 74 undef = y74 at hA
      simp only [List.setIfInBounds_toArray, List.set_cons_succ, List.set_cons_zero] at hA
      subst hA
      simp only [List.drop_succ_cons, List.drop_zero]
      have hku := Lib.hid hk
      clear hk
      go_upto_if 77 with fail
      clear P0 P1 P2 P3 P4 P5 P6 P7 P8 P9 P10 P11 P12 Q0 Q1 Q2 Q3 Q4 Q5 Q6 Q7 Q8 Q9 Q10 Q11 Q12 R0 R1 R2 R3 R4 R5 R6 R7 R8 R9 R10 R11 R12 S1 S2 S3 S4 S5 S6 S7 S8 S9 S10 S11 S12
      have KU := Lib.hid (K8.out.trans hku.out)
      have HBU := Lib.hid (HB8.out.old hku.out)
      have z0 : u.cell? ⟨w.heap.size, 0, none⟩ = some (.int .u32 (m.has : Int)) := hku.out.cell_some S0.out (fun x => x)
      have HZ0 := Lib.hid z0
      have HLT32 := Lib.hid (show m.has < 4294967296 from NM5.out.2.2.2.2.1)
      clear hku S0 HB8 BF1b BF2 F1 F2 BA2 T2 NM5 NM3 HBW hZ
      by_cases hB : B = []
      · have h510 : bits .and .u32 (m.has : Int) 510 = 0 := by
          have := bits_and_u32_nat m.has 510 HLT32.out (by decide)
          rw [HE.out.no hB] at this
          exact this
        clear HE HBU HL
        subst hB
        go_wp2_with (go_at_call 12; refine (tells10 _ (HT.out.kept KU.out)).mono ?_; rintro e y4 ⟨rfl, k4⟩; (have Y4 := Lib.hid k4); clear k4)
        go_ret
        exact ⟨rfl, KU.out.trans Y4.out⟩
      · have hpos := List.length_pos_iff.2 hB
        have HLA := Lib.hid (HE.out.last hB)
        have HCU := Lib.hid (HE.out.cut (q % B.length))
        obtain ⟨n1, hn1⟩ : ∃ n1, B.length - 1 = n1 := ⟨_, rfl⟩
        rw [hn1] at HLA
        obtain ⟨k, hk⟩ : ∃ k, q % B.length = k := ⟨_, rfl⟩
        have hkl : k < B.length := by rw [← hk]; exact Nat.mod_lt _ hpos
        rw [hk] at HCU
        have hcb : B.length ≤ nb := by obtain ⟨_, _, e, h1, _⟩ := HBU.out.form; cases e; exact h1
        have e1 : (B.length : Int) - 1 = (n1 : Int) := by omega
        have i2 : (n1 : Int) ≤ (nb : Int) := by omega
        have e2 : (q : Int) % (B.length : Int) = (k : Int) := by rw [← hk]; omega
        have e3 : (q : Int).tmod (B.length : Int) = (k : Int) := by rw [Int.tmod_eq_emod_of_nonneg (by omega)]; exact e2
        have H2 := Lib.hid e2
        have H3 := Lib.hid e3
        have H4 := Lib.hid (show (k : Int) ≤ (nb : Int) ∧ ¬ (B.length : Int) = 0 from ⟨by omega, by omega⟩)
        have H5 := Lib.hid (show (B.length : Int) - 1 = (n1 : Int) ∧ (n1 : Int) ≤ (nb : Int) from ⟨e1, i2⟩)
        clear e1 i2 e2 e3
        have HB1 := Lib.hid (HBU.out.pre (m := n1) (by omega))
        have HB2 := Lib.hid (HBU.out.pre (m := k) (by omega))
        have HLN := Lib.hid (show n1 ≤ 2000000 ∧ k ≤ 2000000 from ⟨by have := HL.out; omega, by have := HL.out; omega⟩)
        clear hpos hn1 hk hkl hcb HBU HE HL z0
        have hl1 : B.length = n1 + 1 := by have := H5.out.1; omega
        have HLL := Lib.hid hl1
        rw [hl1]
        clear hl1 hB
        go_upto_region 14 with fail
        have i2 := H5.out.2
        have i6 : wrap64 (n1 : Int) = (n1 : Int) := by have := HLN.out.1; simp only [wrap64]; omega
        go_upto_region 15 with (go_at_call 8; refine (at_getN (.slice Ab n1 nb) (B.take n1) four false u HB1.out (by have h1 := HLN.out.1; rw [List.length_take]; omega) (HT.out.kept KU.out) (c := 2) (d := []) HLA.out (c' := 2) (x := 0) (y := 0) (n := 0) rfl rfl rfl rfl).mono ?_; rintro e x9 ⟨Ap3, np3, Ac3, nc3, Aq3, nq3, Ao3, no3, Ad3, nd3, rfl, t3, d3, k9⟩)
        clear i2 i6
        obtain ⟨W9, hW⟩ : ∃ W9, (x9.alloc (.cells #[.int .u32 0, .int .u8 0, .slice Ap3 0 np3, .int .u32 0, .int .u32 0, .int .u32 0, .int .u32 0, .int .u32 0, .slice Ac3 0 nc3, .slice Aq3 0 nq3, .int .u32 0, .int .u32 0, .slice Ao3 0 no3] 33)).alloc (.cells #[.int .i64 2, .int .u8 0, .int .u8 0, .slice Ad3 0 nd3] 37) = W9 := ⟨_, rfl⟩
        have kz : Kept Nothing x9 W9 := by rw [← hW]; exact ((Kept.refl Nothing _).alloc _).alloc _
        have BA3 : Hid (Blk W9 x9.heap.size 33 #[.int .u32 0, .int .u8 0, .slice Ap3 0 np3, .int .u32 0, .int .u32 0, .int .u32 0, .int .u32 0, .int .u32 0, .slice Ac3 0 nc3, .slice Aq3 0 nq3, .int .u32 0, .int .u32 0, .slice Ao3 0 no3]) := Lib.hid (by rw [← hW]; exact (Blk.fresh x9 _ _).alloc _)
        have BF3 : Hid (Blk W9 (x9.heap.size + 1) 37 #[.int .i64 2, .int .u8 0, .int .u8 0, .slice Ad3 0 nd3]) := Lib.hid (by
          have h := Blk.fresh (x9.alloc (.cells #[.int .u32 0, .int .u8 0, .slice Ap3 0 np3, .int .u32 0, .int .u32 0, .int .u32 0, .int .u32 0, .int .u32 0, .slice Ac3 0 nc3, .slice Aq3 0 nq3, .int .u32 0, .int .u32 0, .slice Ao3 0 no3] 33)) 37 #[.int .i64 2, .int .u8 0, .int .u8 0, .slice Ad3 0 nd3]
          rw [World.size_alloc] at h
          rw [← hW]
          exact h)
        rw [hW]
        clear hW
        have KU9 := Lib.hid (k9.trans kz)
        have HSZ3 := Lib.hid (same_zero Ap3 Ac3 Aq3 Ao3 np3 nc3 nq3 no3 W9 (t3.off5 kz (Off5.nothing _)).atp2)
        have f3 : W9.cell? ⟨x9.heap.size + 1, 0, none⟩ = some (.int .i64 2) := BF3.out.cell 0
        clear kz k9 t3 d3
        go_upto_if 103 with (first
          | (go_at_call 17; refine (HSZ3.out).mono ?_; rintro e W10 ⟨rfl, k10⟩; (have KU10 := Lib.hid (KU9.out.trans k10)); clear k10)
          | (refine wpList_load_rowG rfl 33 _ rfl x9.heap.size rfl 33 _ (0, 0) _ BA3.out Tryz.underlying33 rfl (by kernel_rfl) ?_))
        clear f3 BA3 BF3 HSZ3
        obtain ⟨y, c, hyc, hcc, hsub⟩ := HCU.out
        have hc3 : c ≠ 3 := by rcases hcc with rfl | ⟨rfl, _⟩ <;> decide
        have HC3 := Lib.hid (show (if c = 3 then (3 : Int) else 0) = 0 from if_neg hc3)
        have HC2 := Lib.hid (show (if c = 3 then (2 : Int) else 0) = 0 from if_neg hc3)
        have HYC := Lib.hid hyc
        have HCC := Lib.hid hcc
        have HSUB := Lib.hid (Ax.off_none hsub)
        have KW10 := Lib.hid (KU.out.trans KU10.out)
        have HBK := Lib.hid (HB2.out.old KU10.out)
        clear hyc hcc hsub hc3
        have e2 : (q : Int) % ((n1 : Int) + 1) = (k : Int) := by have := H2.out; rw [HLL.out] at this; simpa using this
        have e3 : (q : Int).tmod ((n1 : Int) + 1) = (k : Int) := by have := H3.out; rw [HLL.out] at this; simpa using this
        have i3 : (k : Int) ≤ (nb : Int) := H4.out.1
        have i4 : ¬ ((n1 : Int) + 1) = 0 := by omega
        have i5 : wrap64 (q : Int) = (q : Int) := by simp only [wrap64]; omega
        have i6 : wrap64 (k : Int) = (k : Int) := by have := HLN.out.2; simp only [wrap64]; omega
        go_upto_region 18 with (go_at_call 8; refine (at_getE (.slice Ab k nb) (B.take k) four false W10 HBK.out (by have h1 := HLN.out.2; rw [List.length_take]; omega) (HT.out.kept KW10.out) HYC.out rfl HC3.out HC2.out rfl).mono ?_; rintro e x11 ⟨Ap4, np4, Ac4, nc4, Aq4, nq4, Ao4, no4, Ad4, nd4, rfl, t4, d4, k11⟩)
        clear e2 e3 i3 i4 i5 i6
        obtain ⟨W11, hW⟩ : ∃ W11, (x11.alloc (.cells #[.int .u32 (y.has : Int), .int .u8 (y.origin.toNat : Int), .slice Ap4 y.path.length np4, .int .u32 (y.nh : Int), .int .u32 (y.med : Int), .int .u32 (y.pref : Int), .int .u32 (y.byA : Int), .int .u32 (y.byI : Int), .slice Ac4 y.comms.length nc4, .slice Aq4 y.path4.length nq4, .int .u32 (y.by4A : Int), .int .u32 (y.by4I : Int), .slice Ao4 y.others.length no4] 33)).alloc (.cells #[.int .i64 (c : Int), .int .u8 0, .int .u8 0, .slice Ad4 0 nd4] 37) = W11 := ⟨_, rfl⟩
        have kz : Kept Nothing x11 W11 := by rw [← hW]; exact ((Kept.refl Nothing _).alloc _).alloc _
        have BA4 : Hid (Blk W11 x11.heap.size 33 #[.int .u32 (y.has : Int), .int .u8 (y.origin.toNat : Int), .slice Ap4 y.path.length np4, .int .u32 (y.nh : Int), .int .u32 (y.med : Int), .int .u32 (y.pref : Int), .int .u32 (y.byA : Int), .int .u32 (y.byI : Int), .slice Ac4 y.comms.length nc4, .slice Aq4 y.path4.length nq4, .int .u32 (y.by4A : Int), .int .u32 (y.by4I : Int), .slice Ao4 y.others.length no4]) := Lib.hid (by rw [← hW]; exact (Blk.fresh x11 _ _).alloc _)
        have BF4 : Hid (Blk W11 (x11.heap.size + 1) 37 #[.int .i64 (c : Int), .int .u8 0, .int .u8 0, .slice Ad4 0 nd4]) := Lib.hid (by
          have h := Blk.fresh (x11.alloc (.cells #[.int .u32 (y.has : Int), .int .u8 (y.origin.toNat : Int), .slice Ap4 y.path.length np4, .int .u32 (y.nh : Int), .int .u32 (y.med : Int), .int .u32 (y.pref : Int), .int .u32 (y.byA : Int), .int .u32 (y.byI : Int), .slice Ac4 y.comms.length nc4, .slice Aq4 y.path4.length nq4, .int .u32 (y.by4A : Int), .int .u32 (y.by4I : Int), .slice Ao4 y.others.length no4] 33)) 37 #[.int .i64 (c : Int), .int .u8 0, .int .u8 0, .slice Ad4 0 nd4]
          rw [World.size_alloc] at h
          rw [← hW]
          exact h)
        rw [hW]
        clear hW
        have KX := Lib.hid (k11.trans kz)
        have KW11 := Lib.hid (KW10.out.trans KX.out)
        have T4 := Lib.hid (t4.off5 kz (Off5.nothing _)).atp2
        have hm0 := HZ0
        have m0 : W11.cell? ⟨w.heap.size, 0, none⟩ = some (.int .u32 (m.has : Int)) := (KU10.out.trans KX.out).cell_some HZ0.out (fun x => x)
        have M0 := Lib.hid m0
        clear kz k11 t4 d4 hm0
        rcases HCC.out with rfl | ⟨rfl, rfl⟩
        · have f4 : W11.cell? ⟨x11.heap.size + 1, 0, none⟩ = some (.int .i64 0) := BF4.out.cell 0
          have y0 : W11.cell? ⟨x11.heap.size, 0, none⟩ = some (.int .u32 (y.has : Int)) := BA4.out.cell 0
          have hoff : bits .andNot .u32 (y.has : Int) (m.has : Int) = 0 := by rw [bits_off_u32, HSUB.out]; rfl
          clear BA4 BF4 T4
          go_wp2_with (go_at_call 12; refine (tells10 _ (HT.out.kept KW11.out)).mono ?_; rintro e y4 ⟨rfl, k4⟩; (have Y4 := Lib.hid k4); clear k4)
          go_ret
          exact ⟨rfl, KW11.out.trans Y4.out⟩
        · have BZ4 : Hid (Blk W11 x11.heap.size 33 #[.int .u32 0, .int .u8 0, .slice Ap4 0 np4, .int .u32 0, .int .u32 0, .int .u32 0, .int .u32 0, .int .u32 0, .slice Ac4 0 nc4, .slice Aq4 0 nq4, .int .u32 0, .int .u32 0, .slice Ao4 0 no4]) := Lib.hid BA4.out
          have HSZ4 := Lib.hid (same_zero Ap4 Ac4 Aq4 Ao4 np4 nc4 nq4 no4 W11 T4.out)
          have f4 : W11.cell? ⟨x11.heap.size + 1, 0, none⟩ = some (.int .i64 2) := BF4.out.cell 0
          have hoff : bits .andNot .u32 0 (m.has : Int) = 0 := by have := bits_off_u32 0 m.has; rw [show Ax.off 0 m.has = 0 from Ax.off_none (fun i hi => by rw [Nat.zero_testBit] at hi; cases hi)] at this; exact this
          clear BA4 BF4 T4 m0
          go_wp2_with (first
            | (go_at_call 12; refine (tells10 _ (HT.out.kept (KW11.out.trans Y1.out))).mono ?_; rintro e y4 ⟨rfl, k4⟩; (have Y4 := Lib.hid (Y1.out.trans k4)); clear k4)
            | (go_at_call 17; refine (HSZ4.out).mono ?_; rintro e y1 ⟨rfl, k1⟩; (have Y1 := Lib.hid k1); (have yz0 : y1.cell? ⟨x11.heap.size, 0, none⟩ = some (.int .u32 0) := (BZ4.out.kept k1 (fun x => x)).cell 0); (have ym0 : y1.cell? ⟨w.heap.size, 0, none⟩ = some (.int .u32 (m.has : Int)) := k1.cell_some M0.out (fun x => x)); clear k1)
            | (refine wpList_load_rowG rfl 33 _ rfl x11.heap.size rfl 33 _ (0, 0) _ BZ4.out Tryz.underlying33 rfl (by kernel_rfl) ?_))
          go_ret
          exact ⟨rfl, KW11.out.trans Y4.out⟩
end Go.Proofs.YteofbpdogmajoaaGreatDoor
