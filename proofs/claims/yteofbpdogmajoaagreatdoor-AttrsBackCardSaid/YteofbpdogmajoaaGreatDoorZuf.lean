
/-
  attrs: Put (printed by wip/gen_uf.py).
-/
import Derived.Test.YteofbpdogmajoaaGreatDoorZud
namespace Go.Proofs.YteofbpdogmajoaaGreatDoor
open Go.RowKit
attribute [local go_sem] nz_s

set_option maxRecDepth 20000 in
set_option maxHeartbeats 4000000 in
theorem at_put (a : At) (pv cv qv ov : Value) (four : Bool) (w : World) (h : Atp w a pv cv qv ov) (ht : Wtd w) (hsm : Ax.small a) (hcl : a.comms.length ≤ 1000000) (hol : a.others.length ≤ 1000000) :
    Calls Tryz.prog 15 #[.agg (Ax.agg a pv cv qv ov), .bool four] w fun e w' => ∃ u, e = .returned (.tuple #[u, .int .i64 ((Ax.putM a four).2 : Int)]) ∧ w'.ownsRow w.heap.size 5 1 u (Ax.putM a four).1.length (bys (Ax.putM a four).1) ∧ Kept Nothing w w' := by
  have HA := Lib.hid h
  have HT := Lib.hid ht
  have HMY := Lib.hid (fun u (k : Kept Nothing w u) => at_may a pv cv qv ov u (h.old k) (ht.kept k) hsm)
  have HI := Lib.hid (fun (t : UInt8) u (k : Kept Nothing w u) => at_is a pv cv qv ov t u (h.old k) (ht.kept k))
  have HKN := Lib.hid (fun (t : UInt8) u (k : Kept Nothing w u) => known_any t u (ht.kept k))
  have HBS := Lib.hid (fun (t : UInt8) u => besides_any t u)
  have HVA := Lib.hid (fun (t : UInt8) u (k : Kept Nothing w u) => at_value a pv cv qv ov t four u (h.old k) hsm hcl)
  have HCL := Lib.hid (fun u (k : Kept Nothing w u) => ots_clone w ov a.others u h.2.2.2.1 k (by omega))
  have HOL := Lib.hid hol
  have HE : Hid (Ax.putM a four = if Ax.mayM a = false then ([], 1) else if Ax.errP a four 19 ≠ 0 then ([], Ax.errP a four 19) else ((Ax.sortO (Ax.rowsP a four 19)).flatMap Ax.formO, 0)) := Lib.hid rfl
  obtain ⟨Ap, np, rfl, -, -⟩ := (show ∃ A c, pv = .slice A a.path.length c ∧ _ ∧ _ from h.1.form)
  obtain ⟨Ac, nc, rfl, -, -⟩ := h.2.1.form
  obtain ⟨Aq, nq, rfl, -, -⟩ := (show ∃ A c, qv = .slice A a.path4.length c ∧ _ ∧ _ from h.2.2.1.form)
  obtain ⟨Ao, no, rfl, -, -⟩ := h.2.2.2.1.form
  have HK1 := Lib.hid ((Kept.refl Nothing w).alloc (.cells (Ax.agg a (.slice Ap a.path.length np) (.slice Ac a.comms.length nc) (.slice Aq a.path4.length nq) (.slice Ao a.others.length no)) 33))
  have HB1 := Lib.hid (Blk.fresh w 33 (Ax.agg a (.slice Ap a.path.length np) (.slice Ac a.comms.length nc) (.slice Aq a.path4.length nq) (.slice Ao a.others.length no)))
  clear h ht hsm hcl hol
  have HAG : Hid ((Ax.agg a (.slice Ap a.path.length np) (.slice Ac a.comms.length nc) (.slice Aq a.path4.length nq) (.slice Ao a.others.length no)) = #[.int .u32 (a.has : Int), .int .u8 (a.origin.toNat : Int), .slice Ap a.path.length np, .int .u32 (a.nh : Int), .int .u32 (a.med : Int), .int .u32 (a.pref : Int), .int .u32 (a.byA : Int), .int .u32 (a.byI : Int), .slice Ac a.comms.length nc, .slice Aq a.path4.length nq, .int .u32 (a.by4A : Int), .int .u32 (a.by4I : Int), .slice Ao a.others.length no]) := Lib.hid rfl
  clear HAG
  go_enter Tryz.func15, Tryz.ntmps15
  go_upto_region 1 with fail
  generalize w.alloc (.cells (Ax.agg a (.slice Ap a.path.length np) (.slice Ac a.comms.length nc) (.slice Aq a.path4.length nq) (.slice Ao a.others.length no)) 33) = w1 at *
  cases hmay : Ax.mayM a with
  | false =>
    have HE2 : Hid (Ax.putM a four = ([], 1)) := Lib.hid (by rw [HE.out, if_pos hmay])
    rw [hmay] at HMY
    clear hmay
    go_wp2_with (first
      | (refine wpList_load_row rfl 33 _ rfl w.heap.size rfl 33 _ (0, 0) _ HB1.out Tryz.underlying33 rfl (by kernel_rfl) ?_)
      | (go_at_call 14; refine (HMY.out _ HK1.out).mono ?_; rintro e w2 ⟨rfl, k2⟩))
    go_ret2
    exact ⟨_, by rw [HE2.out]; rfl, by rw [HE2.out]; exact World.ownsRow_nil _ _ _ _, HK1.out.trans k2⟩
  | true =>
    rw [hmay] at HMY
    have HYE : Hid (Ax.mayM a = true) := Lib.hid hmay
    clear hmay
    go_upto_region 4 with (first
      | (refine wpList_load_row rfl 33 _ rfl w.heap.size rfl 33 _ (0, 0) _ HB1.out Tryz.underlying33 rfl (by kernel_rfl) ?_)
      | (go_at_call 14; refine (HMY.out _ HK1.out).mono ?_; rintro e w2 ⟨rfl, k2⟩; (have q12 : w2.cell? ⟨w.heap.size, 12, none⟩ = some (.slice Ao a.others.length no) := (HB1.out.kept k2 (fun x => x)).cell 12); (have K2 := Lib.hid (HK1.out.trans k2)); (have B2 := Lib.hid (HB1.out.kept k2 (fun x => x))); clear k2)
      | (go_at_call 47; refine (HCL.out _ K2.out).mono ?_; rintro e w3 ⟨v3, rfl, o3, k3⟩; (have O3 := Lib.hid o3); (have K3 := Lib.hid (K2.out.trans k3)); (have B3 := Lib.hid (B2.out.kept k3 (fun x => x))); clear o3 k3))
    clear HMY HCL HK1 HB1 K2 B2 q12
    obtain ⟨tt, fr, hg⟩ := HT.out.kept K3.out
    go_wp2_with (refine wpList_load_row rfl 101 _ rfl 0 rfl tt _ fr _ hg Tryz.underlying101 rfl (by kernel_rfl) ?_)
    clear hg
    obtain ⟨i0, hi, hz0, hz1, hz2⟩ := info_parts oth_info
    go_loopw [6, 22] (fun av i wr => ∃ k : Nat, i = .int .i64 (k : Int) ∧ k ≤ 19 ∧ Hid (Oby w wr av (Ax.rowsP a four k)) ∧ Hid (Blk wr w.heap.size 33 (Ax.agg a (.slice Ap a.path.length np) (.slice Ac a.comms.length nc) (.slice Aq a.path4.length nq) (.slice Ao a.others.length no))) ∧ Hid (Kept Nothing w wr) ∧ Hid (Ax.errP a four k = 0)) (fun _ i _ => 19 - (intOf i).toNat)
    case atStart => exact ⟨0, rfl, by omega, Lib.hid (by rw [show Ax.rowsP a four 0 = a.others by simp [Ax.rowsP]]; exact O3.out), B3, K3, Lib.hid rfl⟩
    case round =>
      clear O3 B3 K3
      obtain ⟨k, rfl, hk, HO, BW, KW, HE0⟩ := hrel
      by_cases hlt : k < 19
      · obtain ⟨t, htt⟩ : ∃ t : UInt8, UInt8.ofNat k = t := ⟨_, rfl⟩
        have hkt : IntKind.u8.wrap (k : Int) = (t.toNat : Int) := by
          rw [← htt]
          simp [IntKind.wrap, IntKind.bits, IntKind.signed]
        have hix := wants_at k hlt
        rw [htt] at hix
        have i2 : (k : Int) < 19 := by omega
        have HKL := Lib.hid hlt
        have HL6 : Hid ((Ax.rowsP a four k).length + 1 ≤ maxLen ∧ ((Ax.rowsP a four k).length + 1) * 32 ≤ 140737488355328) := Lib.hid (by have := Ax.rowsP_len a four k; have := HOL.out; unfold maxLen; omega)
        have HRS : Hid (Ax.rowsP a four (k + 1) = Ax.rowsP a four k ++ (if Ax.lays a four t = true then [⟨Ax.wanted t, t, (Ax.val a four t).1⟩] else []) ∧ Ax.errP a four (k + 1) = if Ax.lays a four t = true then (Ax.val a four t).2 else 0) := Lib.hid (by
          refine ⟨by rw [Ax.rowsP_succ]; unfold Ax.rowP; rw [htt], ?_⟩
          show (if Ax.errP a four k ≠ 0 then _ else _) = _
          rw [if_neg (by rw [HE0.out]; simp), htt])
        have HIt := Lib.hid (HI.out t)
        have HKNt := Lib.hid (HKN.out t)
        have HBSt := Lib.hid (HBS.out t)
        have HVt := Lib.hid (HVA.out t)
        obtain ⟨d, hd1, hd2, hd3⟩ := HO.out
        obtain ⟨Aa, ca, rfl, -, -⟩ := ow_form hd2
        have HD1 := Lib.hid hd1
        have HD2 := Lib.hid hd2
        have HD3 := Lib.hid hd3
        clear htt HI HKN HBS HVA hlt hd1 hd2 hd3
        generalize Ax.rowsP a four k = rs at *
        cases his : Ax.is a t with
        | false =>
          rw [his] at HIt
          have HLY : Hid (Ax.lays a four t = false) := Lib.hid (by unfold Ax.lays; rw [his]; rfl)
          have HR1 : Hid (Ax.rowsP a four (k + 1) = rs) := Lib.hid (by rw [HRS.out.1, HLY.out, if_neg (by simp), List.append_nil])
          have HE1 : Hid (Ax.errP a four (k + 1) = 0) := Lib.hid (by rw [HRS.out.2, HLY.out, if_neg (by simp)])
          clear HLY HRS
          go_wp2_with (first
            | (refine wpList_load_row rfl 33 _ rfl w.heap.size rfl 33 _ (0, 0) _ BW.out Tryz.underlying33 rfl (by kernel_rfl) ?_)
            | (go_at_call 18; refine (HIt.out _ KW.out).mono ?_; rintro e w2 ⟨rfl, k2⟩; (have K2 := Lib.hid (KW.out.trans k2)); (have B2 := Lib.hid (BW.out.kept k2 (fun x => x))); (have K02 := Lib.hid k2); clear k2)
            )
          go_roundw
          case rel => exact ⟨k + 1, by go_num, by have := HKL.out; omega, Lib.hid (by rw [HR1.out]; exact HO.out.old K02.out), B2, K2, HE1⟩
          case measure => have := HKL.out; simp [intOf]; omega

        | true =>
          rw [his] at HIt
          cases hkn : Ax.known t with
          | false =>
            rw [hkn] at HKNt
            have HLY : Hid (Ax.lays a four t = false) := Lib.hid (by unfold Ax.lays; rw [hkn]; simp)
            have HR1 : Hid (Ax.rowsP a four (k + 1) = rs) := Lib.hid (by rw [HRS.out.1, HLY.out, if_neg (by simp), List.append_nil])
            have HE1 : Hid (Ax.errP a four (k + 1) = 0) := Lib.hid (by rw [HRS.out.2, HLY.out, if_neg (by simp)])
            clear HLY HRS
            go_wp2_with (first
              | (refine wpList_load_row rfl 33 _ rfl w.heap.size rfl 33 _ (0, 0) _ BW.out Tryz.underlying33 rfl (by kernel_rfl) ?_)
              | (go_at_call 18; refine (HIt.out _ KW.out).mono ?_; rintro e w2 ⟨rfl, k2⟩; (have K2 := Lib.hid (KW.out.trans k2)); (have B2 := Lib.hid (BW.out.kept k2 (fun x => x))); (have K02 := Lib.hid k2); clear k2)
              | (go_at_call 28; refine (HKNt.out _ K2.out).mono ?_; rintro e w3 ⟨rfl, rfl⟩)
              )
            go_roundw
            case rel => exact ⟨k + 1, by go_num, by have := HKL.out; omega, Lib.hid (by rw [HR1.out]; exact HO.out.old K02.out), B2, K2, HE1⟩
            case measure => have := HKL.out; simp [intOf]; omega

          | true =>
            rw [hkn] at HKNt
            cases four with
            | true =>
              cases hbs : Ax.beside t with
              | true =>
                rw [show decide (t.toNat = 17 ∨ t.toNat = 18) = true from hbs] at HBSt
                have HLY : Hid (Ax.lays a true t = false) := Lib.hid (by unfold Ax.lays; rw [hbs]; simp)
                have HR1 : Hid (Ax.rowsP a true (k + 1) = rs) := Lib.hid (by rw [HRS.out.1, HLY.out, if_neg (by simp), List.append_nil])
                have HE1 : Hid (Ax.errP a true (k + 1) = 0) := Lib.hid (by rw [HRS.out.2, HLY.out, if_neg (by simp)])
                clear HLY HRS
                go_wp2_with (first
                  | (refine wpList_load_row rfl 33 _ rfl w.heap.size rfl 33 _ (0, 0) _ BW.out Tryz.underlying33 rfl (by kernel_rfl) ?_)
                  | (go_at_call 18; refine (HIt.out _ KW.out).mono ?_; rintro e w2 ⟨rfl, k2⟩; (have K2 := Lib.hid (KW.out.trans k2)); (have B2 := Lib.hid (BW.out.kept k2 (fun x => x))); (have K02 := Lib.hid k2); clear k2)
                  | (go_at_call 28; refine (HKNt.out _ K2.out).mono ?_; rintro e w3 ⟨rfl, rfl⟩)
                  | (go_at_call 48; refine (HBSt.out _).mono ?_; rintro e w3 ⟨rfl, rfl⟩)
                  )
                go_roundw
                case rel => exact ⟨k + 1, by go_num, by have := HKL.out; omega, Lib.hid (by rw [HR1.out]; exact HO.out.old K02.out), B2, K2, HE1⟩
                case measure => have := HKL.out; simp [intOf]; omega

              | false =>
                rw [show decide (t.toNat = 17 ∨ t.toNat = 18) = false from hbs] at HBSt
                have HLY : Hid (Ax.lays a true t = true) := Lib.hid (by unfold Ax.lays; rw [his, hkn, hbs]; rfl)
                have HR1 : Hid (Ax.rowsP a true (k + 1) = rs ++ [⟨Ax.wanted t, t, (Ax.val a true t).1⟩]) := Lib.hid (by rw [HRS.out.1, HLY.out, if_pos rfl])
                have HE1 : Hid (Ax.errP a true (k + 1) = (Ax.val a true t).2) := Lib.hid (by rw [HRS.out.2, HLY.out, if_pos rfl])
                clear HLY HRS
                generalize (Ax.val a true t).1 = vb at *
                generalize (Ax.val a true t).2 = ve at *
                generalize Ax.wanted t = wf at *
                by_cases hve : ve = 0
                · subst hve
                  clear HE
                  go_wp2_with (first
                    | (refine wpList_load_row rfl 33 _ rfl w.heap.size rfl 33 _ (0, 0) _ BW.out Tryz.underlying33 rfl (by kernel_rfl) ?_)
                    | (refine wpList_load_row rfl 33 _ rfl w.heap.size rfl 33 _ (0, 0) _ B2.out Tryz.underlying33 rfl (by kernel_rfl) ?_)
                    | (go_at_call 18; refine (HIt.out _ KW.out).mono ?_; rintro e w2 ⟨rfl, k2⟩; (have K2 := Lib.hid (KW.out.trans k2)); (have B2 := Lib.hid (BW.out.kept k2 (fun x => x))); (have K02 := Lib.hid k2); clear k2)
                    | (go_at_call 28; refine (HKNt.out _ K2.out).mono ?_; rintro e w3 ⟨rfl, rfl⟩)
                    | (go_at_call 48; refine (HBSt.out _).mono ?_; rintro e w3 ⟨rfl, rfl⟩)
                    | (go_at_call 49; refine (HVt.out _ K2.out).mono ?_; rintro e w4 ⟨v4, rfl, o4, k4⟩; (obtain ⟨A4, c4, rfl, -, -⟩ := ow_form o4); (have O4 := Lib.hid o4); (have K04 := Lib.hid k4); clear o4 k4)
                    | (at_builtin; refine wpList_app _ rfl _ _ 31 rfl w.heap.size 73 i0 _ 3 32 Tryz.underlying31 hi hz0 hz1 hz2 rfl (by decide) (.slice Aa rs.length ca) rs.length (d.flatMap encO) rfl (ow_kept HD2.out ((K02.out.trans K04.out).alloc _) (fun _ _ x => x)) (some ⟨w4.heap.size, 0, none⟩) 1 1 [.int .u8 (wf.toNat : Int), .int .u8 (t.toNat : Int), .slice A4 vb.length c4] rfl (src_new w4 _ #[.int .u8 (wf.toNat : Int), .int .u8 (t.toNat : Int), .slice A4 vb.length c4] 3 1 rfl (by simp [Value.oneCell'])) HL6.out.1 HL6.out.2 (Nat.le_trans (K2.out.trans K04.out).size (by simp)) ?_; intro v9 w9 ho9 hg9 _; (have HO9 := Lib.hid ho9); (have HG9 := Lib.hid hg9); (obtain ⟨A9, c9, rfl, -, -⟩ := ow_form ho9); clear ho9 hg9))
                  have K9 : Hid (Kept Nothing w w9) := Lib.hid (((K2.out.trans K04.out).alloc _).trans_new (grown_kept HG9.out) (fun g hg x => by have := (ow_ge HD2.out x).1; omega))
                  have B9 : Hid (Blk w9 w.heap.size 33 (Ax.agg a (.slice Ap a.path.length np) (.slice Ac a.comms.length nc) (.slice Aq a.path4.length nq) (.slice Ao a.others.length no))) := Lib.hid (((B2.out.kept K04.out (fun x => x)).kept ((Kept.refl Nothing _).alloc _) (fun x => x)).kept (grown_kept HG9.out) (fun x => by
                    obtain ⟨cs2, hh2⟩ := ow_lt HD2.out x
                    exact (BW.out.apart (t' := 73) hh2 (by decide)) rfl))
                  have kz := (K02.out.trans K04.out).alloc (.cells #[.int .u8 (wf.toNat : Int), .int .u8 (t.toNat : Int), .slice A4 vb.length c4] 73)
                  have O9 := Oby.pushed (w0 := w) (c := ⟨wf, t, vb⟩) HD1.out (ow_kept HD2.out kz (fun _ _ x => x)) (fun x hx => (HD3.out x hx).imp id (fun y => ow_kept y kz (fun _ _ x => x))) (own_weakA (ow_kept O4.out ((Kept.refl Nothing _).alloc _) (fun _ _ x => x)) K2.out.size) HO9.out HG9.out
                  go_roundw
                  case rel => exact ⟨k + 1, by go_num, by have := HKL.out; omega, Lib.hid (by rw [HR1.out]; exact O9), B9, K9, HE1⟩
                  case measure => have := HKL.out; simp [intOf]; omega
                · have HX : Hid (Ax.errP a true 19 = ve) := Lib.hid (by
                    have h1 := Ax.errP_stay a true (k + 1) (by rw [HE1.out]; exact hve) (19 - (k + 1))
                    rw [show k + 1 + (19 - (k + 1)) = 19 by have := HKL.out; omega] at h1
                    rw [h1, HE1.out])
                  have HP : Hid (Ax.putM a true = ([], ve)) := Lib.hid (by rw [HE.out, if_neg (by rw [HYE.out]; simp), if_pos (by rw [HX.out]; exact hve), HX.out])
                  obtain ⟨m, rfl⟩ : ∃ m : Nat, ve = m + 1 := ⟨ve - 1, by omega⟩
                  have i7 : ((m : Int) + 1 != 0) = true := by rw [bne_iff_ne]; omega
                  have i8 : ¬ (m : Int) + 1 = 0 := by omega
                  rw [show (((m + 1 : Nat) : Int)) = (m : Int) + 1 by omega] at HVt
                  clear HE hve HX
                  go_wp2_with (first
                    | (refine wpList_load_row rfl 33 _ rfl w.heap.size rfl 33 _ (0, 0) _ BW.out Tryz.underlying33 rfl (by kernel_rfl) ?_)
                    | (refine wpList_load_row rfl 33 _ rfl w.heap.size rfl 33 _ (0, 0) _ B2.out Tryz.underlying33 rfl (by kernel_rfl) ?_)
                    | (go_at_call 18; refine (HIt.out _ KW.out).mono ?_; rintro e w2 ⟨rfl, k2⟩; (have K2 := Lib.hid (KW.out.trans k2)); (have B2 := Lib.hid (BW.out.kept k2 (fun x => x))); (have K02 := Lib.hid k2); clear k2)
                    | (go_at_call 28; refine (HKNt.out _ K2.out).mono ?_; rintro e w3 ⟨rfl, rfl⟩)
                    | (go_at_call 48; refine (HBSt.out _).mono ?_; rintro e w3 ⟨rfl, rfl⟩)
                    | (go_at_call 49; refine (HVt.out _ K2.out).mono ?_; rintro e w4 ⟨v4, rfl, o4, k4⟩; (obtain ⟨A4, c4, rfl, -, -⟩ := ow_form o4); (have O4 := Lib.hid o4); (have K04 := Lib.hid k4); clear o4 k4))
                  go_ret2
                  exact ⟨_, by rw [HP.out]; rfl, by rw [HP.out]; exact World.ownsRow_nil _ _ _ _, K2.out.trans K04.out⟩

            | false =>
              have HLY : Hid (Ax.lays a false t = true) := Lib.hid (by unfold Ax.lays; rw [his, hkn]; rfl)
              have HR1 : Hid (Ax.rowsP a false (k + 1) = rs ++ [⟨Ax.wanted t, t, (Ax.val a false t).1⟩]) := Lib.hid (by rw [HRS.out.1, HLY.out, if_pos rfl])
              have HE1 : Hid (Ax.errP a false (k + 1) = (Ax.val a false t).2) := Lib.hid (by rw [HRS.out.2, HLY.out, if_pos rfl])
              clear HLY HRS
              generalize (Ax.val a false t).1 = vb at *
              generalize (Ax.val a false t).2 = ve at *
              generalize Ax.wanted t = wf at *
              by_cases hve : ve = 0
              · subst hve
                clear HE
                go_wp2_with (first
                  | (refine wpList_load_row rfl 33 _ rfl w.heap.size rfl 33 _ (0, 0) _ BW.out Tryz.underlying33 rfl (by kernel_rfl) ?_)
                  | (refine wpList_load_row rfl 33 _ rfl w.heap.size rfl 33 _ (0, 0) _ B2.out Tryz.underlying33 rfl (by kernel_rfl) ?_)
                  | (go_at_call 18; refine (HIt.out _ KW.out).mono ?_; rintro e w2 ⟨rfl, k2⟩; (have K2 := Lib.hid (KW.out.trans k2)); (have B2 := Lib.hid (BW.out.kept k2 (fun x => x))); (have K02 := Lib.hid k2); clear k2)
                  | (go_at_call 28; refine (HKNt.out _ K2.out).mono ?_; rintro e w3 ⟨rfl, rfl⟩)
                  | (go_at_call 49; refine (HVt.out _ K2.out).mono ?_; rintro e w4 ⟨v4, rfl, o4, k4⟩; (obtain ⟨A4, c4, rfl, -, -⟩ := ow_form o4); (have O4 := Lib.hid o4); (have K04 := Lib.hid k4); clear o4 k4)
                  | (at_builtin; refine wpList_app _ rfl _ _ 31 rfl w.heap.size 73 i0 _ 3 32 Tryz.underlying31 hi hz0 hz1 hz2 rfl (by decide) (.slice Aa rs.length ca) rs.length (d.flatMap encO) rfl (ow_kept HD2.out ((K02.out.trans K04.out).alloc _) (fun _ _ x => x)) (some ⟨w4.heap.size, 0, none⟩) 1 1 [.int .u8 (wf.toNat : Int), .int .u8 (t.toNat : Int), .slice A4 vb.length c4] rfl (src_new w4 _ #[.int .u8 (wf.toNat : Int), .int .u8 (t.toNat : Int), .slice A4 vb.length c4] 3 1 rfl (by simp [Value.oneCell'])) HL6.out.1 HL6.out.2 (Nat.le_trans (K2.out.trans K04.out).size (by simp)) ?_; intro v9 w9 ho9 hg9 _; (have HO9 := Lib.hid ho9); (have HG9 := Lib.hid hg9); (obtain ⟨A9, c9, rfl, -, -⟩ := ow_form ho9); clear ho9 hg9))
                have K9 : Hid (Kept Nothing w w9) := Lib.hid (((K2.out.trans K04.out).alloc _).trans_new (grown_kept HG9.out) (fun g hg x => by have := (ow_ge HD2.out x).1; omega))
                have B9 : Hid (Blk w9 w.heap.size 33 (Ax.agg a (.slice Ap a.path.length np) (.slice Ac a.comms.length nc) (.slice Aq a.path4.length nq) (.slice Ao a.others.length no))) := Lib.hid (((B2.out.kept K04.out (fun x => x)).kept ((Kept.refl Nothing _).alloc _) (fun x => x)).kept (grown_kept HG9.out) (fun x => by
                  obtain ⟨cs2, hh2⟩ := ow_lt HD2.out x
                  exact (BW.out.apart (t' := 73) hh2 (by decide)) rfl))
                have kz := (K02.out.trans K04.out).alloc (.cells #[.int .u8 (wf.toNat : Int), .int .u8 (t.toNat : Int), .slice A4 vb.length c4] 73)
                have O9 := Oby.pushed (w0 := w) (c := ⟨wf, t, vb⟩) HD1.out (ow_kept HD2.out kz (fun _ _ x => x)) (fun x hx => (HD3.out x hx).imp id (fun y => ow_kept y kz (fun _ _ x => x))) (own_weakA (ow_kept O4.out ((Kept.refl Nothing _).alloc _) (fun _ _ x => x)) K2.out.size) HO9.out HG9.out
                go_roundw
                case rel => exact ⟨k + 1, by go_num, by have := HKL.out; omega, Lib.hid (by rw [HR1.out]; exact O9), B9, K9, HE1⟩
                case measure => have := HKL.out; simp [intOf]; omega
              · have HX : Hid (Ax.errP a false 19 = ve) := Lib.hid (by
                  have h1 := Ax.errP_stay a false (k + 1) (by rw [HE1.out]; exact hve) (19 - (k + 1))
                  rw [show k + 1 + (19 - (k + 1)) = 19 by have := HKL.out; omega] at h1
                  rw [h1, HE1.out])
                have HP : Hid (Ax.putM a false = ([], ve)) := Lib.hid (by rw [HE.out, if_neg (by rw [HYE.out]; simp), if_pos (by rw [HX.out]; exact hve), HX.out])
                obtain ⟨m, rfl⟩ : ∃ m : Nat, ve = m + 1 := ⟨ve - 1, by omega⟩
                have i7 : ((m : Int) + 1 != 0) = true := by rw [bne_iff_ne]; omega
                have i8 : ¬ (m : Int) + 1 = 0 := by omega
                rw [show (((m + 1 : Nat) : Int)) = (m : Int) + 1 by omega] at HVt
                clear HE hve HX
                go_wp2_with (first
                  | (refine wpList_load_row rfl 33 _ rfl w.heap.size rfl 33 _ (0, 0) _ BW.out Tryz.underlying33 rfl (by kernel_rfl) ?_)
                  | (refine wpList_load_row rfl 33 _ rfl w.heap.size rfl 33 _ (0, 0) _ B2.out Tryz.underlying33 rfl (by kernel_rfl) ?_)
                  | (go_at_call 18; refine (HIt.out _ KW.out).mono ?_; rintro e w2 ⟨rfl, k2⟩; (have K2 := Lib.hid (KW.out.trans k2)); (have B2 := Lib.hid (BW.out.kept k2 (fun x => x))); (have K02 := Lib.hid k2); clear k2)
                  | (go_at_call 28; refine (HKNt.out _ K2.out).mono ?_; rintro e w3 ⟨rfl, rfl⟩)
                  | (go_at_call 49; refine (HVt.out _ K2.out).mono ?_; rintro e w4 ⟨v4, rfl, o4, k4⟩; (obtain ⟨A4, c4, rfl, -, -⟩ := ow_form o4); (have O4 := Lib.hid o4); (have K04 := Lib.hid k4); clear o4 k4))
                go_ret2
                exact ⟨_, by rw [HP.out]; rfl, by rw [HP.out]; exact World.ownsRow_nil _ _ _ _, K2.out.trans K04.out⟩

      · obtain rfl : k = 19 := by omega
        have HP : Hid (Ax.putM a four = ((Ax.sortO (Ax.rowsP a four 19)).flatMap Ax.formO, 0)) := Lib.hid (by rw [HE.out, if_neg (by rw [HYE.out]; simp), if_neg (by rw [HE0.out]; simp)])
        have HUN := Lib.hid (Ax.rowsP_unlike HYE.out (four := four) (k := 19) (by omega)).1
        have HLE : Hid (∀ o ∈ Ax.sortO (Ax.rowsP a four 19), o.v.length ≤ 65535) := Lib.hid (fun o ho => Ax.rowsP_le HYE.out (k := 19) (by omega) o ((Ax.sortO_perm _).mem_iff.1 ho))
        have HLN : Hid ((Ax.rowsP a four 19).length ≤ 1000019) := Lib.hid (by have := Ax.rowsP_len a four 19; have := HOL.out; omega)
        have HSL : Hid ((Ax.sortO (Ax.rowsP a four 19)).length = (Ax.rowsP a four 19).length) := Lib.hid (Ax.sortO_perm _).length_eq
        clear hlt hk HI HKN HBS HVA HE HE0 hi hz0 hz1 hz2
        obtain ⟨d0, -, h02, -⟩ := HO.out
        obtain ⟨Aa, ca, rfl, -, -⟩ := ow_form h02
        clear h02 d0
        generalize Ax.rowsP a four 19 = rs at *
        go_upto_region 15 with (go_at_call 32; refine (sort_oby w _ rs _ HO.out HUN.out (by have := HLN.out; omega)).mono ?_; rintro e w5 ⟨rfl, o5, k5⟩; (have O5 := Lib.hid o5); (have K5 := Lib.hid (KW.out.trans_new k5 (fun g hg x => by obtain ⟨d, _, h2, _⟩ := HO.out; have := (ow_ge h2 x).1; omega))); clear o5 k5)
        have HOT := Lib.hid (O5.out.ots K5.out)
        clear HO BW KW O5
        go_wp2_with fail
        refine (wr_lay _).mono ?_
        rintro e w6 ⟨p, F, rfl, hW6, k6, s6⟩
        have L6 : Hid (LayPost w5 p ⟨((Ax.sortO rs).take 0).flatMap Ax.formO, [], 0⟩ w6) := Lib.hid ⟨F, hW6, k6, fun g hg => (s6 g hg).elim (fun x => x.elim) id⟩
        clear hW6 k6 s6
        rw [← HSL.out] at HLN HOT ⊢
        generalize Ax.sortO rs = l at *
        have hll : l.length ≤ 1000019 := HLN.out
        go_wp2_with fail
        go_loopw [67] (fun i wq => ∃ j : Nat, i = .int .i64 (j : Int) ∧ j ≤ l.length ∧ Hid (LayPost w5 p ⟨(l.take j).flatMap Ax.formO, [], 0⟩ wq)) (fun i _ => l.length - (intOf i).toNat)
        case atStart => exact ⟨0, rfl, Nat.zero_le _, L6⟩
        case round =>
          clear L6
          obtain ⟨j, rfl, hj, HL⟩ := hrel
          have hkk : Kept Nothing w5 wr := by obtain ⟨_, _, hk3, _⟩ := HL.out; exact hk3
          by_cases hlt : j < l.length
          · obtain ⟨b, o, f, t, vb, Av, cv, rfl, hel, p0, p1, p2, hby⟩ := HOT.out.get hlt rfl
            have q0 := hkk.cell_some p0 (fun x => x)
            have q1 := hkk.cell_some p1 (fun x => x)
            have q2 := hkk.cell_some p2 (fun x => x)
            have i1 : (0 : Int) ≤ (j : Int) := by omega
            have i2 : (j : Int) < (l.length : Int) := by omega
            have hvl : vb.length ≤ 65535 := by have := HLE.out _ (List.getElem_mem hlt); rw [hel] at this; exact this
            have HNX : Hid ((l.take (j + 1)).flatMap Ax.formO = (l.take j).flatMap Ax.formO ++ Ax.formO ⟨f, t, vb⟩) := Lib.hid (by rw [List.take_succ_eq_append_getElem hlt, List.flatMap_append, hel]; simp)
            have hsl : ((l.take j).flatMap Ax.formO).length ≤ 65540245241 := by
              have h1 := forms_len (l.take j) (fun o ho => HLE.out o (List.mem_of_mem_take ho))
              rw [List.length_take] at h1
              have h2 : min j l.length * 65539 ≤ 65540245241 := by
                have h3 : min j l.length ≤ 1000019 := by omega
                exact Nat.le_trans (Nat.mul_le_mul_right 65539 h3) (by decide)
              omega
            have LA : LayPost w5 p ⟨(l.take j).flatMap Ax.formO, [], 0⟩ (wr.alloc (.cells #[.int .u8 (f.toNat : Int), .int .u8 (t.toNat : Int), .slice Av vb.length cv] 73)) := by
              obtain ⟨F3, h1, h2, h3⟩ := HL.out
              exact ⟨F3, h1.kept ((Kept.refl Nothing wr).alloc _) (fun _ _ x => x), h2.alloc _, h3⟩
            have CL := ot_lay w5 f t (.slice Av vb.length cv) vb hby p _ _ LA (by simp only; omega) (by simp)
            rw [layO_eq _ _ hvl, ← HNX.out] at CL
            have HCLL := Lib.hid CL
            have HJL := Lib.hid hlt
            clear LA CL HL hsl hel p0 p1 p2 hby hvl HNX hkk HOT HLE HP hlt
            go_wp2_with (go_at_call 51; refine (HCLL.out).mono ?_; rintro e w4 ⟨u4, rfl, hL4⟩)
            go_roundw
            case rel => exact ⟨j + 1, by go_num, by have := HJL.out; omega, Lib.hid hL4⟩
            case measure => have := HJL.out; simp [intOf]; omega
          · obtain rfl : j = l.length := by omega
            rw [List.take_of_length_le (Nat.le_refl _)] at HL
            obtain ⟨F3, hW3, hk3, hF3⟩ := HL.out
            have hD := wr_done_own p F3 _ wr hW3 rfl rfl
            have ED : ((⟨l.flatMap Ax.formO, [], 0⟩ : WS)).done = (l.flatMap Ax.formO, 0) := by simp [WS.done]
            rw [ED] at hD
            have HD := Lib.hid hD
            have K3 := Lib.hid (K5.out.trans hk3)
            clear hD ED HL hW3 hk3 hF3
            go_wp2_with (go_at_call 52; refine (HD.out).mono ?_; rintro e w8 ⟨v8, rfl, hb8, hk8⟩)
            go_ret2
            exact ⟨_, by rw [HP.out]; rfl, by rw [HP.out]; exact own_weakA hb8 K3.out.size, K3.out.trans hk8⟩
end Go.Proofs.YteofbpdogmajoaaGreatDoor
