
/-
  The law FuseNarrow.
-/
import Derived.Test.YthjljamngpddmaaGreatDoorY18
import Derived.Test.YthjljamngpddmaaGreatDoorY19
import Derived.Test.YthjljamngpddmaaGreatDoorY03
namespace Go.Proofs.YthjljamngpddmaaGreatDoor
open Go.RowKit Go.Shelf

set_option maxRecDepth 100000 in
set_option maxHeartbeats 8000000 in
theorem law_narrow (v : Value) (l : List Seg) (w : World) (h : Pts w v l) (hr : Rdy2 w) (hs : Bkt w) :
    Calls Tryz.prog 7 #[v] w fun e w' => e = .returned (.bool true) ∧ Kept Nothing w w' := by
  obtain ⟨A, c, rfl, -, -⟩ := h.form
  have HM := Lib.hid (brought _ l w h)
  have HR := Lib.hid hr
  have HS := Lib.hid hs
  obtain ⟨hb1, hb2⟩ := brF_bnd l
  have HP8 := Lib.hid (brF_len l)
  have HNUM := Lib.hid (fun s hs => brF_num (l := l) (s := s) hs)
  clear h hr hs
  generalize brF l = P at *
  go_enter Tryz.func7, Tryz.ntmps7
  go_upto_region 2 with (go_at_call 25; refine (HM.out).mono ?_; rintro e w1 ⟨v1, rfl, p1, k1⟩; (have P1 := Lib.hid p1.pts); (have K1 := Lib.hid k1); clear p1 k1)
  obtain ⟨A1, c1, rfl, -, -⟩ := P1.out.form
  have HNA := Lib.hid (fuse_narrow _ P w1 P1.out hb1 hb2)
  have HBL := Lib.hid (Fz.narrow_2 P)
  rw [Fz.narrow_1, Fz.narrow_3] at HNA
  generalize (Fz.narrow P).2.1 = BL at *
  go_upto_region 3 with (go_at_call 30; refine (HNA.out).mono ?_; rintro e w2 ⟨v2, v3, rfl, n2, b2, k2⟩; (have N2 := Lib.hid n2.pts); (have B2 := Lib.hid b2.pts); (have K2 := Lib.hid (K1.out.trans k2)); (have P2 := Lib.hid (P1.out.old k2)); clear n2 b2 k2)
  clear P1 K1 HNA HM
  obtain ⟨A2, c2, rfl, -, -⟩ := N2.out.form
  obtain ⟨A3, c3, rfl, -, -⟩ := B2.out.form
  have hnl : (Fz.nar P).length = P.length := Fz.nar_len P
  rw [hnl] at N2 ⊢
  have hb3 : ∀ s ∈ Fz.nar P, s.2.length ≤ 1000000 := fun s hs => by
    obtain ⟨t, ht, rfl⟩ := List.mem_map.1 hs
    show (t.2.map short).length ≤ _
    rw [List.length_map]
    exact hb2 t ht
  have CN := Lib.hid (fun u (k : Kept Nothing w2 u) => path_count _ (Fz.nar P) u (N2.out.old k) (by omega) hb3)
  have CP := Lib.hid (fun u (k : Kept Nothing w2 u) => path_count _ P u (P2.out.old k) hb1 hb2)
  have WN := Lib.hid (fun u (k : Kept Nothing w2 u) => fuse_wt _ (Fz.nar P) u (N2.out.old k) (by omega) hb3)
  have WP := Lib.hid (fun u (k : Kept Nothing w2 u) => fuse_wt _ P u (P2.out.old k) hb1 hb2)
  have NN := Lib.hid (fun u (k : Kept Nothing w2 u) => fuse_narrow _ (Fz.nar P) u (N2.out.old k) (by omega) hb3)
  have BP := Lib.hid (fun u (k : Kept Nothing w2 u) => fuse_bare _ P u (P2.out.old k) hb1 hb2)
  have hpl := plains_len P
  have hb4 : ∀ s ∈ plains P, s.2.length ≤ 1000000 := fun s hs => hb2 s (List.mem_filter.1 hs).1
  have BB := Lib.hid (fun v u (h : Pts u v (plains P)) => fuse_bare v (plains P) u h (by omega) hb4)
  have WB := Lib.hid (fun v u (h : Pts u v (plains P)) => fuse_wt v (plains P) u h (by omega) hb4)
  have CW := Lib.hid (fun u (k : Kept Nothing w2 u) => wakes9 u (HR.out.kept (K2.out.trans k)) (HS.out.kept (K2.out.trans k)))
  rw [Fz.nar_cnt] at CN
  rw [Fz.nar_wt] at WN
  rw [Fz.narrow_nar] at NN
  rw [Fz.plains_plains] at BB
  rw [Fz.wt_plains] at WB
  clear hb3 hb4 hnl
  go_upto_region 6 with (first
    | (go_at_call 36; refine (WP.out _ m3).mono ?_; rintro e u4 ⟨rfl, q4⟩; have m4 := m3.trans q4)
    | (go_at_call 36; refine (WN.out _ m2).mono ?_; rintro e u3 ⟨rfl, q3⟩; have m3 := m2.trans q3)
    | (go_at_call 19; refine (CP.out _ m1).mono ?_; rintro e u2 ⟨rfl, q2⟩; have m2 := m1.trans q2)
    | (go_at_call 19; refine (CN.out _ (Kept.refl _ _)).mono ?_; rintro e u1 ⟨rfl, m1⟩))
  have M4 := Lib.hid m4
  clear m1 m2 m3 m4 q2 q3 q4 CN CP WN
  go_wp2
  have HW0 : Hid ((P.take 0).any Fz.wideS = false) := Lib.hid rfl
  go_loopw [6, 45] (fun x i wr => ∃ k : Nat, i = .int .i64 (k : Int) ∧ k ≤ P.length ∧ x = .bool ((P.take k).any Fz.wideS) ∧ Hid (Kept Nothing w2 wr)) (fun _ i _ => P.length - (intOf i).toNat)
  case atStart => exact ⟨0, rfl, Nat.zero_le _, by rw [HW0.out], M4⟩
  case round =>
    clear HW0 M4
    obtain ⟨k, rfl, hk, rfl, KK⟩ := hrel
    by_cases hlt : k < P.length
    · have hmem : P.getD k (0, []) ∈ P := by rw [getD_get hlt]; exact List.getElem_mem _
      have hsl := hb2 _ hmem
      have hkk := (HNUM.out _ hmem).2.2
      obtain ⟨b, o, Au, cu, rfl, p0w, p1w, hpA⟩ := P2.out.at2 hlt
      obtain ⟨b', o', Av, cv, rfl, r0w, r1w, hrA⟩ := N2.out.at2 (i := k) hlt
      rw [Fz.nar_at hlt] at r0w r1w hrA
      have HWT := Lib.hid (Fz.wide_take hlt)
      clear hmem
      generalize P.getD k (0, []) = sg at *
      obtain ⟨sk, sn⟩ := sg
      rw [show Fz.nar1 (sk, sn) = (sk, sn.map short) from rfl] at r0w r1w hrA
      simp only [List.length_map] at r1w hrA p0w p1w r0w hsl hkk
      have HPA := Lib.hid hpA
      have HRA := Lib.hid hrA
      clear hpA hrA
      have i1 : (0 : Int) ≤ (k : Int) := by omega
      have i2 : (k : Int) < (P.length : Int) := by omega
      have p0 := KK.out.cell_some p0w (fun x => x)
      have p1 := KK.out.cell_some p1w (fun x => x)
      have r0 := KK.out.cell_some r0w (fun x => x)
      have r1 := KK.out.cell_some r1w (fun x => x)
      have hls : b < wr.heap.size := World.block_lt_of_cell? _ _ p0
      have ka := (Kept.refl Nothing wr).alloc (.cells #[.int .u8 (sk.toNat : Int), .slice Au sn.length cu] 72)
      have YS := Blk.fresh wr 72 #[.int .u8 (sk.toNat : Int), .slice Au sn.length cu]
      go_upto_region 9 with fail
      have KAA := Lib.hid (KK.out.trans ka)
      obtain ⟨wA, hwA⟩ : ∃ wA, wr.alloc (.cells #[.int .u8 (sk.toNat : Int), .slice Au sn.length cu] 72) = wA := ⟨_, rfl⟩
      rw [hwA] at YS KAA ⊢
      generalize wr.heap.size = bs at *
      clear p0 p1 r0 r1 hls ka hwA
      have y0 := YS.cell 0
      have y1 := YS.cell 1
      have s0 := KAA.out.cell_some r0w (fun x => x)
      have s1 := KAA.out.cell_some r1w (fun x => x)
      have YSS := Lib.hid YS
      clear YS
      go_quiet (fail)
      have KB := Lib.hid (KAA.out.drewN nq)
      have YB := Lib.hid (YSS.out.drewN nq)
      generalize wA.drewN nq = wB at *
      have z1 := YB.out.cell 1
      clear y0 y1 s0 s1 KAA YSS
      go_upto_region 12 with fail
      have hsl2 : sn.length ≤ 9223372036854775807 := by omega
      have HW1 : Hid (((P.take k).any Fz.wideS || (!Wk.confed sk && (sn.take 0).any Fz.big)) = (P.take k).any Fz.wideS) := Lib.hid (by simp)
      go_loopw [6, 73] (fun x i wq => ∃ j : Nat, i = .int .i64 (j : Int) ∧ j ≤ sn.length ∧ x = .bool ((P.take k).any Fz.wideS || (!Wk.confed sk && (sn.take j).any Fz.big)) ∧ Hid (Kept Nothing w2 wq) ∧ Hid (Blk wq bs 72 #[.int .u8 (sk.toNat : Int), .slice Au sn.length cu])) (fun _ i _ => sn.length - (intOf i).toNat)
      case atStart => exact ⟨0, rfl, Nat.zero_le _, by rw [HW1.out], KB, YB⟩
      case round =>
        clear KB YB z1 HW1
        obtain ⟨j, rfl, hj, rfl, KJ, YJ⟩ := hrel
        by_cases hlj : j < sn.length
        · obtain ⟨g, og, rfl, hq⟩ := HPA.out.at (by omega)
          obtain ⟨g', og', rfl, hq'⟩ := HRA.out.at (by omega)
          have q0 := KJ.out.cell_some (hq j hlj) (fun x => x)
          have q1 := KJ.out.cell_some (hq' j hlj) (fun x => x)
          have hsm : (sn.map short).getD j 0 = short (sn.getD j 0) := by
            rw [List.getD_eq_getElem?_getD, List.getElem?_map, List.getElem?_eq_getElem hlj, List.getD_eq_getElem?_getD, List.getElem?_eq_getElem hlj]
            rfl
          rw [hsm] at q1
          have t0 := KJ.out.cell_some r0w (fun x => x)
          have t1 := KJ.out.cell_some r1w (fun x => x)
          have u0 := YJ.out.cell 0
          have u1 := YJ.out.cell 1
          have j1 : (0 : Int) ≤ (j : Int) := by omega
          have j2 : (j : Int) < (sn.length : Int) := by omega
          have hbt := Fz.big_take hlj
          have HNX : Hid (((P.take k).any Fz.wideS || (!Wk.confed sk && (sn.take (j + 1)).any Fz.big)) = (((P.take k).any Fz.wideS || (!Wk.confed sk && (sn.take j).any Fz.big)) || (!Wk.confed sk && Fz.big (sn.getD j 0)))) := Lib.hid (by
            rw [hbt]
            cases (P.take k).any Fz.wideS <;> cases Wk.confed sk <;> simp)
          have HSX : Hid (short (sn.getD j 0) = if 65535 < sn.getD j 0 then 23456 else sn.getD j 0) := Lib.hid rfl
          have HBX : Hid (Fz.big (sn.getD j 0) = decide (65535 < sn.getD j 0)) := Lib.hid rfl
          have HCX : Hid (Wk.confed sk = (decide (sk.toNat = 3) || decide (sk.toNat = 4))) := Lib.hid rfl
          clear hbt hsm hq hq'
          generalize sn.getD j 0 = x at *
          generalize ((P.take k).any Fz.wideS || (!Wk.confed sk && (sn.take j).any Fz.big)) = bb at *
          have hk4 : 1 ≤ sk.toNat ∧ sk.toNat ≤ 4 := hkk
          by_cases hx : 65535 < x
          · have hx1 : (65535 : Int) < (x : Int) := by omega
            have hx2 : ¬ (x : Int) ≤ 65535 := by omega
            rw [HSX.out, if_pos hx] at q1
            rw [decide_eq_true hx] at HBX
            clear HSX hx
            cases bb with
            | true =>
              have HN2 : Hid (((P.take k).any Fz.wideS || (!Wk.confed sk && (sn.take (j + 1)).any Fz.big)) = true) := Lib.hid (by rw [HNX.out]; rfl)
              clear HNX HBX HCX hk4 hkk
              go_wp2
              go_roundw
              case rel => exact ⟨j + 1, by go_num, by omega, by rw [HN2.out], KJ, YJ⟩
              case measure => simp [intOf]; omega
            | false =>
              obtain h1 | h2 | h3 : sk.toNat = 1 ∨ sk.toNat = 2 ∨ (sk.toNat ≠ 1 ∧ sk.toNat ≠ 2) := by omega
              · have HN2 : Hid (((P.take k).any Fz.wideS || (!Wk.confed sk && (sn.take (j + 1)).any Fz.big)) = true) := Lib.hid (by rw [HNX.out, HBX.out, HCX.out, h1]; rfl)
                have a1 : ((sk.toNat : Int) == 1) = true := by simp; omega
                clear HNX HBX HCX hk4 hkk h1
                go_wp2
                go_roundw
                case rel => exact ⟨j + 1, by go_num, by omega, by rw [HN2.out], KJ, YJ⟩
                case measure => simp [intOf]; omega
              · have HN2 : Hid (((P.take k).any Fz.wideS || (!Wk.confed sk && (sn.take (j + 1)).any Fz.big)) = true) := Lib.hid (by rw [HNX.out, HBX.out, HCX.out, h2]; rfl)
                have a1 : ((sk.toNat : Int) == 1) = false := by simp; omega
                have a2 : ((sk.toNat : Int) == 2) = true := by simp; omega
                clear HNX HBX HCX hk4 hkk h2
                go_wp2
                go_roundw
                case rel => exact ⟨j + 1, by go_num, by omega, by rw [HN2.out], KJ, YJ⟩
                case measure => simp [intOf]; omega
              · have hcf : Wk.confed sk = true := by rw [HCX.out]; simp; omega
                have HN2 : Hid (((P.take k).any Fz.wideS || (!Wk.confed sk && (sn.take (j + 1)).any Fz.big)) = false) := Lib.hid (by rw [HNX.out, hcf]; rfl)
                have a1 : ((sk.toNat : Int) == 1) = false := by simp; omega
                have a2 : ((sk.toNat : Int) == 2) = false := by simp; omega
                clear HNX HBX HCX hk4 hkk h3 hcf
                go_wp2
                go_roundw
                case rel => exact ⟨j + 1, by go_num, by omega, by rw [HN2.out], KJ, YJ⟩
                case measure => simp [intOf]; omega
          · have hx1 : ¬ (65535 : Int) < (x : Int) := by omega
            have hx2 : (x : Int) ≤ 65535 := by omega
            rw [HSX.out, if_neg hx] at q1
            rw [decide_eq_false hx] at HBX
            have HN2 : Hid (((P.take k).any Fz.wideS || (!Wk.confed sk && (sn.take (j + 1)).any Fz.big)) = bb) := Lib.hid (by rw [HNX.out, HBX.out]; simp)
            clear HSX hx HNX HBX HCX hk4 hkk
            cases bb with
            | true =>
              go_wp2
              go_roundw
              case rel => exact ⟨j + 1, by go_num, by omega, by rw [HN2.out], KJ, YJ⟩
              case measure => simp [intOf]; omega
            | false =>
              go_wp2
              go_roundw
              case rel => exact ⟨j + 1, by go_num, by omega, by rw [HN2.out], KJ, YJ⟩
              case measure => simp [intOf]; omega
        · obtain rfl : j = sn.length := by omega
          rw [List.take_of_length_le (Nat.le_refl _)]
          have HW2 : Hid ((P.take (k + 1)).any Fz.wideS = ((P.take k).any Fz.wideS || (!Wk.confed sk && sn.any Fz.big))) := Lib.hid HWT.out
          clear YJ
          go_wp2
          go_roundw
          case rel => exact ⟨k + 1, by go_num, by omega, by rw [HW2.out], KJ⟩
          case measure => simp [intOf]; omega
    · obtain rfl : k = P.length := by omega
      rw [List.take_of_length_le (Nat.le_refl _)]
      have E1 := Lib.hid (fun a b l m u (h1 : Pts u a l) (h2 : Pts u b m) => path_same a b l m u h1 h2)
      clear HNUM HP8 hb2 hk hlt hb1
      go_upto_region 22 with (first
        | (go_at_call 35; refine (BP.out _ K7.out).mono ?_; rintro e w8 ⟨v8, ys, rfl, o8, r8, -, k8⟩; (have P8 := Lib.hid (show Pts w8 v8 (plains P) from Pts.of_own o8 r8.cells)); (have K8 := Lib.hid (K7.out.trans k8)); (replace PA7 := Lib.hid (PA7.out.old k8)); (obtain ⟨A8, c8, rfl, -, -⟩ := P8.out.form); clear o8 r8 k8)
        | (go_at_call 30; refine (NN.out _ KK.out).mono ?_; rintro e w7 ⟨v7, v7', rfl, p7, p7', k7⟩; (have PA7 := Lib.hid p7.pts); (have PB7 := Lib.hid p7'.pts); (have K7 := Lib.hid (KK.out.trans k7)); (obtain ⟨A7, c7, rfl, -, -⟩ := PA7.out.form); (obtain ⟨B7, d7, rfl, -, -⟩ := PB7.out.form); clear p7 p7' k7))
      have E3 := Lib.hid (fun u (k : Kept Nothing w8 u) => path_same _ _ (Fz.nar P) (Fz.nar P) u (PA7.out.old k) (N2.out.old (K8.out.trans k)))
      have E5 := Lib.hid (fun v u (k : Kept Nothing w8 u) (h : Pts u v (plains P)) => path_same v _ (plains P) (plains P) u h (P8.out.old k))
      rw [decide_eq_true rfl] at E3 E5
      have KF := Lib.hid (K2.out.trans K8.out)
      cases hW : P.any Fz.wideS with
      | true =>
        have E2 := Lib.hid (fun u (k : Kept Nothing w8 u) => path_same _ _ BL (plains P) u (B2.out.old (K8.out.trans k)) (P8.out.old k))
        rw [show decide (BL = plains P) = true from decide_eq_true (by rw [HBL.out, hW]; rfl)] at E2
        clear HBL hW E1 NN BP
        go_wp2_with (first
          | (go_at_call 32; refine (CW.out _ (K8.out.trans m6)).mono ?_; rintro e x7 ⟨rfl, q7⟩)
          | (go_at_call 36; refine (WP.out _ (K8.out.trans m5)).mono ?_; rintro e x6 ⟨rfl, q6⟩; have m6 := m5.trans q6)
          | (go_at_call 36; refine (WB.out _ _ (P8.out.old m4)).mono ?_; rintro e x5 ⟨rfl, q5⟩; have m5 := m4.trans q5)
          | (go_at_call 16; refine (E5.out _ _ m3 P9.out).mono ?_; rintro e x4 ⟨rfl, q4⟩; have m4 := m3.trans q4)
          | (go_at_call 35; refine (BB.out _ _ (P8.out.old m2)).mono ?_; rintro e x3 ⟨v9, zs, rfl, o9, r9, -, q3⟩; (have P9 := Lib.hid (show Pts x3 v9 (plains P) from Pts.of_own o9 r9.cells)); have m3 := m2.trans q3)
          | (go_at_call 16; refine (E3.out _ m1).mono ?_; rintro e x2 ⟨rfl, q2⟩; have m2 := m1.trans q2)
          | (go_at_call 16; refine (E2.out _ (Kept.refl _ _)).mono ?_; rintro e x1 ⟨rfl, m1⟩))
        go_ret
        exact ⟨rfl, KF.out.trans (m6.trans q7)⟩
      | false =>
        clear HBL hW E1 NN BP
        go_wp2_with (first
          | (go_at_call 32; refine (CW.out _ (K8.out.trans m6)).mono ?_; rintro e x7 ⟨rfl, q7⟩)
          | (go_at_call 36; refine (WP.out _ (K8.out.trans m5)).mono ?_; rintro e x6 ⟨rfl, q6⟩; have m6 := m5.trans q6)
          | (go_at_call 36; refine (WB.out _ _ (P8.out.old m4)).mono ?_; rintro e x5 ⟨rfl, q5⟩; have m5 := m4.trans q5)
          | (go_at_call 16; refine (E5.out _ _ m3 P9.out).mono ?_; rintro e x4 ⟨rfl, q4⟩; have m4 := m3.trans q4)
          | (go_at_call 35; refine (BB.out _ _ (P8.out.old m2)).mono ?_; rintro e x3 ⟨v9, zs, rfl, o9, r9, -, q3⟩; (have P9 := Lib.hid (show Pts x3 v9 (plains P) from Pts.of_own o9 r9.cells)); have m3 := m2.trans q3)
          | (go_at_call 16; refine (E3.out _ (Kept.refl _ _)).mono ?_; rintro e x2 ⟨rfl, m2⟩))
        go_ret
        exact ⟨rfl, KF.out.trans (m6.trans q7)⟩
end Go.Proofs.YthjljamngpddmaaGreatDoor
