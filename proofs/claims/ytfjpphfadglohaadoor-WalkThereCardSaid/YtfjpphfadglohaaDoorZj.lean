/-
  The law WalkThere, up to its last region.
-/
import Derived.Test.YtfjpphfadglohaaDoorZi
import Derived.Test.YtfjpphfadglohaaDoorZx
namespace Go.Proofs.YtfjpphfadglohaaDoor
open Go.RowKit Go.Shelf

set_option maxRecDepth 20000 in
set_option maxHeartbeats 4000000 in
theorem law_there (v : Value) (p : List Seg) (N M : Nat) (hN : N < 4294967296) (hM : M < 4294967296) (w : World) (h : Pts w v p) (hr : Rdy w) (hs : Bkt w) :
    Calls Tryd.prog 6 #[v, .agg #[.int .u32 (N : Int), .int .u32 (M : Int)]] w fun e w' => e = .returned (.bool true) ∧ Kept Nothing w w' := by
  obtain ⟨A, c, rfl, -, -⟩ := h.form
  have HM := Lib.hid (fun w1 (k : Kept Nothing w w1) => made_any _ p w1 (h.old k))
  have HR := Lib.hid hr
  have HS := Lib.hid hs
  have HFEW := Lib.hid (Wk.made_few p)
  clear h hr hs
  generalize madeF p = P at *
  obtain ⟨hb1, hb2⟩ := HFEW.out.bound
  obtain ⟨ea, ma, -, -⟩ := Wk.prepend_ok (k := 3) (n := N) HFEW.out.1 HFEW.out.2 (.inr rfl)
  obtain ⟨eb, mb, -, -⟩ := Wk.prepend_ok (k := 2) (n := M) HFEW.out.1 HFEW.out.2 (.inl rfl)
  obtain ⟨l1, l2, l3, l4, l5, l6, l7, l8, l9, l10⟩ := Wk.there N M HFEW.out
  obtain ⟨hs1, hs2⟩ := HFEW.out.strip.bound
  have l11 := Wk.loops_same P N
  have ha1 := (Wk.may_bound ma).1
  have ha2 := (Wk.may_bound ma).2
  have hc1 := (Wk.may_bound mb).1
  have hc2 := (Wk.may_bound mb).2
  have hcnt := Pt.cnt_le P hb2
  have h31 := HFEW.out.1
  have CA := Lib.hid (fun v u (h : Pts u v P) => walk_prepend v P 3 N hN u h hb1 hb2)
  have CB := Lib.hid (fun v u (h : Pts u v P) => walk_prepend v P 2 M hM u h hb1 hb2)
  have CS := Lib.hid (fun v u (h : Pts u v P) => walk_strip v P u h hb1 hb2)
  rw [ea] at CA
  rw [eb] at CB
  have FA : Hid (∀ v u, Pts u v (Wk.prepend P 3 N).1 → Calls Tryd.prog 21 #[v] u fun e w' => e = .returned (.tuple #[.int .u8 3, .int .u32 (N : Int), .bool true]) ∧ Kept Nothing u w') := Lib.hid (fun v u h => by have := walk_first v _ u h ha1; rw [l3] at this; exact this)
  have FB : Hid (∀ v u, Pts u v (Wk.prepend P 2 M).1 → Calls Tryd.prog 21 #[v] u fun e w' => e = .returned (.tuple #[.int .u8 2, .int .u32 (M : Int), .bool true]) ∧ Kept Nothing u w') := Lib.hid (fun v u h => by have := walk_first v _ u h hc1; rw [l4] at this; exact this)
  have NA := Lib.hid (fun v u (h : Pts u v (Wk.prepend P 3 N).1) => path_count v _ u h ha1 ha2)
  have NB := Lib.hid (fun v u (h : Pts u v (Wk.prepend P 2 M).1) => path_count v _ u h hc1 hc2)
  have NP := Lib.hid (fun v u (h : Pts u v P) => path_count v P u h hb1 hb2)
  have LA := Lib.hid (fun v u (h : Pts u v (Wk.prepend P 3 N).1) => walk_loops v _ N M u h ha1 ha2)
  have LB := Lib.hid (fun v u (h : Pts u v (Wk.prepend P 2 M).1) => walk_loops v _ N M u h hc1 hc2)
  have YA := Lib.hid (fun v u (h : Pts u v (Wk.prepend P 3 N).1) => walk_has v _ N u h ha1 ha2)
  have XHA := Lib.hid (fun v x u (h : Pts u v (Wk.prepend P 3 N).1) => walk_has v _ x u h ha1 ha2)
  have XHB := Lib.hid (fun v x u (h : Pts u v (Wk.prepend P 2 M).1) => walk_has v _ x u h hc1 hc2)
  have XHP := Lib.hid (fun v x u (h : Pts u v P) => walk_has v _ x u h hb1 hb2)
  have XLP := Lib.hid (fun v x y u (h : Pts u v P) => walk_loops v _ x y u h hb1 hb2)
  have XHS := Lib.hid (fun v x u (h : Pts u v (Wk.strip P)) => walk_has v _ x u h hs1 hs2)
  have XLS := Lib.hid (fun v x y u (h : Pts u v (Wk.strip P)) => walk_loops v _ x y u h hs1 hs2)
  rw [l1] at NA
  rw [l2] at NB
  rw [l5] at LA
  rw [l6] at LB
  rw [l7] at YA
  have L8 := Lib.hid l8
  have L9 := Lib.hid l9
  have L10 := Lib.hid l10
  have L11 := Lib.hid l11
  have hcb : Pt.cnt P ≤ 31000000 := by omega
  have hsn : ∀ s ∈ P, s.2.length ≤ 255 := fun s hs => (HFEW.out.2 s hs).2.1
  have HSN := Lib.hid hsn
  clear l1 l2 l3 l4 l5 l6 l7 l8 l9 l10 ea eb ma mb ha1 ha2 hc1 hc2 hs1 hs2 hb1 hb2 hcnt l11 hN hM HFEW hsn
  generalize (Wk.prepend P 3 N).1 = PA at *
  generalize (Wk.prepend P 2 M).1 = PB at *
  generalize Wk.strip P = PS at *
  generalize Pt.cnt P = cp at *
  replace CA : Hid (∀ v u, Pts u v P → Calls Tryd.prog 39 #[v, .int .u8 3, .int .u32 (N : Int)] u fun e w' => ∃ v', e = .returned (.tuple #[v', .int .i64 0]) ∧ Pown w' u.heap.size v' PA ∧ Kept Nothing u w') := CA
  replace CB : Hid (∀ v u, Pts u v P → Calls Tryd.prog 39 #[v, .int .u8 2, .int .u32 (M : Int)] u fun e w' => ∃ v', e = .returned (.tuple #[v', .int .i64 0]) ∧ Pown w' u.heap.size v' PB ∧ Kept Nothing u w') := CB
  go_enter Tryd.func6, Tryd.ntmps6
  go_upto_region 1 with fail
  have bx := Blk.fresh w 42 #[.int .u32 (N : Int), .int .u32 (M : Int)]
  have k1 := (Kept.refl Nothing w).alloc (.cells #[.int .u32 (N : Int), .int .u32 (M : Int)] 42)
  generalize w.alloc (.cells #[.int .u32 (N : Int), .int .u32 (M : Int)] 42) = w1 at bx k1 ⊢
  have Z0 := Lib.hid (fun u (k : Kept Nothing w1 u) => (bx.kept k (fun x => x)).cell 0)
  have Z1 := Lib.hid (fun u (k : Kept Nothing w1 u) => (bx.kept k (fun x => x)).cell 1)
  replace Z0 : Hid (∀ u, Kept Nothing w1 u → u.cell? ⟨w.heap.size, 0, none⟩ = some (.int .u32 (N : Int))) := Z0
  replace Z1 : Hid (∀ u, Kept Nothing w1 u → u.cell? ⟨w.heap.size, 1, none⟩ = some (.int .u32 (M : Int))) := Z1
  have K1 := Lib.hid k1
  clear bx k1
  generalize w.heap.size = bk at *
  go_upto_region 2 with (go_at_call 45; refine (HM.out _ K1.out).mono ?_; rintro e w2 ⟨vP, rfl, p2, k2⟩; (have z0 := Z0.out _ k2); (have P2 := Lib.hid p2.pts); (have K2 := Lib.hid k2); clear p2 k2)
  go_upto_region 3 with (go_at_call 39; refine (CA.out _ _ P2.out).mono ?_; rintro e w3 ⟨vA, rfl, p3, k3⟩; (have z1 := Z1.out _ (K2.out.trans k3)); (have PA3 := Lib.hid p3.pts); (have K3 := Lib.hid k3); clear p3 k3 z0)
  go_upto_region 4 with (go_at_call 39; refine (CB.out _ _ (P2.out.old K3.out)).mono ?_; rintro e w4 ⟨vB, rfl, p4, k4⟩; (have PB4 := Lib.hid p4.pts); (have K4 := Lib.hid k4); clear p4 k4 z1)
  have XP := Lib.hid (P2.out.old (K3.out.trans K4.out))
  have XA := Lib.hid (PA3.out.old K4.out)
  have XB := Lib.hid PB4.out
  have KZ := Lib.hid (K1.out.trans (K2.out.trans (K3.out.trans K4.out)))
  have KY := Lib.hid (K2.out.trans (K3.out.trans K4.out))
  replace Z0 : Hid (∀ u, Kept Nothing w4 u → u.cell? ⟨bk, 0, none⟩ = some (.int .u32 (N : Int))) := Lib.hid (fun u k => Z0.out _ (KY.out.trans k))
  replace Z1 : Hid (∀ u, Kept Nothing w4 u → u.cell? ⟨bk, 1, none⟩ = some (.int .u32 (M : Int))) := Lib.hid (fun u k => Z1.out _ (KY.out.trans k))
  clear P2 PA3 PB4 K1 K2 K3 K4 HM CA CB KY
  have m0 := Kept.refl Nothing w4
  go_upto_region 6 with (first
    | (go_at_call 15; refine (NP.out vP _ (XP.out.old m3)).mono ?_; rintro e u4 ⟨rfl, q4⟩; (have m4 := m3.trans q4); clear q4)
    | (go_at_call 15; refine (NB.out vB _ (XB.out.old m2)).mono ?_; rintro e u3 ⟨rfl, q3⟩; (have m3 := m2.trans q3); clear q3)
    | (go_at_call 15; refine (NP.out vP _ (XP.out.old m1)).mono ?_; rintro e u2 ⟨rfl, q2⟩; (have m2 := m1.trans q2); clear q2)
    | (go_at_call 15; refine (NA.out vA _ (XA.out.old m0)).mono ?_; rintro e u1 ⟨rfl, q1⟩; (have m1 := m0.trans q1); clear q1))
  go_upto_region 8 with (first
    | (go_at_call 21; refine (FB.out vB _ (XB.out.old m5)).mono ?_; rintro e u6 ⟨rfl, q6⟩; (have m6 := m5.trans q6); clear q6)
    | (go_at_call 21; refine (FA.out vA _ (XA.out.old m4)).mono ?_; rintro e u5 ⟨rfl, q5⟩; (have m5 := m4.trans q5); clear q5))
  have z60 := Z0.out _ m6
  have z61 := Z1.out _ m6
  go_upto_region 10 with (first
    | (go_at_call 23; refine (YA.out vA _ (XA.out.old m8)).mono ?_; rintro e u9 ⟨rfl, q9⟩; (have m9 := m8.trans q9); clear q9)
    | (go_at_call 25; refine (LB.out vB _ (XB.out.old m7)).mono ?_; rintro e u8 ⟨rfl, q8⟩; (have m8 := m7.trans q8); clear q8; (have z80 := Z0.out _ m8); (have z81 := Z1.out _ m8))
    | (go_at_call 25; refine (LA.out vA _ (XA.out.old m6)).mono ?_; rintro e u7 ⟨rfl, q7⟩; (have m7 := m6.trans q7); clear q7; (have z70 := Z0.out _ m7); (have z71 := Z1.out _ m7)))
  have M9 := Lib.hid m9
  clear m0 m1 m2 m3 m4 m5 m6 m7 m8 m9 z60 z61 z70 z71 z80 z81 NA NB NP LA LB YA FA FB
  obtain ⟨AP, cP, rfl, hP1, hP2⟩ := XP.out.form
  have hPl : P.length ≤ 9223372036854775807 := by unfold maxLen at hP2; omega
  go_upto_region 11 with fail
  go_loopw [115] (fun i wr => ∃ k : Nat, i = .int .i64 (k : Int) ∧ k ≤ P.length ∧ Hid (Kept Nothing w4 wr)) (fun i _ => P.length - (intOf i).toNat)
  case atStart => exact ⟨0, rfl, Nat.zero_le _, M9⟩
  case round =>
    clear M9
    obtain ⟨k, rfl, hk, KK⟩ := hrel
    by_cases hlt : k < P.length
    · obtain ⟨b, o, Au, cu, rfl, p0, p1, hp⟩ := (XP.out.old KK.out).at2 hlt
      have i1 : (0 : Int) ≤ (k : Int) := by omega
      have i2 : (k : Int) < (P.length : Int) := by omega
      have hls : b < wr.heap.size := World.block_lt_of_cell? _ _ p0
      have hmem : P.getD k (0, []) ∈ P := by rw [getD_get hlt]; exact List.getElem_mem _
      have HSL := HSN.out _ hmem
      have HFX := Lib.hid (L8.out _ hmem)
      generalize hsg : P.getD k (0, []) = sg at *
      obtain ⟨sk, sn⟩ := sg
      clear hsg hmem
      simp only at p0 p1 HSL
      replace hp : As wr (.slice Au sn.length cu) sn := hp
      replace HFX : Hid (∀ x ∈ sn, Wk.has PA x = true ∧ Wk.has PB x = true ∧ Wk.has P x = true ∧ (sk.toNat ≤ 2 → Wk.loops P 0 x = true) ∧ (¬ sk.toNat ≤ 2 → Wk.loops P x 0 = true)) := HFX
      have KX := Lib.hid (KK.out.alloc (.cells #[.int .u8 (sk.toNat : Int), .slice Au sn.length cu] 34))
      have bs := Blk.fresh wr 34 #[.int .u8 (sk.toNat : Int), .slice Au sn.length cu]
      have YS := Lib.hid (fun u (q : Kept Nothing (wr.alloc (.cells #[.int .u8 (sk.toNat : Int), .slice Au sn.length cu] 34)) u) => (bs.kept q (fun x => x)).cell 0)
      have AX := Lib.hid (hp.old ((Kept.refl Nothing wr).alloc (.cells #[.int .u8 (sk.toNat : Int), .slice Au sn.length cu] 34)))
      clear bs hp
      have KA := Lib.hid ((Kept.refl Nothing wr).alloc (.cells #[.int .u8 (sk.toNat : Int), .slice Au sn.length cu] 34))
      replace YS : Hid (∀ u, Kept Nothing (wr.alloc (.cells #[.int .u8 (sk.toNat : Int), .slice Au sn.length cu] 34)) u → u.cell? ⟨wr.heap.size, 0, none⟩ = some (.int .u8 (sk.toNat : Int))) := YS
      go_upto_region 14 with fail
      generalize wr.alloc (.cells #[.int .u8 (sk.toNat : Int), .slice Au sn.length cu] 34) = wA at *
      have XP2 := Lib.hid (XP.out.old KX.out)
      have XA2 := Lib.hid (XA.out.old KX.out)
      have XB2 := Lib.hid (XB.out.old KX.out)
      clear KK KA XP p0 p1 Z0 Z1 L8 HSN
      generalize sk.toNat = kn at *
      generalize wr.heap.size = bs at *
      have hsl : sn.length ≤ 9223372036854775807 := by omega
      go_loopw [122] (fun i wq => ∃ j : Nat, i = .int .i64 (j : Int) ∧ j ≤ sn.length ∧ Hid (Kept Nothing wA wq)) (fun i _ => sn.length - (intOf i).toNat)
      case atStart => exact ⟨0, rfl, Nat.zero_le _, Lib.hid (Kept.refl _ _)⟩
      case round =>
        obtain ⟨j, rfl, hj, JJ⟩ := hrel
        by_cases hlj : j < sn.length
        · obtain ⟨b2, o2, rfl, hc2⟩ := AX.out.at (Nat.lt_of_le_of_lt (Nat.zero_le j) hlj)
          have q0 := JJ.out.cell_some (hc2 j hlj) (fun x => x)
          clear hc2
          have j1 : (0 : Int) ≤ (j : Int) := by omega
          have j2 : (j : Int) < (sn.length : Int) := by omega
          obtain ⟨f1, f2, f3, f4, f5⟩ := HFX.out (sn.getD j 0) (by rw [getD_get hlj]; exact List.getElem_mem _)
          have TA := Lib.hid (fun u k => XHA.out vA (sn.getD j 0) u (XA2.out.old k))
          have TB := Lib.hid (fun u k => XHB.out vB (sn.getD j 0) u (XB2.out.old k))
          have TP := Lib.hid (fun u k => XHP.out _ (sn.getD j 0) u (XP2.out.old k))
          rw [f1] at TA
          rw [f2] at TB
          rw [f3] at TP
          have n0 := JJ.out
          clear f1 f2 f3
          by_cases h2 : kn ≤ 2
          · have TL := Lib.hid (fun u k => XLP.out _ 0 (sn.getD j 0) u (XP2.out.old k))
            rw [f4 h2] at TL
            have h2a : (kn : Int) ≤ 2 := by omega
            have h2b : ¬ (2 : Int) < (kn : Int) := by omega
            have h2c : ¬ (kn : Int) > 2 := by omega
            clear f4 f5
            generalize sn.getD j 0 = x at *
            go_wp2_with (first
              | (go_at_call 25; refine (TL.out _ n3).mono ?_; rintro e u4 ⟨rfl, r4⟩; (have n4 := n3.trans r4); (have y4 := YS.out _ n4); clear r4)
              | (go_at_call 23; refine (TP.out _ n2).mono ?_; rintro e u3 ⟨rfl, r3⟩; (have n3 := n2.trans r3); (have y3 := YS.out _ n3); clear r3)
              | (go_at_call 23; refine (TB.out _ n1).mono ?_; rintro e u2 ⟨rfl, r2⟩; (have n2 := n1.trans r2); clear r2)
              | (go_at_call 23; refine (TA.out _ n0).mono ?_; rintro e u1 ⟨rfl, r1⟩; (have n1 := n0.trans r1); clear r1))
            go_roundw
            case rel => exact ⟨j + 1, by go_num, by omega, Lib.hid n4⟩
            case measure => simp [intOf]; omega
          · have TL := Lib.hid (fun u k => XLP.out _ (sn.getD j 0) 0 u (XP2.out.old k))
            rw [f5 h2] at TL
            have h2a : ¬ (kn : Int) ≤ 2 := by omega
            have h2b : (2 : Int) < (kn : Int) := by omega
            have h2c : (kn : Int) > 2 := by omega
            clear f4 f5
            generalize sn.getD j 0 = x at *
            go_wp2_with (first
              | (go_at_call 25; refine (TL.out _ n3).mono ?_; rintro e u4 ⟨rfl, r4⟩; (have n4 := n3.trans r4); (have y4 := YS.out _ n4); clear r4)
              | (go_at_call 23; refine (TP.out _ n2).mono ?_; rintro e u3 ⟨rfl, r3⟩; (have n3 := n2.trans r3); (have y3 := YS.out _ n3); clear r3)
              | (go_at_call 23; refine (TB.out _ n1).mono ?_; rintro e u2 ⟨rfl, r2⟩; (have n2 := n1.trans r2); clear r2)
              | (go_at_call 23; refine (TA.out _ n0).mono ?_; rintro e u1 ⟨rfl, r1⟩; (have n1 := n0.trans r1); clear r1))
            go_roundw
            case rel => exact ⟨j + 1, by go_num, by omega, Lib.hid n4⟩
            case measure => simp [intOf]; omega
        · obtain rfl : j = sn.length := by omega
          have KQ := Lib.hid (KX.out.trans JJ.out)
          go_wp2
          go_roundw
          case rel => exact ⟨k + 1, by go_num, by omega, KQ⟩
          case measure => simp [intOf]; omega
    · obtain rfl : k = P.length := by omega
      go_upto_region 21 with (go_at_call 41; refine (CS.out _ _ (XP.out.old KK.out)).mono ?_; rintro e w22 ⟨vS, rfl, p22, k22⟩; (have PS22 := Lib.hid p22.pts); (have K22 := Lib.hid k22); clear p22 k22)
      have KV := Lib.hid (KK.out.trans K22.out)
      have KT := Lib.hid (KZ.out.trans KV.out)
      replace Z0 : Hid (∀ u, Kept Nothing w22 u → u.cell? ⟨bk, 0, none⟩ = some (.int .u32 (N : Int))) := Lib.hid (fun u k => Z0.out _ (KV.out.trans k))
      replace Z1 : Hid (∀ u, Kept Nothing w22 u → u.cell? ⟨bk, 1, none⟩ = some (.int .u32 (M : Int))) := Lib.hid (fun u k => Z1.out _ (KV.out.trans k))
      have C5 := Lib.hid (fun u (k : Kept Nothing w22 u) => XLS.out vS N M u (PS22.out.old k))
      have C9 := Lib.hid (fun u (k : Kept Nothing w22 u) => XHS.out vS M u (PS22.out.old k))
      have C23 := Lib.hid (fun u (k : Kept Nothing w22 u) => XLP.out _ N M u (XP.out.old (KV.out.trans k)))
      have C30 := Lib.hid (fun u (k : Kept Nothing w22 u) => XHP.out _ N u (XP.out.old (KV.out.trans k)))
      have C36 := Lib.hid (fun u (k : Kept Nothing w22 u) => XLP.out _ N N u (XP.out.old (KV.out.trans k)))
      have CT := Lib.hid (fun u (k : Kept Nothing w22 u) => tells_true u (HR.out.kept (KT.out.trans k)) (HS.out.kept (KT.out.trans k)))
      rw [L9.out] at C5
      rw [← L11.out] at C36
      generalize Wk.has P N = pn at *
      clear XLS XHS XHP XHA XHB XA XB XP CS KZ KK K22 PS22 L9 L11 HR HS KV HSN L8
      cases hsm : Wk.has PS M with
      | true =>
        rw [hsm] at C5 C9
        rw [L10.out hsm] at C23
        clear hsm L10 XLP
        refine wp_region_last2 w22 (Facts [some (vS), some (.pointer (some ⟨bk, 0, none⟩)), some (.int .u32 (N : Int)), some (.pointer (some ⟨bk, 1, none⟩)), some (.int .u32 (M : Int)), some (.bool true), some (vS), some (.pointer (some ⟨bk, 1, none⟩)), some (.int .u32 (M : Int)), some (.bool true), some (.bool true), some (.bool true), some (vS), some (.pointer (some ⟨bk, 1, none⟩)), some (.int .u32 (M : Int)), some (.bool true), some (.bool false), some (.bool false), some (.slice AP P.length cP), some (.pointer (some ⟨bk, 0, none⟩)), some (.int .u32 (N : Int)), some (.pointer (some ⟨bk, 1, none⟩)), some (.int .u32 (M : Int)), some (.bool true), some (.bool true), some (.bool true), some (.bool true), some (.slice AP P.length cP), some (.pointer (some ⟨bk, 0, none⟩)), some (.int .u32 (N : Int)), some (.bool pn), some (.slice AP P.length cP), some (.pointer (some ⟨bk, 0, none⟩)), some (.int .u32 (N : Int)), some (.pointer (some ⟨bk, 0, none⟩)), some (.int .u32 (N : Int)), some (.bool pn), some (.bool true), some (.bool true), some (.bool true), some (.bool true), some (.bool true)] (fun _ _ _ => True)) 42 _ (by rfl) (by rfl) (by kernel_rfl) (by rfl) (by kernel_rfl) (by decide +kernel) (by intro d hd; simp [dsts] at hd ⊢; omega) (ready_nil (by kernel_rfl)) (fun k => if k = 17 then false else true) (by kernel_rfl) ?_ (Facts.stab (fun _ _ _ _ _ h => h)) ((Kept.refl Nothing w22).drew) ?_ ?_
        · refine Facts.guards2 (gv := fun k => if k = 17 then false else true) (E := [11, 17, 26, 39]) (by kernel_rfl) ?_
          repeat (first | refine List.forall_mem_cons.2 ⟨by rfl, ?_⟩ | exact List.forall_mem_nil _)
        · refine OweTo.cons ?_ (by rfl) ?_
          · intro u a hk hf hfar
            have v19 : a.tmps.getD 19 undef = vS := hfar 19 (by decide)
            have w19 := v19
            rw [Array.getD_eq_getD_getElem?] at w19
            clear hf hfar
            go_simp
            exact ⟨_, rfl, Kept.refl _ _, rfl⟩
          refine OweTo.cons ?_ (by rfl) ?_
          · intro u a hk hf hfar
            have v3 : a.tmps.getD 3 undef = .pointer (some ⟨bk, 0, none⟩) := hfar 3 (by decide)
            have w3 := v3
            rw [Array.getD_eq_getD_getElem?] at w3
            clear hf hfar
            go_simp
            exact ⟨_, rfl, Kept.refl _ _, rfl⟩
          refine OweTo.cons ?_ (by rfl) ?_
          · intro u a hk hf hfar
            have v169 : a.tmps.getD 169 undef = .pointer (some ⟨bk, 0, none⟩) := hf 1 _ 169 rfl rfl ⟨⟨1, .data⟩, Array.mem_of_getElem? (i := 0) rfl, rfl, rfl⟩
            have w169 := v169
            rw [Array.getD_eq_getD_getElem?] at w169
            have zc := Z0.out u hk
            clear hf hfar
            go_simp
            exact ⟨_, rfl, Kept.refl _ _, rfl⟩
          refine OweTo.cons ?_ (by rfl) ?_
          · intro u a hk hf hfar
            have v3 : a.tmps.getD 3 undef = .pointer (some ⟨bk, 0, none⟩) := hfar 3 (by decide)
            have w3 := v3
            rw [Array.getD_eq_getD_getElem?] at w3
            clear hf hfar
            go_simp
            exact ⟨_, rfl, Kept.refl _ _, rfl⟩
          refine OweTo.cons ?_ (by rfl) ?_
          · intro u a hk hf hfar
            have v171 : a.tmps.getD 171 undef = .pointer (some ⟨bk, 1, none⟩) := hf 3 _ 171 rfl rfl ⟨⟨3, .data⟩, Array.mem_of_getElem? (i := 0) rfl, rfl, rfl⟩
            have w171 := v171
            rw [Array.getD_eq_getD_getElem?] at w171
            have zc := Z1.out u hk
            clear hf hfar
            go_simp
            exact ⟨_, rfl, Kept.refl _ _, rfl⟩
          refine OweTo.cons ?_ (by rfl) ?_
          · intro u a hk hf hfar
            have v168 : a.tmps.getD 168 undef = vS := hf 0 _ 168 rfl rfl ⟨⟨0, .data⟩, Array.mem_of_getElem? (i := 0) rfl, rfl, rfl⟩
            have w168 := v168
            rw [Array.getD_eq_getD_getElem?] at w168
            have v170 : a.tmps.getD 170 undef = .int .u32 (N : Int) := hf 2 _ 170 rfl rfl ⟨⟨2, .data⟩, Array.mem_of_getElem? (i := 1) rfl, rfl, rfl⟩
            have w170 := v170
            rw [Array.getD_eq_getD_getElem?] at w170
            have v172 : a.tmps.getD 172 undef = .int .u32 (M : Int) := hf 4 _ 172 rfl rfl ⟨⟨4, .data⟩, Array.mem_of_getElem? (i := 2) rfl, rfl, rfl⟩
            have w172 := v172
            rw [Array.getD_eq_getD_getElem?] at w172
            clear hf hfar
            go_simp
            refine (C5.out u hk).mono ?_
            rintro e u' ⟨rfl, hk'⟩
            exact ⟨_, rfl, hk', rfl⟩
          refine OweTo.cons ?_ (by rfl) ?_
          · intro u a hk hf hfar
            have v19 : a.tmps.getD 19 undef = vS := hfar 19 (by decide)
            have w19 := v19
            rw [Array.getD_eq_getD_getElem?] at w19
            clear hf hfar
            go_simp
            exact ⟨_, rfl, Kept.refl _ _, rfl⟩
          refine OweTo.cons ?_ (by rfl) ?_
          · intro u a hk hf hfar
            have v3 : a.tmps.getD 3 undef = .pointer (some ⟨bk, 0, none⟩) := hfar 3 (by decide)
            have w3 := v3
            rw [Array.getD_eq_getD_getElem?] at w3
            clear hf hfar
            go_simp
            exact ⟨_, rfl, Kept.refl _ _, rfl⟩
          refine OweTo.cons ?_ (by rfl) ?_
          · intro u a hk hf hfar
            have v175 : a.tmps.getD 175 undef = .pointer (some ⟨bk, 1, none⟩) := hf 7 _ 175 rfl rfl ⟨⟨7, .data⟩, Array.mem_of_getElem? (i := 0) rfl, rfl, rfl⟩
            have w175 := v175
            rw [Array.getD_eq_getD_getElem?] at w175
            have zc := Z1.out u hk
            clear hf hfar
            go_simp
            exact ⟨_, rfl, Kept.refl _ _, rfl⟩
          refine OweTo.cons ?_ (by rfl) ?_
          · intro u a hk hf hfar
            have v174 : a.tmps.getD 174 undef = vS := hf 6 _ 174 rfl rfl ⟨⟨6, .data⟩, Array.mem_of_getElem? (i := 0) rfl, rfl, rfl⟩
            have w174 := v174
            rw [Array.getD_eq_getD_getElem?] at w174
            have v176 : a.tmps.getD 176 undef = .int .u32 (M : Int) := hf 8 _ 176 rfl rfl ⟨⟨8, .data⟩, Array.mem_of_getElem? (i := 1) rfl, rfl, rfl⟩
            have w176 := v176
            rw [Array.getD_eq_getD_getElem?] at w176
            clear hf hfar
            go_simp
            refine (C9.out u hk).mono ?_
            rintro e u' ⟨rfl, hk'⟩
            exact ⟨_, rfl, hk', rfl⟩
          refine OweTo.cons ?_ (by rfl) ?_
          · intro u a hk hf hfar
            have v173 : a.tmps.getD 173 undef = .bool true := hf 5 _ 173 rfl rfl ⟨⟨5, .data⟩, Array.mem_of_getElem? (i := 0) rfl, rfl, rfl⟩
            have w173 := v173
            rw [Array.getD_eq_getD_getElem?] at w173
            have v177 : a.tmps.getD 177 undef = .bool true := hf 9 _ 177 rfl rfl ⟨⟨9, .data⟩, Array.mem_of_getElem? (i := 1) rfl, rfl, rfl⟩
            have w177 := v177
            rw [Array.getD_eq_getD_getElem?] at w177
            clear hf hfar
            go_simp
            exact ⟨_, rfl, Kept.refl _ _, rfl⟩
          refine OweTo.cons ?_ (by rfl) ?_
          · intro u a hk hf hfar
            have v178 : a.tmps.getD 178 undef = .bool true := hf 10 _ 178 rfl rfl ⟨⟨10, .data⟩, Array.mem_of_getElem? (i := 0) rfl, rfl, rfl⟩
            have w178 := v178
            rw [Array.getD_eq_getD_getElem?] at w178
            clear hf hfar
            go_simp
            exact ⟨_, rfl, Kept.refl _ _, rfl⟩
          refine OweTo.cons ?_ (by rfl) ?_
          · intro u a hk hf hfar
            have v19 : a.tmps.getD 19 undef = vS := hfar 19 (by decide)
            have w19 := v19
            rw [Array.getD_eq_getD_getElem?] at w19
            clear hf hfar
            go_simp
            exact ⟨_, rfl, Kept.refl _ _, rfl⟩
          refine OweTo.cons ?_ (by rfl) ?_
          · intro u a hk hf hfar
            have v3 : a.tmps.getD 3 undef = .pointer (some ⟨bk, 0, none⟩) := hfar 3 (by decide)
            have w3 := v3
            rw [Array.getD_eq_getD_getElem?] at w3
            clear hf hfar
            go_simp
            exact ⟨_, rfl, Kept.refl _ _, rfl⟩
          refine OweTo.cons ?_ (by rfl) ?_
          · intro u a hk hf hfar
            have v181 : a.tmps.getD 181 undef = .pointer (some ⟨bk, 1, none⟩) := hf 13 _ 181 rfl rfl ⟨⟨13, .data⟩, Array.mem_of_getElem? (i := 0) rfl, rfl, rfl⟩
            have w181 := v181
            rw [Array.getD_eq_getD_getElem?] at w181
            have zc := Z1.out u hk
            clear hf hfar
            go_simp
            exact ⟨_, rfl, Kept.refl _ _, rfl⟩
          refine OweTo.cons ?_ (by rfl) ?_
          · intro u a hk hf hfar
            have v180 : a.tmps.getD 180 undef = vS := hf 12 _ 180 rfl rfl ⟨⟨12, .data⟩, Array.mem_of_getElem? (i := 0) rfl, rfl, rfl⟩
            have w180 := v180
            rw [Array.getD_eq_getD_getElem?] at w180
            have v182 : a.tmps.getD 182 undef = .int .u32 (M : Int) := hf 14 _ 182 rfl rfl ⟨⟨14, .data⟩, Array.mem_of_getElem? (i := 1) rfl, rfl, rfl⟩
            have w182 := v182
            rw [Array.getD_eq_getD_getElem?] at w182
            clear hf hfar
            go_simp
            refine (C9.out u hk).mono ?_
            rintro e u' ⟨rfl, hk'⟩
            exact ⟨_, rfl, hk', rfl⟩
          refine OweTo.cons ?_ (by rfl) ?_
          · intro u a hk hf hfar
            have v183 : a.tmps.getD 183 undef = .bool true := hf 15 _ 183 rfl rfl ⟨⟨15, .data⟩, Array.mem_of_getElem? (i := 0) rfl, rfl, rfl⟩
            have w183 := v183
            rw [Array.getD_eq_getD_getElem?] at w183
            clear hf hfar
            go_simp
            exact ⟨_, rfl, Kept.refl _ _, rfl⟩
          refine OweTo.cons ?_ (by rfl) ?_
          · intro u a hk hf hfar
            have v184 : a.tmps.getD 184 undef = .bool false := hf 16 _ 184 rfl rfl ⟨⟨16, .data⟩, Array.mem_of_getElem? (i := 0) rfl, rfl, rfl⟩
            have w184 := v184
            rw [Array.getD_eq_getD_getElem?] at w184
            clear hf hfar
            go_simp
            exact ⟨_, rfl, Kept.refl _ _, rfl⟩
          refine OweTo.cons ?_ (by rfl) ?_
          · intro u a hk hf hfar
            have v0 : a.tmps.getD 0 undef = .slice AP P.length cP := hfar 0 (by decide)
            have w0 := v0
            rw [Array.getD_eq_getD_getElem?] at w0
            clear hf hfar
            go_simp
            exact ⟨_, rfl, Kept.refl _ _, rfl⟩
          refine OweTo.cons ?_ (by rfl) ?_
          · intro u a hk hf hfar
            have v3 : a.tmps.getD 3 undef = .pointer (some ⟨bk, 0, none⟩) := hfar 3 (by decide)
            have w3 := v3
            rw [Array.getD_eq_getD_getElem?] at w3
            clear hf hfar
            go_simp
            exact ⟨_, rfl, Kept.refl _ _, rfl⟩
          refine OweTo.cons ?_ (by rfl) ?_
          · intro u a hk hf hfar
            have v187 : a.tmps.getD 187 undef = .pointer (some ⟨bk, 0, none⟩) := hf 19 _ 187 rfl rfl ⟨⟨19, .data⟩, Array.mem_of_getElem? (i := 0) rfl, rfl, rfl⟩
            have w187 := v187
            rw [Array.getD_eq_getD_getElem?] at w187
            have zc := Z0.out u hk
            clear hf hfar
            go_simp
            exact ⟨_, rfl, Kept.refl _ _, rfl⟩
          refine OweTo.cons ?_ (by rfl) ?_
          · intro u a hk hf hfar
            have v3 : a.tmps.getD 3 undef = .pointer (some ⟨bk, 0, none⟩) := hfar 3 (by decide)
            have w3 := v3
            rw [Array.getD_eq_getD_getElem?] at w3
            clear hf hfar
            go_simp
            exact ⟨_, rfl, Kept.refl _ _, rfl⟩
          refine OweTo.cons ?_ (by rfl) ?_
          · intro u a hk hf hfar
            have v189 : a.tmps.getD 189 undef = .pointer (some ⟨bk, 1, none⟩) := hf 21 _ 189 rfl rfl ⟨⟨21, .data⟩, Array.mem_of_getElem? (i := 0) rfl, rfl, rfl⟩
            have w189 := v189
            rw [Array.getD_eq_getD_getElem?] at w189
            have zc := Z1.out u hk
            clear hf hfar
            go_simp
            exact ⟨_, rfl, Kept.refl _ _, rfl⟩
          refine OweTo.cons ?_ (by rfl) ?_
          · intro u a hk hf hfar
            have v186 : a.tmps.getD 186 undef = .slice AP P.length cP := hf 18 _ 186 rfl rfl ⟨⟨18, .data⟩, Array.mem_of_getElem? (i := 0) rfl, rfl, rfl⟩
            have w186 := v186
            rw [Array.getD_eq_getD_getElem?] at w186
            have v188 : a.tmps.getD 188 undef = .int .u32 (N : Int) := hf 20 _ 188 rfl rfl ⟨⟨20, .data⟩, Array.mem_of_getElem? (i := 1) rfl, rfl, rfl⟩
            have w188 := v188
            rw [Array.getD_eq_getD_getElem?] at w188
            have v190 : a.tmps.getD 190 undef = .int .u32 (M : Int) := hf 22 _ 190 rfl rfl ⟨⟨22, .data⟩, Array.mem_of_getElem? (i := 2) rfl, rfl, rfl⟩
            have w190 := v190
            rw [Array.getD_eq_getD_getElem?] at w190
            clear hf hfar
            go_simp
            refine (C23.out u hk).mono ?_
            rintro e u' ⟨rfl, hk'⟩
            exact ⟨_, rfl, hk', rfl⟩
          refine OweTo.cons ?_ (by rfl) ?_
          · intro u a hk hf hfar
            have v185 : a.tmps.getD 185 undef = .bool false := hf 17 _ 185 rfl rfl ⟨⟨17, .data⟩, Array.mem_of_getElem? (i := 0) rfl, rfl, rfl⟩
            have w185 := v185
            rw [Array.getD_eq_getD_getElem?] at w185
            have v191 : a.tmps.getD 191 undef = .bool true := hf 23 _ 191 rfl rfl ⟨⟨23, .data⟩, Array.mem_of_getElem? (i := 1) rfl, rfl, rfl⟩
            have w191 := v191
            rw [Array.getD_eq_getD_getElem?] at w191
            clear hf hfar
            go_simp
            exact ⟨_, rfl, Kept.refl _ _, rfl⟩
          refine OweTo.cons ?_ (by rfl) ?_
          · intro u a hk hf hfar
            have v179 : a.tmps.getD 179 undef = .bool true := hf 11 _ 179 rfl rfl ⟨⟨11, .data⟩, Array.mem_of_getElem? (i := 0) rfl, rfl, rfl⟩
            have w179 := v179
            rw [Array.getD_eq_getD_getElem?] at w179
            have v192 : a.tmps.getD 192 undef = .bool true := hf 24 _ 192 rfl rfl ⟨⟨24, .data⟩, Array.mem_of_getElem? (i := 1) rfl, rfl, rfl⟩
            have w192 := v192
            rw [Array.getD_eq_getD_getElem?] at w192
            clear hf hfar
            go_simp
            exact ⟨_, rfl, Kept.refl _ _, rfl⟩
          refine OweTo.cons ?_ (by rfl) ?_
          · intro u a hk hf hfar
            have v193 : a.tmps.getD 193 undef = .bool true := hf 25 _ 193 rfl rfl ⟨⟨25, .data⟩, Array.mem_of_getElem? (i := 0) rfl, rfl, rfl⟩
            have w193 := v193
            rw [Array.getD_eq_getD_getElem?] at w193
            clear hf hfar
            go_simp
            exact ⟨_, rfl, Kept.refl _ _, rfl⟩
          refine OweTo.cons ?_ (by rfl) ?_
          · intro u a hk hf hfar
            have v0 : a.tmps.getD 0 undef = .slice AP P.length cP := hfar 0 (by decide)
            have w0 := v0
            rw [Array.getD_eq_getD_getElem?] at w0
            clear hf hfar
            go_simp
            exact ⟨_, rfl, Kept.refl _ _, rfl⟩
          refine OweTo.cons ?_ (by rfl) ?_
          · intro u a hk hf hfar
            have v3 : a.tmps.getD 3 undef = .pointer (some ⟨bk, 0, none⟩) := hfar 3 (by decide)
            have w3 := v3
            rw [Array.getD_eq_getD_getElem?] at w3
            clear hf hfar
            go_simp
            exact ⟨_, rfl, Kept.refl _ _, rfl⟩
          refine OweTo.cons ?_ (by rfl) ?_
          · intro u a hk hf hfar
            have v196 : a.tmps.getD 196 undef = .pointer (some ⟨bk, 0, none⟩) := hf 28 _ 196 rfl rfl ⟨⟨28, .data⟩, Array.mem_of_getElem? (i := 0) rfl, rfl, rfl⟩
            have w196 := v196
            rw [Array.getD_eq_getD_getElem?] at w196
            have zc := Z0.out u hk
            clear hf hfar
            go_simp
            exact ⟨_, rfl, Kept.refl _ _, rfl⟩
          refine OweTo.cons ?_ (by rfl) ?_
          · intro u a hk hf hfar
            have v195 : a.tmps.getD 195 undef = .slice AP P.length cP := hf 27 _ 195 rfl rfl ⟨⟨27, .data⟩, Array.mem_of_getElem? (i := 0) rfl, rfl, rfl⟩
            have w195 := v195
            rw [Array.getD_eq_getD_getElem?] at w195
            have v197 : a.tmps.getD 197 undef = .int .u32 (N : Int) := hf 29 _ 197 rfl rfl ⟨⟨29, .data⟩, Array.mem_of_getElem? (i := 1) rfl, rfl, rfl⟩
            have w197 := v197
            rw [Array.getD_eq_getD_getElem?] at w197
            clear hf hfar
            go_simp
            refine (C30.out u hk).mono ?_
            rintro e u' ⟨rfl, hk'⟩
            exact ⟨_, rfl, hk', rfl⟩
          refine OweTo.cons ?_ (by rfl) ?_
          · intro u a hk hf hfar
            have v0 : a.tmps.getD 0 undef = .slice AP P.length cP := hfar 0 (by decide)
            have w0 := v0
            rw [Array.getD_eq_getD_getElem?] at w0
            clear hf hfar
            go_simp
            exact ⟨_, rfl, Kept.refl _ _, rfl⟩
          refine OweTo.cons ?_ (by rfl) ?_
          · intro u a hk hf hfar
            have v3 : a.tmps.getD 3 undef = .pointer (some ⟨bk, 0, none⟩) := hfar 3 (by decide)
            have w3 := v3
            rw [Array.getD_eq_getD_getElem?] at w3
            clear hf hfar
            go_simp
            exact ⟨_, rfl, Kept.refl _ _, rfl⟩
          refine OweTo.cons ?_ (by rfl) ?_
          · intro u a hk hf hfar
            have v200 : a.tmps.getD 200 undef = .pointer (some ⟨bk, 0, none⟩) := hf 32 _ 200 rfl rfl ⟨⟨32, .data⟩, Array.mem_of_getElem? (i := 0) rfl, rfl, rfl⟩
            have w200 := v200
            rw [Array.getD_eq_getD_getElem?] at w200
            have zc := Z0.out u hk
            clear hf hfar
            go_simp
            exact ⟨_, rfl, Kept.refl _ _, rfl⟩
          refine OweTo.cons ?_ (by rfl) ?_
          · intro u a hk hf hfar
            have v3 : a.tmps.getD 3 undef = .pointer (some ⟨bk, 0, none⟩) := hfar 3 (by decide)
            have w3 := v3
            rw [Array.getD_eq_getD_getElem?] at w3
            clear hf hfar
            go_simp
            exact ⟨_, rfl, Kept.refl _ _, rfl⟩
          refine OweTo.cons ?_ (by rfl) ?_
          · intro u a hk hf hfar
            have v202 : a.tmps.getD 202 undef = .pointer (some ⟨bk, 0, none⟩) := hf 34 _ 202 rfl rfl ⟨⟨34, .data⟩, Array.mem_of_getElem? (i := 0) rfl, rfl, rfl⟩
            have w202 := v202
            rw [Array.getD_eq_getD_getElem?] at w202
            have zc := Z0.out u hk
            clear hf hfar
            go_simp
            exact ⟨_, rfl, Kept.refl _ _, rfl⟩
          refine OweTo.cons ?_ (by rfl) ?_
          · intro u a hk hf hfar
            have v199 : a.tmps.getD 199 undef = .slice AP P.length cP := hf 31 _ 199 rfl rfl ⟨⟨31, .data⟩, Array.mem_of_getElem? (i := 0) rfl, rfl, rfl⟩
            have w199 := v199
            rw [Array.getD_eq_getD_getElem?] at w199
            have v201 : a.tmps.getD 201 undef = .int .u32 (N : Int) := hf 33 _ 201 rfl rfl ⟨⟨33, .data⟩, Array.mem_of_getElem? (i := 1) rfl, rfl, rfl⟩
            have w201 := v201
            rw [Array.getD_eq_getD_getElem?] at w201
            have v203 : a.tmps.getD 203 undef = .int .u32 (N : Int) := hf 35 _ 203 rfl rfl ⟨⟨35, .data⟩, Array.mem_of_getElem? (i := 2) rfl, rfl, rfl⟩
            have w203 := v203
            rw [Array.getD_eq_getD_getElem?] at w203
            clear hf hfar
            go_simp
            refine (C36.out u hk).mono ?_
            rintro e u' ⟨rfl, hk'⟩
            exact ⟨_, rfl, hk', rfl⟩
          refine OweTo.cons ?_ (by rfl) ?_
          · intro u a hk hf hfar
            have v198 : a.tmps.getD 198 undef = .bool pn := hf 30 _ 198 rfl rfl ⟨⟨30, .data⟩, Array.mem_of_getElem? (i := 0) rfl, rfl, rfl⟩
            have w198 := v198
            rw [Array.getD_eq_getD_getElem?] at w198
            have v204 : a.tmps.getD 204 undef = .bool pn := hf 36 _ 204 rfl rfl ⟨⟨36, .data⟩, Array.mem_of_getElem? (i := 1) rfl, rfl, rfl⟩
            have w204 := v204
            rw [Array.getD_eq_getD_getElem?] at w204
            clear hf hfar
            go_simp
            exact ⟨_, rfl, Kept.refl _ _, rfl⟩
          refine OweTo.cons ?_ (by rfl) ?_
          · intro u a hk hf hfar
            have v194 : a.tmps.getD 194 undef = .bool true := hf 26 _ 194 rfl rfl ⟨⟨26, .data⟩, Array.mem_of_getElem? (i := 0) rfl, rfl, rfl⟩
            have w194 := v194
            rw [Array.getD_eq_getD_getElem?] at w194
            have v205 : a.tmps.getD 205 undef = .bool true := hf 37 _ 205 rfl rfl ⟨⟨37, .data⟩, Array.mem_of_getElem? (i := 1) rfl, rfl, rfl⟩
            have w205 := v205
            rw [Array.getD_eq_getD_getElem?] at w205
            clear hf hfar
            go_simp
            exact ⟨_, rfl, Kept.refl _ _, rfl⟩
          refine OweTo.cons ?_ (by rfl) ?_
          · intro u a hk hf hfar
            have v206 : a.tmps.getD 206 undef = .bool true := hf 38 _ 206 rfl rfl ⟨⟨38, .data⟩, Array.mem_of_getElem? (i := 0) rfl, rfl, rfl⟩
            have w206 := v206
            rw [Array.getD_eq_getD_getElem?] at w206
            clear hf hfar
            go_simp
            exact ⟨_, rfl, Kept.refl _ _, rfl⟩
          refine OweTo.cons ?_ (by rfl) ?_
          · intro u a hk hf hfar
            clear hf hfar
            go_simp
            refine (CT.out u hk).mono ?_
            rintro e u' ⟨rfl, hk'⟩
            exact ⟨_, rfl, hk', rfl⟩
          refine OweTo.cons ?_ (by rfl) ?_
          · intro u a hk hf hfar
            have v207 : a.tmps.getD 207 undef = .bool true := hf 39 _ 207 rfl rfl ⟨⟨39, .data⟩, Array.mem_of_getElem? (i := 0) rfl, rfl, rfl⟩
            have w207 := v207
            rw [Array.getD_eq_getD_getElem?] at w207
            have v208 : a.tmps.getD 208 undef = .bool true := hf 40 _ 208 rfl rfl ⟨⟨40, .data⟩, Array.mem_of_getElem? (i := 1) rfl, rfl, rfl⟩
            have w208 := v208
            rw [Array.getD_eq_getD_getElem?] at w208
            clear hf hfar
            go_simp
            exact ⟨_, rfl, Kept.refl _ _, rfl⟩
          exact OweTo.last (by decide)
        · intro A u hk hsz hdef hfar hfacts
          have v209 : A.tmps.getD 209 undef = .bool true := hfacts 41 _ 209 (by decide) rfl rfl
          have w209 := v209
          rw [Array.getD_eq_getD_getElem?] at w209
          have hs4 : 4 < A.tmps.size := by rw [hsz]; simp
          clear hfar hfacts hsz
          obtain ⟨At, Ad⟩ := A
          simp only at hdef v209 w209 hs4
          subst hdef
          have e4 : (At.setIfInBounds 4 (.bool true)).getD 4 undef = .bool true := by simp [hs4]
          go_simp
          have hr := results_tmp (fn := Tryd.f6) (t := 4) (by rfl) (At.setIfInBounds 4 (.bool true)) Tryd.prog u
          rw [e4] at hr
          go_wp2
          exact bodyPost_ret hr rfl ⟨rfl, KT.out.trans hk⟩
      | false =>
        rw [hsm] at C5 C9
        clear hsm L10 XLP C23
        refine wp_region_last2 w22 (Facts [some (vS), some (.pointer (some ⟨bk, 0, none⟩)), some (.int .u32 (N : Int)), some (.pointer (some ⟨bk, 1, none⟩)), some (.int .u32 (M : Int)), some (.bool false), some (vS), some (.pointer (some ⟨bk, 1, none⟩)), some (.int .u32 (M : Int)), some (.bool false), some (.bool true), some (.bool true), some (vS), some (.pointer (some ⟨bk, 1, none⟩)), some (.int .u32 (M : Int)), some (.bool false), some (.bool true), some (.bool true), some (undef), some (undef), some (undef), some (undef), some (undef), some (undef), some (.bool true), some (.bool true), some (.bool true), some (.slice AP P.length cP), some (.pointer (some ⟨bk, 0, none⟩)), some (.int .u32 (N : Int)), some (.bool pn), some (.slice AP P.length cP), some (.pointer (some ⟨bk, 0, none⟩)), some (.int .u32 (N : Int)), some (.pointer (some ⟨bk, 0, none⟩)), some (.int .u32 (N : Int)), some (.bool pn), some (.bool true), some (.bool true), some (.bool true), some (.bool true), some (.bool true)] (fun _ _ _ => True)) 42 _ (by rfl) (by rfl) (by kernel_rfl) (by rfl) (by kernel_rfl) (by decide +kernel) (by intro d hd; simp [dsts] at hd ⊢; omega) (ready_nil (by kernel_rfl)) (fun k => if k = 17 then true else true) (by kernel_rfl) ?_ (Facts.stab (fun _ _ _ _ _ h => h)) ((Kept.refl Nothing w22).drew) ?_ ?_
        · refine Facts.guards2 (gv := fun k => if k = 17 then true else true) (E := [11, 17, 26, 39]) (by kernel_rfl) ?_
          repeat (first | refine List.forall_mem_cons.2 ⟨by rfl, ?_⟩ | exact List.forall_mem_nil _)
        · refine OweTo.cons ?_ (by rfl) ?_
          · intro u a hk hf hfar
            have v19 : a.tmps.getD 19 undef = vS := hfar 19 (by decide)
            have w19 := v19
            rw [Array.getD_eq_getD_getElem?] at w19
            clear hf hfar
            go_simp
            exact ⟨_, rfl, Kept.refl _ _, rfl⟩
          refine OweTo.cons ?_ (by rfl) ?_
          · intro u a hk hf hfar
            have v3 : a.tmps.getD 3 undef = .pointer (some ⟨bk, 0, none⟩) := hfar 3 (by decide)
            have w3 := v3
            rw [Array.getD_eq_getD_getElem?] at w3
            clear hf hfar
            go_simp
            exact ⟨_, rfl, Kept.refl _ _, rfl⟩
          refine OweTo.cons ?_ (by rfl) ?_
          · intro u a hk hf hfar
            have v169 : a.tmps.getD 169 undef = .pointer (some ⟨bk, 0, none⟩) := hf 1 _ 169 rfl rfl ⟨⟨1, .data⟩, Array.mem_of_getElem? (i := 0) rfl, rfl, rfl⟩
            have w169 := v169
            rw [Array.getD_eq_getD_getElem?] at w169
            have zc := Z0.out u hk
            clear hf hfar
            go_simp
            exact ⟨_, rfl, Kept.refl _ _, rfl⟩
          refine OweTo.cons ?_ (by rfl) ?_
          · intro u a hk hf hfar
            have v3 : a.tmps.getD 3 undef = .pointer (some ⟨bk, 0, none⟩) := hfar 3 (by decide)
            have w3 := v3
            rw [Array.getD_eq_getD_getElem?] at w3
            clear hf hfar
            go_simp
            exact ⟨_, rfl, Kept.refl _ _, rfl⟩
          refine OweTo.cons ?_ (by rfl) ?_
          · intro u a hk hf hfar
            have v171 : a.tmps.getD 171 undef = .pointer (some ⟨bk, 1, none⟩) := hf 3 _ 171 rfl rfl ⟨⟨3, .data⟩, Array.mem_of_getElem? (i := 0) rfl, rfl, rfl⟩
            have w171 := v171
            rw [Array.getD_eq_getD_getElem?] at w171
            have zc := Z1.out u hk
            clear hf hfar
            go_simp
            exact ⟨_, rfl, Kept.refl _ _, rfl⟩
          refine OweTo.cons ?_ (by rfl) ?_
          · intro u a hk hf hfar
            have v168 : a.tmps.getD 168 undef = vS := hf 0 _ 168 rfl rfl ⟨⟨0, .data⟩, Array.mem_of_getElem? (i := 0) rfl, rfl, rfl⟩
            have w168 := v168
            rw [Array.getD_eq_getD_getElem?] at w168
            have v170 : a.tmps.getD 170 undef = .int .u32 (N : Int) := hf 2 _ 170 rfl rfl ⟨⟨2, .data⟩, Array.mem_of_getElem? (i := 1) rfl, rfl, rfl⟩
            have w170 := v170
            rw [Array.getD_eq_getD_getElem?] at w170
            have v172 : a.tmps.getD 172 undef = .int .u32 (M : Int) := hf 4 _ 172 rfl rfl ⟨⟨4, .data⟩, Array.mem_of_getElem? (i := 2) rfl, rfl, rfl⟩
            have w172 := v172
            rw [Array.getD_eq_getD_getElem?] at w172
            clear hf hfar
            go_simp
            refine (C5.out u hk).mono ?_
            rintro e u' ⟨rfl, hk'⟩
            exact ⟨_, rfl, hk', rfl⟩
          refine OweTo.cons ?_ (by rfl) ?_
          · intro u a hk hf hfar
            have v19 : a.tmps.getD 19 undef = vS := hfar 19 (by decide)
            have w19 := v19
            rw [Array.getD_eq_getD_getElem?] at w19
            clear hf hfar
            go_simp
            exact ⟨_, rfl, Kept.refl _ _, rfl⟩
          refine OweTo.cons ?_ (by rfl) ?_
          · intro u a hk hf hfar
            have v3 : a.tmps.getD 3 undef = .pointer (some ⟨bk, 0, none⟩) := hfar 3 (by decide)
            have w3 := v3
            rw [Array.getD_eq_getD_getElem?] at w3
            clear hf hfar
            go_simp
            exact ⟨_, rfl, Kept.refl _ _, rfl⟩
          refine OweTo.cons ?_ (by rfl) ?_
          · intro u a hk hf hfar
            have v175 : a.tmps.getD 175 undef = .pointer (some ⟨bk, 1, none⟩) := hf 7 _ 175 rfl rfl ⟨⟨7, .data⟩, Array.mem_of_getElem? (i := 0) rfl, rfl, rfl⟩
            have w175 := v175
            rw [Array.getD_eq_getD_getElem?] at w175
            have zc := Z1.out u hk
            clear hf hfar
            go_simp
            exact ⟨_, rfl, Kept.refl _ _, rfl⟩
          refine OweTo.cons ?_ (by rfl) ?_
          · intro u a hk hf hfar
            have v174 : a.tmps.getD 174 undef = vS := hf 6 _ 174 rfl rfl ⟨⟨6, .data⟩, Array.mem_of_getElem? (i := 0) rfl, rfl, rfl⟩
            have w174 := v174
            rw [Array.getD_eq_getD_getElem?] at w174
            have v176 : a.tmps.getD 176 undef = .int .u32 (M : Int) := hf 8 _ 176 rfl rfl ⟨⟨8, .data⟩, Array.mem_of_getElem? (i := 1) rfl, rfl, rfl⟩
            have w176 := v176
            rw [Array.getD_eq_getD_getElem?] at w176
            clear hf hfar
            go_simp
            refine (C9.out u hk).mono ?_
            rintro e u' ⟨rfl, hk'⟩
            exact ⟨_, rfl, hk', rfl⟩
          refine OweTo.cons ?_ (by rfl) ?_
          · intro u a hk hf hfar
            have v173 : a.tmps.getD 173 undef = .bool false := hf 5 _ 173 rfl rfl ⟨⟨5, .data⟩, Array.mem_of_getElem? (i := 0) rfl, rfl, rfl⟩
            have w173 := v173
            rw [Array.getD_eq_getD_getElem?] at w173
            have v177 : a.tmps.getD 177 undef = .bool false := hf 9 _ 177 rfl rfl ⟨⟨9, .data⟩, Array.mem_of_getElem? (i := 1) rfl, rfl, rfl⟩
            have w177 := v177
            rw [Array.getD_eq_getD_getElem?] at w177
            clear hf hfar
            go_simp
            exact ⟨_, rfl, Kept.refl _ _, rfl⟩
          refine OweTo.cons ?_ (by rfl) ?_
          · intro u a hk hf hfar
            have v178 : a.tmps.getD 178 undef = .bool true := hf 10 _ 178 rfl rfl ⟨⟨10, .data⟩, Array.mem_of_getElem? (i := 0) rfl, rfl, rfl⟩
            have w178 := v178
            rw [Array.getD_eq_getD_getElem?] at w178
            clear hf hfar
            go_simp
            exact ⟨_, rfl, Kept.refl _ _, rfl⟩
          refine OweTo.cons ?_ (by rfl) ?_
          · intro u a hk hf hfar
            have v19 : a.tmps.getD 19 undef = vS := hfar 19 (by decide)
            have w19 := v19
            rw [Array.getD_eq_getD_getElem?] at w19
            clear hf hfar
            go_simp
            exact ⟨_, rfl, Kept.refl _ _, rfl⟩
          refine OweTo.cons ?_ (by rfl) ?_
          · intro u a hk hf hfar
            have v3 : a.tmps.getD 3 undef = .pointer (some ⟨bk, 0, none⟩) := hfar 3 (by decide)
            have w3 := v3
            rw [Array.getD_eq_getD_getElem?] at w3
            clear hf hfar
            go_simp
            exact ⟨_, rfl, Kept.refl _ _, rfl⟩
          refine OweTo.cons ?_ (by rfl) ?_
          · intro u a hk hf hfar
            have v181 : a.tmps.getD 181 undef = .pointer (some ⟨bk, 1, none⟩) := hf 13 _ 181 rfl rfl ⟨⟨13, .data⟩, Array.mem_of_getElem? (i := 0) rfl, rfl, rfl⟩
            have w181 := v181
            rw [Array.getD_eq_getD_getElem?] at w181
            have zc := Z1.out u hk
            clear hf hfar
            go_simp
            exact ⟨_, rfl, Kept.refl _ _, rfl⟩
          refine OweTo.cons ?_ (by rfl) ?_
          · intro u a hk hf hfar
            have v180 : a.tmps.getD 180 undef = vS := hf 12 _ 180 rfl rfl ⟨⟨12, .data⟩, Array.mem_of_getElem? (i := 0) rfl, rfl, rfl⟩
            have w180 := v180
            rw [Array.getD_eq_getD_getElem?] at w180
            have v182 : a.tmps.getD 182 undef = .int .u32 (M : Int) := hf 14 _ 182 rfl rfl ⟨⟨14, .data⟩, Array.mem_of_getElem? (i := 1) rfl, rfl, rfl⟩
            have w182 := v182
            rw [Array.getD_eq_getD_getElem?] at w182
            clear hf hfar
            go_simp
            refine (C9.out u hk).mono ?_
            rintro e u' ⟨rfl, hk'⟩
            exact ⟨_, rfl, hk', rfl⟩
          refine OweTo.cons ?_ (by rfl) ?_
          · intro u a hk hf hfar
            have v183 : a.tmps.getD 183 undef = .bool false := hf 15 _ 183 rfl rfl ⟨⟨15, .data⟩, Array.mem_of_getElem? (i := 0) rfl, rfl, rfl⟩
            have w183 := v183
            rw [Array.getD_eq_getD_getElem?] at w183
            clear hf hfar
            go_simp
            exact ⟨_, rfl, Kept.refl _ _, rfl⟩
          refine OweTo.cons ?_ (by rfl) ?_
          · intro u a hk hf hfar
            have v184 : a.tmps.getD 184 undef = .bool true := hf 16 _ 184 rfl rfl ⟨⟨16, .data⟩, Array.mem_of_getElem? (i := 0) rfl, rfl, rfl⟩
            have w184 := v184
            rw [Array.getD_eq_getD_getElem?] at w184
            clear hf hfar
            go_simp
            exact ⟨_, rfl, Kept.refl _ _, rfl⟩
          refine OweTo.skip (fun u => rfl) (by rfl) ?_
          refine OweTo.skip (fun u => rfl) (by rfl) ?_
          refine OweTo.skip (fun u => rfl) (by rfl) ?_
          refine OweTo.skip (fun u => rfl) (by rfl) ?_
          refine OweTo.skip (fun u => rfl) (by rfl) ?_
          refine OweTo.skip (fun u => rfl) (by rfl) ?_
          refine OweTo.cons ?_ (by rfl) ?_
          · intro u a hk hf hfar
            have v185 : a.tmps.getD 185 undef = .bool true := hf 17 _ 185 rfl rfl ⟨⟨17, .data⟩, Array.mem_of_getElem? (i := 0) rfl, rfl, rfl⟩
            have w185 := v185
            rw [Array.getD_eq_getD_getElem?] at w185
            clear hf hfar
            go_simp
            exact ⟨_, rfl, Kept.refl _ _, rfl⟩
          refine OweTo.cons ?_ (by rfl) ?_
          · intro u a hk hf hfar
            have v179 : a.tmps.getD 179 undef = .bool true := hf 11 _ 179 rfl rfl ⟨⟨11, .data⟩, Array.mem_of_getElem? (i := 0) rfl, rfl, rfl⟩
            have w179 := v179
            rw [Array.getD_eq_getD_getElem?] at w179
            have v192 : a.tmps.getD 192 undef = .bool true := hf 24 _ 192 rfl rfl ⟨⟨24, .data⟩, Array.mem_of_getElem? (i := 1) rfl, rfl, rfl⟩
            have w192 := v192
            rw [Array.getD_eq_getD_getElem?] at w192
            clear hf hfar
            go_simp
            exact ⟨_, rfl, Kept.refl _ _, rfl⟩
          refine OweTo.cons ?_ (by rfl) ?_
          · intro u a hk hf hfar
            have v193 : a.tmps.getD 193 undef = .bool true := hf 25 _ 193 rfl rfl ⟨⟨25, .data⟩, Array.mem_of_getElem? (i := 0) rfl, rfl, rfl⟩
            have w193 := v193
            rw [Array.getD_eq_getD_getElem?] at w193
            clear hf hfar
            go_simp
            exact ⟨_, rfl, Kept.refl _ _, rfl⟩
          refine OweTo.cons ?_ (by rfl) ?_
          · intro u a hk hf hfar
            have v0 : a.tmps.getD 0 undef = .slice AP P.length cP := hfar 0 (by decide)
            have w0 := v0
            rw [Array.getD_eq_getD_getElem?] at w0
            clear hf hfar
            go_simp
            exact ⟨_, rfl, Kept.refl _ _, rfl⟩
          refine OweTo.cons ?_ (by rfl) ?_
          · intro u a hk hf hfar
            have v3 : a.tmps.getD 3 undef = .pointer (some ⟨bk, 0, none⟩) := hfar 3 (by decide)
            have w3 := v3
            rw [Array.getD_eq_getD_getElem?] at w3
            clear hf hfar
            go_simp
            exact ⟨_, rfl, Kept.refl _ _, rfl⟩
          refine OweTo.cons ?_ (by rfl) ?_
          · intro u a hk hf hfar
            have v196 : a.tmps.getD 196 undef = .pointer (some ⟨bk, 0, none⟩) := hf 28 _ 196 rfl rfl ⟨⟨28, .data⟩, Array.mem_of_getElem? (i := 0) rfl, rfl, rfl⟩
            have w196 := v196
            rw [Array.getD_eq_getD_getElem?] at w196
            have zc := Z0.out u hk
            clear hf hfar
            go_simp
            exact ⟨_, rfl, Kept.refl _ _, rfl⟩
          refine OweTo.cons ?_ (by rfl) ?_
          · intro u a hk hf hfar
            have v195 : a.tmps.getD 195 undef = .slice AP P.length cP := hf 27 _ 195 rfl rfl ⟨⟨27, .data⟩, Array.mem_of_getElem? (i := 0) rfl, rfl, rfl⟩
            have w195 := v195
            rw [Array.getD_eq_getD_getElem?] at w195
            have v197 : a.tmps.getD 197 undef = .int .u32 (N : Int) := hf 29 _ 197 rfl rfl ⟨⟨29, .data⟩, Array.mem_of_getElem? (i := 1) rfl, rfl, rfl⟩
            have w197 := v197
            rw [Array.getD_eq_getD_getElem?] at w197
            clear hf hfar
            go_simp
            refine (C30.out u hk).mono ?_
            rintro e u' ⟨rfl, hk'⟩
            exact ⟨_, rfl, hk', rfl⟩
          refine OweTo.cons ?_ (by rfl) ?_
          · intro u a hk hf hfar
            have v0 : a.tmps.getD 0 undef = .slice AP P.length cP := hfar 0 (by decide)
            have w0 := v0
            rw [Array.getD_eq_getD_getElem?] at w0
            clear hf hfar
            go_simp
            exact ⟨_, rfl, Kept.refl _ _, rfl⟩
          refine OweTo.cons ?_ (by rfl) ?_
          · intro u a hk hf hfar
            have v3 : a.tmps.getD 3 undef = .pointer (some ⟨bk, 0, none⟩) := hfar 3 (by decide)
            have w3 := v3
            rw [Array.getD_eq_getD_getElem?] at w3
            clear hf hfar
            go_simp
            exact ⟨_, rfl, Kept.refl _ _, rfl⟩
          refine OweTo.cons ?_ (by rfl) ?_
          · intro u a hk hf hfar
            have v200 : a.tmps.getD 200 undef = .pointer (some ⟨bk, 0, none⟩) := hf 32 _ 200 rfl rfl ⟨⟨32, .data⟩, Array.mem_of_getElem? (i := 0) rfl, rfl, rfl⟩
            have w200 := v200
            rw [Array.getD_eq_getD_getElem?] at w200
            have zc := Z0.out u hk
            clear hf hfar
            go_simp
            exact ⟨_, rfl, Kept.refl _ _, rfl⟩
          refine OweTo.cons ?_ (by rfl) ?_
          · intro u a hk hf hfar
            have v3 : a.tmps.getD 3 undef = .pointer (some ⟨bk, 0, none⟩) := hfar 3 (by decide)
            have w3 := v3
            rw [Array.getD_eq_getD_getElem?] at w3
            clear hf hfar
            go_simp
            exact ⟨_, rfl, Kept.refl _ _, rfl⟩
          refine OweTo.cons ?_ (by rfl) ?_
          · intro u a hk hf hfar
            have v202 : a.tmps.getD 202 undef = .pointer (some ⟨bk, 0, none⟩) := hf 34 _ 202 rfl rfl ⟨⟨34, .data⟩, Array.mem_of_getElem? (i := 0) rfl, rfl, rfl⟩
            have w202 := v202
            rw [Array.getD_eq_getD_getElem?] at w202
            have zc := Z0.out u hk
            clear hf hfar
            go_simp
            exact ⟨_, rfl, Kept.refl _ _, rfl⟩
          refine OweTo.cons ?_ (by rfl) ?_
          · intro u a hk hf hfar
            have v199 : a.tmps.getD 199 undef = .slice AP P.length cP := hf 31 _ 199 rfl rfl ⟨⟨31, .data⟩, Array.mem_of_getElem? (i := 0) rfl, rfl, rfl⟩
            have w199 := v199
            rw [Array.getD_eq_getD_getElem?] at w199
            have v201 : a.tmps.getD 201 undef = .int .u32 (N : Int) := hf 33 _ 201 rfl rfl ⟨⟨33, .data⟩, Array.mem_of_getElem? (i := 1) rfl, rfl, rfl⟩
            have w201 := v201
            rw [Array.getD_eq_getD_getElem?] at w201
            have v203 : a.tmps.getD 203 undef = .int .u32 (N : Int) := hf 35 _ 203 rfl rfl ⟨⟨35, .data⟩, Array.mem_of_getElem? (i := 2) rfl, rfl, rfl⟩
            have w203 := v203
            rw [Array.getD_eq_getD_getElem?] at w203
            clear hf hfar
            go_simp
            refine (C36.out u hk).mono ?_
            rintro e u' ⟨rfl, hk'⟩
            exact ⟨_, rfl, hk', rfl⟩
          refine OweTo.cons ?_ (by rfl) ?_
          · intro u a hk hf hfar
            have v198 : a.tmps.getD 198 undef = .bool pn := hf 30 _ 198 rfl rfl ⟨⟨30, .data⟩, Array.mem_of_getElem? (i := 0) rfl, rfl, rfl⟩
            have w198 := v198
            rw [Array.getD_eq_getD_getElem?] at w198
            have v204 : a.tmps.getD 204 undef = .bool pn := hf 36 _ 204 rfl rfl ⟨⟨36, .data⟩, Array.mem_of_getElem? (i := 1) rfl, rfl, rfl⟩
            have w204 := v204
            rw [Array.getD_eq_getD_getElem?] at w204
            clear hf hfar
            go_simp
            exact ⟨_, rfl, Kept.refl _ _, rfl⟩
          refine OweTo.cons ?_ (by rfl) ?_
          · intro u a hk hf hfar
            have v194 : a.tmps.getD 194 undef = .bool true := hf 26 _ 194 rfl rfl ⟨⟨26, .data⟩, Array.mem_of_getElem? (i := 0) rfl, rfl, rfl⟩
            have w194 := v194
            rw [Array.getD_eq_getD_getElem?] at w194
            have v205 : a.tmps.getD 205 undef = .bool true := hf 37 _ 205 rfl rfl ⟨⟨37, .data⟩, Array.mem_of_getElem? (i := 1) rfl, rfl, rfl⟩
            have w205 := v205
            rw [Array.getD_eq_getD_getElem?] at w205
            clear hf hfar
            go_simp
            exact ⟨_, rfl, Kept.refl _ _, rfl⟩
          refine OweTo.cons ?_ (by rfl) ?_
          · intro u a hk hf hfar
            have v206 : a.tmps.getD 206 undef = .bool true := hf 38 _ 206 rfl rfl ⟨⟨38, .data⟩, Array.mem_of_getElem? (i := 0) rfl, rfl, rfl⟩
            have w206 := v206
            rw [Array.getD_eq_getD_getElem?] at w206
            clear hf hfar
            go_simp
            exact ⟨_, rfl, Kept.refl _ _, rfl⟩
          refine OweTo.cons ?_ (by rfl) ?_
          · intro u a hk hf hfar
            clear hf hfar
            go_simp
            refine (CT.out u hk).mono ?_
            rintro e u' ⟨rfl, hk'⟩
            exact ⟨_, rfl, hk', rfl⟩
          refine OweTo.cons ?_ (by rfl) ?_
          · intro u a hk hf hfar
            have v207 : a.tmps.getD 207 undef = .bool true := hf 39 _ 207 rfl rfl ⟨⟨39, .data⟩, Array.mem_of_getElem? (i := 0) rfl, rfl, rfl⟩
            have w207 := v207
            rw [Array.getD_eq_getD_getElem?] at w207
            have v208 : a.tmps.getD 208 undef = .bool true := hf 40 _ 208 rfl rfl ⟨⟨40, .data⟩, Array.mem_of_getElem? (i := 1) rfl, rfl, rfl⟩
            have w208 := v208
            rw [Array.getD_eq_getD_getElem?] at w208
            clear hf hfar
            go_simp
            exact ⟨_, rfl, Kept.refl _ _, rfl⟩
          exact OweTo.last (by decide)
        · intro A u hk hsz hdef hfar hfacts
          have v209 : A.tmps.getD 209 undef = .bool true := hfacts 41 _ 209 (by decide) rfl rfl
          have w209 := v209
          rw [Array.getD_eq_getD_getElem?] at w209
          have hs4 : 4 < A.tmps.size := by rw [hsz]; simp
          clear hfar hfacts hsz
          obtain ⟨At, Ad⟩ := A
          simp only at hdef v209 w209 hs4
          subst hdef
          have e4 : (At.setIfInBounds 4 (.bool true)).getD 4 undef = .bool true := by simp [hs4]
          go_simp
          have hr := results_tmp (fn := Tryd.f6) (t := 4) (by rfl) (At.setIfInBounds 4 (.bool true)) Tryd.prog u
          rw [e4] at hr
          go_wp2
          exact bodyPost_ret hr rfl ⟨rfl, KT.out.trans hk⟩
end Go.Proofs.YtfjpphfadglohaaDoor
