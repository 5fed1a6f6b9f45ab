
/-
  The law PathTells.
-/
import Derived.Test.YtdeblmolgmadiaaGreatDoorZf
import Derived.Test.YtdeblmolgmadiaaGreatDoorZj
import Derived.Test.YtdeblmolgmadiaaGreatDoorLaw
namespace Go.Proofs.YtdeblmolgmadiaaGreatDoor
open Go.RowKit
attribute [local go_sem] Oper.semAt_some

theorem is_any (v u : Value) (l m : List Seg) (w : World) (h : Pts w v l) (h2 : Rfs w u m) (hl : l.length ≤ 1000000) (hn : ∀ s ∈ l, s.2.length ≤ 1000000) :
    Calls Tryz.prog 25 #[v, u] w fun e w' => e = .returned (.bool (decide (l = m))) ∧ Kept Nothing w w' := by
  have H1 := Lib.hid (of7 v l w h hl hn)
  have H2 := Lib.hid (fun v' w' (h' : Rfs w' v' l) (k : Kept Nothing w w') => rf_same v' u l m w' h' (h2.old k))
  go_enter Tryz.func25, Tryz.ntmps25
  go_wp2_with (first
    | (go_at_call 19; refine (H2.out _ _ O1.out.rfs K1.out).mono ?_; rintro e w2 ⟨rfl, k2⟩)
    | (go_at_call 12; refine (H1.out).mono ?_; rintro e w1 ⟨v1, rfl, o1, k1⟩; (have O1 := Lib.hid o1); (have K1 := Lib.hid k1); clear o1 k1))
  go_ret
  exact ⟨rfl, K1.out.trans k2⟩

set_option maxRecDepth 20000 in
set_option maxHeartbeats 2000000 in
theorem law_tells7 (a b : Value) (l m : List Seg) (W : World) (ha : Pts W a l) (hb : Pts W b m) (hr : Rdy2 W) (hs : Bkt W) :
    Calls Tryz.prog 3 #[a, b] W fun e w' => e = .returned (.bool true) ∧ Kept Nothing W w' := by
  have HA := Lib.hid ha
  have HB := Lib.hid hb
  have HR := Lib.hid hr
  have HS := Lib.hid hs
  have HP1 := Lib.hid (fewN_len 34 257 l)
  have HP2 := Lib.hid (fun s => @fewN_num 34 257 l s)
  have HQ1 := Lib.hid (fewN_len 34 257 m)
  have HQ2 := Lib.hid (fun s => @fewN_num 34 257 m s)
  have F1 := Lib.hid (fun u (k : Kept Nothing W u) => few7 a l u (HA.out.old k))
  have F2 := Lib.hid (fun u (k : Kept Nothing W u) => few7 b m u (HB.out.old k))
  generalize fewN 34 257 l = P at *
  generalize fewN 34 257 m = Q at *
  obtain ⟨A, c, rfl, _, _⟩ := ha.form
  obtain ⟨B, d, rfl, _, _⟩ := hb.form
  clear ha hb hr hs
  go_enter Tryz.func3, Tryz.ntmps3
  go_upto_region 2 with (first
    | (go_at_call 11; refine (F2.out _ k1).mono ?_; rintro e w2 ⟨v2, rfl, p2, k2⟩)
    | (go_at_call 11; refine (F1.out _ (Kept.refl _ _)).mono ?_; rintro e w1 ⟨v1, rfl, p1, k1⟩))
  have PP := Lib.hid (p1.pts.old k2)
  have PQ := Lib.hid p2.pts
  have K2 := Lib.hid (k1.trans k2)
  obtain ⟨A1, c1, rfl, _, _⟩ := PP.out.form
  obtain ⟨A2, c2, rfl, _, _⟩ := PQ.out.form
  clear p1 p2 k1 k2
  go_upto_region 3 with (first
    | (go_at_call 12; refine (of7 _ Q _ (PQ.out.old K3.out) (by have := HQ1.out; omega) (fun s hs => by have := HQ2.out s hs; omega)).mono ?_; rintro e w4 ⟨v4, rfl, o4, k4⟩; (have K4 := Lib.hid k4); (have O4 := Lib.hid o4); clear o4 k4)
    | (go_at_call 12; refine (of7 _ P _ PP.out (by have := HP1.out; omega) (fun s hs => by have := HP2.out s hs; omega)).mono ?_; rintro e w3 ⟨v3, rfl, o3, k3⟩; (have K3 := Lib.hid k3); (have O3 := Lib.hid o3); clear o3 k3))
  have K24 := Lib.hid (K3.out.trans K4.out)
  have KW := Lib.hid (K2.out.trans K24.out)
  have RP := Lib.hid (O3.out.rfs.old K4.out)
  have RQ := Lib.hid O4.out.rfs
  obtain ⟨A3, c3, rfl, _, _⟩ := RP.out.form
  obtain ⟨A4, c4, rfl, _, _⟩ := RQ.out.form
  have XP := Lib.hid (PP.out.old K24.out)
  have XQ := Lib.hid (PQ.out.old K24.out)
  have hl := HP1.out
  have LP : Hid (P.length ≤ 1000000 ∧ ∀ s ∈ P, s.2.length ≤ 1000000) := Lib.hid ⟨by have := HP1.out; omega, fun s hs => by have := HP2.out s hs; omega⟩
  have CB := Lib.hid (fun wd u (k : Kept Nothing w4 u) => path_bytes _ P wd u (XP.out.old k) LP.out.1 LP.out.2)
  have DB := Lib.hid (fun wd u (k : Kept Nothing w4 u) => rf_bytes _ P wd u (RP.out.old k) LP.out.1)
  have CM := Lib.hid (fun u (k : Kept Nothing w4 u) => path_may _ P u (XP.out.old k) (by have := LP.out.1; omega))
  have DM := Lib.hid (fun u (k : Kept Nothing w4 u) => rf_may _ P u (RP.out.old k) (by have := LP.out.1; omega))
  have CS := Lib.hid (fun u (k : Kept Nothing w4 u) => path_same _ _ P Q u (XP.out.old k) (XQ.out.old k))
  have DS := Lib.hid (fun u (k : Kept Nothing w4 u) => rf_same _ _ P Q u (RP.out.old k) (RQ.out.old k))
  have CC := Lib.hid (fun u (k : Kept Nothing w4 u) => path_copy _ P u (XP.out.old k) LP.out.1 LP.out.2)
  have CS2 := Lib.hid (fun v u (k : Kept Nothing w4 u) (h : Pts u v P) => path_same _ v P P u (XP.out.old k) h)
  have CN := Lib.hid (fun u (k : Kept Nothing w4 u) => path_count _ P u (XP.out.old k) LP.out.1 LP.out.2)
  have DN := Lib.hid (fun u (k : Kept Nothing w4 u) => rf_count _ P u (RP.out.old k) LP.out.1 LP.out.2)
  have CT := Lib.hid (fun u (k : Kept Nothing w4 u) => path_text _ P u (XP.out.old k) LP.out.1 (HR.out.1.kept (KW.out.trans k)) (HS.out.kept (KW.out.trans k)))
  have DT := Lib.hid (fun u (k : Kept Nothing w4 u) => rf_text _ P u (RP.out.old k) LP.out.1)
  have CI := Lib.hid (fun u (k : Kept Nothing w4 u) => is_any _ _ P P u (XP.out.old k) (RP.out.old k) LP.out.1 LP.out.2)
  have CW := Lib.hid (fun u (k : Kept Nothing w4 u) => wakes_true u (HR.out.kept (KW.out.trans k)) (HS.out.kept (KW.out.trans k)))
  simp only [decide_true] at CS2 CI
  generalize decide (P = Q) = dd at *
  generalize Pt.may P = my at *
  generalize Pt.cnt P = cn at *
  generalize Pt.text P = tx at *
  clear F1 F2 HA HB HP1 HP2 HQ1 HQ2 O3 O4 K2 K3 K4 K24 PP PQ XP XQ RP RQ HR HS hl
  go_wp2_with fail
  go_loopw [22] (fun i wr => ∃ k : Nat, i = .int .i64 (k : Int) ∧ k ≤ 2 ∧ Hid (Kept Nothing w4 wr)) (fun i _ => 2 - (intOf i).toNat)
  case atStart => exact ⟨0, rfl, by omega, Lib.hid (Kept.refl _ _)⟩
  case round =>
    obtain ⟨k, rfl, hk, KK⟩ := hrel
    by_cases hlt : k < 2
    · obtain ⟨wd, hwd⟩ : ∃ wd : Bool, ∀ W, (Instr.index 27 (.agg #[.bool false, .bool true]) (.int .i64 (k : Int))).run Tryz.prog W = .ok (.bool wd) W := by
        obtain rfl | rfl : k = 0 ∨ k = 1 := by omega
        · exact ⟨false, fun W => by kernel_rfl⟩
        · exact ⟨true, fun W => by kernel_rfl⟩
      have CBk := Lib.hid (CB.out wd)
      have DBk := Lib.hid (DB.out wd)
      have i1 : (0 : Int) ≤ (k : Int) := by omega
      have i2 : (k : Int) < 2 := by omega
      generalize (Pt.bytes P wd).1 = bb at *
      generalize (Pt.bytes P wd).2 = be at *
      have ebb : (bb == bb) = true := beq_self_eq_true _
      go_wp2_with (first
        | (go_at_call 15; refine (by_equal _ _ bb bb _ B5.out B6.out).mono ?_; rw [ebb]; rintro e w7 ⟨rfl, rfl⟩)
        | (go_at_call 14; refine (DBk.out _ (KK.out.trans K5.out)).mono ?_; rintro e w6 ⟨v6, rfl, o6, k6⟩; (have B6 := Lib.hid (Bs.of_own o6).by); (have K6 := Lib.hid (K5.out.trans k6)); (replace B5 := Lib.hid (B5.out.old k6)); (obtain ⟨A6, c6, rfl, _, _⟩ := ow_form o6); clear o6 k6)
        | (go_at_call 13; refine (CBk.out _ KK.out).mono ?_; rintro e w5 ⟨v5, rfl, o5, k5⟩; (have B5 := Lib.hid (Bs.of_own o5).by); (have K5 := Lib.hid k5); (obtain ⟨A5, c5, rfl, _, _⟩ := ow_form o5); clear o5 k5))
      go_roundw
      case rel => exact ⟨k + 1, by go_num, by omega, Lib.hid (KK.out.trans K6.out)⟩
      case measure => simp [intOf]; omega
    · obtain rfl : k = 2 := by omega
      clear CB DB
      have K := Lib.hid KK.out
      have t1 : True := trivial
      have edd : (dd == dd) = true := beq_self_eq_true _
      have emy : (my == my) = true := beq_self_eq_true _
      go_wp2_with (first
        | (go_at_call 26; refine (CW.out _ K.out).mono ?_; rintro e w29 ⟨rfl, k29⟩; replace K := Lib.hid (K.out.trans k29); clear k29)
        | (go_at_call 25; refine (CI.out _ K.out).mono ?_; rintro e w28 ⟨rfl, k28⟩; replace K := Lib.hid (K.out.trans k28); clear k28)
        | (go_at_call 24; refine (DT.out _ K.out).mono ?_; rintro e w27 ⟨rfl, k27⟩; replace K := Lib.hid (K.out.trans k27); clear k27)
        | (go_at_call 23; refine (CT.out _ K.out).mono ?_; rintro e w26 ⟨rfl, k26⟩; replace K := Lib.hid (K.out.trans k26); clear k26)
        | (go_at_call 22; refine (DN.out _ K.out).mono ?_; rintro e w25 ⟨rfl, k25⟩; replace K := Lib.hid (K.out.trans k25); clear k25)
        | (go_at_call 21; refine (CN.out _ K.out).mono ?_; rintro e w24 ⟨rfl, k24⟩; replace K := Lib.hid (K.out.trans k24); clear k24)
        | (go_at_call 18; refine (CS2.out _ _ K.out PC.out).mono ?_; rintro e w23 ⟨rfl, k23⟩; replace K := Lib.hid (K.out.trans k23); clear k23)
        | (go_at_call 20; refine (CC.out _ K.out).mono ?_; rintro e w22 ⟨v22, rfl, p22, k22⟩; (have PC := Lib.hid p22.pts); replace K := Lib.hid (K.out.trans k22); clear k22 p22)
        | (go_at_call 19; refine (DS.out _ K.out).mono ?_; rintro e w21 ⟨rfl, k21⟩; replace K := Lib.hid (K.out.trans k21); clear k21)
        | (go_at_call 18; have _t := t1; refine (CS.out _ K.out).mono ?_; rintro e w20 ⟨rfl, k20⟩; replace K := Lib.hid (K.out.trans k20); clear k20 t1)
        | (go_at_call 17; refine (DM.out _ K.out).mono ?_; rintro e w19 ⟨rfl, k19⟩; replace K := Lib.hid (K.out.trans k19); clear k19)
        | (go_at_call 16; refine (CM.out _ K.out).mono ?_; rintro e w18 ⟨rfl, k18⟩; replace K := Lib.hid (K.out.trans k18); clear k18))
      go_ret
      exact ⟨rfl, KW.out.trans K.out⟩
end Go.Proofs.YtdeblmolgmadiaaGreatDoor
