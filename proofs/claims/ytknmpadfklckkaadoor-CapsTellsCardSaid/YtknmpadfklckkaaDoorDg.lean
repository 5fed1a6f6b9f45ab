
/-
  The law CapsTells: it returns true, whatever it is given, and leaves what was there as it was.
-/
import Derived.Test.YtknmpadfklckkaaDoorDf
namespace Go.Proofs.YtknmpadfklckkaaDoor
open Go.RowKit

set_option maxRecDepth 20000 in
set_option maxHeartbeats 4000000 in
theorem tells_law (v0 : Value) (l : List Cp) (n : Nat) (h : n < 4294967296) (W : World) (hr : RdC W) (h1 : Cps W v0 l) :
    Calls Tryd.prog 3 #[v0, .int .u32 (n : Int)] W fun e w' => e = .returned (.bool true) ∧ Kept Nothing W w' := by
  have HR := Lib.hid hr
  have H1 := Lib.hid h1
  clear hr h1
  go_enter Tryd.func3, Tryd.ntmps3
  go_wp2_with fail
  refine (cp_few v0 l W H1.out).mono ?_
  rintro e w1 ⟨rv1, rfl, hp1, hk1⟩
  have P1 := Lib.hid hp1
  have K1 := Lib.hid hk1
  have hfl := fewL_small l
  obtain ⟨A1, c1, rfl, _, _⟩ := hp1.form
  clear hp1 hk1
  generalize fewL l = fl at *
  go_wp2_with fail
  refine (cp_of _ fl w1 P1.out (by omega)).mono ?_
  rintro e w2 ⟨rv2, rfl, hp2, hk2⟩
  have P2 := Lib.hid (P1.out.old hk2)
  have Q2 := Lib.hid hp2
  have K2 := Lib.hid (K1.out.trans hk2)
  obtain ⟨A2, c2, rfl, _, _⟩ := hp2.form
  clear hp2 hk2 P1 K1
  go_wp2_with fail
  refine (cp_bytes _ fl w2 P2.out (by omega)).mono ?_
  rintro e w3 ⟨rv3, rfl, hb3, hk3⟩
  have P3 := Lib.hid (P2.out.old hk3)
  have Q3 := Lib.hid (Q2.out.old hk3)
  have B3 := Lib.hid hb3
  have K3 := Lib.hid (K2.out.trans hk3)
  clear hb3 hk3 P2 Q2 K2
  go_wp2_with fail
  refine (rcp_bytes _ fl w3 Q3.out (by omega)).mono ?_
  rintro e w4 ⟨rv4, rfl, hb4, hk4⟩
  have P4 := Lib.hid (P3.out.old hk4)
  have Q4 := Lib.hid (Q3.out.old hk4)
  have B4 := Lib.hid (B3.out.by.old hk4)
  have C4 := Lib.hid hb4
  have K4 := Lib.hid (K3.out.trans hk4)
  clear hb4 hk4 P3 Q3 B3 K3
  go_wp2_with fail
  refine (cp_number _ fl w4 P4.out (by omega)).mono ?_
  rintro e w5 ⟨rfl, hk5⟩
  have P5 := Lib.hid (P4.out.old hk5)
  have Q5 := Lib.hid (Q4.out.old hk5)
  have B5 := Lib.hid (B4.out.old hk5)
  have C5 := Lib.hid (C4.out.old hk5)
  have K5 := Lib.hid (K4.out.trans hk5)
  clear hk5 P4 Q4 B4 C4 K4
  go_wp2_with fail
  refine (rcp_number _ fl w5 Q5.out (by omega)).mono ?_
  rintro e w6 ⟨rfl, hk6⟩
  have P6 := Lib.hid (P5.out.old hk6)
  have Q6 := Lib.hid (Q5.out.old hk6)
  have K6 := Lib.hid (K5.out.trans hk6)
  have hbe : ((Cp.bytes fl).1 == (Cp.bytes fl).1) = true := beq_self_eq_true _
  have EQ := Lib.hid (by_equal rv3 rv4 _ _ w6 (B5.out.old hk6) (C5.out.old hk6))
  rw [hbe] at EQ
  have R6 := Lib.hid (HR.out.kept K6.out)
  have RF := Lib.hid (fun w h' => cp_refreshes (.slice A1 fl.length c1) fl w h' (by omega))
  have RG := Lib.hid (fun w h' => rcp_refreshes (.slice A2 fl.length c2) fl w h' (by omega))
  have IP := Lib.hid (fun w hr' h' => cp_ipv4 (.slice A1 fl.length c1) fl w hr' h' (by omega))
  have IQ := Lib.hid (fun w h' => rcp_ipv4 (.slice A2 fl.length c2) fl w h' (by omega))
  clear hk6 P5 Q5 B5 C5 K5 hbe
  generalize (Cp.bytes fl).2 = z1 at *
  generalize (Cp.number fl).1 = z2 at *
  generalize (Cp.number fl).2 = z3 at *
  generalize Cp.refreshes fl = z4 at *
  generalize Cp.ipv4 false fl = z5 at *
  go_wp2_with (first
    | (go_at_call 12; refine (EQ.out).mono ?_; rintro e w7 ⟨rfl, rfl⟩)
    | (go_at_call 13; refine (RF.out _ P6.out).mono ?_; rintro e w8 ⟨rfl, hk8⟩; have K8 := Lib.hid hk8; clear hk8)
    | (go_at_call 14; refine (RG.out _ (Q6.out.old K8.out)).mono ?_; rintro e w9 ⟨rfl, hk9⟩; have K9 := Lib.hid (K8.out.trans hk9); clear hk9)
    | (go_at_call 15; refine (IP.out _ (R6.out.kept K9.out) (P6.out.old K9.out)).mono ?_; rintro e w10 ⟨rfl, hk10⟩; have K10 := Lib.hid (K9.out.trans hk10); clear hk10)
    | (go_at_call 16; refine (IQ.out _ (Q6.out.old K10.out)).mono ?_; rintro e w11 ⟨rfl, hk11⟩; have K11 := Lib.hid (K10.out.trans hk11); clear hk11)
    | (go_at_call 18; refine (cp_ours n h _ (R6.out.kept K11.out)).mono ?_; rintro e w12 ⟨v12, rfl, hp12, hk12⟩; have K12 := Lib.hid (K11.out.trans hk12); have P12 := Lib.hid hp12; clear hp12 hk12)
    | (go_at_call 7; refine (cp_of _ (oursL n) _ P12.out (by simp [oursL])).mono ?_; rintro e w13 ⟨v13, rfl, hp13, hk13⟩; have K13 := Lib.hid (K12.out.trans hk13); have P13 := Lib.hid hp13; clear hp13 hk13)
    | (go_at_call 19; refine (rcp_ours n h _).mono ?_; rintro e w14 ⟨v14, rfl, hp14, hk14⟩; have K14 := Lib.hid (K13.out.trans hk14); have P14 := Lib.hid (P13.out.old hk14); have Q14 := Lib.hid hp14; clear hp14 hk14)
    | (go_at_call 17; refine (cp_same _ _ (oursL n) _ P14.out Q14.out (by simp [oursL])).mono ?_; rintro e w15 ⟨rfl, hk15⟩; have K15 := Lib.hid (K14.out.trans hk15); clear hk15)
    | (go_at_call 20; refine (cp_wakes _).mono ?_; rintro e w16 ⟨rfl, hk16⟩; have K16 := Lib.hid (K15.out.trans hk16); clear hk16))
  go_ret
  exact ⟨rfl, K6.out.trans K16.out⟩
end Go.Proofs.YtknmpadfklckkaaDoor
