
/-
  session: Do, more of its leaves.
-/
import Derived.Test.YtembdobkgpojfaaDoorSMo
namespace Go.Proofs.YtembdobkgpojfaaDoor
open Go.RowKit Go.Maps

set_option maxRecDepth 100000 in
set_option maxHeartbeats 8000000 in
theorem se_do2 (hd0 : Int) (kd0 ho0 : Int) (x0 c0 s0 : Nat) (A0 : Option Addr) (n0 cc0 : Nat) (kd ho : Int) (x c s : Nat) (A : Option Addr) (n cc : Nat) (d : Bool) (bs : List UInt8) (w : World) (hr : RdS w) (hJ : Jdg w (.agg #[.int .i64 kd0, .int .u8 x0, .int .i64 ho0, .int .u8 c0, .int .u8 s0, .slice A0 n0 cc0]) kd ho x c s A n cc) (hb : By w (.slice A n cc) bs) (hC : Clo w A n cc d bs) :
    Calls Tryd.prog 10 #[.agg #[.int .i64 2, .int .i64 hd0], .agg #[.int .i64 kd0, .int .u8 x0, .int .i64 ho0, .int .u8 c0, .int .u8 s0, .slice A0 n0 cc0]] w fun e w' => Res .u8 w w' e (Sm.pSeek ⟨2, 0⟩ kd x) bs := by
  have HB := Lib.hid hb
  have HC := Lib.hid hC
  have HR := Lib.hid hr
  have HJ := Lib.hid hJ
  clear hb hC hr hJ
  have B0 := Bx.make (w := w) (st := 2) (hd := hd0) (kd := kd0) (ho := ho0) (x := x0) (c := c0) (s := s0) (A := A0) (n := n0) (cc := cc0)
  go_enter Tryd.func10, Tryd.ntmps10
  go_upto_region 1 with fail
  change Code.wp _ _ _ _ (((w.alloc (.cells #[.int .i64 2, .int .i64 hd0] 24)).alloc (.cells #[.int .i64 kd0, .int .u8 x0, .int .i64 ho0, .int .u8 c0, .int .u8 s0, .slice A0 n0 cc0] 31)).alloc (.cells #[.int .i64 0, .int .i64 0] 24))
  generalize ((w.alloc (.cells #[.int .i64 2, .int .i64 hd0] 24)).alloc (.cells #[.int .i64 kd0, .int .u8 x0, .int .i64 ho0, .int .u8 c0, .int .u8 s0, .slice A0 n0 cc0] 31)).alloc (.cells #[.int .i64 0, .int .i64 0] 24) = W0 at *
  have B := Lib.hid B0
  clear B0
  obtain ⟨m0, m1, -, -⟩ := mcells B.out.m
  go_cut [6, 7] (fun f ok wx => f = .func (.func 77) #[] #[] ∧ ok = .bool true ∧ Hid (Bx w wx 2 hd0 kd0 ho0 x0 c0 s0 A0 n0 cc0))
  case first =>
    go_region_law (go_simp; go_at_call 56; refine (se_states _).mono ?_; rintro e w1 ⟨mm, nn, DD, rfl, own, gs, hk⟩; (have B1 := Lib.hid ((B.out.old (Kept.refl Nothing _).drew).old hk)); (obtain ⟨d0, d1, -, -⟩ := mcells B1.out.m); (obtain ⟨v, hlk, hv⟩ := s_look own gs 2 (by decide)); (obtain rfl := hv _ rfl); (have hlk2 : (Instr.lookup 102 (.map (some mm)) (.int .i64 2) true).run Tryd.prog w1 = .ok (.tuple #[.func (.func 77) #[] #[], .bool true]) w1 := hlk); clear hlk; clear own gs hk)
    all_goals
      go_wp2
      go_meet
      exact ⟨rfl, rfl, Lib.hid (by first | exact B1.out | exact B1.out.old ((Kept.refl Nothing _).drew))⟩
  case rest =>
    obtain ⟨rfl, rfl, hB⟩ := hcut
    clear B m0 m1
    have B := hB
    clear hB
    obtain ⟨m0, m1, m2, m3⟩ := mcells B.out.m
    go_upto_region 6 with fail
    have B1 := Lib.hid (B.out.hold 0)
    clear B m0 m1 m2 m3
    have B := B1
    clear B1
    generalize World.setCell _ ⟨w.heap.size, 1, none⟩ (.int .i64 0) = w4 at *
    obtain ⟨m0, m1, m2, m3⟩ := mcells B.out.m
    obtain ⟨e0, e1, e2, e3, e4, e5⟩ := B.out.ecells
    go_cut [5] (fun l wx => Left w wx l (Sm.pSeek ⟨2, 0⟩ kd x) bs)
    case first =>
      generalize hR : Sm.pSeek ⟨2, 0⟩ kd x = r at *
      have HRR := Lib.hid hR
      clear hR
      go_region_law (first
        | (go_simp; go_at_call 58; refine (HJ.out _ (by exact B.out.k.drew)).mono ?_; rintro e w5 ⟨rfl, hk⟩; (have B1 := Lib.hid ((B.out.old (Kept.refl Nothing _).drew).old hk)); (obtain ⟨d0, d1, -, -⟩ := mcells B1.out.m); clear hk)
        | (go_simp; go_at_call 77; refine (se_seeking 2 0 kd ho x c s A n cc bs _ (HB.out.old B1.out.k)).mono ?_; rw [HRR.out]; rintro e w9 ⟨Az, cz, rfl, ha, hk⟩; (have RR := B1.out.r.kept hk (fun x => x)); (obtain ⟨q0, q1, q2, q3⟩ := mcells RR); (have HX := Lib.hid (And.intro ha hk)); clear ha hk RR))
      all_goals
        go_wp2
        go_meet
        exact left_mk B1.out HX.out.1 HX.out.2
    case rest =>
      obtain ⟨Az, cz, rfl, hX⟩ := hcut
      go_wp2
      refine bodyPost_ret (ret_mach (p := 4) (u := 5) rfl _ _ (w.heap.size + 1 + 1) _ _ _ rfl rfl hX.out.2.2) rfl ⟨_, _, rfl, hX.out.1, hX.out.2.1⟩
set_option maxRecDepth 100000 in
set_option maxHeartbeats 8000000 in
theorem se_do3 (hd0 : Int) (kd0 ho0 : Int) (x0 c0 s0 : Nat) (A0 : Option Addr) (n0 cc0 : Nat) (kd ho : Int) (x c s : Nat) (A : Option Addr) (n cc : Nat) (d : Bool) (bs : List UInt8) (w : World) (hr : RdS w) (hJ : Jdg w (.agg #[.int .i64 kd0, .int .u8 x0, .int .i64 ho0, .int .u8 c0, .int .u8 s0, .slice A0 n0 cc0]) kd ho x c s A n cc) (hb : By w (.slice A n cc) bs) (hC : Clo w A n cc d bs) :
    Calls Tryd.prog 10 #[.agg #[.int .i64 3, .int .i64 hd0], .agg #[.int .i64 kd0, .int .u8 x0, .int .i64 ho0, .int .u8 c0, .int .u8 s0, .slice A0 n0 cc0]] w fun e w' => Res .u8 w w' e (Sm.pSeek ⟨3, 0⟩ kd x) bs := by
  have HB := Lib.hid hb
  have HC := Lib.hid hC
  have HR := Lib.hid hr
  have HJ := Lib.hid hJ
  clear hb hC hr hJ
  have B0 := Bx.make (w := w) (st := 3) (hd := hd0) (kd := kd0) (ho := ho0) (x := x0) (c := c0) (s := s0) (A := A0) (n := n0) (cc := cc0)
  go_enter Tryd.func10, Tryd.ntmps10
  go_upto_region 1 with fail
  change Code.wp _ _ _ _ (((w.alloc (.cells #[.int .i64 3, .int .i64 hd0] 24)).alloc (.cells #[.int .i64 kd0, .int .u8 x0, .int .i64 ho0, .int .u8 c0, .int .u8 s0, .slice A0 n0 cc0] 31)).alloc (.cells #[.int .i64 0, .int .i64 0] 24))
  generalize ((w.alloc (.cells #[.int .i64 3, .int .i64 hd0] 24)).alloc (.cells #[.int .i64 kd0, .int .u8 x0, .int .i64 ho0, .int .u8 c0, .int .u8 s0, .slice A0 n0 cc0] 31)).alloc (.cells #[.int .i64 0, .int .i64 0] 24) = W0 at *
  have B := Lib.hid B0
  clear B0
  obtain ⟨m0, m1, -, -⟩ := mcells B.out.m
  go_cut [6, 7] (fun f ok wx => f = .func (.func 77) #[] #[] ∧ ok = .bool true ∧ Hid (Bx w wx 3 hd0 kd0 ho0 x0 c0 s0 A0 n0 cc0))
  case first =>
    go_region_law (go_simp; go_at_call 56; refine (se_states _).mono ?_; rintro e w1 ⟨mm, nn, DD, rfl, own, gs, hk⟩; (have B1 := Lib.hid ((B.out.old (Kept.refl Nothing _).drew).old hk)); (obtain ⟨d0, d1, -, -⟩ := mcells B1.out.m); (obtain ⟨v, hlk, hv⟩ := s_look own gs 3 (by decide)); (obtain rfl := hv _ rfl); (have hlk2 : (Instr.lookup 102 (.map (some mm)) (.int .i64 3) true).run Tryd.prog w1 = .ok (.tuple #[.func (.func 77) #[] #[], .bool true]) w1 := hlk); clear hlk; clear own gs hk)
    all_goals
      go_wp2
      go_meet
      exact ⟨rfl, rfl, Lib.hid (by first | exact B1.out | exact B1.out.old ((Kept.refl Nothing _).drew))⟩
  case rest =>
    obtain ⟨rfl, rfl, hB⟩ := hcut
    clear B m0 m1
    have B := hB
    clear hB
    obtain ⟨m0, m1, m2, m3⟩ := mcells B.out.m
    go_upto_region 6 with fail
    have B1 := Lib.hid (B.out.hold 0)
    clear B m0 m1 m2 m3
    have B := B1
    clear B1
    generalize World.setCell _ ⟨w.heap.size, 1, none⟩ (.int .i64 0) = w4 at *
    obtain ⟨m0, m1, m2, m3⟩ := mcells B.out.m
    obtain ⟨e0, e1, e2, e3, e4, e5⟩ := B.out.ecells
    go_cut [5] (fun l wx => Left w wx l (Sm.pSeek ⟨3, 0⟩ kd x) bs)
    case first =>
      generalize hR : Sm.pSeek ⟨3, 0⟩ kd x = r at *
      have HRR := Lib.hid hR
      clear hR
      go_region_law (first
        | (go_simp; go_at_call 58; refine (HJ.out _ (by exact B.out.k.drew)).mono ?_; rintro e w5 ⟨rfl, hk⟩; (have B1 := Lib.hid ((B.out.old (Kept.refl Nothing _).drew).old hk)); (obtain ⟨d0, d1, -, -⟩ := mcells B1.out.m); clear hk)
        | (go_simp; go_at_call 77; refine (se_seeking 3 0 kd ho x c s A n cc bs _ (HB.out.old B1.out.k)).mono ?_; rw [HRR.out]; rintro e w9 ⟨Az, cz, rfl, ha, hk⟩; (have RR := B1.out.r.kept hk (fun x => x)); (obtain ⟨q0, q1, q2, q3⟩ := mcells RR); (have HX := Lib.hid (And.intro ha hk)); clear ha hk RR))
      all_goals
        go_wp2
        go_meet
        exact left_mk B1.out HX.out.1 HX.out.2
    case rest =>
      obtain ⟨Az, cz, rfl, hX⟩ := hcut
      go_wp2
      refine bodyPost_ret (ret_mach (p := 4) (u := 5) rfl _ _ (w.heap.size + 1 + 1) _ _ _ rfl rfl hX.out.2.2) rfl ⟨_, _, rfl, hX.out.1, hX.out.2.1⟩
end Go.Proofs.YtembdobkgpojfaaDoor
