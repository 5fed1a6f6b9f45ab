
/-
  session: established, openConfirm, openSent.
-/
import Derived.Test.YtembdobkgpojfaaDoorSMj
namespace Go.Proofs.YtembdobkgpojfaaDoor
open Go.RowKit

theorem src_nil (w : World) (k : IntKind) (dv : Value) : Src w 6 none ([] : List Sm.Act).length (Sm.cls k dv []) := ⟨rfl, fun _ => rfl, fun _ e => (by cases e), fun u hu => by cases hu⟩
theorem se_hears (st hd : Nat) (h6 : hd ≤ 65535) (A : Option Addr) (n c : Nat) (M : List Sm.Act) (hn : n = M.length) (hl : M.length ≤ 1) (hc : n ≤ c) (hm : c ≤ 1000) (dA : Option Addr) (dn dc : Nat) (bs : List UInt8) (w : World) (hb : By w (.slice dA dn dc) bs) (hs : Src w 6 A M.length (Sm.cls .u8 (.slice dA dn dc) M)) :
    Calls Tryd.prog 97 #[.agg #[.int .i64 st, .int .i64 hd], .slice A n c] w fun e w' => Res .u8 w w' e (⟨st, hd⟩, Sm.holds hd ++ M) bs := by
  by_cases h : hd = 0
  · subst h
    exact se_hears0 st A n c M hn hc (by unfold maxLen; omega) dA dn dc bs w hb hs
  · have e : Sm.holds hd ++ M = Sm.set 2 hd :: M := by simp [Sm.holds, h]
    rw [e]
    exact se_hears1 st hd (by omega) h6 A n c M hn hl dA dn dc bs w hb hs
set_option maxRecDepth 100000 in
set_option maxHeartbeats 8000000 in
theorem se_established (st hd : Nat) (h4 : 4 ≤ st) (h6 : st ≤ 6) (h5 : hd ≤ 65535) (kd ho : Int) (x c s : Nat) (A : Option Addr) (n cc : Nat) (d : Bool) (bs : List UInt8) (w : World) (hr : RdS w) (hb : By w (.slice A n cc) bs) (hC : Clo w A n cc d bs) :
    Calls Tryd.prog 80 #[.agg #[.int .i64 st, .int .i64 hd], .agg #[.int .i64 kd, .int .u8 x, .int .i64 ho, .int .u8 c, .int .u8 s, .slice A n cc]] w fun e w' => Res .u8 w w' e (Sm.pEst ⟨st, hd⟩ kd x c s d) bs := by
  have HB := Lib.hid hb
  have HC := Lib.hid hC
  have HR := Lib.hid hr
  clear hC hr
  clear hb
  have HS := Lib.hid (And.intro h4 h6)
  have HD := Lib.hid h5
  clear h4 h6 h5
  by_cases h4 : kd = 5 ∧ x = 4
  · obtain ⟨rfl, rfl⟩ := h4
    have hP : Sm.pEst ⟨st, hd⟩ 5 4 c s d = (⟨st, hd⟩, Sm.holds hd ++ []) := by simp [Sm.pEst]
    rw [hP]
    clear hP
    have B0 := Bx.make (w := w) (st := st) (hd := hd) (kd := 5) (ho := ho) (x := 4) (c := c) (s := s) (A := A) (n := n) (cc := cc)
    go_enter Tryd.func80, Tryd.ntmps80
    go_upto_region 1 with fail
    change Code.wp _ _ _ _ (((w.alloc (.cells #[.int .i64 st, .int .i64 hd] 24)).alloc (.cells #[.int .i64 5, .int .u8 4, .int .i64 ho, .int .u8 c, .int .u8 s, .slice A n cc] 31)).alloc (.cells #[.int .i64 0, .int .i64 0] 24))
    generalize ((w.alloc (.cells #[.int .i64 st, .int .i64 hd] 24)).alloc (.cells #[.int .i64 5, .int .u8 4, .int .i64 ho, .int .u8 c, .int .u8 s, .slice A n cc] 31)).alloc (.cells #[.int .i64 0, .int .i64 0] 24) = W0 at *
    have B := Lib.hid B0
    clear B0
    obtain ⟨m0_0, m1_0, m2_0, m3_0⟩ := mcells B.out.m
    obtain ⟨e0_0, e1_0, e2_0, e3_0, e4_0, e5_0⟩ := B.out.ecells
    obtain ⟨r0_0, r1_0, r2_0, r3_0⟩ := mcells B.out.r
    go_wp2_with fail
    refine (se_brings 5 ho 4 c s 4 A n cc true (by rfl) _).mono ?_
    rintro e w_1 ⟨rfl, hk⟩
    replace B := Lib.hid (B.out.old hk)
    clear hk
    clear m0_0 m1_0 m2_0 m3_0 e0_0 e1_0 e2_0 e3_0 e4_0 e5_0 r0_0 r1_0 r2_0 r3_0
    obtain ⟨m0_1, m1_1, m2_1, m3_1⟩ := mcells B.out.m
    obtain ⟨e0_1, e1_1, e2_1, e3_1, e4_1, e5_1⟩ := B.out.ecells
    obtain ⟨r0_1, r1_1, r2_1, r3_1⟩ := mcells B.out.r
    go_wp2_with fail
    refine (se_hears st hd HD.out none 0 0 [] rfl (by decide) (by decide) (by decide) A n cc bs _ (HB.out.old B.out.k) (src_nil _ _ _)).mono ?_
    rintro e w9 ⟨Az, cz, rfl, ha, hk⟩
    generalize hz : Sm.holds hd ++ [] = zl at *
    have HZ := Lib.hid hz
    clear hz
    have RR := B.out.r.kept hk (fun x => x)
    obtain ⟨q0, q1, q2, q3⟩ := mcells RR
    have HX := Lib.hid (And.intro ha hk)
    have RX := Lib.hid RR
    clear ha hk RR
    go_wp2
    rw [HZ.out]
    refine bodyPost_ret (ret_mach (p := 4) (u := 5) rfl _ _ (w.heap.size + 1 + 1) _ _ _ rfl rfl (fin_blk RX.out)) rfl (res_fin2 (st := st) (hd := hd) (l := zl) (n := zl.length) rfl HX.out.1 RX.out (B.out.k.trans HX.out.2) (by omega))
  by_cases h2 : kd = 5 ∧ x = 2
  · obtain ⟨rfl, rfl⟩ := h2
    have hP : Sm.pEst ⟨st, hd⟩ 5 2 c s d = (⟨st, hd⟩, Sm.holds hd ++ [Sm.a0 9]) := by simp [Sm.pEst]
    rw [hP]
    clear hP h4
    have B0 := Bx.make (w := w) (st := st) (hd := hd) (kd := 5) (ho := ho) (x := 2) (c := c) (s := s) (A := A) (n := n) (cc := cc)
    go_enter Tryd.func80, Tryd.ntmps80
    go_upto_region 1 with fail
    change Code.wp _ _ _ _ (((w.alloc (.cells #[.int .i64 st, .int .i64 hd] 24)).alloc (.cells #[.int .i64 5, .int .u8 2, .int .i64 ho, .int .u8 c, .int .u8 s, .slice A n cc] 31)).alloc (.cells #[.int .i64 0, .int .i64 0] 24))
    generalize ((w.alloc (.cells #[.int .i64 st, .int .i64 hd] 24)).alloc (.cells #[.int .i64 5, .int .u8 2, .int .i64 ho, .int .u8 c, .int .u8 s, .slice A n cc] 31)).alloc (.cells #[.int .i64 0, .int .i64 0] 24) = W0 at *
    have B := Lib.hid B0
    clear B0
    obtain ⟨m0_0, m1_0, m2_0, m3_0⟩ := mcells B.out.m
    obtain ⟨e0_0, e1_0, e2_0, e3_0, e4_0, e5_0⟩ := B.out.ecells
    obtain ⟨r0_0, r1_0, r2_0, r3_0⟩ := mcells B.out.r
    go_wp2_with fail
    refine (se_brings 5 ho 2 c s 4 A n cc false (by rfl) _).mono ?_
    rintro e w_1 ⟨rfl, hk⟩
    replace B := Lib.hid (B.out.old hk)
    clear hk
    clear m0_0 m1_0 m2_0 m3_0 e0_0 e1_0 e2_0 e3_0 e4_0 e5_0 r0_0 r1_0 r2_0 r3_0
    obtain ⟨m0_1, m1_1, m2_1, m3_1⟩ := mcells B.out.m
    obtain ⟨e0_1, e1_1, e2_1, e3_1, e4_1, e5_1⟩ := B.out.ecells
    obtain ⟨r0_1, r1_1, r2_1, r3_1⟩ := mcells B.out.r
    go_wp2_with fail
    refine (se_brings 5 ho 2 c s 2 A n cc true (by rfl) _).mono ?_
    rintro e w_2 ⟨rfl, hk⟩
    replace B := Lib.hid (B.out.old hk)
    clear hk
    clear m0_1 m1_1 m2_1 m3_1 e0_1 e1_1 e2_1 e3_1 e4_1 e5_1 r0_1 r1_1 r2_1 r3_1
    obtain ⟨m0_2, m1_2, m2_2, m3_2⟩ := mcells B.out.m
    obtain ⟨e0_2, e1_2, e2_2, e3_2, e4_2, e5_2⟩ := B.out.ecells
    obtain ⟨r0_2, r1_2, r2_2, r3_2⟩ := mcells B.out.r
    go_wp2_with fail
    have B1 := Lib.hid (B.out.old ((Kept.refl Nothing _).alloc (.cells #[.int .i64 9, .int .u8 0, .int .i64 0, .int .u8 0, .int .u8 0, .slice none 0 0] 109)))
    clear B
    have B := B1
    clear B1
    refine (se_hears st hd HD.out _ 1 1 [Sm.a0 9] rfl (by decide) (by decide) (by decide) A n cc bs _ (HB.out.old B.out.k) (src_lit _ A n cc [Sm.a0 9] _ rfl)).mono ?_
    rintro e w9 ⟨Az, cz, rfl, ha, hk⟩
    generalize hz : Sm.holds hd ++ [Sm.a0 9] = zl at *
    have HZ := Lib.hid hz
    clear hz
    have RR := B.out.r.kept hk (fun x => x)
    obtain ⟨q0, q1, q2, q3⟩ := mcells RR
    have HX := Lib.hid (And.intro ha hk)
    have RX := Lib.hid RR
    clear ha hk RR
    go_wp2
    rw [HZ.out]
    refine bodyPost_ret (ret_mach (p := 4) (u := 5) rfl _ _ (w.heap.size + 1 + 1) _ _ _ rfl rfl (fin_blk RX.out)) rfl (res_fin2 (st := st) (hd := hd) (l := zl) (n := zl.length) rfl HX.out.1 RX.out (B.out.k.trans HX.out.2) (by omega))
  by_cases h5 : kd = 5 ∧ x = 5
  · obtain ⟨rfl, rfl⟩ := h5
    have hP : Sm.pEst ⟨st, hd⟩ 5 5 c s d = (⟨st, hd⟩, [Sm.a0 9]) := by simp [Sm.pEst]
    rw [hP]
    clear hP h4 h2
    have B0 := Bx.make (w := w) (st := st) (hd := hd) (kd := 5) (ho := ho) (x := 5) (c := c) (s := s) (A := A) (n := n) (cc := cc)
    go_enter Tryd.func80, Tryd.ntmps80
    go_upto_region 1 with fail
    change Code.wp _ _ _ _ (((w.alloc (.cells #[.int .i64 st, .int .i64 hd] 24)).alloc (.cells #[.int .i64 5, .int .u8 5, .int .i64 ho, .int .u8 c, .int .u8 s, .slice A n cc] 31)).alloc (.cells #[.int .i64 0, .int .i64 0] 24))
    generalize ((w.alloc (.cells #[.int .i64 st, .int .i64 hd] 24)).alloc (.cells #[.int .i64 5, .int .u8 5, .int .i64 ho, .int .u8 c, .int .u8 s, .slice A n cc] 31)).alloc (.cells #[.int .i64 0, .int .i64 0] 24) = W0 at *
    have B := Lib.hid B0
    clear B0
    obtain ⟨m0_0, m1_0, m2_0, m3_0⟩ := mcells B.out.m
    obtain ⟨e0_0, e1_0, e2_0, e3_0, e4_0, e5_0⟩ := B.out.ecells
    obtain ⟨r0_0, r1_0, r2_0, r3_0⟩ := mcells B.out.r
    go_wp2_with fail
    refine (se_brings 5 ho 5 c s 4 A n cc false (by rfl) _).mono ?_
    rintro e w_1 ⟨rfl, hk⟩
    replace B := Lib.hid (B.out.old hk)
    clear hk
    clear m0_0 m1_0 m2_0 m3_0 e0_0 e1_0 e2_0 e3_0 e4_0 e5_0 r0_0 r1_0 r2_0 r3_0
    obtain ⟨m0_1, m1_1, m2_1, m3_1⟩ := mcells B.out.m
    obtain ⟨e0_1, e1_1, e2_1, e3_1, e4_1, e5_1⟩ := B.out.ecells
    obtain ⟨r0_1, r1_1, r2_1, r3_1⟩ := mcells B.out.r
    go_wp2_with fail
    refine (se_brings 5 ho 5 c s 2 A n cc false (by rfl) _).mono ?_
    rintro e w_2 ⟨rfl, hk⟩
    replace B := Lib.hid (B.out.old hk)
    clear hk
    clear m0_1 m1_1 m2_1 m3_1 e0_1 e1_1 e2_1 e3_1 e4_1 e5_1 r0_1 r1_1 r2_1 r3_1
    obtain ⟨m0_2, m1_2, m2_2, m3_2⟩ := mcells B.out.m
    obtain ⟨e0_2, e1_2, e2_2, e3_2, e4_2, e5_2⟩ := B.out.ecells
    obtain ⟨r0_2, r1_2, r2_2, r3_2⟩ := mcells B.out.r
    go_wp2_with fail
    refine (se_brings 5 ho 5 c s 5 A n cc true (by rfl) _).mono ?_
    rintro e w_3 ⟨rfl, hk⟩
    replace B := Lib.hid (B.out.old hk)
    clear hk
    clear m0_2 m1_2 m2_2 m3_2 e0_2 e1_2 e2_2 e3_2 e4_2 e5_2 r0_2 r1_2 r2_2 r3_2
    obtain ⟨m0_3, m1_3, m2_3, m3_3⟩ := mcells B.out.m
    obtain ⟨e0_3, e1_3, e2_3, e3_3, e4_3, e5_3⟩ := B.out.ecells
    obtain ⟨r0_3, r1_3, r2_3, r3_3⟩ := mcells B.out.r
    have B1 := Lib.hid (B.out.old ((Kept.refl Nothing _).alloc (.cells #[.int .i64 9, .int .u8 0, .int .i64 0, .int .u8 0, .int .u8 0, .slice none 0 0] 109)))
    obtain ⟨q0, q1, q2, q3⟩ := mcells B1.out.r
    go_wp2
    refine bodyPost_ret (ret_mach (p := 4) (u := 5) rfl _ _ (w.heap.size + 1 + 1) _ _ _ rfl rfl (fin_blk B1.out.r)) rfl (res_fin2 (st := st) (hd := hd) (l := [Sm.a0 9]) (n := 1) rfl (acs_lit (HB.out.old B.out.k) _ _ rfl rfl (by decide) (by decide)) B1.out.r B1.out.k (by omega))
  have hP : Sm.pEst ⟨st, hd⟩ kd x c s d = Sm.pAgr ⟨st, hd⟩ kd x c s d := by simp [Sm.pEst, h4, h2, h5]
  rw [hP]
  have HQ4 : Hid ((decide (kd = 5) && decide (x = 4)) = false) := Lib.hid (by simpa using h4)
  have HQ2 : Hid ((decide (kd = 5) && decide (x = 2)) = false) := Lib.hid (by simpa using h2)
  have HQ5 : Hid ((decide (kd = 5) && decide (x = 5)) = false) := Lib.hid (by simpa using h5)
  clear hP h4 h2 h5
  have B0 := Bx.make (w := w) (st := st) (hd := hd) (kd := kd) (ho := ho) (x := x) (c := c) (s := s) (A := A) (n := n) (cc := cc)
  go_enter Tryd.func80, Tryd.ntmps80
  go_upto_region 1 with fail
  change Code.wp _ _ _ _ (((w.alloc (.cells #[.int .i64 st, .int .i64 hd] 24)).alloc (.cells #[.int .i64 kd, .int .u8 x, .int .i64 ho, .int .u8 c, .int .u8 s, .slice A n cc] 31)).alloc (.cells #[.int .i64 0, .int .i64 0] 24))
  generalize ((w.alloc (.cells #[.int .i64 st, .int .i64 hd] 24)).alloc (.cells #[.int .i64 kd, .int .u8 x, .int .i64 ho, .int .u8 c, .int .u8 s, .slice A n cc] 31)).alloc (.cells #[.int .i64 0, .int .i64 0] 24) = W0 at *
  have B := Lib.hid B0
  clear B0
  obtain ⟨m0_0, m1_0, m2_0, m3_0⟩ := mcells B.out.m
  obtain ⟨e0_0, e1_0, e2_0, e3_0, e4_0, e5_0⟩ := B.out.ecells
  obtain ⟨r0_0, r1_0, r2_0, r3_0⟩ := mcells B.out.r
  go_wp2_with fail
  refine (se_brings kd ho x c s 4 A n cc false HQ4.out _).mono ?_
  rintro e w_1 ⟨rfl, hk⟩
  replace B := Lib.hid (B.out.old hk)
  clear hk
  clear m0_0 m1_0 m2_0 m3_0 e0_0 e1_0 e2_0 e3_0 e4_0 e5_0 r0_0 r1_0 r2_0 r3_0
  obtain ⟨m0_1, m1_1, m2_1, m3_1⟩ := mcells B.out.m
  obtain ⟨e0_1, e1_1, e2_1, e3_1, e4_1, e5_1⟩ := B.out.ecells
  obtain ⟨r0_1, r1_1, r2_1, r3_1⟩ := mcells B.out.r
  go_wp2_with fail
  refine (se_brings kd ho x c s 2 A n cc false HQ2.out _).mono ?_
  rintro e w_2 ⟨rfl, hk⟩
  replace B := Lib.hid (B.out.old hk)
  clear hk
  clear m0_1 m1_1 m2_1 m3_1 e0_1 e1_1 e2_1 e3_1 e4_1 e5_1 r0_1 r1_1 r2_1 r3_1
  obtain ⟨m0_2, m1_2, m2_2, m3_2⟩ := mcells B.out.m
  obtain ⟨e0_2, e1_2, e2_2, e3_2, e4_2, e5_2⟩ := B.out.ecells
  obtain ⟨r0_2, r1_2, r2_2, r3_2⟩ := mcells B.out.r
  go_wp2_with fail
  refine (se_brings kd ho x c s 5 A n cc false HQ5.out _).mono ?_
  rintro e w_3 ⟨rfl, hk⟩
  replace B := Lib.hid (B.out.old hk)
  clear hk
  clear m0_2 m1_2 m2_2 m3_2 e0_2 e1_2 e2_2 e3_2 e4_2 e5_2 r0_2 r1_2 r2_2 r3_2
  obtain ⟨m0_3, m1_3, m2_3, m3_3⟩ := mcells B.out.m
  obtain ⟨e0_3, e1_3, e2_3, e3_3, e4_3, e5_3⟩ := B.out.ecells
  obtain ⟨r0_3, r1_3, r2_3, r3_3⟩ := mcells B.out.r
  go_wp2_with fail
  refine (se_agreed st hd HS.out.1 HS.out.2 HD.out kd ho x c s A n cc d bs _ (HR.out.old B.out.k) (HB.out.old B.out.k) (HC.out.old B.out.k)).mono ?_
  rintro e w9 ⟨Az, cz, rfl, ha, hk⟩
  have RR := B.out.r.kept hk (fun x => x)
  obtain ⟨q0, q1, q2, q3⟩ := mcells RR
  have HX := Lib.hid (And.intro ha hk)
  have RX := Lib.hid RR
  clear ha hk RR
  go_wp2
  refine bodyPost_ret (ret_mach (p := 4) (u := 5) rfl _ _ (w.heap.size + 1 + 1) _ _ _ rfl rfl (fin_blk RX.out)) rfl (B.out.on HX.out.1 HX.out.2)
set_option maxRecDepth 100000 in
set_option maxHeartbeats 8000000 in
theorem se_openConfirm (st hd : Nat) (h4 : 4 ≤ st) (h6 : st ≤ 6) (h5 : hd ≤ 65535) (kd ho : Int) (x c s : Nat) (A : Option Addr) (n cc : Nat) (d : Bool) (bs : List UInt8) (w : World) (hr : RdS w) (hb : By w (.slice A n cc) bs) (hC : Clo w A n cc d bs) :
    Calls Tryd.prog 79 #[.agg #[.int .i64 st, .int .i64 hd], .agg #[.int .i64 kd, .int .u8 x, .int .i64 ho, .int .u8 c, .int .u8 s, .slice A n cc]] w fun e w' => Res .u8 w w' e (Sm.pOC ⟨st, hd⟩ kd x c s d) bs := by
  have HB := Lib.hid hb
  have HC := Lib.hid hC
  have HR := Lib.hid hr
  clear hC hr
  clear hb
  have HS := Lib.hid (And.intro h4 h6)
  have HD := Lib.hid h5
  clear h4 h6 h5
  by_cases h4 : kd = 5 ∧ x = 4
  · obtain ⟨rfl, rfl⟩ := h4
    have hP : Sm.pOC ⟨st, hd⟩ 5 4 c s d = (⟨6, hd⟩, Sm.holds hd ++ [Sm.a0 7]) := by simp [Sm.pOC]
    rw [hP]
    clear hP
    have B0 := Bx.make (w := w) (st := st) (hd := hd) (kd := 5) (ho := ho) (x := 4) (c := c) (s := s) (A := A) (n := n) (cc := cc)
    go_enter Tryd.func79, Tryd.ntmps79
    go_upto_region 1 with fail
    change Code.wp _ _ _ _ (((w.alloc (.cells #[.int .i64 st, .int .i64 hd] 24)).alloc (.cells #[.int .i64 5, .int .u8 4, .int .i64 ho, .int .u8 c, .int .u8 s, .slice A n cc] 31)).alloc (.cells #[.int .i64 0, .int .i64 0] 24))
    generalize ((w.alloc (.cells #[.int .i64 st, .int .i64 hd] 24)).alloc (.cells #[.int .i64 5, .int .u8 4, .int .i64 ho, .int .u8 c, .int .u8 s, .slice A n cc] 31)).alloc (.cells #[.int .i64 0, .int .i64 0] 24) = W0 at *
    have B := Lib.hid B0
    clear B0
    obtain ⟨m0_0, m1_0, m2_0, m3_0⟩ := mcells B.out.m
    obtain ⟨e0_0, e1_0, e2_0, e3_0, e4_0, e5_0⟩ := B.out.ecells
    obtain ⟨r0_0, r1_0, r2_0, r3_0⟩ := mcells B.out.r
    go_wp2_with fail
    refine (se_brings 5 ho 4 c s 4 A n cc true (by rfl) _).mono ?_
    rintro e w_1 ⟨rfl, hk⟩
    replace B := Lib.hid (B.out.old hk)
    clear hk
    clear m0_0 m1_0 m2_0 m3_0 e0_0 e1_0 e2_0 e3_0 e4_0 e5_0 r0_0 r1_0 r2_0 r3_0
    obtain ⟨m0_1, m1_1, m2_1, m3_1⟩ := mcells B.out.m
    obtain ⟨e0_1, e1_1, e2_1, e3_1, e4_1, e5_1⟩ := B.out.ecells
    obtain ⟨r0_1, r1_1, r2_1, r3_1⟩ := mcells B.out.r
    go_upto_region 3 with fail
    have B1 := Lib.hid (B.out.state 6)
    clear B m0_1 m1_1 m2_1 m3_1 e0_1 e1_1 e2_1 e3_1 e4_1 e5_1 r0_1 r1_1 r2_1 r3_1
    have B := B1
    clear B1
    generalize World.setCell _ ⟨w.heap.size, 0, none⟩ (.int .i64 6) = w_2 at *
    obtain ⟨m0_3, m1_3, m2_3, m3_3⟩ := mcells B.out.m
    obtain ⟨e0_3, e1_3, e2_3, e3_3, e4_3, e5_3⟩ := B.out.ecells
    obtain ⟨r0_3, r1_3, r2_3, r3_3⟩ := mcells B.out.r
    go_wp2_with fail
    have B1 := Lib.hid (B.out.old ((Kept.refl Nothing _).alloc (.cells #[.int .i64 7, .int .u8 0, .int .i64 0, .int .u8 0, .int .u8 0, .slice none 0 0] 109)))
    clear B
    have B := B1
    clear B1
    refine (se_hears 6 hd HD.out _ 1 1 [Sm.a0 7] rfl (by decide) (by decide) (by decide) A n cc bs _ (HB.out.old B.out.k) (src_lit _ A n cc [Sm.a0 7] _ rfl)).mono ?_
    rintro e w9 ⟨Az, cz, rfl, ha, hk⟩
    generalize hz : Sm.holds hd ++ [Sm.a0 7] = zl at *
    have HZ := Lib.hid hz
    clear hz
    have RR := B.out.r.kept hk (fun x => x)
    obtain ⟨q0, q1, q2, q3⟩ := mcells RR
    have HX := Lib.hid (And.intro ha hk)
    have RX := Lib.hid RR
    clear ha hk RR
    go_wp2
    rw [HZ.out]
    refine bodyPost_ret (ret_mach (p := 4) (u := 5) rfl _ _ (w.heap.size + 1 + 1) _ _ _ rfl rfl (fin_blk RX.out)) rfl (res_fin2 (st := 6) (hd := hd) (l := zl) (n := zl.length) rfl HX.out.1 RX.out (B.out.k.trans HX.out.2) (by omega))
  have hP : Sm.pOC ⟨st, hd⟩ kd x c s d = Sm.pAgr ⟨st, hd⟩ kd x c s d := by simp [Sm.pOC, h4]
  rw [hP]
  have HQ4 : Hid ((decide (kd = 5) && decide (x = 4)) = false) := Lib.hid (by simpa using h4)
  clear hP h4
  have B0 := Bx.make (w := w) (st := st) (hd := hd) (kd := kd) (ho := ho) (x := x) (c := c) (s := s) (A := A) (n := n) (cc := cc)
  go_enter Tryd.func79, Tryd.ntmps79
  go_upto_region 1 with fail
  change Code.wp _ _ _ _ (((w.alloc (.cells #[.int .i64 st, .int .i64 hd] 24)).alloc (.cells #[.int .i64 kd, .int .u8 x, .int .i64 ho, .int .u8 c, .int .u8 s, .slice A n cc] 31)).alloc (.cells #[.int .i64 0, .int .i64 0] 24))
  generalize ((w.alloc (.cells #[.int .i64 st, .int .i64 hd] 24)).alloc (.cells #[.int .i64 kd, .int .u8 x, .int .i64 ho, .int .u8 c, .int .u8 s, .slice A n cc] 31)).alloc (.cells #[.int .i64 0, .int .i64 0] 24) = W0 at *
  have B := Lib.hid B0
  clear B0
  obtain ⟨m0_0, m1_0, m2_0, m3_0⟩ := mcells B.out.m
  obtain ⟨e0_0, e1_0, e2_0, e3_0, e4_0, e5_0⟩ := B.out.ecells
  obtain ⟨r0_0, r1_0, r2_0, r3_0⟩ := mcells B.out.r
  go_wp2_with fail
  refine (se_brings kd ho x c s 4 A n cc false HQ4.out _).mono ?_
  rintro e w_1 ⟨rfl, hk⟩
  replace B := Lib.hid (B.out.old hk)
  clear hk
  clear m0_0 m1_0 m2_0 m3_0 e0_0 e1_0 e2_0 e3_0 e4_0 e5_0 r0_0 r1_0 r2_0 r3_0
  obtain ⟨m0_1, m1_1, m2_1, m3_1⟩ := mcells B.out.m
  obtain ⟨e0_1, e1_1, e2_1, e3_1, e4_1, e5_1⟩ := B.out.ecells
  obtain ⟨r0_1, r1_1, r2_1, r3_1⟩ := mcells B.out.r
  go_wp2_with fail
  refine (se_agreed st hd HS.out.1 HS.out.2 HD.out kd ho x c s A n cc d bs _ (HR.out.old B.out.k) (HB.out.old B.out.k) (HC.out.old B.out.k)).mono ?_
  rintro e w9 ⟨Az, cz, rfl, ha, hk⟩
  have RR := B.out.r.kept hk (fun x => x)
  obtain ⟨q0, q1, q2, q3⟩ := mcells RR
  have HX := Lib.hid (And.intro ha hk)
  have RX := Lib.hid RR
  clear ha hk RR
  go_wp2
  refine bodyPost_ret (ret_mach (p := 4) (u := 5) rfl _ _ (w.heap.size + 1 + 1) _ _ _ rfl rfl (fin_blk RX.out)) rfl (B.out.on HX.out.1 HX.out.2)
set_option maxRecDepth 100000 in
set_option maxHeartbeats 8000000 in
theorem se_openSent (st hd : Nat) (h4 : 4 ≤ st) (h6 : st ≤ 6) (kd ho : Int) (x c s : Nat) (A : Option Addr) (n cc : Nat) (d : Bool) (bs : List UInt8) (w : World) (hr : RdS w) (hh : kd = 5 ∧ x = 1 → 0 ≤ ho ∧ ho ≤ 65535) (hb : By w (.slice A n cc) bs) (hC : Clo w A n cc d bs) :
    Calls Tryd.prog 78 #[.agg #[.int .i64 st, .int .i64 hd], .agg #[.int .i64 kd, .int .u8 x, .int .i64 ho, .int .u8 c, .int .u8 s, .slice A n cc]] w fun e w' => Res .u8 w w' e (Sm.pOS ⟨st, hd⟩ kd x ho.toNat c s d) bs := by
  have HB := Lib.hid hb
  have HC := Lib.hid hC
  have HR := Lib.hid hr
  clear hC hr
  clear hb
  have HS := Lib.hid (And.intro h4 h6)
  clear h4 h6
  by_cases h1 : kd = 5 ∧ x = 1
  · obtain ⟨rfl, rfl⟩ := h1
    obtain ⟨g0, g1⟩ := hh ⟨rfl, rfl⟩
    obtain ⟨h, rfl⟩ := Int.eq_ofNat_of_zero_le g0
    clear hh g0
    have hP : Sm.pOS ⟨st, hd⟩ 5 1 (h : Int).toNat c s d = (⟨5, h⟩, Sm.send 4 :: if h = 0 then [Sm.unset 2] else [Sm.set 2 h, Sm.set 3 (h / 3)]) := by simp [Sm.pOS]
    rw [hP]
    clear hP
    by_cases hz : h = 0
    · subst hz
      clear g1
      rw [if_pos rfl]
      have B0 := Bx.make (w := w) (st := st) (hd := hd) (kd := 5) (ho := ((0 : Nat) : Int)) (x := 1) (c := c) (s := s) (A := A) (n := n) (cc := cc)
      go_enter Tryd.func78, Tryd.ntmps78
      go_upto_region 1 with fail
      change Code.wp _ _ _ _ (((w.alloc (.cells #[.int .i64 st, .int .i64 hd] 24)).alloc (.cells #[.int .i64 5, .int .u8 1, .int .i64 (0 : Nat), .int .u8 c, .int .u8 s, .slice A n cc] 31)).alloc (.cells #[.int .i64 0, .int .i64 0] 24))
      generalize ((w.alloc (.cells #[.int .i64 st, .int .i64 hd] 24)).alloc (.cells #[.int .i64 5, .int .u8 1, .int .i64 (0 : Nat), .int .u8 c, .int .u8 s, .slice A n cc] 31)).alloc (.cells #[.int .i64 0, .int .i64 0] 24) = W0 at *
      have B := Lib.hid B0
      clear B0
      obtain ⟨m0_0, m1_0, m2_0, m3_0⟩ := mcells B.out.m
      obtain ⟨e0_0, e1_0, e2_0, e3_0, e4_0, e5_0⟩ := B.out.ecells
      obtain ⟨r0_0, r1_0, r2_0, r3_0⟩ := mcells B.out.r
      go_wp2_with fail
      refine (se_brings 5 ((0 : Nat) : Int) 1 c s 1 A n cc true (by rfl) _).mono ?_
      rintro e w_1 ⟨rfl, hk⟩
      replace B := Lib.hid (B.out.old hk)
      clear hk
      clear m0_0 m1_0 m2_0 m3_0 e0_0 e1_0 e2_0 e3_0 e4_0 e5_0 r0_0 r1_0 r2_0 r3_0
      obtain ⟨m0_1, m1_1, m2_1, m3_1⟩ := mcells B.out.m
      obtain ⟨e0_1, e1_1, e2_1, e3_1, e4_1, e5_1⟩ := B.out.ecells
      obtain ⟨r0_1, r1_1, r2_1, r3_1⟩ := mcells B.out.r
      go_wp2_with fail
      refine (se_agrees0 st hd A n cc bs _ (HB.out.old B.out.k)).mono ?_
      rintro e w9 ⟨Az, cz, rfl, ha, hk⟩
      have RR := B.out.r.kept hk (fun x => x)
      obtain ⟨q0, q1, q2, q3⟩ := mcells RR
      have HX := Lib.hid (And.intro ha hk)
      have RX := Lib.hid RR
      clear ha hk RR
      go_wp2
      refine bodyPost_ret (ret_mach (p := 4) (u := 5) rfl _ _ (w.heap.size + 1 + 1) _ _ _ rfl rfl (fin_blk RX.out)) rfl (res_fin2 (st := 5) (hd := 0) (l := [Sm.send 4, Sm.unset 2]) (n := 2) rfl HX.out.1 RX.out (B.out.k.trans HX.out.2) (by omega))
    · have HH := Lib.hid (And.intro (show 0 < h by omega) (show h ≤ 65535 by omega))
      rw [if_neg hz]
      clear hz g1
      have B0 := Bx.make (w := w) (st := st) (hd := hd) (kd := 5) (ho := (h : Int)) (x := 1) (c := c) (s := s) (A := A) (n := n) (cc := cc)
      go_enter Tryd.func78, Tryd.ntmps78
      go_upto_region 1 with fail
      change Code.wp _ _ _ _ (((w.alloc (.cells #[.int .i64 st, .int .i64 hd] 24)).alloc (.cells #[.int .i64 5, .int .u8 1, .int .i64 h, .int .u8 c, .int .u8 s, .slice A n cc] 31)).alloc (.cells #[.int .i64 0, .int .i64 0] 24))
      generalize ((w.alloc (.cells #[.int .i64 st, .int .i64 hd] 24)).alloc (.cells #[.int .i64 5, .int .u8 1, .int .i64 h, .int .u8 c, .int .u8 s, .slice A n cc] 31)).alloc (.cells #[.int .i64 0, .int .i64 0] 24) = W0 at *
      have B := Lib.hid B0
      clear B0
      obtain ⟨m0_0, m1_0, m2_0, m3_0⟩ := mcells B.out.m
      obtain ⟨e0_0, e1_0, e2_0, e3_0, e4_0, e5_0⟩ := B.out.ecells
      obtain ⟨r0_0, r1_0, r2_0, r3_0⟩ := mcells B.out.r
      go_wp2_with fail
      refine (se_brings 5 (h : Int) 1 c s 1 A n cc true (by rfl) _).mono ?_
      rintro e w_1 ⟨rfl, hk⟩
      replace B := Lib.hid (B.out.old hk)
      clear hk
      clear m0_0 m1_0 m2_0 m3_0 e0_0 e1_0 e2_0 e3_0 e4_0 e5_0 r0_0 r1_0 r2_0 r3_0
      obtain ⟨m0_1, m1_1, m2_1, m3_1⟩ := mcells B.out.m
      obtain ⟨e0_1, e1_1, e2_1, e3_1, e4_1, e5_1⟩ := B.out.ecells
      obtain ⟨r0_1, r1_1, r2_1, r3_1⟩ := mcells B.out.r
      go_wp2_with fail
      refine (se_agrees1 st hd h HH.out.1 HH.out.2 A n cc bs _ (HB.out.old B.out.k)).mono ?_
      rintro e w9 ⟨Az, cz, rfl, ha, hk⟩
      have RR := B.out.r.kept hk (fun x => x)
      obtain ⟨q0, q1, q2, q3⟩ := mcells RR
      have HX := Lib.hid (And.intro ha hk)
      have RX := Lib.hid RR
      clear ha hk RR
      go_wp2
      refine bodyPost_ret (ret_mach (p := 4) (u := 5) rfl _ _ (w.heap.size + 1 + 1) _ _ _ rfl rfl (fin_blk RX.out)) rfl (res_fin2 (st := 5) (hd := h) (l := [Sm.send 4, Sm.set 2 h, Sm.set 3 (h / 3)]) (n := 3) rfl HX.out.1 RX.out (B.out.k.trans HX.out.2) (by omega))
  clear hh
  by_cases h4 : kd = 4
  · subst h4
    have hP : Sm.pOS ⟨st, hd⟩ 4 x ho.toNat c s d = (⟨3, hd⟩, [Sm.a0 5, Sm.unset 2, Sm.set 1 120]) := by simp [Sm.pOS]
    rw [hP]
    clear hP h1
    have B0 := Bx.make (w := w) (st := st) (hd := hd) (kd := 4) (ho := ho) (x := x) (c := c) (s := s) (A := A) (n := n) (cc := cc)
    go_enter Tryd.func78, Tryd.ntmps78
    go_upto_region 1 with fail
    change Code.wp _ _ _ _ (((w.alloc (.cells #[.int .i64 st, .int .i64 hd] 24)).alloc (.cells #[.int .i64 4, .int .u8 x, .int .i64 ho, .int .u8 c, .int .u8 s, .slice A n cc] 31)).alloc (.cells #[.int .i64 0, .int .i64 0] 24))
    generalize ((w.alloc (.cells #[.int .i64 st, .int .i64 hd] 24)).alloc (.cells #[.int .i64 4, .int .u8 x, .int .i64 ho, .int .u8 c, .int .u8 s, .slice A n cc] 31)).alloc (.cells #[.int .i64 0, .int .i64 0] 24) = W0 at *
    have B := Lib.hid B0
    clear B0
    obtain ⟨m0_0, m1_0, m2_0, m3_0⟩ := mcells B.out.m
    obtain ⟨e0_0, e1_0, e2_0, e3_0, e4_0, e5_0⟩ := B.out.ecells
    obtain ⟨r0_0, r1_0, r2_0, r3_0⟩ := mcells B.out.r
    go_wp2_with fail
    refine (se_brings 4 ho x c s 1 A n cc false (by rfl) _).mono ?_
    rintro e w_1 ⟨rfl, hk⟩
    replace B := Lib.hid (B.out.old hk)
    clear hk
    clear m0_0 m1_0 m2_0 m3_0 e0_0 e1_0 e2_0 e3_0 e4_0 e5_0 r0_0 r1_0 r2_0 r3_0
    obtain ⟨m0_1, m1_1, m2_1, m3_1⟩ := mcells B.out.m
    obtain ⟨e0_1, e1_1, e2_1, e3_1, e4_1, e5_1⟩ := B.out.ecells
    obtain ⟨r0_1, r1_1, r2_1, r3_1⟩ := mcells B.out.r
    go_upto_region 5 with fail
    have B1 := Lib.hid (B.out.state 3)
    clear B m0_1 m1_1 m2_1 m3_1 e0_1 e1_1 e2_1 e3_1 e4_1 e5_1 r0_1 r1_1 r2_1 r3_1
    have B := B1
    clear B1
    generalize World.setCell _ ⟨w.heap.size, 0, none⟩ (.int .i64 3) = w_2 at *
    refine wp_mach w (w.heap.size) (w.heap.size + 1 + 1) 5 _ (3) (hd) 0 0 #[.int .i64 3, .int .i64 hd] [some (.agg #[.int .i64 3, .int .i64 hd]), some (.agg #[.int .i64 5, .int .u8 0, .int .i64 0, .int .u8 0, .int .u8 0, .slice none 0 0]), some (.agg #[.int .i64 4, .int .u8 2, .int .i64 0, .int .u8 0, .int .u8 0, .slice none 0 0]), some (.agg #[.int .i64 3, .int .u8 1, .int .i64 120, .int .u8 0, .int .u8 0, .slice none 0 0]), none, none, none] 4 6 3 #[.int .i64 5, .int .u8 0, .int .i64 0, .int .u8 0, .int .u8 0, .slice none 0 0, .int .i64 4, .int .u8 2, .int .i64 0, .int .u8 0, .int .u8 0, .slice none 0 0, .int .i64 3, .int .u8 1, .int .i64 120, .int .u8 0, .int .u8 0, .slice none 0 0] rfl (by omega) (by kernel_rfl) (by decide +kernel) (by intro d hd; simp [dsts] at hd ⊢; omega) (by rfl) (ready_nil2 (by kernel_rfl)) (by omega) B.out.k B.out.m B.out.r (fun v u => mf_none rfl (by decide) (by decide)) ?_ ?_ ?_
    · refine oweM_cons ?_ ?_
      · intro _
        intro u a hk hM hR hf hfar
        have v2 : a.tmps.getD 2 undef = .pointer (some ⟨w.heap.size, 0, none⟩) := hfar 2 (by decide)
        have w2 := v2
        rw [Array.getD_eq_getD_getElem?] at w2
        obtain ⟨c0, c1, -, -⟩ := mcells hM
        clear hf hfar hM hR
        go_simp
        exact ⟨_, rfl, Kept.refl _ _, mf_val rfl (by decide) (by decide)⟩
      refine oweM_cons ?_ ?_
      · intro _
        intro u a hk hM hR hf hfar
        clear hf hfar hM hR
        go_simp
        exact ⟨_, rfl, Kept.refl _ _, mf_val rfl (by decide) (by decide)⟩
      refine oweM_cons ?_ ?_
      · intro _
        intro u a hk hM hR hf hfar
        clear hf hfar hM hR
        go_simp
        refine (se_unset 2 u).mono ?_
        rintro e u' ⟨rfl, hk'⟩
        exact ⟨_, rfl, hk', mf_val rfl (by decide) (by decide)⟩
      refine oweM_cons ?_ ?_
      · intro _
        intro u a hk hM hR hf hfar
        clear hf hfar hM hR
        go_simp
        refine (se_set 1 120 u).mono ?_
        rintro e u' ⟨rfl, hk'⟩
        exact ⟨_, rfl, hk', mf_val rfl (by decide) (by decide)⟩
      refine oweM_cons ?_ ?_
      · intro _
        intro u a hk hM hR hf hfar
        have v21 : a.tmps.getD 21 undef = .agg #[.int .i64 5, .int .u8 0, .int .i64 0, .int .u8 0, .int .u8 0, .slice none 0 0] := (hf 1 _ 21 rfl rfl ⟨⟨1, .data⟩, Array.mem_of_getElem? (i := 0) rfl, rfl, rfl⟩).1 _ rfl
        have w21 := v21
        rw [Array.getD_eq_getD_getElem?] at w21
        have v22 : a.tmps.getD 22 undef = .agg #[.int .i64 4, .int .u8 2, .int .i64 0, .int .u8 0, .int .u8 0, .slice none 0 0] := (hf 2 _ 22 rfl rfl ⟨⟨2, .data⟩, Array.mem_of_getElem? (i := 1) rfl, rfl, rfl⟩).1 _ rfl
        have w22 := v22
        rw [Array.getD_eq_getD_getElem?] at w22
        have v23 : a.tmps.getD 23 undef = .agg #[.int .i64 3, .int .u8 1, .int .i64 120, .int .u8 0, .int .u8 0, .slice none 0 0] := (hf 3 _ 23 rfl rfl ⟨⟨3, .data⟩, Array.mem_of_getElem? (i := 2) rfl, rfl, rfl⟩).1 _ rfl
        have w23 := v23
        rw [Array.getD_eq_getD_getElem?] at w23
        obtain ⟨cs, hR⟩ := hR
        have hne : u.heap.size ≠ w.heap.size + 1 + 1 := fun e => by have := hR.lt; omega
        clear hf hfar hM hR
        have HNE := Lib.hid hne
        clear hne
        go_simp
        exact ⟨_, rfl, (Kept.refl _ _).alloc _, mf_row rfl HNE.out (Blk.fresh _ _ _)⟩
      refine oweM_cons ?_ ?_
      · intro hh
        exact absurd rfl hh
      refine oweM_cons ?_ ?_
      · intro _
        intro u a hk hM hR hf hfar
        obtain ⟨b24, hb24, v24, hB24⟩ := (hf 4 _ 24 rfl rfl ⟨⟨4, .data⟩, Array.mem_of_getElem? (i := 0) rfl, rfl, rfl⟩).2 (by first | exact .inl rfl | exact .inr rfl)
        have w24 := v24
        rw [Array.getD_eq_getD_getElem?] at w24
        clear hf hfar hM hR
        go_simp
        exact ⟨_, rfl, Kept.refl _ _, mf_row rfl hb24 hB24⟩
      exact oweM_nil
    · intro u a hR hf hfar
      have v4 : a.tmps.getD 4 undef = .pointer (some ⟨w.heap.size + 1 + 1, 0, none⟩) := hfar 4 (by decide)
      have w4 := v4
      rw [Array.getD_eq_getD_getElem?] at w4
      have v20 : a.tmps.getD 20 undef = .agg #[.int .i64 3, .int .i64 hd] := (hf 0 _ 20 rfl rfl ⟨⟨0, .data⟩, Array.mem_of_getElem? (i := 0) rfl, rfl, rfl⟩).1 _ rfl
      have w20 := v20
      rw [Array.getD_eq_getD_getElem?] at w20
      obtain ⟨r0, r1, g0, g1⟩ := mcells hR
      clear hf hfar hR
      go_simp
      first | done | exact ⟨_, rfl, rfl⟩
    · intro vals u hk hB hV
      obtain ⟨b, hb, hv, hBb⟩ := (hV 6 _ 5 rfl rfl).2 (.inr rfl)
      clear hV
      simp [putAll, Act.put, Array.setIfInBounds, hv]
      generalize vals 0 = z0
      generalize vals 1 = z1
      generalize vals 2 = z2
      generalize vals 3 = z3
      generalize vals 4 = z4
      go_wp2
      refine bodyPost_ret (ret_mach rfl _ _ (w.heap.size + 1 + 1) _ _ _ rfl rfl hB) rfl ⟨_, _, rfl, Acs.fresh (n := 3) (c := 3) (HB.out.old hk) (l := [Sm.a0 5, Sm.unset 2, Sm.set 1 120]) hBb rfl (by decide) (by decide) (by decide), hk⟩
  have hP : Sm.pOS ⟨st, hd⟩ kd x ho.toNat c s d = Sm.pConn ⟨st, hd⟩ kd x c s d := by simp [Sm.pOS, h1, h4]
  rw [hP]
  have HQ : Hid ((decide (kd = 5) && decide (x = 1)) = false) := Lib.hid (by simpa using h1)
  have k4 : (kd == 4) = false := by simpa using h4
  clear hP h4 h1
  have B0 := Bx.make (w := w) (st := st) (hd := hd) (kd := kd) (ho := ho) (x := x) (c := c) (s := s) (A := A) (n := n) (cc := cc)
  go_enter Tryd.func78, Tryd.ntmps78
  go_upto_region 1 with fail
  change Code.wp _ _ _ _ (((w.alloc (.cells #[.int .i64 st, .int .i64 hd] 24)).alloc (.cells #[.int .i64 kd, .int .u8 x, .int .i64 ho, .int .u8 c, .int .u8 s, .slice A n cc] 31)).alloc (.cells #[.int .i64 0, .int .i64 0] 24))
  generalize ((w.alloc (.cells #[.int .i64 st, .int .i64 hd] 24)).alloc (.cells #[.int .i64 kd, .int .u8 x, .int .i64 ho, .int .u8 c, .int .u8 s, .slice A n cc] 31)).alloc (.cells #[.int .i64 0, .int .i64 0] 24) = W0 at *
  have B := Lib.hid B0
  clear B0
  obtain ⟨m0_0, m1_0, m2_0, m3_0⟩ := mcells B.out.m
  obtain ⟨e0_0, e1_0, e2_0, e3_0, e4_0, e5_0⟩ := B.out.ecells
  obtain ⟨r0_0, r1_0, r2_0, r3_0⟩ := mcells B.out.r
  go_wp2_with fail
  refine (se_brings kd ho x c s 1 A n cc false HQ.out _).mono ?_
  rintro e w_1 ⟨rfl, hk⟩
  replace B := Lib.hid (B.out.old hk)
  clear hk
  clear m0_0 m1_0 m2_0 m3_0 e0_0 e1_0 e2_0 e3_0 e4_0 e5_0 r0_0 r1_0 r2_0 r3_0
  obtain ⟨m0_1, m1_1, m2_1, m3_1⟩ := mcells B.out.m
  obtain ⟨e0_1, e1_1, e2_1, e3_1, e4_1, e5_1⟩ := B.out.ecells
  obtain ⟨r0_1, r1_1, r2_1, r3_1⟩ := mcells B.out.r
  go_wp2_with fail
  refine (se_connected st hd HS.out.1 HS.out.2 kd ho x c s A n cc d bs _ (HR.out.old B.out.k) (HB.out.old B.out.k) (HC.out.old B.out.k)).mono ?_
  rintro e w9 ⟨Az, cz, rfl, ha, hk⟩
  have RR := B.out.r.kept hk (fun x => x)
  obtain ⟨q0, q1, q2, q3⟩ := mcells RR
  have HX := Lib.hid (And.intro ha hk)
  have RX := Lib.hid RR
  clear ha hk RR
  go_wp2
  refine bodyPost_ret (ret_mach (p := 4) (u := 5) rfl _ _ (w.heap.size + 1 + 1) _ _ _ rfl rfl (fin_blk RX.out)) rfl (B.out.on HX.out.1 HX.out.2)
end Go.Proofs.YtembdobkgpojfaaDoor
