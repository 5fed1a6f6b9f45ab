
/-
  session: connected, agreed.
-/
import Derived.Test.YtembdobkgpojfaaDoorSMi
namespace Go.Proofs.YtembdobkgpojfaaDoor
open Go.RowKit

theorem Clo.old {w u : World} {A : Option Addr} {n cc : Nat} {d : Bool} {bs : List UInt8} (h : Clo w A n cc d bs) (k : Kept Nothing w u) : Clo u A n cc d bs := fun v hv =>
  (h v (k.trans hv)).mono fun _ _ ⟨A', n', c', dA, dn, dc, hr, hk, hD, hv'⟩ => ⟨A', n', c', dA, dn, dc, hr, hk, hD.imp (fun x => x.old k) id, hv'⟩
set_option maxHeartbeats 8000000 in
theorem se_connected (st hd : Nat) (h4 : 4 ≤ st) (h6 : st ≤ 6) (kd ho : Int) (x c s : Nat) (A : Option Addr) (n cc : Nat) (d : Bool) (bs : List UInt8) (w : World) (hr : RdS w) (hb : By w (.slice A n cc) bs) (hC : Clo w A n cc d bs) :
    Calls Tryd.prog 96 #[.agg #[.int .i64 st, .int .i64 hd], .agg #[.int .i64 kd, .int .u8 x, .int .i64 ho, .int .u8 c, .int .u8 s, .slice A n cc]] w fun e w' => Res .u8 w w' e (Sm.pConn ⟨st, hd⟩ kd x c s d) bs := by
  have HB := Lib.hid hb
  have HC := Lib.hid hC
  have HR := Lib.hid hr
  clear hC hr
  clear hb
  have HS := Lib.hid (And.intro h4 h6)
  clear h4 h6
  by_cases h2 : kd = 2
  · subst h2
    have hP : Sm.pConn ⟨st, hd⟩ 2 x c s d = Sm.ends st true 6 2 false := by simp [Sm.pConn]
    rw [hP]
    clear hP
    have B0 := Bx.make (w := w) (st := st) (hd := hd) (kd := 2) (ho := ho) (x := x) (c := c) (s := s) (A := A) (n := n) (cc := cc)
    go_enter Tryd.func96, Tryd.ntmps96
    go_upto_region 1 with fail
    change Code.wp _ _ _ _ (((w.alloc (.cells #[.int .i64 st, .int .i64 hd] 24)).alloc (.cells #[.int .i64 2, .int .u8 x, .int .i64 ho, .int .u8 c, .int .u8 s, .slice A n cc] 31)).alloc (.cells #[.int .i64 0, .int .i64 0] 24))
    generalize ((w.alloc (.cells #[.int .i64 st, .int .i64 hd] 24)).alloc (.cells #[.int .i64 2, .int .u8 x, .int .i64 ho, .int .u8 c, .int .u8 s, .slice A n cc] 31)).alloc (.cells #[.int .i64 0, .int .i64 0] 24) = W0 at *
    have B := Lib.hid B0
    clear B0
    obtain ⟨m0_0, m1_0, m2_0, m3_0⟩ := mcells B.out.m
    obtain ⟨e0_0, e1_0, e2_0, e3_0, e4_0, e5_0⟩ := B.out.ecells
    obtain ⟨r0_0, r1_0, r2_0, r3_0⟩ := mcells B.out.r
    obtain ⟨⟨ga0, ga1⟩, ⟨gb0, gb1⟩, ⟨gc0, gc1⟩, gd0, gd1⟩ := HR.out.old B.out.k
    go_wp2_with fail
    refine ((se_halts st hd 6 2 none 0 0 false A n cc bs w _ B.out.k HB.out (clo_nil w A n cc bs HB.out)).mono (fun _ _ h => h.res B.out.k)).mono ?_
    rintro e w9 ⟨Az, cz, rfl, ha, hk⟩
    have RR := B.out.r.kept hk (fun x => x)
    obtain ⟨q0, q1, q2, q3⟩ := mcells RR
    have HX := Lib.hid (And.intro ha hk)
    have RX := Lib.hid RR
    clear ha hk RR
    go_wp2
    refine bodyPost_ret (ret_mach (p := 4) (u := 5) rfl _ _ (w.heap.size + 1 + 1) _ _ _ rfl rfl (fin_blk RX.out)) rfl (B.out.on HX.out.1 HX.out.2)
  by_cases h7 : kd = 7
  · subst h7
    clear h2
    have hP : Sm.pConn ⟨st, hd⟩ 7 x c s d = Sm.ends st false c s d := by simp [Sm.pConn]
    rw [hP]
    clear hP
    have B0 := Bx.make (w := w) (st := st) (hd := hd) (kd := 7) (ho := ho) (x := x) (c := c) (s := s) (A := A) (n := n) (cc := cc)
    go_enter Tryd.func96, Tryd.ntmps96
    go_upto_region 1 with fail
    change Code.wp _ _ _ _ (((w.alloc (.cells #[.int .i64 st, .int .i64 hd] 24)).alloc (.cells #[.int .i64 7, .int .u8 x, .int .i64 ho, .int .u8 c, .int .u8 s, .slice A n cc] 31)).alloc (.cells #[.int .i64 0, .int .i64 0] 24))
    generalize ((w.alloc (.cells #[.int .i64 st, .int .i64 hd] 24)).alloc (.cells #[.int .i64 7, .int .u8 x, .int .i64 ho, .int .u8 c, .int .u8 s, .slice A n cc] 31)).alloc (.cells #[.int .i64 0, .int .i64 0] 24) = W0 at *
    have B := Lib.hid B0
    clear B0
    obtain ⟨m0_0, m1_0, m2_0, m3_0⟩ := mcells B.out.m
    obtain ⟨e0_0, e1_0, e2_0, e3_0, e4_0, e5_0⟩ := B.out.ecells
    obtain ⟨r0_0, r1_0, r2_0, r3_0⟩ := mcells B.out.r
    go_wp2_with fail
    refine (se_ends st hd c s A n cc d A n cc bs _ (HB.out.old B.out.k) (HC.out.old B.out.k)).mono ?_
    rintro e w9 ⟨Az, cz, rfl, ha, hk⟩
    have RR := B.out.r.kept hk (fun x => x)
    obtain ⟨q0, q1, q2, q3⟩ := mcells RR
    have HX := Lib.hid (And.intro ha hk)
    have RX := Lib.hid RR
    clear ha hk RR
    go_wp2
    refine bodyPost_ret (ret_mach (p := 4) (u := 5) rfl _ _ (w.heap.size + 1 + 1) _ _ _ rfl rfl (fin_blk RX.out)) rfl (B.out.on HX.out.1 HX.out.2)
  by_cases h8 : kd = 8
  · subst h8
    clear h2 h7
    have hP : Sm.pConn ⟨st, hd⟩ 8 x c s d = Sm.ends st false c s d := by simp [Sm.pConn]
    rw [hP]
    clear hP
    have B0 := Bx.make (w := w) (st := st) (hd := hd) (kd := 8) (ho := ho) (x := x) (c := c) (s := s) (A := A) (n := n) (cc := cc)
    go_enter Tryd.func96, Tryd.ntmps96
    go_upto_region 1 with fail
    change Code.wp _ _ _ _ (((w.alloc (.cells #[.int .i64 st, .int .i64 hd] 24)).alloc (.cells #[.int .i64 8, .int .u8 x, .int .i64 ho, .int .u8 c, .int .u8 s, .slice A n cc] 31)).alloc (.cells #[.int .i64 0, .int .i64 0] 24))
    generalize ((w.alloc (.cells #[.int .i64 st, .int .i64 hd] 24)).alloc (.cells #[.int .i64 8, .int .u8 x, .int .i64 ho, .int .u8 c, .int .u8 s, .slice A n cc] 31)).alloc (.cells #[.int .i64 0, .int .i64 0] 24) = W0 at *
    have B := Lib.hid B0
    clear B0
    obtain ⟨m0_0, m1_0, m2_0, m3_0⟩ := mcells B.out.m
    obtain ⟨e0_0, e1_0, e2_0, e3_0, e4_0, e5_0⟩ := B.out.ecells
    obtain ⟨r0_0, r1_0, r2_0, r3_0⟩ := mcells B.out.r
    go_wp2_with fail
    refine (se_ends st hd c s A n cc d A n cc bs _ (HB.out.old B.out.k) (HC.out.old B.out.k)).mono ?_
    rintro e w9 ⟨Az, cz, rfl, ha, hk⟩
    have RR := B.out.r.kept hk (fun x => x)
    obtain ⟨q0, q1, q2, q3⟩ := mcells RR
    have HX := Lib.hid (And.intro ha hk)
    have RX := Lib.hid RR
    clear ha hk RR
    go_wp2
    refine bodyPost_ret (ret_mach (p := 4) (u := 5) rfl _ _ (w.heap.size + 1 + 1) _ _ _ rfl rfl (fin_blk RX.out)) rfl (B.out.on HX.out.1 HX.out.2)
  by_cases h62 : kd = 6 ∧ x = 2
  · obtain ⟨rfl, rfl⟩ := h62
    clear h2 h7 h8
    have hP : Sm.pConn ⟨st, hd⟩ 6 2 c s d = Sm.ends st false 4 0 false := by simp [Sm.pConn]
    rw [hP]
    clear hP
    have B0 := Bx.make (w := w) (st := st) (hd := hd) (kd := 6) (ho := ho) (x := 2) (c := c) (s := s) (A := A) (n := n) (cc := cc)
    go_enter Tryd.func96, Tryd.ntmps96
    go_upto_region 1 with fail
    change Code.wp _ _ _ _ (((w.alloc (.cells #[.int .i64 st, .int .i64 hd] 24)).alloc (.cells #[.int .i64 6, .int .u8 2, .int .i64 ho, .int .u8 c, .int .u8 s, .slice A n cc] 31)).alloc (.cells #[.int .i64 0, .int .i64 0] 24))
    generalize ((w.alloc (.cells #[.int .i64 st, .int .i64 hd] 24)).alloc (.cells #[.int .i64 6, .int .u8 2, .int .i64 ho, .int .u8 c, .int .u8 s, .slice A n cc] 31)).alloc (.cells #[.int .i64 0, .int .i64 0] 24) = W0 at *
    have B := Lib.hid B0
    clear B0
    obtain ⟨m0_0, m1_0, m2_0, m3_0⟩ := mcells B.out.m
    obtain ⟨e0_0, e1_0, e2_0, e3_0, e4_0, e5_0⟩ := B.out.ecells
    obtain ⟨r0_0, r1_0, r2_0, r3_0⟩ := mcells B.out.r
    go_wp2_with fail
    refine (se_rings 6 ho 2 c s 2 A n cc true (by rfl) _).mono ?_
    rintro e w_1 ⟨rfl, hk⟩
    replace B := Lib.hid (B.out.old hk)
    clear hk
    clear m0_0 m1_0 m2_0 m3_0 e0_0 e1_0 e2_0 e3_0 e4_0 e5_0 r0_0 r1_0 r2_0 r3_0
    obtain ⟨m0_1, m1_1, m2_1, m3_1⟩ := mcells B.out.m
    obtain ⟨e0_1, e1_1, e2_1, e3_1, e4_1, e5_1⟩ := B.out.ecells
    obtain ⟨r0_1, r1_1, r2_1, r3_1⟩ := mcells B.out.r
    obtain ⟨⟨ga0, ga1⟩, ⟨gb0, gb1⟩, ⟨gc0, gc1⟩, gd0, gd1⟩ := HR.out.old B.out.k
    go_wp2_with fail
    refine (se_ends st hd 4 0 none 0 0 false A n cc bs _ (HB.out.old B.out.k) (clo_nil _ A n cc bs (HB.out.old B.out.k))).mono ?_
    rintro e w9 ⟨Az, cz, rfl, ha, hk⟩
    have RR := B.out.r.kept hk (fun x => x)
    obtain ⟨q0, q1, q2, q3⟩ := mcells RR
    have HX := Lib.hid (And.intro ha hk)
    have RX := Lib.hid RR
    clear ha hk RR
    go_wp2
    refine bodyPost_ret (ret_mach (p := 4) (u := 5) rfl _ _ (w.heap.size + 1 + 1) _ _ _ rfl rfl (fin_blk RX.out)) rfl (B.out.on HX.out.1 HX.out.2)
  by_cases h53 : kd = 5 ∧ x = 3
  · obtain ⟨rfl, rfl⟩ := h53
    clear h2 h7 h8 h62
    have hP : Sm.pConn ⟨st, hd⟩ 5 3 c s d = Sm.ends st false 0 0 false := by simp [Sm.pConn]
    rw [hP]
    clear hP
    have B0 := Bx.make (w := w) (st := st) (hd := hd) (kd := 5) (ho := ho) (x := 3) (c := c) (s := s) (A := A) (n := n) (cc := cc)
    go_enter Tryd.func96, Tryd.ntmps96
    go_upto_region 1 with fail
    change Code.wp _ _ _ _ (((w.alloc (.cells #[.int .i64 st, .int .i64 hd] 24)).alloc (.cells #[.int .i64 5, .int .u8 3, .int .i64 ho, .int .u8 c, .int .u8 s, .slice A n cc] 31)).alloc (.cells #[.int .i64 0, .int .i64 0] 24))
    generalize ((w.alloc (.cells #[.int .i64 st, .int .i64 hd] 24)).alloc (.cells #[.int .i64 5, .int .u8 3, .int .i64 ho, .int .u8 c, .int .u8 s, .slice A n cc] 31)).alloc (.cells #[.int .i64 0, .int .i64 0] 24) = W0 at *
    have B := Lib.hid B0
    clear B0
    obtain ⟨m0_0, m1_0, m2_0, m3_0⟩ := mcells B.out.m
    obtain ⟨e0_0, e1_0, e2_0, e3_0, e4_0, e5_0⟩ := B.out.ecells
    obtain ⟨r0_0, r1_0, r2_0, r3_0⟩ := mcells B.out.r
    go_wp2_with fail
    refine (se_rings 5 ho 3 c s 2 A n cc false (by rfl) _).mono ?_
    rintro e w_1 ⟨rfl, hk⟩
    replace B := Lib.hid (B.out.old hk)
    clear hk
    clear m0_0 m1_0 m2_0 m3_0 e0_0 e1_0 e2_0 e3_0 e4_0 e5_0 r0_0 r1_0 r2_0 r3_0
    obtain ⟨m0_1, m1_1, m2_1, m3_1⟩ := mcells B.out.m
    obtain ⟨e0_1, e1_1, e2_1, e3_1, e4_1, e5_1⟩ := B.out.ecells
    obtain ⟨r0_1, r1_1, r2_1, r3_1⟩ := mcells B.out.r
    go_wp2_with fail
    refine (se_brings 5 ho 3 c s 3 A n cc true (by rfl) _).mono ?_
    rintro e w_2 ⟨rfl, hk⟩
    replace B := Lib.hid (B.out.old hk)
    clear hk
    clear m0_1 m1_1 m2_1 m3_1 e0_1 e1_1 e2_1 e3_1 e4_1 e5_1 r0_1 r1_1 r2_1 r3_1
    obtain ⟨m0_2, m1_2, m2_2, m3_2⟩ := mcells B.out.m
    obtain ⟨e0_2, e1_2, e2_2, e3_2, e4_2, e5_2⟩ := B.out.ecells
    obtain ⟨r0_2, r1_2, r2_2, r3_2⟩ := mcells B.out.r
    go_wp2_with fail
    refine (se_ends st hd 0 0 none 0 0 false A n cc bs _ (HB.out.old B.out.k) (clo_nil _ A n cc bs (HB.out.old B.out.k))).mono ?_
    rintro e w9 ⟨Az, cz, rfl, ha, hk⟩
    have RR := B.out.r.kept hk (fun x => x)
    obtain ⟨q0, q1, q2, q3⟩ := mcells RR
    have HX := Lib.hid (And.intro ha hk)
    have RX := Lib.hid RR
    clear ha hk RR
    go_wp2
    refine bodyPost_ret (ret_mach (p := 4) (u := 5) rfl _ _ (w.heap.size + 1 + 1) _ _ _ rfl rfl (fin_blk RX.out)) rfl (B.out.on HX.out.1 HX.out.2)
  by_cases h5 : kd = 5
  · subst h5
    have hx3 : ¬ x = 3 := fun e => h53 ⟨rfl, e⟩
    have HX3 : Hid ((decide ((5 : Int) = 5) && decide (x = 3)) = false) := Lib.hid (by simp [hx3])
    have hP : Sm.pConn ⟨st, hd⟩ 5 x c s d = Sm.ends st false 5 (st - 3) false := by simp [Sm.pConn, hx3]
    rw [hP]
    clear hP hx3 h2 h7 h8 h62 h53
    have B0 := Bx.make (w := w) (st := st) (hd := hd) (kd := 5) (ho := ho) (x := x) (c := c) (s := s) (A := A) (n := n) (cc := cc)
    go_enter Tryd.func96, Tryd.ntmps96
    go_upto_region 1 with fail
    change Code.wp _ _ _ _ (((w.alloc (.cells #[.int .i64 st, .int .i64 hd] 24)).alloc (.cells #[.int .i64 5, .int .u8 x, .int .i64 ho, .int .u8 c, .int .u8 s, .slice A n cc] 31)).alloc (.cells #[.int .i64 0, .int .i64 0] 24))
    generalize ((w.alloc (.cells #[.int .i64 st, .int .i64 hd] 24)).alloc (.cells #[.int .i64 5, .int .u8 x, .int .i64 ho, .int .u8 c, .int .u8 s, .slice A n cc] 31)).alloc (.cells #[.int .i64 0, .int .i64 0] 24) = W0 at *
    have B := Lib.hid B0
    clear B0
    obtain ⟨m0_0, m1_0, m2_0, m3_0⟩ := mcells B.out.m
    obtain ⟨e0_0, e1_0, e2_0, e3_0, e4_0, e5_0⟩ := B.out.ecells
    obtain ⟨r0_0, r1_0, r2_0, r3_0⟩ := mcells B.out.r
    go_wp2_with fail
    refine (se_rings 5 ho x c s 2 A n cc false (by rfl) _).mono ?_
    rintro e w_1 ⟨rfl, hk⟩
    replace B := Lib.hid (B.out.old hk)
    clear hk
    clear m0_0 m1_0 m2_0 m3_0 e0_0 e1_0 e2_0 e3_0 e4_0 e5_0 r0_0 r1_0 r2_0 r3_0
    obtain ⟨m0_1, m1_1, m2_1, m3_1⟩ := mcells B.out.m
    obtain ⟨e0_1, e1_1, e2_1, e3_1, e4_1, e5_1⟩ := B.out.ecells
    obtain ⟨r0_1, r1_1, r2_1, r3_1⟩ := mcells B.out.r
    go_wp2_with fail
    refine (se_brings 5 ho x c s 3 A n cc false HX3.out _).mono ?_
    rintro e w_2 ⟨rfl, hk⟩
    replace B := Lib.hid (B.out.old hk)
    clear hk
    clear m0_1 m1_1 m2_1 m3_1 e0_1 e1_1 e2_1 e3_1 e4_1 e5_1 r0_1 r1_1 r2_1 r3_1
    obtain ⟨m0_2, m1_2, m2_2, m3_2⟩ := mcells B.out.m
    obtain ⟨e0_2, e1_2, e2_2, e3_2, e4_2, e5_2⟩ := B.out.ecells
    obtain ⟨r0_2, r1_2, r2_2, r3_2⟩ := mcells B.out.r
    go_upto_region 11 with fail
    go_region_law (first
      | (go_simp; go_at_call 115; refine (se_unexpected st HS.out.1 HS.out.2 _).mono ?_; rintro e w7 ⟨rfl, hk⟩; (have B7 := Lib.hid ((B.out.old (Kept.refl Nothing _).drew).old hk)); (obtain ⟨d0, d1, d2, d3⟩ := mcells B7.out.m); clear hk)
      | (go_simp; go_at_call 114; refine (se_ends st hd 5 (st - 3) none 0 0 false A n cc bs _ (HB.out.old B7.out.k) (clo_nil _ A n cc bs (HB.out.old B7.out.k))).mono ?_; rintro e w9 ⟨Az, cz, rfl, ha, hk⟩; (have RR := B7.out.r.kept hk (fun x => x)); (obtain ⟨q0, q1, q2, q3⟩ := mcells RR); (have HX := Lib.hid (And.intro ha hk)); (have RX := Lib.hid RR); clear ha hk RR))
    all_goals
      go_wp2
      refine bodyPost_ret (ret_mach (p := 4) (u := 5) rfl _ _ (w.heap.size + 1 + 1) _ _ _ rfl rfl (fin_blk RX.out)) rfl (B7.out.on HX.out.1 HX.out.2)
  have hP : Sm.pConn ⟨st, hd⟩ kd x c s d = (⟨st, hd⟩, []) := by simp [Sm.pConn, h2, h7, h8, h62, h5]
  rw [hP]
  have HQ : Hid ((decide (kd = 6) && decide (x = 2)) = false) := Lib.hid (by simpa using h62)
  have HQ2 : Hid ((decide (kd = 5) && decide (x = 3)) = false) := Lib.hid (by simpa using h53)
  have k2 : (kd == 2) = false := by simpa using h2
  have k7 : (kd == 7) = false := by simpa using h7
  have k8 : (kd == 8) = false := by simpa using h8
  have k5 : (kd == 5) = false := by simpa using h5
  clear hP h2 h7 h8 h62 h53 h5
  have B0 := Bx.make (w := w) (st := st) (hd := hd) (kd := kd) (ho := ho) (x := x) (c := c) (s := s) (A := A) (n := n) (cc := cc)
  go_enter Tryd.func96, Tryd.ntmps96
  go_upto_region 1 with fail
  change Code.wp _ _ _ _ (((w.alloc (.cells #[.int .i64 st, .int .i64 hd] 24)).alloc (.cells #[.int .i64 kd, .int .u8 x, .int .i64 ho, .int .u8 c, .int .u8 s, .slice A n cc] 31)).alloc (.cells #[.int .i64 0, .int .i64 0] 24))
  generalize ((w.alloc (.cells #[.int .i64 st, .int .i64 hd] 24)).alloc (.cells #[.int .i64 kd, .int .u8 x, .int .i64 ho, .int .u8 c, .int .u8 s, .slice A n cc] 31)).alloc (.cells #[.int .i64 0, .int .i64 0] 24) = W0 at *
  have B := Lib.hid B0
  clear B0
  obtain ⟨m0_0, m1_0, m2_0, m3_0⟩ := mcells B.out.m
  obtain ⟨e0_0, e1_0, e2_0, e3_0, e4_0, e5_0⟩ := B.out.ecells
  obtain ⟨r0_0, r1_0, r2_0, r3_0⟩ := mcells B.out.r
  go_wp2_with fail
  refine (se_rings kd ho x c s 2 A n cc false HQ.out _).mono ?_
  rintro e w_1 ⟨rfl, hk⟩
  replace B := Lib.hid (B.out.old hk)
  clear hk
  clear m0_0 m1_0 m2_0 m3_0 e0_0 e1_0 e2_0 e3_0 e4_0 e5_0 r0_0 r1_0 r2_0 r3_0
  obtain ⟨m0_1, m1_1, m2_1, m3_1⟩ := mcells B.out.m
  obtain ⟨e0_1, e1_1, e2_1, e3_1, e4_1, e5_1⟩ := B.out.ecells
  obtain ⟨r0_1, r1_1, r2_1, r3_1⟩ := mcells B.out.r
  go_wp2_with fail
  refine (se_brings kd ho x c s 3 A n cc false HQ2.out _).mono ?_
  rintro e w_2 ⟨rfl, hk⟩
  replace B := Lib.hid (B.out.old hk)
  clear hk
  clear m0_1 m1_1 m2_1 m3_1 e0_1 e1_1 e2_1 e3_1 e4_1 e5_1 r0_1 r1_1 r2_1 r3_1
  obtain ⟨m0_2, m1_2, m2_2, m3_2⟩ := mcells B.out.m
  obtain ⟨e0_2, e1_2, e2_2, e3_2, e4_2, e5_2⟩ := B.out.ecells
  obtain ⟨r0_2, r1_2, r2_2, r3_2⟩ := mcells B.out.r
  go_wp2
  refine bodyPost_ret (ret_mach rfl _ _ (w.heap.size + 1 + 1) _ _ _ rfl rfl (fin_blk B.out.r)) rfl (res_fin2 (n := 0) rfl (Acs.nil _ _ _ _ _ _ (HB.out.old B.out.k)) B.out.r B.out.k (by omega))
set_option maxHeartbeats 8000000 in
theorem se_agreed (st hd : Nat) (h4 : 4 ≤ st) (h6 : st ≤ 6) (h5 : hd ≤ 65535) (kd ho : Int) (x c s : Nat) (A : Option Addr) (n cc : Nat) (d : Bool) (bs : List UInt8) (w : World) (hr : RdS w) (hb : By w (.slice A n cc) bs) (hC : Clo w A n cc d bs) :
    Calls Tryd.prog 98 #[.agg #[.int .i64 st, .int .i64 hd], .agg #[.int .i64 kd, .int .u8 x, .int .i64 ho, .int .u8 c, .int .u8 s, .slice A n cc]] w fun e w' => Res .u8 w w' e (Sm.pAgr ⟨st, hd⟩ kd x c s d) bs := by
  have HB := Lib.hid hb
  have HC := Lib.hid hC
  have HR := Lib.hid hr
  clear hC hr
  clear hb
  have HS := Lib.hid (And.intro h4 h6)
  have HD := Lib.hid h5
  clear h4 h6 h5
  by_cases h2 : kd = 4
  · subst h2
    have hP : Sm.pAgr ⟨st, hd⟩ 4 x c s d = Sm.ends st false 0 0 false := by simp [Sm.pAgr]
    rw [hP]
    clear hP
    have B0 := Bx.make (w := w) (st := st) (hd := hd) (kd := 4) (ho := ho) (x := x) (c := c) (s := s) (A := A) (n := n) (cc := cc)
    go_enter Tryd.func98, Tryd.ntmps98
    go_upto_region 1 with fail
    change Code.wp _ _ _ _ (((w.alloc (.cells #[.int .i64 st, .int .i64 hd] 24)).alloc (.cells #[.int .i64 4, .int .u8 x, .int .i64 ho, .int .u8 c, .int .u8 s, .slice A n cc] 31)).alloc (.cells #[.int .i64 0, .int .i64 0] 24))
    generalize ((w.alloc (.cells #[.int .i64 st, .int .i64 hd] 24)).alloc (.cells #[.int .i64 4, .int .u8 x, .int .i64 ho, .int .u8 c, .int .u8 s, .slice A n cc] 31)).alloc (.cells #[.int .i64 0, .int .i64 0] 24) = W0 at *
    have B := Lib.hid B0
    clear B0
    obtain ⟨m0_0, m1_0, m2_0, m3_0⟩ := mcells B.out.m
    obtain ⟨e0_0, e1_0, e2_0, e3_0, e4_0, e5_0⟩ := B.out.ecells
    obtain ⟨r0_0, r1_0, r2_0, r3_0⟩ := mcells B.out.r
    go_wp2_with fail
    refine (se_ends st hd 0 0 none 0 0 false A n cc bs _ (HB.out.old B.out.k) (clo_nil _ A n cc bs (HB.out.old B.out.k))).mono ?_
    rintro e w9 ⟨Az, cz, rfl, ha, hk⟩
    have RR := B.out.r.kept hk (fun x => x)
    obtain ⟨q0, q1, q2, q3⟩ := mcells RR
    have HX := Lib.hid (And.intro ha hk)
    have RX := Lib.hid RR
    clear ha hk RR
    go_wp2
    refine bodyPost_ret (ret_mach (p := 4) (u := 5) rfl _ _ (w.heap.size + 1 + 1) _ _ _ rfl rfl (fin_blk RX.out)) rfl (B.out.on HX.out.1 HX.out.2)
  have k4 : (kd == 4) = false := by simpa using h2
  by_cases h63 : kd = 6 ∧ x = 3
  · obtain ⟨rfl, rfl⟩ := h63
    clear h2
    by_cases hh : hd = 0
    · subst hh
      have hP : Sm.pAgr ⟨st, 0⟩ 6 3 c s d = (⟨st, 0⟩, []) := by simp [Sm.pAgr]
      rw [hP]
      clear hP
      have B0 := Bx.make (w := w) (st := st) (hd := (0 : Nat)) (kd := 6) (ho := ho) (x := 3) (c := c) (s := s) (A := A) (n := n) (cc := cc)
      go_enter Tryd.func98, Tryd.ntmps98
      go_upto_region 1 with fail
      change Code.wp _ _ _ _ (((w.alloc (.cells #[.int .i64 st, .int .i64 (0 : Nat)] 24)).alloc (.cells #[.int .i64 6, .int .u8 3, .int .i64 ho, .int .u8 c, .int .u8 s, .slice A n cc] 31)).alloc (.cells #[.int .i64 0, .int .i64 0] 24))
      generalize ((w.alloc (.cells #[.int .i64 st, .int .i64 (0 : Nat)] 24)).alloc (.cells #[.int .i64 6, .int .u8 3, .int .i64 ho, .int .u8 c, .int .u8 s, .slice A n cc] 31)).alloc (.cells #[.int .i64 0, .int .i64 0] 24) = W0 at *
      have B := Lib.hid B0
      clear B0
      obtain ⟨m0_0, m1_0, m2_0, m3_0⟩ := mcells B.out.m
      obtain ⟨e0_0, e1_0, e2_0, e3_0, e4_0, e5_0⟩ := B.out.ecells
      obtain ⟨r0_0, r1_0, r2_0, r3_0⟩ := mcells B.out.r
      go_wp2_with fail
      refine (se_rings 6 ho 3 c s 3 A n cc true (by rfl) _).mono ?_
      rintro e w_1 ⟨rfl, hk⟩
      replace B := Lib.hid (B.out.old hk)
      clear hk
      clear m0_0 m1_0 m2_0 m3_0 e0_0 e1_0 e2_0 e3_0 e4_0 e5_0 r0_0 r1_0 r2_0 r3_0
      obtain ⟨m0_1, m1_1, m2_1, m3_1⟩ := mcells B.out.m
      obtain ⟨e0_1, e1_1, e2_1, e3_1, e4_1, e5_1⟩ := B.out.ecells
      obtain ⟨r0_1, r1_1, r2_1, r3_1⟩ := mcells B.out.r
      go_wp2_with fail
      refine (se_keeps0 st A n cc bs _ (HB.out.old B.out.k)).mono ?_
      rintro e w9 ⟨Az, cz, rfl, ha, hk⟩
      have RR := B.out.r.kept hk (fun x => x)
      obtain ⟨q0, q1, q2, q3⟩ := mcells RR
      have HX := Lib.hid (And.intro ha hk)
      have RX := Lib.hid RR
      clear ha hk RR
      go_wp2
      refine bodyPost_ret (ret_mach (p := 4) (u := 5) rfl _ _ (w.heap.size + 1 + 1) _ _ _ rfl rfl (fin_blk RX.out)) rfl (res_fin2 (st := st) (hd := 0) (l := []) (n := 0) rfl HX.out.1 RX.out (B.out.k.trans HX.out.2) (by omega))
    · have hP : Sm.pAgr ⟨st, hd⟩ 6 3 c s d = (⟨st, hd⟩, [Sm.send 4, Sm.set 3 (hd / 3)]) := by simp [Sm.pAgr, hh]
      rw [hP]
      have HH := Lib.hid (show 0 < hd by omega)
      clear hP hh
      have B0 := Bx.make (w := w) (st := st) (hd := hd) (kd := 6) (ho := ho) (x := 3) (c := c) (s := s) (A := A) (n := n) (cc := cc)
      go_enter Tryd.func98, Tryd.ntmps98
      go_upto_region 1 with fail
      change Code.wp _ _ _ _ (((w.alloc (.cells #[.int .i64 st, .int .i64 hd] 24)).alloc (.cells #[.int .i64 6, .int .u8 3, .int .i64 ho, .int .u8 c, .int .u8 s, .slice A n cc] 31)).alloc (.cells #[.int .i64 0, .int .i64 0] 24))
      generalize ((w.alloc (.cells #[.int .i64 st, .int .i64 hd] 24)).alloc (.cells #[.int .i64 6, .int .u8 3, .int .i64 ho, .int .u8 c, .int .u8 s, .slice A n cc] 31)).alloc (.cells #[.int .i64 0, .int .i64 0] 24) = W0 at *
      have B := Lib.hid B0
      clear B0
      obtain ⟨m0_0, m1_0, m2_0, m3_0⟩ := mcells B.out.m
      obtain ⟨e0_0, e1_0, e2_0, e3_0, e4_0, e5_0⟩ := B.out.ecells
      obtain ⟨r0_0, r1_0, r2_0, r3_0⟩ := mcells B.out.r
      go_wp2_with fail
      refine (se_rings 6 ho 3 c s 3 A n cc true (by rfl) _).mono ?_
      rintro e w_1 ⟨rfl, hk⟩
      replace B := Lib.hid (B.out.old hk)
      clear hk
      clear m0_0 m1_0 m2_0 m3_0 e0_0 e1_0 e2_0 e3_0 e4_0 e5_0 r0_0 r1_0 r2_0 r3_0
      obtain ⟨m0_1, m1_1, m2_1, m3_1⟩ := mcells B.out.m
      obtain ⟨e0_1, e1_1, e2_1, e3_1, e4_1, e5_1⟩ := B.out.ecells
      obtain ⟨r0_1, r1_1, r2_1, r3_1⟩ := mcells B.out.r
      go_wp2_with fail
      refine (se_keeps1 st hd HH.out HD.out A n cc bs _ (HB.out.old B.out.k)).mono ?_
      rintro e w9 ⟨Az, cz, rfl, ha, hk⟩
      have RR := B.out.r.kept hk (fun x => x)
      obtain ⟨q0, q1, q2, q3⟩ := mcells RR
      have HX := Lib.hid (And.intro ha hk)
      have RX := Lib.hid RR
      clear ha hk RR
      go_wp2
      refine bodyPost_ret (ret_mach (p := 4) (u := 5) rfl _ _ (w.heap.size + 1 + 1) _ _ _ rfl rfl (fin_blk RX.out)) rfl (res_fin2 (st := st) (hd := hd) (l := [Sm.send 4, Sm.set 3 (hd / 3)]) (n := 2) rfl HX.out.1 RX.out (B.out.k.trans HX.out.2) (by omega))
  have HQ : Hid ((decide (kd = 6) && decide (x = 3)) = false) := Lib.hid (by simpa using h63)
  have hP : Sm.pAgr ⟨st, hd⟩ kd x c s d = Sm.pConn ⟨st, hd⟩ kd x c s d := by simp [Sm.pAgr, h2, h63]
  rw [hP]
  clear hP h2 h63
  have B0 := Bx.make (w := w) (st := st) (hd := hd) (kd := kd) (ho := ho) (x := x) (c := c) (s := s) (A := A) (n := n) (cc := cc)
  go_enter Tryd.func98, Tryd.ntmps98
  go_upto_region 1 with fail
  change Code.wp _ _ _ _ (((w.alloc (.cells #[.int .i64 st, .int .i64 hd] 24)).alloc (.cells #[.int .i64 kd, .int .u8 x, .int .i64 ho, .int .u8 c, .int .u8 s, .slice A n cc] 31)).alloc (.cells #[.int .i64 0, .int .i64 0] 24))
  generalize ((w.alloc (.cells #[.int .i64 st, .int .i64 hd] 24)).alloc (.cells #[.int .i64 kd, .int .u8 x, .int .i64 ho, .int .u8 c, .int .u8 s, .slice A n cc] 31)).alloc (.cells #[.int .i64 0, .int .i64 0] 24) = W0 at *
  have B := Lib.hid B0
  clear B0
  obtain ⟨m0_0, m1_0, m2_0, m3_0⟩ := mcells B.out.m
  obtain ⟨e0_0, e1_0, e2_0, e3_0, e4_0, e5_0⟩ := B.out.ecells
  obtain ⟨r0_0, r1_0, r2_0, r3_0⟩ := mcells B.out.r
  go_wp2_with fail
  refine (se_rings kd ho x c s 3 A n cc false HQ.out _).mono ?_
  rintro e w_1 ⟨rfl, hk⟩
  replace B := Lib.hid (B.out.old hk)
  clear hk
  clear m0_0 m1_0 m2_0 m3_0 e0_0 e1_0 e2_0 e3_0 e4_0 e5_0 r0_0 r1_0 r2_0 r3_0
  obtain ⟨m0_1, m1_1, m2_1, m3_1⟩ := mcells B.out.m
  obtain ⟨e0_1, e1_1, e2_1, e3_1, e4_1, e5_1⟩ := B.out.ecells
  obtain ⟨r0_1, r1_1, r2_1, r3_1⟩ := mcells B.out.r
  go_wp2_with fail
  refine (se_connected st hd HS.out.1 HS.out.2 kd ho x c s A n cc d bs _ (HR.out.old B.out.k) (HB.out.old B.out.k) (HC.out.old B.out.k)).mono ?_
  rintro e w9 ⟨Az, cz, rfl, ha, hk⟩
  have RR := B.out.r.kept hk (fun x => x)
  obtain ⟨q0, q1, q2, q3⟩ := mcells RR
  have HX := Lib.hid (And.intro ha hk)
  have RX := Lib.hid RR
  clear ha hk RR
  go_wp2
  refine bodyPost_ret (ret_mach (p := 4) (u := 5) rfl _ _ (w.heap.size + 1 + 1) _ _ _ rfl rfl (fin_blk RX.out)) rfl (B.out.on HX.out.1 HX.out.2)
end Go.Proofs.YtembdobkgpojfaaDoor
