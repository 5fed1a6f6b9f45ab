
/-
  session: seeking, idle.
-/
import Derived.Test.YtembdobkgpojfaaDoorSMi
namespace Go.Proofs.YtembdobkgpojfaaDoor
open Go.RowKit

set_option maxRecDepth 100000 in
set_option maxHeartbeats 8000000 in
theorem se_seeking (st hd : Nat) (kd ho : Int) (x c s : Nat) (A : Option Addr) (n cc : Nat) (bs : List UInt8) (w : World) (hb : By w (.slice A n cc) bs) :
    Calls Tryd.prog 77 #[.agg #[.int .i64 st, .int .i64 hd], .agg #[.int .i64 kd, .int .u8 x, .int .i64 ho, .int .u8 c, .int .u8 s, .slice A n cc]] w fun e w' => Res .u8 w w' e (Sm.pSeek ⟨st, hd⟩ kd x) bs := by
  have HB := Lib.hid hb
  clear hb
  by_cases h2 : kd = 2
  · subst h2
    have hP : Sm.pSeek ⟨st, hd⟩ 2 x = Sm.ends st true 0 0 false := by simp [Sm.pSeek]
    rw [hP]
    clear hP
    have B0 := Bx.make (w := w) (st := st) (hd := hd) (kd := 2) (ho := ho) (x := x) (c := c) (s := s) (A := A) (n := n) (cc := cc)
    go_enter Tryd.func77, Tryd.ntmps77
    go_upto_region 1 with fail
    change Code.wp _ _ _ _ (((w.alloc (.cells #[.int .i64 st, .int .i64 hd] 24)).alloc (.cells #[.int .i64 2, .int .u8 x, .int .i64 ho, .int .u8 c, .int .u8 s, .slice A n cc] 31)).alloc (.cells #[.int .i64 0, .int .i64 0] 24))
    generalize ((w.alloc (.cells #[.int .i64 st, .int .i64 hd] 24)).alloc (.cells #[.int .i64 2, .int .u8 x, .int .i64 ho, .int .u8 c, .int .u8 s, .slice A n cc] 31)).alloc (.cells #[.int .i64 0, .int .i64 0] 24) = W0 at *
    have B := Lib.hid B0
    clear B0
    obtain ⟨m0_0, m1_0, m2_0, m3_0⟩ := mcells B.out.m
    obtain ⟨e0_0, e1_0, e2_0, e3_0, e4_0, e5_0⟩ := B.out.ecells
    obtain ⟨r0_0, r1_0, r2_0, r3_0⟩ := mcells B.out.r
    go_wp2_with fail
    refine ((se_halts st hd 0 0 none 0 0 false A n cc bs w _ B.out.k HB.out (clo_nil w A n cc bs HB.out)).mono (fun _ _ h => h.res B.out.k)).mono ?_
    rintro e w9 ⟨Az, cz, rfl, ha, hk⟩
    have RR := B.out.r.kept hk (fun x => x)
    obtain ⟨q0, q1, q2, q3⟩ := mcells RR
    have HX := Lib.hid (And.intro ha hk)
    have RX := Lib.hid RR
    clear ha hk RR
    go_wp2
    refine bodyPost_ret (ret_mach (p := 4) (u := 5) rfl _ _ (w.heap.size + 1 + 1) _ _ _ rfl rfl (fin_blk RX.out)) rfl (B.out.on HX.out.1 HX.out.2)
  by_cases h3 : kd = 3
  · subst h3
    have hP : Sm.pSeek ⟨st, hd⟩ 3 x = (⟨4, hd⟩, [Sm.unset 1, Sm.send 1, Sm.set 2 240]) := by simp [Sm.pSeek]
    rw [hP]
    clear hP h2
    have B0 := Bx.make (w := w) (st := st) (hd := hd) (kd := 3) (ho := ho) (x := x) (c := c) (s := s) (A := A) (n := n) (cc := cc)
    go_enter Tryd.func77, Tryd.ntmps77
    go_upto_region 1 with fail
    change Code.wp _ _ _ _ (((w.alloc (.cells #[.int .i64 st, .int .i64 hd] 24)).alloc (.cells #[.int .i64 3, .int .u8 x, .int .i64 ho, .int .u8 c, .int .u8 s, .slice A n cc] 31)).alloc (.cells #[.int .i64 0, .int .i64 0] 24))
    generalize ((w.alloc (.cells #[.int .i64 st, .int .i64 hd] 24)).alloc (.cells #[.int .i64 3, .int .u8 x, .int .i64 ho, .int .u8 c, .int .u8 s, .slice A n cc] 31)).alloc (.cells #[.int .i64 0, .int .i64 0] 24) = W0 at *
    have B := Lib.hid B0
    clear B0
    obtain ⟨m0_0, m1_0, m2_0, m3_0⟩ := mcells B.out.m
    obtain ⟨e0_0, e1_0, e2_0, e3_0, e4_0, e5_0⟩ := B.out.ecells
    obtain ⟨r0_0, r1_0, r2_0, r3_0⟩ := mcells B.out.r
    go_upto_region 5 with fail
    have B1 := Lib.hid (B.out.state 4)
    clear B m0_0 m1_0 m2_0 m3_0 e0_0 e1_0 e2_0 e3_0 e4_0 e5_0 r0_0 r1_0 r2_0 r3_0
    have B := B1
    clear B1
    generalize World.setCell _ ⟨w.heap.size, 0, none⟩ (.int .i64 4) = w_1 at *
    refine wp_mach w (w.heap.size) (w.heap.size + 1 + 1) 5 _ (4) (hd) 0 0 #[.int .i64 4, .int .i64 hd] [some (.agg #[.int .i64 4, .int .i64 hd]), some (.agg #[.int .i64 4, .int .u8 1, .int .i64 0, .int .u8 0, .int .u8 0, .slice none 0 0]), some (.agg #[.int .i64 1, .int .u8 1, .int .i64 0, .int .u8 0, .int .u8 0, .slice none 0 0]), some (.agg #[.int .i64 3, .int .u8 2, .int .i64 240, .int .u8 0, .int .u8 0, .slice none 0 0]), none, none, none] 4 6 3 #[.int .i64 4, .int .u8 1, .int .i64 0, .int .u8 0, .int .u8 0, .slice none 0 0, .int .i64 1, .int .u8 1, .int .i64 0, .int .u8 0, .int .u8 0, .slice none 0 0, .int .i64 3, .int .u8 2, .int .i64 240, .int .u8 0, .int .u8 0, .slice none 0 0] rfl (by omega) (by kernel_rfl) (by decide +kernel) (by intro d hd; simp [dsts] at hd ⊢; omega) (by rfl) (ready_nil2 (by kernel_rfl)) (by omega) B.out.k B.out.m B.out.r (fun v u => mf_none rfl (by decide) (by decide)) ?_ ?_ ?_
    · refine oweM_cons ?_ ?_
      · intro _
        intro u a hk hM hR hf hfar
        have v2 : a.tmps.getD 2 undef = .pointer (some ⟨w.heap.size, 0, none⟩) := hfar 2 (by decide)
        have w2 := v2
        rw [Array.getD_eq_getD_getElem?] at w2
        obtain ⟨c0, c1, -, -⟩ := mcells hM
        clear hf hfar hM hR
        go_simp
        exact ⟨_, rfl, Kept.refl _ _, mf_val rfl (by decide) (by decide)⟩
      refine oweM_cons ?_ ?_
      · intro _
        intro u a hk hM hR hf hfar
        clear hf hfar hM hR
        go_simp
        refine (se_unset 1 u).mono ?_
        rintro e u' ⟨rfl, hk'⟩
        exact ⟨_, rfl, hk', mf_val rfl (by decide) (by decide)⟩
      refine oweM_cons ?_ ?_
      · intro _
        intro u a hk hM hR hf hfar
        clear hf hfar hM hR
        go_simp
        refine (se_send 1 u).mono ?_
        rintro e u' ⟨rfl, hk'⟩
        exact ⟨_, rfl, hk', mf_val rfl (by decide) (by decide)⟩
      refine oweM_cons ?_ ?_
      · intro _
        intro u a hk hM hR hf hfar
        clear hf hfar hM hR
        go_simp
        refine (se_set 2 240 u).mono ?_
        rintro e u' ⟨rfl, hk'⟩
        exact ⟨_, rfl, hk', mf_val rfl (by decide) (by decide)⟩
      refine oweM_cons ?_ ?_
      · intro _
        intro u a hk hM hR hf hfar
        have v21 : a.tmps.getD 21 undef = .agg #[.int .i64 4, .int .u8 1, .int .i64 0, .int .u8 0, .int .u8 0, .slice none 0 0] := (hf 1 _ 21 rfl rfl ⟨⟨1, .data⟩, Array.mem_of_getElem? (i := 0) rfl, rfl, rfl⟩).1 _ rfl
        have w21 := v21
        rw [Array.getD_eq_getD_getElem?] at w21
        have v22 : a.tmps.getD 22 undef = .agg #[.int .i64 1, .int .u8 1, .int .i64 0, .int .u8 0, .int .u8 0, .slice none 0 0] := (hf 2 _ 22 rfl rfl ⟨⟨2, .data⟩, Array.mem_of_getElem? (i := 1) rfl, rfl, rfl⟩).1 _ rfl
        have w22 := v22
        rw [Array.getD_eq_getD_getElem?] at w22
        have v23 : a.tmps.getD 23 undef = .agg #[.int .i64 3, .int .u8 2, .int .i64 240, .int .u8 0, .int .u8 0, .slice none 0 0] := (hf 3 _ 23 rfl rfl ⟨⟨3, .data⟩, Array.mem_of_getElem? (i := 2) rfl, rfl, rfl⟩).1 _ rfl
        have w23 := v23
        rw [Array.getD_eq_getD_getElem?] at w23
        obtain ⟨cs, hR⟩ := hR
        have hne : u.heap.size ≠ w.heap.size + 1 + 1 := fun e => by have := hR.lt; omega
        clear hf hfar hM hR
        have HNE := Lib.hid hne
        clear hne
        go_simp
        exact ⟨_, rfl, (Kept.refl _ _).alloc _, mf_row rfl HNE.out (Blk.fresh _ _ _)⟩
      refine oweM_cons ?_ ?_
      · intro hh
        exact absurd rfl hh
      refine oweM_cons ?_ ?_
      · intro _
        intro u a hk hM hR hf hfar
        obtain ⟨b24, hb24, v24, hB24⟩ := (hf 4 _ 24 rfl rfl ⟨⟨4, .data⟩, Array.mem_of_getElem? (i := 0) rfl, rfl, rfl⟩).2 (by first | exact .inl rfl | exact .inr rfl)
        have w24 := v24
        rw [Array.getD_eq_getD_getElem?] at w24
        clear hf hfar hM hR
        go_simp
        exact ⟨_, rfl, Kept.refl _ _, mf_row rfl hb24 hB24⟩
      exact oweM_nil
    · intro u a hR hf hfar
      have v4 : a.tmps.getD 4 undef = .pointer (some ⟨w.heap.size + 1 + 1, 0, none⟩) := hfar 4 (by decide)
      have w4 := v4
      rw [Array.getD_eq_getD_getElem?] at w4
      have v20 : a.tmps.getD 20 undef = .agg #[.int .i64 4, .int .i64 hd] := (hf 0 _ 20 rfl rfl ⟨⟨0, .data⟩, Array.mem_of_getElem? (i := 0) rfl, rfl, rfl⟩).1 _ rfl
      have w20 := v20
      rw [Array.getD_eq_getD_getElem?] at w20
      obtain ⟨r0, r1, g0, g1⟩ := mcells hR
      clear hf hfar hR
      go_simp
      first | done | exact ⟨_, rfl, rfl⟩
    · intro vals u hk hB hV
      obtain ⟨b, hb, hv, hBb⟩ := (hV 6 _ 5 rfl rfl).2 (.inr rfl)
      clear hV
      simp [putAll, Act.put, Array.setIfInBounds, hv]
      generalize vals 0 = z0
      generalize vals 1 = z1
      generalize vals 2 = z2
      generalize vals 3 = z3
      generalize vals 4 = z4
      go_wp2
      refine bodyPost_ret (ret_mach rfl _ _ (w.heap.size + 1 + 1) _ _ _ rfl rfl hB) rfl ⟨_, _, rfl, Acs.fresh (n := 3) (c := 3) (HB.out.old hk) (l := [Sm.unset 1, Sm.send 1, Sm.set 2 240]) hBb rfl (by decide) (by decide) (by decide), hk⟩
  by_cases h4 : kd = 4
  · subst h4
    have hP : Sm.pSeek ⟨st, hd⟩ 4 x = (⟨3, hd⟩, [Sm.set 1 120]) := by simp [Sm.pSeek]
    rw [hP]
    clear hP h2 h3
    have B0 := Bx.make (w := w) (st := st) (hd := hd) (kd := 4) (ho := ho) (x := x) (c := c) (s := s) (A := A) (n := n) (cc := cc)
    go_enter Tryd.func77, Tryd.ntmps77
    go_upto_region 1 with fail
    change Code.wp _ _ _ _ (((w.alloc (.cells #[.int .i64 st, .int .i64 hd] 24)).alloc (.cells #[.int .i64 4, .int .u8 x, .int .i64 ho, .int .u8 c, .int .u8 s, .slice A n cc] 31)).alloc (.cells #[.int .i64 0, .int .i64 0] 24))
    generalize ((w.alloc (.cells #[.int .i64 st, .int .i64 hd] 24)).alloc (.cells #[.int .i64 4, .int .u8 x, .int .i64 ho, .int .u8 c, .int .u8 s, .slice A n cc] 31)).alloc (.cells #[.int .i64 0, .int .i64 0] 24) = W0 at *
    have B := Lib.hid B0
    clear B0
    obtain ⟨m0_0, m1_0, m2_0, m3_0⟩ := mcells B.out.m
    obtain ⟨e0_0, e1_0, e2_0, e3_0, e4_0, e5_0⟩ := B.out.ecells
    obtain ⟨r0_0, r1_0, r2_0, r3_0⟩ := mcells B.out.r
    go_upto_region 8 with fail
    have B1 := Lib.hid (B.out.state 3)
    clear B m0_0 m1_0 m2_0 m3_0 e0_0 e1_0 e2_0 e3_0 e4_0 e5_0 r0_0 r1_0 r2_0 r3_0
    have B := B1
    clear B1
    generalize World.setCell _ ⟨w.heap.size, 0, none⟩ (.int .i64 3) = w_1 at *
    refine wp_mach w (w.heap.size) (w.heap.size + 1 + 1) 3 _ (3) (hd) 0 0 #[.int .i64 3, .int .i64 hd] [some (.agg #[.int .i64 3, .int .i64 hd]), some (.agg #[.int .i64 3, .int .u8 1, .int .i64 120, .int .u8 0, .int .u8 0, .slice none 0 0]), none, none, none] 2 4 1 #[.int .i64 3, .int .u8 1, .int .i64 120, .int .u8 0, .int .u8 0, .slice none 0 0] rfl (by omega) (by kernel_rfl) (by decide +kernel) (by intro d hd; simp [dsts] at hd ⊢; omega) (by rfl) (ready_nil2 (by kernel_rfl)) (by omega) B.out.k B.out.m B.out.r (fun v u => mf_none rfl (by decide) (by decide)) ?_ ?_ ?_
    · refine oweM_cons ?_ ?_
      · intro _
        intro u a hk hM hR hf hfar
        have v2 : a.tmps.getD 2 undef = .pointer (some ⟨w.heap.size, 0, none⟩) := hfar 2 (by decide)
        have w2 := v2
        rw [Array.getD_eq_getD_getElem?] at w2
        obtain ⟨c0, c1, -, -⟩ := mcells hM
        clear hf hfar hM hR
        go_simp
        exact ⟨_, rfl, Kept.refl _ _, mf_val rfl (by decide) (by decide)⟩
      refine oweM_cons ?_ ?_
      · intro _
        intro u a hk hM hR hf hfar
        clear hf hfar hM hR
        go_simp
        refine (se_set 1 120 u).mono ?_
        rintro e u' ⟨rfl, hk'⟩
        exact ⟨_, rfl, hk', mf_val rfl (by decide) (by decide)⟩
      refine oweM_cons ?_ ?_
      · intro _
        intro u a hk hM hR hf hfar
        have v31 : a.tmps.getD 31 undef = .agg #[.int .i64 3, .int .u8 1, .int .i64 120, .int .u8 0, .int .u8 0, .slice none 0 0] := (hf 1 _ 31 rfl rfl ⟨⟨1, .data⟩, Array.mem_of_getElem? (i := 0) rfl, rfl, rfl⟩).1 _ rfl
        have w31 := v31
        rw [Array.getD_eq_getD_getElem?] at w31
        obtain ⟨cs, hR⟩ := hR
        have hne : u.heap.size ≠ w.heap.size + 1 + 1 := fun e => by have := hR.lt; omega
        clear hf hfar hM hR
        have HNE := Lib.hid hne
        clear hne
        go_simp
        exact ⟨_, rfl, (Kept.refl _ _).alloc _, mf_row rfl HNE.out (Blk.fresh _ _ _)⟩
      refine oweM_cons ?_ ?_
      · intro hh
        exact absurd rfl hh
      refine oweM_cons ?_ ?_
      · intro _
        intro u a hk hM hR hf hfar
        obtain ⟨b32, hb32, v32, hB32⟩ := (hf 2 _ 32 rfl rfl ⟨⟨2, .data⟩, Array.mem_of_getElem? (i := 0) rfl, rfl, rfl⟩).2 (by first | exact .inl rfl | exact .inr rfl)
        have w32 := v32
        rw [Array.getD_eq_getD_getElem?] at w32
        clear hf hfar hM hR
        go_simp
        exact ⟨_, rfl, Kept.refl _ _, mf_row rfl hb32 hB32⟩
      exact oweM_nil
    · intro u a hR hf hfar
      have v4 : a.tmps.getD 4 undef = .pointer (some ⟨w.heap.size + 1 + 1, 0, none⟩) := hfar 4 (by decide)
      have w4 := v4
      rw [Array.getD_eq_getD_getElem?] at w4
      have v30 : a.tmps.getD 30 undef = .agg #[.int .i64 3, .int .i64 hd] := (hf 0 _ 30 rfl rfl ⟨⟨0, .data⟩, Array.mem_of_getElem? (i := 0) rfl, rfl, rfl⟩).1 _ rfl
      have w30 := v30
      rw [Array.getD_eq_getD_getElem?] at w30
      obtain ⟨r0, r1, g0, g1⟩ := mcells hR
      clear hf hfar hR
      go_simp
      first | done | exact ⟨_, rfl, rfl⟩
    · intro vals u hk hB hV
      obtain ⟨b, hb, hv, hBb⟩ := (hV 4 _ 5 rfl rfl).2 (.inr rfl)
      clear hV
      simp [putAll, Act.put, Array.setIfInBounds, hv]
      generalize vals 0 = z0
      generalize vals 1 = z1
      generalize vals 2 = z2
      go_wp2
      refine bodyPost_ret (ret_mach rfl _ _ (w.heap.size + 1 + 1) _ _ _ rfl rfl hB) rfl ⟨_, _, rfl, Acs.fresh (n := 1) (c := 1) (HB.out.old hk) (l := [Sm.set 1 120]) hBb rfl (by decide) (by decide) (by decide), hk⟩
  by_cases h6 : kd = 6 ∧ x = 1
  · obtain ⟨rfl, rfl⟩ := h6
    have hP : Sm.pSeek ⟨st, hd⟩ 6 1 = (⟨2, hd⟩, [Sm.set 1 120, Sm.a0 6]) := by simp [Sm.pSeek]
    rw [hP]
    clear hP h2 h3 h4
    have B0 := Bx.make (w := w) (st := st) (hd := hd) (kd := 6) (ho := ho) (x := 1) (c := c) (s := s) (A := A) (n := n) (cc := cc)
    go_enter Tryd.func77, Tryd.ntmps77
    go_upto_region 1 with fail
    change Code.wp _ _ _ _ (((w.alloc (.cells #[.int .i64 st, .int .i64 hd] 24)).alloc (.cells #[.int .i64 6, .int .u8 1, .int .i64 ho, .int .u8 c, .int .u8 s, .slice A n cc] 31)).alloc (.cells #[.int .i64 0, .int .i64 0] 24))
    generalize ((w.alloc (.cells #[.int .i64 st, .int .i64 hd] 24)).alloc (.cells #[.int .i64 6, .int .u8 1, .int .i64 ho, .int .u8 c, .int .u8 s, .slice A n cc] 31)).alloc (.cells #[.int .i64 0, .int .i64 0] 24) = W0 at *
    have B := Lib.hid B0
    clear B0
    obtain ⟨m0_0, m1_0, m2_0, m3_0⟩ := mcells B.out.m
    obtain ⟨e0_0, e1_0, e2_0, e3_0, e4_0, e5_0⟩ := B.out.ecells
    obtain ⟨r0_0, r1_0, r2_0, r3_0⟩ := mcells B.out.r
    go_wp2_with fail
    refine (se_rings 6 ho 1 c s 1 A n cc true (by rfl) _).mono ?_
    rintro e w_1 ⟨rfl, hk⟩
    replace B := Lib.hid (B.out.old hk)
    clear hk
    clear m0_0 m1_0 m2_0 m3_0 e0_0 e1_0 e2_0 e3_0 e4_0 e5_0 r0_0 r1_0 r2_0 r3_0
    obtain ⟨m0_1, m1_1, m2_1, m3_1⟩ := mcells B.out.m
    obtain ⟨e0_1, e1_1, e2_1, e3_1, e4_1, e5_1⟩ := B.out.ecells
    obtain ⟨r0_1, r1_1, r2_1, r3_1⟩ := mcells B.out.r
    go_wp2_with fail
    refine (se_dials st hd A n cc bs _ (HB.out.old B.out.k)).mono ?_
    rintro e w9 ⟨Az, cz, rfl, ha, hk⟩
    have RR := B.out.r.kept hk (fun x => x)
    obtain ⟨q0, q1, q2, q3⟩ := mcells RR
    have HX := Lib.hid (And.intro ha hk)
    have RX := Lib.hid RR
    clear ha hk RR
    go_wp2
    refine bodyPost_ret (ret_mach (p := 4) (u := 5) rfl _ _ (w.heap.size + 1 + 1) _ _ _ rfl rfl (fin_blk RX.out)) rfl (res_fin2 (st := 2) (hd := hd) (l := [Sm.set 1 120, Sm.a0 6]) (n := 2) rfl HX.out.1 RX.out (B.out.k.trans HX.out.2) (by omega))
  have hP : Sm.pSeek ⟨st, hd⟩ kd x = (⟨st, hd⟩, []) := by simp [Sm.pSeek, h2, h3, h4, h6]
  rw [hP]
  have HQ : Hid ((decide (kd = 6) && decide (x = 1)) = false) := Lib.hid (by simpa using h6)
  have k2 : (kd == 2) = false := by simpa using h2
  have k3 : (kd == 3) = false := by simpa using h3
  have k4 : (kd == 4) = false := by simpa using h4
  clear hP h2 h3 h4 h6
  have B0 := Bx.make (w := w) (st := st) (hd := hd) (kd := kd) (ho := ho) (x := x) (c := c) (s := s) (A := A) (n := n) (cc := cc)
  go_enter Tryd.func77, Tryd.ntmps77
  go_upto_region 1 with fail
  change Code.wp _ _ _ _ (((w.alloc (.cells #[.int .i64 st, .int .i64 hd] 24)).alloc (.cells #[.int .i64 kd, .int .u8 x, .int .i64 ho, .int .u8 c, .int .u8 s, .slice A n cc] 31)).alloc (.cells #[.int .i64 0, .int .i64 0] 24))
  generalize ((w.alloc (.cells #[.int .i64 st, .int .i64 hd] 24)).alloc (.cells #[.int .i64 kd, .int .u8 x, .int .i64 ho, .int .u8 c, .int .u8 s, .slice A n cc] 31)).alloc (.cells #[.int .i64 0, .int .i64 0] 24) = W0 at *
  have B := Lib.hid B0
  clear B0
  obtain ⟨m0_0, m1_0, m2_0, m3_0⟩ := mcells B.out.m
  obtain ⟨e0_0, e1_0, e2_0, e3_0, e4_0, e5_0⟩ := B.out.ecells
  obtain ⟨r0_0, r1_0, r2_0, r3_0⟩ := mcells B.out.r
  go_wp2_with fail
  refine (se_rings kd ho x c s 1 A n cc false HQ.out _).mono ?_
  rintro e w_1 ⟨rfl, hk⟩
  replace B := Lib.hid (B.out.old hk)
  clear hk
  clear m0_0 m1_0 m2_0 m3_0 e0_0 e1_0 e2_0 e3_0 e4_0 e5_0 r0_0 r1_0 r2_0 r3_0
  obtain ⟨m0_1, m1_1, m2_1, m3_1⟩ := mcells B.out.m
  obtain ⟨e0_1, e1_1, e2_1, e3_1, e4_1, e5_1⟩ := B.out.ecells
  obtain ⟨r0_1, r1_1, r2_1, r3_1⟩ := mcells B.out.r
  go_wp2
  refine bodyPost_ret (ret_mach rfl _ _ (w.heap.size + 1 + 1) _ _ _ rfl rfl (fin_blk B.out.r)) rfl (res_fin2 (n := 0) rfl (Acs.nil _ _ _ _ _ _ (HB.out.old B.out.k)) B.out.r B.out.k (by omega))
set_option maxRecDepth 100000 in
set_option maxHeartbeats 8000000 in
theorem se_idle (st hd : Nat) (kd ho : Int) (x c s : Nat) (A : Option Addr) (n cc : Nat) (bs : List UInt8) (w : World) (hb : By w (.slice A n cc) bs) :
    Calls Tryd.prog 57 #[.agg #[.int .i64 st, .int .i64 hd], .agg #[.int .i64 kd, .int .u8 x, .int .i64 ho, .int .u8 c, .int .u8 s, .slice A n cc]] w fun e w' => Res .u8 w w' e (Sm.pIdle ⟨st, hd⟩ kd x) bs := by
  have HB := Lib.hid hb
  clear hb
  by_cases h1 : kd = 1
  · subst h1
    have hP : Sm.pIdle ⟨st, hd⟩ 1 x = (⟨2, hd⟩, [Sm.set 1 120, Sm.a0 6]) := by simp [Sm.pIdle]
    rw [hP]
    clear hP
    have B0 := Bx.make (w := w) (st := st) (hd := hd) (kd := 1) (ho := ho) (x := x) (c := c) (s := s) (A := A) (n := n) (cc := cc)
    go_enter Tryd.func57, Tryd.ntmps57
    go_upto_region 1 with fail
    change Code.wp _ _ _ _ (((w.alloc (.cells #[.int .i64 st, .int .i64 hd] 24)).alloc (.cells #[.int .i64 1, .int .u8 x, .int .i64 ho, .int .u8 c, .int .u8 s, .slice A n cc] 31)).alloc (.cells #[.int .i64 0, .int .i64 0] 24))
    generalize ((w.alloc (.cells #[.int .i64 st, .int .i64 hd] 24)).alloc (.cells #[.int .i64 1, .int .u8 x, .int .i64 ho, .int .u8 c, .int .u8 s, .slice A n cc] 31)).alloc (.cells #[.int .i64 0, .int .i64 0] 24) = W0 at *
    have B := Lib.hid B0
    clear B0
    obtain ⟨m0_0, m1_0, m2_0, m3_0⟩ := mcells B.out.m
    obtain ⟨e0_0, e1_0, e2_0, e3_0, e4_0, e5_0⟩ := B.out.ecells
    obtain ⟨r0_0, r1_0, r2_0, r3_0⟩ := mcells B.out.r
    go_wp2_with fail
    refine (se_dials st hd A n cc bs _ (HB.out.old B.out.k)).mono ?_
    rintro e w9 ⟨Az, cz, rfl, ha, hk⟩
    have RR := B.out.r.kept hk (fun x => x)
    obtain ⟨q0, q1, q2, q3⟩ := mcells RR
    have HX := Lib.hid (And.intro ha hk)
    have RX := Lib.hid RR
    clear ha hk RR
    go_wp2
    refine bodyPost_ret (ret_mach (p := 4) (u := 5) rfl _ _ (w.heap.size + 1 + 1) _ _ _ rfl rfl (fin_blk RX.out)) rfl (res_fin2 (st := 2) (hd := hd) (l := [Sm.set 1 120, Sm.a0 6]) (n := 2) rfl HX.out.1 RX.out (B.out.k.trans HX.out.2) (by omega))
  by_cases h6 : kd = 6 ∧ x = 1
  · obtain ⟨rfl, rfl⟩ := h6
    have hP : Sm.pIdle ⟨st, hd⟩ 6 1 = (⟨2, hd⟩, [Sm.set 1 120, Sm.a0 6]) := by simp [Sm.pIdle]
    rw [hP]
    clear hP h1
    have B0 := Bx.make (w := w) (st := st) (hd := hd) (kd := 6) (ho := ho) (x := 1) (c := c) (s := s) (A := A) (n := n) (cc := cc)
    go_enter Tryd.func57, Tryd.ntmps57
    go_upto_region 1 with fail
    change Code.wp _ _ _ _ (((w.alloc (.cells #[.int .i64 st, .int .i64 hd] 24)).alloc (.cells #[.int .i64 6, .int .u8 1, .int .i64 ho, .int .u8 c, .int .u8 s, .slice A n cc] 31)).alloc (.cells #[.int .i64 0, .int .i64 0] 24))
    generalize ((w.alloc (.cells #[.int .i64 st, .int .i64 hd] 24)).alloc (.cells #[.int .i64 6, .int .u8 1, .int .i64 ho, .int .u8 c, .int .u8 s, .slice A n cc] 31)).alloc (.cells #[.int .i64 0, .int .i64 0] 24) = W0 at *
    have B := Lib.hid B0
    clear B0
    obtain ⟨m0_0, m1_0, m2_0, m3_0⟩ := mcells B.out.m
    obtain ⟨e0_0, e1_0, e2_0, e3_0, e4_0, e5_0⟩ := B.out.ecells
    obtain ⟨r0_0, r1_0, r2_0, r3_0⟩ := mcells B.out.r
    go_wp2_with fail
    refine (se_rings 6 ho 1 c s 1 A n cc true (by rfl) _).mono ?_
    rintro e w_1 ⟨rfl, hk⟩
    replace B := Lib.hid (B.out.old hk)
    clear hk
    clear m0_0 m1_0 m2_0 m3_0 e0_0 e1_0 e2_0 e3_0 e4_0 e5_0 r0_0 r1_0 r2_0 r3_0
    obtain ⟨m0_1, m1_1, m2_1, m3_1⟩ := mcells B.out.m
    obtain ⟨e0_1, e1_1, e2_1, e3_1, e4_1, e5_1⟩ := B.out.ecells
    obtain ⟨r0_1, r1_1, r2_1, r3_1⟩ := mcells B.out.r
    go_wp2_with fail
    refine (se_dials st hd A n cc bs _ (HB.out.old B.out.k)).mono ?_
    rintro e w9 ⟨Az, cz, rfl, ha, hk⟩
    have RR := B.out.r.kept hk (fun x => x)
    obtain ⟨q0, q1, q2, q3⟩ := mcells RR
    have HX := Lib.hid (And.intro ha hk)
    have RX := Lib.hid RR
    clear ha hk RR
    go_wp2
    refine bodyPost_ret (ret_mach (p := 4) (u := 5) rfl _ _ (w.heap.size + 1 + 1) _ _ _ rfl rfl (fin_blk RX.out)) rfl (res_fin2 (st := 2) (hd := hd) (l := [Sm.set 1 120, Sm.a0 6]) (n := 2) rfl HX.out.1 RX.out (B.out.k.trans HX.out.2) (by omega))
  by_cases h2 : kd = 2
  · subst h2
    have hP : Sm.pIdle ⟨st, hd⟩ 2 x = (⟨st, hd⟩, [Sm.unset 1]) := by simp [Sm.pIdle]
    rw [hP]
    clear hP h1 h6
    have B0 := Bx.make (w := w) (st := st) (hd := hd) (kd := 2) (ho := ho) (x := x) (c := c) (s := s) (A := A) (n := n) (cc := cc)
    go_enter Tryd.func57, Tryd.ntmps57
    go_upto_region 1 with fail
    change Code.wp _ _ _ _ (((w.alloc (.cells #[.int .i64 st, .int .i64 hd] 24)).alloc (.cells #[.int .i64 2, .int .u8 x, .int .i64 ho, .int .u8 c, .int .u8 s, .slice A n cc] 31)).alloc (.cells #[.int .i64 0, .int .i64 0] 24))
    generalize ((w.alloc (.cells #[.int .i64 st, .int .i64 hd] 24)).alloc (.cells #[.int .i64 2, .int .u8 x, .int .i64 ho, .int .u8 c, .int .u8 s, .slice A n cc] 31)).alloc (.cells #[.int .i64 0, .int .i64 0] 24) = W0 at *
    have B := Lib.hid B0
    clear B0
    obtain ⟨m0_0, m1_0, m2_0, m3_0⟩ := mcells B.out.m
    obtain ⟨e0_0, e1_0, e2_0, e3_0, e4_0, e5_0⟩ := B.out.ecells
    obtain ⟨r0_0, r1_0, r2_0, r3_0⟩ := mcells B.out.r
    go_wp2_with fail
    refine (se_rings 2 ho x c s 1 A n cc false (by rfl) _).mono ?_
    rintro e w_1 ⟨rfl, hk⟩
    replace B := Lib.hid (B.out.old hk)
    clear hk
    clear m0_0 m1_0 m2_0 m3_0 e0_0 e1_0 e2_0 e3_0 e4_0 e5_0 r0_0 r1_0 r2_0 r3_0
    obtain ⟨m0_1, m1_1, m2_1, m3_1⟩ := mcells B.out.m
    obtain ⟨e0_1, e1_1, e2_1, e3_1, e4_1, e5_1⟩ := B.out.ecells
    obtain ⟨r0_1, r1_1, r2_1, r3_1⟩ := mcells B.out.r
    go_upto_region 5 with fail
    refine wp_mach w (w.heap.size) (w.heap.size + 1 + 1) 3 _ (st) (hd) 0 0 #[.int .i64 st, .int .i64 hd] [some (.agg #[.int .i64 st, .int .i64 hd]), some (.agg #[.int .i64 4, .int .u8 1, .int .i64 0, .int .u8 0, .int .u8 0, .slice none 0 0]), none, none, none] 2 4 1 #[.int .i64 4, .int .u8 1, .int .i64 0, .int .u8 0, .int .u8 0, .slice none 0 0] rfl (by omega) (by kernel_rfl) (by decide +kernel) (by intro d hd; simp [dsts] at hd ⊢; omega) (by rfl) (ready_nil2 (by kernel_rfl)) (by omega) B.out.k B.out.m B.out.r (fun v u => mf_none rfl (by decide) (by decide)) ?_ ?_ ?_
    · refine oweM_cons ?_ ?_
      · intro _
        intro u a hk hM hR hf hfar
        have v2 : a.tmps.getD 2 undef = .pointer (some ⟨w.heap.size, 0, none⟩) := hfar 2 (by decide)
        have w2 := v2
        rw [Array.getD_eq_getD_getElem?] at w2
        obtain ⟨c0, c1, -, -⟩ := mcells hM
        clear hf hfar hM hR
        go_simp
        exact ⟨_, rfl, Kept.refl _ _, mf_val rfl (by decide) (by decide)⟩
      refine oweM_cons ?_ ?_
      · intro _
        intro u a hk hM hR hf hfar
        clear hf hfar hM hR
        go_simp
        refine (se_unset 1 u).mono ?_
        rintro e u' ⟨rfl, hk'⟩
        exact ⟨_, rfl, hk', mf_val rfl (by decide) (by decide)⟩
      refine oweM_cons ?_ ?_
      · intro _
        intro u a hk hM hR hf hfar
        have v21 : a.tmps.getD 21 undef = .agg #[.int .i64 4, .int .u8 1, .int .i64 0, .int .u8 0, .int .u8 0, .slice none 0 0] := (hf 1 _ 21 rfl rfl ⟨⟨1, .data⟩, Array.mem_of_getElem? (i := 0) rfl, rfl, rfl⟩).1 _ rfl
        have w21 := v21
        rw [Array.getD_eq_getD_getElem?] at w21
        obtain ⟨cs, hR⟩ := hR
        have hne : u.heap.size ≠ w.heap.size + 1 + 1 := fun e => by have := hR.lt; omega
        clear hf hfar hM hR
        have HNE := Lib.hid hne
        clear hne
        go_simp
        exact ⟨_, rfl, (Kept.refl _ _).alloc _, mf_row rfl HNE.out (Blk.fresh _ _ _)⟩
      refine oweM_cons ?_ ?_
      · intro hh
        exact absurd rfl hh
      refine oweM_cons ?_ ?_
      · intro _
        intro u a hk hM hR hf hfar
        obtain ⟨b22, hb22, v22, hB22⟩ := (hf 2 _ 22 rfl rfl ⟨⟨2, .data⟩, Array.mem_of_getElem? (i := 0) rfl, rfl, rfl⟩).2 (by first | exact .inl rfl | exact .inr rfl)
        have w22 := v22
        rw [Array.getD_eq_getD_getElem?] at w22
        clear hf hfar hM hR
        go_simp
        exact ⟨_, rfl, Kept.refl _ _, mf_row rfl hb22 hB22⟩
      exact oweM_nil
    · intro u a hR hf hfar
      have v4 : a.tmps.getD 4 undef = .pointer (some ⟨w.heap.size + 1 + 1, 0, none⟩) := hfar 4 (by decide)
      have w4 := v4
      rw [Array.getD_eq_getD_getElem?] at w4
      have v20 : a.tmps.getD 20 undef = .agg #[.int .i64 st, .int .i64 hd] := (hf 0 _ 20 rfl rfl ⟨⟨0, .data⟩, Array.mem_of_getElem? (i := 0) rfl, rfl, rfl⟩).1 _ rfl
      have w20 := v20
      rw [Array.getD_eq_getD_getElem?] at w20
      obtain ⟨r0, r1, g0, g1⟩ := mcells hR
      clear hf hfar hR
      go_simp
      first | done | exact ⟨_, rfl, rfl⟩
    · intro vals u hk hB hV
      obtain ⟨b, hb, hv, hBb⟩ := (hV 4 _ 5 rfl rfl).2 (.inr rfl)
      clear hV
      simp [putAll, Act.put, Array.setIfInBounds, hv]
      generalize vals 0 = z0
      generalize vals 1 = z1
      generalize vals 2 = z2
      go_wp2
      refine bodyPost_ret (ret_mach rfl _ _ (w.heap.size + 1 + 1) _ _ _ rfl rfl hB) rfl ⟨_, _, rfl, Acs.fresh (n := 1) (c := 1) (HB.out.old hk) (l := [Sm.unset 1]) hBb rfl (by decide) (by decide) (by decide), hk⟩
  have hP : Sm.pIdle ⟨st, hd⟩ kd x = (⟨st, hd⟩, []) := by simp [Sm.pIdle, h1, h6, h2]
  rw [hP]
  have HQ : Hid ((decide (kd = 6) && decide (x = 1)) = false) := Lib.hid (by simpa using h6)
  have k2 : (kd == 2) = false := by simpa using h2
  have k1 : (kd == 1) = false := by simpa using h1
  clear hP h2 h1 h6
  have B0 := Bx.make (w := w) (st := st) (hd := hd) (kd := kd) (ho := ho) (x := x) (c := c) (s := s) (A := A) (n := n) (cc := cc)
  go_enter Tryd.func57, Tryd.ntmps57
  go_upto_region 1 with fail
  change Code.wp _ _ _ _ (((w.alloc (.cells #[.int .i64 st, .int .i64 hd] 24)).alloc (.cells #[.int .i64 kd, .int .u8 x, .int .i64 ho, .int .u8 c, .int .u8 s, .slice A n cc] 31)).alloc (.cells #[.int .i64 0, .int .i64 0] 24))
  generalize ((w.alloc (.cells #[.int .i64 st, .int .i64 hd] 24)).alloc (.cells #[.int .i64 kd, .int .u8 x, .int .i64 ho, .int .u8 c, .int .u8 s, .slice A n cc] 31)).alloc (.cells #[.int .i64 0, .int .i64 0] 24) = W0 at *
  have B := Lib.hid B0
  clear B0
  obtain ⟨m0_0, m1_0, m2_0, m3_0⟩ := mcells B.out.m
  obtain ⟨e0_0, e1_0, e2_0, e3_0, e4_0, e5_0⟩ := B.out.ecells
  obtain ⟨r0_0, r1_0, r2_0, r3_0⟩ := mcells B.out.r
  go_wp2_with fail
  refine (se_rings kd ho x c s 1 A n cc false HQ.out _).mono ?_
  rintro e w_1 ⟨rfl, hk⟩
  replace B := Lib.hid (B.out.old hk)
  clear hk
  clear m0_0 m1_0 m2_0 m3_0 e0_0 e1_0 e2_0 e3_0 e4_0 e5_0 r0_0 r1_0 r2_0 r3_0
  obtain ⟨m0_1, m1_1, m2_1, m3_1⟩ := mcells B.out.m
  obtain ⟨e0_1, e1_1, e2_1, e3_1, e4_1, e5_1⟩ := B.out.ecells
  obtain ⟨r0_1, r1_1, r2_1, r3_1⟩ := mcells B.out.r
  go_wp2
  refine bodyPost_ret (ret_mach rfl _ _ (w.heap.size + 1 + 1) _ _ _ rfl rfl (fin_blk B.out.r)) rfl (res_fin2 (n := 0) rfl (Acs.nil _ _ _ _ _ _ (HB.out.old B.out.k)) B.out.r B.out.k (by omega))
end Go.Proofs.YtembdobkgpojfaaDoor
