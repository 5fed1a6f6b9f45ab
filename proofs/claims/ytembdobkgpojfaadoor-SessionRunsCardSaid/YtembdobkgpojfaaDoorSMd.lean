
/-
  session: dials, agrees, keeps.
-/
import Derived.Test.YtembdobkgpojfaaDoorSMe
namespace Go.Proofs.YtembdobkgpojfaaDoor
open Go.RowKit

set_option maxRecDepth 100000 in
set_option maxHeartbeats 1000000 in
theorem se_dials (st hd : Nat) (dA : Option Addr) (dn dc : Nat) (bs : List UInt8) (w : World) (hb : By w (.slice dA dn dc) bs) :
    Calls Tryd.prog 82 #[.agg #[.int .i64 st, .int .i64 hd]] w fun e w' => Res .u8 w w' e (⟨2, hd⟩, [Sm.set 1 120, Sm.a0 6]) bs := by
  obtain ⟨M0, R0, K0⟩ := boxes2 w 24 24 #[.int .i64 st, .int .i64 hd] #[.int .i64 0, .int .i64 0]
  have HB := Lib.hid hb
  clear hb
  go_enter Tryd.func82, Tryd.ntmps82
  go_upto_region 1 with fail
  change Code.wp _ _ _ _ ((w.alloc (.cells #[.int .i64 st, .int .i64 hd] 24)).alloc (.cells #[.int .i64 0, .int .i64 0] 24))
  generalize (w.alloc (.cells #[.int .i64 st, .int .i64 hd] 24)).alloc (.cells #[.int .i64 0, .int .i64 0] 24) = W0 at *
  have c0 := M0.cell 0
  have f0 := M0.free 0
  go_upto_region 2 with fail
  have M1 : Hid (Blk (W0.setCell ⟨w.heap.size, 0, none⟩ (.int .i64 2)) w.heap.size 24 #[.int .i64 2, .int .i64 hd]) := Lib.hid (M0.put 0 (.int .i64 2))
  have R1 := Lib.hid (R0.far (p := ⟨w.heap.size, 0, none⟩) (by show w.heap.size + 1 ≠ w.heap.size; omega) (.int .i64 2))
  have K1 := Lib.hid (K0.setCell (p := ⟨w.heap.size, 0, none⟩) (fun h => absurd h (Nat.lt_irrefl _)) (.int .i64 2))
  clear M0 R0 K0 c0 f0
  generalize W0.setCell ⟨w.heap.size, 0, none⟩ (.int .i64 2) = W1 at *
  refine wp_mach w (w.heap.size) (w.heap.size + 1) 4 _ (2) (hd) 0 0 #[.int .i64 2, .int .i64 hd] [some (.agg #[.int .i64 2, .int .i64 hd]), some (.agg #[.int .i64 3, .int .u8 1, .int .i64 120, .int .u8 0, .int .u8 0, .slice none 0 0]), some (.agg #[.int .i64 6, .int .u8 0, .int .i64 0, .int .u8 0, .int .u8 0, .slice none 0 0]), none, none, none] 3 5 2 #[.int .i64 3, .int .u8 1, .int .i64 120, .int .u8 0, .int .u8 0, .slice none 0 0, .int .i64 6, .int .u8 0, .int .i64 0, .int .u8 0, .int .u8 0, .slice none 0 0] rfl (by omega) (by kernel_rfl) (by decide +kernel) (by intro d hd; simp [dsts] at hd ⊢; omega) (by rfl) (ready_nil2 (by kernel_rfl)) (by omega) K1.out M1.out R1.out (fun v u => mf_none rfl (by decide) (by decide)) ?_ ?_ ?_
  · refine oweM_cons ?_ ?_
    · intro _
      intro u a hk hM hR hf hfar
      have v1 : a.tmps.getD 1 undef = .pointer (some ⟨w.heap.size, 0, none⟩) := hfar 1 (by decide)
      have w1 := v1
      rw [Array.getD_eq_getD_getElem?] at w1
      obtain ⟨c0, c1, -, -⟩ := mcells hM
      clear hf hfar hM hR
      go_simp
      exact ⟨_, rfl, Kept.refl _ _, mf_val rfl (by decide) (by decide)⟩
    refine oweM_cons ?_ ?_
    · intro _
      intro u a hk hM hR hf hfar
      clear hf hfar hM hR
      go_simp
      refine (se_set 1 120 u).mono ?_
      rintro e u' ⟨rfl, hk'⟩
      exact ⟨_, rfl, hk', mf_val rfl (by decide) (by decide)⟩
    refine oweM_cons ?_ ?_
    · intro _
      intro u a hk hM hR hf hfar
      clear hf hfar hM hR
      go_simp
      exact ⟨_, rfl, Kept.refl _ _, mf_val rfl (by decide) (by decide)⟩
    refine oweM_cons ?_ ?_
    · intro _
      intro u a hk hM hR hf hfar
      have v6 : a.tmps.getD 6 undef = .agg #[.int .i64 3, .int .u8 1, .int .i64 120, .int .u8 0, .int .u8 0, .slice none 0 0] := (hf 1 _ 6 rfl rfl ⟨⟨1, .data⟩, Array.mem_of_getElem? (i := 0) rfl, rfl, rfl⟩).1 _ rfl
      have w6 := v6
      rw [Array.getD_eq_getD_getElem?] at w6
      have v7 : a.tmps.getD 7 undef = .agg #[.int .i64 6, .int .u8 0, .int .i64 0, .int .u8 0, .int .u8 0, .slice none 0 0] := (hf 2 _ 7 rfl rfl ⟨⟨2, .data⟩, Array.mem_of_getElem? (i := 1) rfl, rfl, rfl⟩).1 _ rfl
      have w7 := v7
      rw [Array.getD_eq_getD_getElem?] at w7
      obtain ⟨cs, hR⟩ := hR
      have hne : u.heap.size ≠ w.heap.size + 1 := fun e => by have := hR.lt; omega
      clear hf hfar hM hR
      have HNE := Lib.hid hne
      clear hne
      go_simp
      exact ⟨_, rfl, (Kept.refl _ _).alloc _, mf_row rfl HNE.out (Blk.fresh _ _ _)⟩
    refine oweM_cons ?_ ?_
    · intro hh
      exact absurd rfl hh
    refine oweM_cons ?_ ?_
    · intro _
      intro u a hk hM hR hf hfar
      obtain ⟨b8, hb8, v8, hB8⟩ := (hf 3 _ 8 rfl rfl ⟨⟨3, .data⟩, Array.mem_of_getElem? (i := 0) rfl, rfl, rfl⟩).2 (by first | exact .inl rfl | exact .inr rfl)
      have w8 := v8
      rw [Array.getD_eq_getD_getElem?] at w8
      clear hf hfar hM hR
      go_simp
      exact ⟨_, rfl, Kept.refl _ _, mf_row rfl hb8 hB8⟩
    exact oweM_nil
  · intro u a hR hf hfar
    have v2 : a.tmps.getD 2 undef = .pointer (some ⟨w.heap.size + 1, 0, none⟩) := hfar 2 (by decide)
    have w2 := v2
    rw [Array.getD_eq_getD_getElem?] at w2
    have v5 : a.tmps.getD 5 undef = .agg #[.int .i64 2, .int .i64 hd] := (hf 0 _ 5 rfl rfl ⟨⟨0, .data⟩, Array.mem_of_getElem? (i := 0) rfl, rfl, rfl⟩).1 _ rfl
    have w5 := v5
    rw [Array.getD_eq_getD_getElem?] at w5
    obtain ⟨r0, r1, g0, g1⟩ := mcells hR
    clear hf hfar hR
    go_simp
    first | done | exact ⟨_, rfl, rfl⟩
  · intro vals u hk hB hV
    obtain ⟨b, hb, hv, hBb⟩ := (hV 5 _ 3 rfl rfl).2 (.inr rfl)
    clear hV
    simp [putAll, Act.put, Array.setIfInBounds, hv]
    generalize vals 0 = z0
    generalize vals 1 = z1
    generalize vals 2 = z2
    generalize vals 3 = z3
    go_wp2
    refine bodyPost_ret (ret_mach rfl _ _ (w.heap.size + 1) _ _ _ rfl rfl hB) rfl ⟨_, _, rfl, Acs.fresh (n := 2) (c := 2) (HB.out.old hk) (l := [Sm.set 1 120, Sm.a0 6]) hBb rfl (by decide) (by decide) (by decide), hk⟩
set_option maxRecDepth 100000 in
set_option maxHeartbeats 2000000 in
theorem se_agrees0 (st hd : Nat) (dA : Option Addr) (dn dc : Nat) (bs : List UInt8) (w : World) (hb : By w (.slice dA dn dc) bs) :
    Calls Tryd.prog 95 #[.agg #[.int .i64 st, .int .i64 hd], .int .i64 0] w fun e w' => Res .u8 w w' e (⟨5, 0⟩, [Sm.send 4, Sm.unset 2]) bs := by
  obtain ⟨M0, R0, K0⟩ := boxes2 w 24 24 #[.int .i64 st, .int .i64 hd] #[.int .i64 0, .int .i64 0]
  have HB := Lib.hid hb
  clear hb
  go_enter Tryd.func95, Tryd.ntmps95
  go_upto_region 1 with fail
  change Code.wp _ _ _ _ (((w.alloc (.cells #[.int .i64 st, .int .i64 hd] 24)).alloc (.cells #[.int .i64 0, .int .i64 0] 24)))
  generalize (w.alloc (.cells #[.int .i64 st, .int .i64 hd] 24)).alloc (.cells #[.int .i64 0, .int .i64 0] 24) = W0 at *
  have c0 := M0.cell 0
  have c1 := M0.cell 1
  have f0 := M0.free 0
  have f1 := M0.free 1
  go_upto_region 2 with fail
  have M1 : Hid (Blk ((W0.setCell ⟨w.heap.size, 0, none⟩ (.int .i64 5)).setCell ⟨w.heap.size, 1, none⟩ (.int .i64 0)) w.heap.size 24 #[.int .i64 5, .int .i64 0]) := Lib.hid ((M0.put 0 _).put 1 _)
  have R1 := Lib.hid ((R0.far (p := ⟨w.heap.size, 0, none⟩) (by show w.heap.size + 1 ≠ w.heap.size; omega) (.int .i64 5)).far (p := ⟨w.heap.size, 1, none⟩) (by show w.heap.size + 1 ≠ w.heap.size; omega) (.int .i64 0))
  have K1 := Lib.hid ((K0.setCell (p := ⟨w.heap.size, 0, none⟩) (fun h => absurd h (Nat.lt_irrefl _)) (.int .i64 5)).setCell (p := ⟨w.heap.size, 1, none⟩) (fun h => absurd h (Nat.lt_irrefl _)) (.int .i64 0))
  clear M0 R0 K0 c0 f0 c1 f1
  generalize (W0.setCell ⟨w.heap.size, 0, none⟩ (.int .i64 5)).setCell ⟨w.heap.size, 1, none⟩ (.int .i64 0) = W1 at *
  go_upto_region 3 with fail
  refine wp_mach w (w.heap.size) (w.heap.size + 1) 4 _ (5) (0) 0 0 #[.int .i64 5, .int .i64 0] [some (.agg #[.int .i64 5, .int .i64 0]), some (.agg #[.int .i64 1, .int .u8 4, .int .i64 0, .int .u8 0, .int .u8 0, .slice none 0 0]), some (.agg #[.int .i64 4, .int .u8 2, .int .i64 0, .int .u8 0, .int .u8 0, .slice none 0 0]), none, none, none] 3 5 2 #[.int .i64 1, .int .u8 4, .int .i64 0, .int .u8 0, .int .u8 0, .slice none 0 0, .int .i64 4, .int .u8 2, .int .i64 0, .int .u8 0, .int .u8 0, .slice none 0 0] rfl (by omega) (by kernel_rfl) (by decide +kernel) (by intro d hd; simp [dsts] at hd ⊢; omega) (by rfl) (ready_nil2 (by kernel_rfl)) (by omega) K1.out M1.out R1.out (fun v u => mf_none rfl (by decide) (by decide)) ?_ ?_ ?_
  · refine oweM_cons ?_ ?_
    · intro _
      intro u a hk hM hR hf hfar
      have v2 : a.tmps.getD 2 undef = .pointer (some ⟨w.heap.size, 0, none⟩) := hfar 2 (by decide)
      have w2 := v2
      rw [Array.getD_eq_getD_getElem?] at w2
      obtain ⟨c0, c1, -, -⟩ := mcells hM
      clear hf hfar hM hR
      go_simp
      exact ⟨_, rfl, Kept.refl _ _, mf_val rfl (by decide) (by decide)⟩
    refine oweM_cons ?_ ?_
    · intro _
      intro u a hk hM hR hf hfar
      clear hf hfar hM hR
      go_simp
      refine (se_send 4 u).mono ?_
      rintro e u' ⟨rfl, hk'⟩
      exact ⟨_, rfl, hk', mf_val rfl (by decide) (by decide)⟩
    refine oweM_cons ?_ ?_
    · intro _
      intro u a hk hM hR hf hfar
      clear hf hfar hM hR
      go_simp
      refine (se_unset 2 u).mono ?_
      rintro e u' ⟨rfl, hk'⟩
      exact ⟨_, rfl, hk', mf_val rfl (by decide) (by decide)⟩
    refine oweM_cons ?_ ?_
    · intro _
      intro u a hk hM hR hf hfar
      have v12 : a.tmps.getD 12 undef = .agg #[.int .i64 1, .int .u8 4, .int .i64 0, .int .u8 0, .int .u8 0, .slice none 0 0] := (hf 1 _ 12 rfl rfl ⟨⟨1, .data⟩, Array.mem_of_getElem? (i := 0) rfl, rfl, rfl⟩).1 _ rfl
      have w12 := v12
      rw [Array.getD_eq_getD_getElem?] at w12
      have v13 : a.tmps.getD 13 undef = .agg #[.int .i64 4, .int .u8 2, .int .i64 0, .int .u8 0, .int .u8 0, .slice none 0 0] := (hf 2 _ 13 rfl rfl ⟨⟨2, .data⟩, Array.mem_of_getElem? (i := 1) rfl, rfl, rfl⟩).1 _ rfl
      have w13 := v13
      rw [Array.getD_eq_getD_getElem?] at w13
      obtain ⟨cs, hR⟩ := hR
      have hne : u.heap.size ≠ w.heap.size + 1 := fun e => by have := hR.lt; omega
      clear hf hfar hM hR
      have HNE := Lib.hid hne
      clear hne
      go_simp
      exact ⟨_, rfl, (Kept.refl _ _).alloc _, mf_row rfl HNE.out (Blk.fresh _ _ _)⟩
    refine oweM_cons ?_ ?_
    · intro hh
      exact absurd rfl hh
    refine oweM_cons ?_ ?_
    · intro _
      intro u a hk hM hR hf hfar
      obtain ⟨b14, hb14, v14, hB14⟩ := (hf 3 _ 14 rfl rfl ⟨⟨3, .data⟩, Array.mem_of_getElem? (i := 0) rfl, rfl, rfl⟩).2 (by first | exact .inl rfl | exact .inr rfl)
      have w14 := v14
      rw [Array.getD_eq_getD_getElem?] at w14
      clear hf hfar hM hR
      go_simp
      exact ⟨_, rfl, Kept.refl _ _, mf_row rfl hb14 hB14⟩
    exact oweM_nil
  · intro u a hR hf hfar
    have v4 : a.tmps.getD 4 undef = .pointer (some ⟨w.heap.size + 1, 0, none⟩) := hfar 4 (by decide)
    have w4 := v4
    rw [Array.getD_eq_getD_getElem?] at w4
    have v11 : a.tmps.getD 11 undef = .agg #[.int .i64 5, .int .i64 0] := (hf 0 _ 11 rfl rfl ⟨⟨0, .data⟩, Array.mem_of_getElem? (i := 0) rfl, rfl, rfl⟩).1 _ rfl
    have w11 := v11
    rw [Array.getD_eq_getD_getElem?] at w11
    obtain ⟨r0, r1, g0, g1⟩ := mcells hR
    clear hf hfar hR
    go_simp
    first | done | exact ⟨_, rfl, rfl⟩
  · intro vals u hk hB hV
    obtain ⟨b, hb, hv, hBb⟩ := (hV 5 _ 5 rfl rfl).2 (.inr rfl)
    clear hV
    simp [putAll, Act.put, Array.setIfInBounds, hv]
    generalize vals 0 = z0
    generalize vals 1 = z1
    generalize vals 2 = z2
    generalize vals 3 = z3
    go_wp2
    refine bodyPost_ret (ret_mach rfl _ _ (w.heap.size + 1) _ _ _ rfl rfl hB) rfl ⟨_, _, rfl, Acs.fresh (n := 2) (c := 2) (HB.out.old hk) (l := [Sm.send 4, Sm.unset 2]) hBb rfl (by decide) (by decide) (by decide), hk⟩
set_option maxRecDepth 100000 in
set_option maxHeartbeats 2000000 in
theorem se_agrees1 (st hd h : Nat) (h0 : 0 < h) (h6 : h ≤ 65535) (dA : Option Addr) (dn dc : Nat) (bs : List UInt8) (w : World) (hb : By w (.slice dA dn dc) bs) :
    Calls Tryd.prog 95 #[.agg #[.int .i64 st, .int .i64 hd], .int .i64 h] w fun e w' => Res .u8 w w' e (⟨5, h⟩, [Sm.send 4, Sm.set 2 h, Sm.set 3 (h / 3)]) bs := by
  have HH := Lib.hid (And.intro h0 h6)
  have hne : ((h : Int) == 0) = false := by simp; omega
  clear h0 h6
  obtain ⟨M0, R0, K0⟩ := boxes2 w 24 24 #[.int .i64 st, .int .i64 hd] #[.int .i64 0, .int .i64 0]
  have HB := Lib.hid hb
  clear hb
  go_enter Tryd.func95, Tryd.ntmps95
  go_upto_region 1 with fail
  change Code.wp _ _ _ _ (((w.alloc (.cells #[.int .i64 st, .int .i64 hd] 24)).alloc (.cells #[.int .i64 0, .int .i64 0] 24)))
  generalize (w.alloc (.cells #[.int .i64 st, .int .i64 hd] 24)).alloc (.cells #[.int .i64 0, .int .i64 0] 24) = W0 at *
  have c0 := M0.cell 0
  have c1 := M0.cell 1
  have f0 := M0.free 0
  have f1 := M0.free 1
  go_upto_region 2 with fail
  have M1 : Hid (Blk ((W0.setCell ⟨w.heap.size, 0, none⟩ (.int .i64 5)).setCell ⟨w.heap.size, 1, none⟩ (.int .i64 h)) w.heap.size 24 #[.int .i64 5, .int .i64 h]) := Lib.hid ((M0.put 0 _).put 1 _)
  have R1 := Lib.hid ((R0.far (p := ⟨w.heap.size, 0, none⟩) (by show w.heap.size + 1 ≠ w.heap.size; omega) (.int .i64 5)).far (p := ⟨w.heap.size, 1, none⟩) (by show w.heap.size + 1 ≠ w.heap.size; omega) (.int .i64 h))
  have K1 := Lib.hid ((K0.setCell (p := ⟨w.heap.size, 0, none⟩) (fun h => absurd h (Nat.lt_irrefl _)) (.int .i64 5)).setCell (p := ⟨w.heap.size, 1, none⟩) (fun h => absurd h (Nat.lt_irrefl _)) (.int .i64 h))
  clear M0 R0 K0 c0 f0 c1 f1
  generalize (W0.setCell ⟨w.heap.size, 0, none⟩ (.int .i64 5)).setCell ⟨w.heap.size, 1, none⟩ (.int .i64 h) = W1 at *
  go_upto_region 4 with fail
  refine wp_mach w (w.heap.size) (w.heap.size + 1) 7 _ (5) (h) 0 0 #[.int .i64 5, .int .i64 h] [some (.agg #[.int .i64 5, .int .i64 h]), some (.agg #[.int .i64 1, .int .u8 4, .int .i64 0, .int .u8 0, .int .u8 0, .slice none 0 0]), some (.int .i64 h), some (.agg #[.int .i64 3, .int .u8 2, .int .i64 h, .int .u8 0, .int .u8 0, .slice none 0 0]), some (.agg #[.int .i64 5, .int .i64 h]), some (.agg #[.int .i64 3, .int .u8 3, .int .i64 ((h / 3 : Nat) : Int), .int .u8 0, .int .u8 0, .slice none 0 0]), none, none, none] 6 8 3 #[.int .i64 1, .int .u8 4, .int .i64 0, .int .u8 0, .int .u8 0, .slice none 0 0, .int .i64 3, .int .u8 2, .int .i64 h, .int .u8 0, .int .u8 0, .slice none 0 0, .int .i64 3, .int .u8 3, .int .i64 ((h / 3 : Nat) : Int), .int .u8 0, .int .u8 0, .slice none 0 0] rfl (by omega) (by kernel_rfl) (by decide +kernel) (by intro d hd; simp [dsts] at hd ⊢; omega) (by rfl) (ready_nil2 (by kernel_rfl)) (by omega) K1.out M1.out R1.out (fun v u => mf_none rfl (by decide) (by decide)) ?_ ?_ ?_
  · refine oweM_cons ?_ ?_
    · intro _
      intro u a hk hM hR hf hfar
      have v2 : a.tmps.getD 2 undef = .pointer (some ⟨w.heap.size, 0, none⟩) := hfar 2 (by decide)
      have w2 := v2
      rw [Array.getD_eq_getD_getElem?] at w2
      obtain ⟨c0, c1, -, -⟩ := mcells hM
      clear hf hfar hM hR
      go_simp
      exact ⟨_, rfl, Kept.refl _ _, mf_val rfl (by decide) (by decide)⟩
    refine oweM_cons ?_ ?_
    · intro _
      intro u a hk hM hR hf hfar
      clear hf hfar hM hR
      go_simp
      refine (se_send 4 u).mono ?_
      rintro e u' ⟨rfl, hk'⟩
      exact ⟨_, rfl, hk', mf_val rfl (by decide) (by decide)⟩
    refine oweM_cons ?_ ?_
    · intro _
      intro u a hk hM hR hf hfar
      have v1 : a.tmps.getD 1 undef = .int .i64 h := hfar 1 (by decide)
      have w1 := v1
      rw [Array.getD_eq_getD_getElem?] at w1
      clear hf hfar hM hR
      go_simp
      exact ⟨_, rfl, Kept.refl _ _, mf_val rfl (by decide) (by decide)⟩
    refine oweM_cons ?_ ?_
    · intro _
      intro u a hk hM hR hf hfar
      have v17 : a.tmps.getD 17 undef = .int .i64 h := (hf 2 _ 17 rfl rfl ⟨⟨2, .data⟩, Array.mem_of_getElem? (i := 0) rfl, rfl, rfl⟩).1 _ rfl
      have w17 := v17
      rw [Array.getD_eq_getD_getElem?] at w17
      clear hf hfar hM hR
      go_simp
      refine (se_set 2 h u).mono ?_
      rintro e u' ⟨rfl, hk'⟩
      exact ⟨_, rfl, hk', mf_val rfl (by decide) (by decide)⟩
    refine oweM_cons ?_ ?_
    · intro _
      intro u a hk hM hR hf hfar
      have v2 : a.tmps.getD 2 undef = .pointer (some ⟨w.heap.size, 0, none⟩) := hfar 2 (by decide)
      have w2 := v2
      rw [Array.getD_eq_getD_getElem?] at w2
      obtain ⟨c0, c1, -, -⟩ := mcells hM
      clear hf hfar hM hR
      go_simp
      exact ⟨_, rfl, Kept.refl _ _, mf_val rfl (by decide) (by decide)⟩
    refine oweM_cons ?_ ?_
    · intro _
      intro u a hk hM hR hf hfar
      have v19 : a.tmps.getD 19 undef = .agg #[.int .i64 5, .int .i64 h] := (hf 4 _ 19 rfl rfl ⟨⟨4, .data⟩, Array.mem_of_getElem? (i := 0) rfl, rfl, rfl⟩).1 _ rfl
      have w19 := v19
      rw [Array.getD_eq_getD_getElem?] at w19
      clear hf hfar hM hR
      go_simp
      refine (se_keep 5 h HH.out.2 u).mono ?_
      rintro e u' ⟨rfl, hk'⟩
      exact ⟨_, rfl, hk', mf_val rfl (by decide) (by decide)⟩
    refine oweM_cons ?_ ?_
    · intro _
      intro u a hk hM hR hf hfar
      have v16 : a.tmps.getD 16 undef = .agg #[.int .i64 1, .int .u8 4, .int .i64 0, .int .u8 0, .int .u8 0, .slice none 0 0] := (hf 1 _ 16 rfl rfl ⟨⟨1, .data⟩, Array.mem_of_getElem? (i := 0) rfl, rfl, rfl⟩).1 _ rfl
      have w16 := v16
      rw [Array.getD_eq_getD_getElem?] at w16
      have v18 : a.tmps.getD 18 undef = .agg #[.int .i64 3, .int .u8 2, .int .i64 h, .int .u8 0, .int .u8 0, .slice none 0 0] := (hf 3 _ 18 rfl rfl ⟨⟨3, .data⟩, Array.mem_of_getElem? (i := 1) rfl, rfl, rfl⟩).1 _ rfl
      have w18 := v18
      rw [Array.getD_eq_getD_getElem?] at w18
      have v20 : a.tmps.getD 20 undef = .agg #[.int .i64 3, .int .u8 3, .int .i64 ((h / 3 : Nat) : Int), .int .u8 0, .int .u8 0, .slice none 0 0] := (hf 5 _ 20 rfl rfl ⟨⟨5, .data⟩, Array.mem_of_getElem? (i := 2) rfl, rfl, rfl⟩).1 _ rfl
      have w20 := v20
      rw [Array.getD_eq_getD_getElem?] at w20
      obtain ⟨cs, hR⟩ := hR
      have hne : u.heap.size ≠ w.heap.size + 1 := fun e => by have := hR.lt; omega
      clear hf hfar hM hR
      have HNE := Lib.hid hne
      clear hne
      go_simp
      exact ⟨_, rfl, (Kept.refl _ _).alloc _, mf_row rfl HNE.out (Blk.fresh _ _ _)⟩
    refine oweM_cons ?_ ?_
    · intro hh
      exact absurd rfl hh
    refine oweM_cons ?_ ?_
    · intro _
      intro u a hk hM hR hf hfar
      obtain ⟨b21, hb21, v21, hB21⟩ := (hf 6 _ 21 rfl rfl ⟨⟨6, .data⟩, Array.mem_of_getElem? (i := 0) rfl, rfl, rfl⟩).2 (by first | exact .inl rfl | exact .inr rfl)
      have w21 := v21
      rw [Array.getD_eq_getD_getElem?] at w21
      clear hf hfar hM hR
      go_simp
      exact ⟨_, rfl, Kept.refl _ _, mf_row rfl hb21 hB21⟩
    exact oweM_nil
  · intro u a hR hf hfar
    have v4 : a.tmps.getD 4 undef = .pointer (some ⟨w.heap.size + 1, 0, none⟩) := hfar 4 (by decide)
    have w4 := v4
    rw [Array.getD_eq_getD_getElem?] at w4
    have v15 : a.tmps.getD 15 undef = .agg #[.int .i64 5, .int .i64 h] := (hf 0 _ 15 rfl rfl ⟨⟨0, .data⟩, Array.mem_of_getElem? (i := 0) rfl, rfl, rfl⟩).1 _ rfl
    have w15 := v15
    rw [Array.getD_eq_getD_getElem?] at w15
    obtain ⟨r0, r1, g0, g1⟩ := mcells hR
    clear hf hfar hR
    go_simp
    first | done | exact ⟨_, rfl, rfl⟩
  · intro vals u hk hB hV
    obtain ⟨b, hb, hv, hBb⟩ := (hV 8 _ 5 rfl rfl).2 (.inr rfl)
    clear hV
    simp [putAll, Act.put, Array.setIfInBounds, hv]
    generalize vals 0 = z0
    generalize vals 1 = z1
    generalize vals 2 = z2
    generalize vals 3 = z3
    generalize vals 4 = z4
    generalize vals 5 = z5
    generalize vals 6 = z6
    go_wp2
    refine bodyPost_ret (ret_mach rfl _ _ (w.heap.size + 1) _ _ _ rfl rfl hB) rfl ⟨_, _, rfl, Acs.fresh (n := 3) (c := 3) (HB.out.old hk) (l := [Sm.send 4, Sm.set 2 h, Sm.set 3 (h / 3)]) hBb rfl (by decide) (by decide) (by decide), hk⟩
set_option maxRecDepth 100000 in
set_option maxHeartbeats 2000000 in
theorem se_keeps1 (st hd : Nat) (h0 : 0 < hd) (h6 : hd ≤ 65535) (dA : Option Addr) (dn dc : Nat) (bs : List UInt8) (w : World) (hb : By w (.slice dA dn dc) bs) :
    Calls Tryd.prog 116 #[.agg #[.int .i64 st, .int .i64 hd]] w fun e w' => Res .u8 w w' e (⟨st, hd⟩, [Sm.send 4, Sm.set 3 (hd / 3)]) bs := by
  have HH := Lib.hid (And.intro h0 h6)
  have hgt : (0 : Int) < (hd : Int) := by omega
  clear h0 h6
  obtain ⟨M0, R0, K0⟩ := boxes2 w 24 24 #[.int .i64 st, .int .i64 hd] #[.int .i64 0, .int .i64 0]
  have HB := Lib.hid hb
  clear hb
  go_enter Tryd.func116, Tryd.ntmps116
  go_upto_region 1 with fail
  change Code.wp _ _ _ _ (((w.alloc (.cells #[.int .i64 st, .int .i64 hd] 24)).alloc (.cells #[.int .i64 0, .int .i64 0] 24)))
  generalize (w.alloc (.cells #[.int .i64 st, .int .i64 hd] 24)).alloc (.cells #[.int .i64 0, .int .i64 0] 24) = W0 at *
  have c1 := M0.cell 1
  go_upto_region 3 with fail
  replace M0 := Lib.hid M0
  replace R0 := Lib.hid R0
  replace K0 := Lib.hid K0
  refine wp_mach w (w.heap.size) (w.heap.size + 1) 5 _ (st) (hd) 0 0 #[.int .i64 st, .int .i64 hd] [some (.agg #[.int .i64 st, .int .i64 hd]), some (.agg #[.int .i64 1, .int .u8 4, .int .i64 0, .int .u8 0, .int .u8 0, .slice none 0 0]), some (.agg #[.int .i64 st, .int .i64 hd]), some (.agg #[.int .i64 3, .int .u8 3, .int .i64 ((hd / 3 : Nat) : Int), .int .u8 0, .int .u8 0, .slice none 0 0]), none, none, none] 4 6 2 #[.int .i64 1, .int .u8 4, .int .i64 0, .int .u8 0, .int .u8 0, .slice none 0 0, .int .i64 3, .int .u8 3, .int .i64 ((hd / 3 : Nat) : Int), .int .u8 0, .int .u8 0, .slice none 0 0] rfl (by omega) (by kernel_rfl) (by decide +kernel) (by intro d hd; simp [dsts] at hd ⊢; omega) (by rfl) (ready_nil2 (by kernel_rfl)) (by omega) K0.out M0.out R0.out (fun v u => mf_none rfl (by decide) (by decide)) ?_ ?_ ?_
  · refine oweM_cons ?_ ?_
    · intro _
      intro u a hk hM hR hf hfar
      have v1 : a.tmps.getD 1 undef = .pointer (some ⟨w.heap.size, 0, none⟩) := hfar 1 (by decide)
      have w1 := v1
      rw [Array.getD_eq_getD_getElem?] at w1
      obtain ⟨c0, c1, -, -⟩ := mcells hM
      clear hf hfar hM hR
      go_simp
      exact ⟨_, rfl, Kept.refl _ _, mf_val rfl (by decide) (by decide)⟩
    refine oweM_cons ?_ ?_
    · intro _
      intro u a hk hM hR hf hfar
      clear hf hfar hM hR
      go_simp
      refine (se_send 4 u).mono ?_
      rintro e u' ⟨rfl, hk'⟩
      exact ⟨_, rfl, hk', mf_val rfl (by decide) (by decide)⟩
    refine oweM_cons ?_ ?_
    · intro _
      intro u a hk hM hR hf hfar
      have v1 : a.tmps.getD 1 undef = .pointer (some ⟨w.heap.size, 0, none⟩) := hfar 1 (by decide)
      have w1 := v1
      rw [Array.getD_eq_getD_getElem?] at w1
      obtain ⟨c0, c1, -, -⟩ := mcells hM
      clear hf hfar hM hR
      go_simp
      exact ⟨_, rfl, Kept.refl _ _, mf_val rfl (by decide) (by decide)⟩
    refine oweM_cons ?_ ?_
    · intro _
      intro u a hk hM hR hf hfar
      have v10 : a.tmps.getD 10 undef = .agg #[.int .i64 st, .int .i64 hd] := (hf 2 _ 10 rfl rfl ⟨⟨2, .data⟩, Array.mem_of_getElem? (i := 0) rfl, rfl, rfl⟩).1 _ rfl
      have w10 := v10
      rw [Array.getD_eq_getD_getElem?] at w10
      clear hf hfar hM hR
      go_simp
      refine (se_keep st hd HH.out.2 u).mono ?_
      rintro e u' ⟨rfl, hk'⟩
      exact ⟨_, rfl, hk', mf_val rfl (by decide) (by decide)⟩
    refine oweM_cons ?_ ?_
    · intro _
      intro u a hk hM hR hf hfar
      have v9 : a.tmps.getD 9 undef = .agg #[.int .i64 1, .int .u8 4, .int .i64 0, .int .u8 0, .int .u8 0, .slice none 0 0] := (hf 1 _ 9 rfl rfl ⟨⟨1, .data⟩, Array.mem_of_getElem? (i := 0) rfl, rfl, rfl⟩).1 _ rfl
      have w9 := v9
      rw [Array.getD_eq_getD_getElem?] at w9
      have v11 : a.tmps.getD 11 undef = .agg #[.int .i64 3, .int .u8 3, .int .i64 ((hd / 3 : Nat) : Int), .int .u8 0, .int .u8 0, .slice none 0 0] := (hf 3 _ 11 rfl rfl ⟨⟨3, .data⟩, Array.mem_of_getElem? (i := 1) rfl, rfl, rfl⟩).1 _ rfl
      have w11 := v11
      rw [Array.getD_eq_getD_getElem?] at w11
      obtain ⟨cs, hR⟩ := hR
      have hne : u.heap.size ≠ w.heap.size + 1 := fun e => by have := hR.lt; omega
      clear hf hfar hM hR
      have HNE := Lib.hid hne
      clear hne
      go_simp
      exact ⟨_, rfl, (Kept.refl _ _).alloc _, mf_row rfl HNE.out (Blk.fresh _ _ _)⟩
    refine oweM_cons ?_ ?_
    · intro hh
      exact absurd rfl hh
    refine oweM_cons ?_ ?_
    · intro _
      intro u a hk hM hR hf hfar
      obtain ⟨b12, hb12, v12, hB12⟩ := (hf 4 _ 12 rfl rfl ⟨⟨4, .data⟩, Array.mem_of_getElem? (i := 0) rfl, rfl, rfl⟩).2 (by first | exact .inl rfl | exact .inr rfl)
      have w12 := v12
      rw [Array.getD_eq_getD_getElem?] at w12
      clear hf hfar hM hR
      go_simp
      exact ⟨_, rfl, Kept.refl _ _, mf_row rfl hb12 hB12⟩
    exact oweM_nil
  · intro u a hR hf hfar
    have v2 : a.tmps.getD 2 undef = .pointer (some ⟨w.heap.size + 1, 0, none⟩) := hfar 2 (by decide)
    have w2 := v2
    rw [Array.getD_eq_getD_getElem?] at w2
    have v8 : a.tmps.getD 8 undef = .agg #[.int .i64 st, .int .i64 hd] := (hf 0 _ 8 rfl rfl ⟨⟨0, .data⟩, Array.mem_of_getElem? (i := 0) rfl, rfl, rfl⟩).1 _ rfl
    have w8 := v8
    rw [Array.getD_eq_getD_getElem?] at w8
    obtain ⟨r0, r1, g0, g1⟩ := mcells hR
    clear hf hfar hR
    go_simp
    first | done | exact ⟨_, rfl, rfl⟩
  · intro vals u hk hB hV
    obtain ⟨b, hb, hv, hBb⟩ := (hV 6 _ 3 rfl rfl).2 (.inr rfl)
    clear hV
    simp [putAll, Act.put, Array.setIfInBounds, hv]
    generalize vals 0 = z0
    generalize vals 1 = z1
    generalize vals 2 = z2
    generalize vals 3 = z3
    generalize vals 4 = z4
    go_wp2
    refine bodyPost_ret (ret_mach rfl _ _ (w.heap.size + 1) _ _ _ rfl rfl hB) rfl ⟨_, _, rfl, Acs.fresh (n := 2) (c := 2) (HB.out.old hk) (l := [Sm.send 4, Sm.set 3 (hd / 3)]) hBb rfl (by decide) (by decide) (by decide), hk⟩
theorem se_keeps0 (st : Nat) (dA : Option Addr) (dn dc : Nat) (bs : List UInt8) (w : World) (hb : By w (.slice dA dn dc) bs) :
    Calls Tryd.prog 116 #[.agg #[.int .i64 st, .int .i64 0]] w fun e w' => Res .u8 w w' e (⟨st, 0⟩, []) bs := by
  obtain ⟨M0, R0, K0⟩ := boxes2 w 24 24 #[.int .i64 st, .int .i64 0] #[.int .i64 0, .int .i64 0]
  have HB := Lib.hid hb
  clear hb
  go_enter Tryd.func116, Tryd.ntmps116
  go_upto_region 1 with fail
  change Code.wp _ _ _ _ (((w.alloc (.cells #[.int .i64 st, .int .i64 0] 24)).alloc (.cells #[.int .i64 0, .int .i64 0] 24)))
  generalize (w.alloc (.cells #[.int .i64 st, .int .i64 0] 24)).alloc (.cells #[.int .i64 0, .int .i64 0] 24) = W0 at *
  obtain ⟨c0, c1, -, -⟩ := mcells M0
  obtain ⟨r0, r1, g0, g1⟩ := mcells R0
  replace M0 := Lib.hid M0
  replace R0 := Lib.hid R0
  replace K0 := Lib.hid K0
  go_wp2
  refine bodyPost_ret (ret_mach rfl _ _ (w.heap.size + 1) _ _ _ rfl rfl (fin_blk R0.out)) rfl (res_fin2 (n := 0) rfl (Acs.nil _ _ _ _ _ _ (HB.out.old K0.out)) R0.out K0.out (by omega))
end Go.Proofs.YtembdobkgpojfaaDoor
