
/-
  For the law OpenKnown: the closure that checks a changed copy, and the functions that change it.
-/
import Derived.Test.YtohgkibpcgfihaaDoorEb
import Derived.Test.YtohgkibpcgfihaaDoorEm
namespace Go.Proofs.YtohgkibpcgfihaaDoor
open Go.RowKit


theorem kf_2 (q : Nat) (a0 a1 a2 a3 a4 : Value) (w : World) (h : Blk w q 28 #[a0, a1, a2, a3, a4]) :
    Calls Tryd.prog 24 #[.pointer (some ⟨q, 0, none⟩)] w fun e w' => e = .returned (.tuple #[]) ∧ Blk w' q 28 #[a0, a1, a2, a3, a4] ∧ Kept (Only q) w w' := by
  have HB := Lib.hid h
  obtain ⟨⟨x0, x1, x2, x3, x4⟩, x5, x6, x7, x8, x9⟩ := full5 h
  have hl := h.lt
  clear h
  go_enter Tryd.func24, Tryd.ntmps24
  go_wp2
  go_end0
  exact ⟨rfl, HB.out, Kept.refl _ _⟩

theorem kf_3 (q : Nat) (a0 a1 a2 a3 a4 : Value) (w : World) (h : Blk w q 28 #[a0, a1, a2, a3, a4]) :
    Calls Tryd.prog 25 #[.pointer (some ⟨q, 0, none⟩)] w fun e w' => e = .returned (.tuple #[]) ∧ Blk w' q 28 #[a0, .int .u16 9, a2, a3, a4] ∧ Kept (Only q) w w' := by
  have HB := Lib.hid h
  obtain ⟨⟨x0, x1, x2, x3, x4⟩, x5, x6, x7, x8, x9⟩ := full5 h
  have hl := h.lt
  clear h
  go_enter Tryd.func25, Tryd.ntmps25
  go_wp2
  go_end0
  exact ⟨rfl, HB.out.put 1 _, Kept.own w q 1 _⟩

theorem kf_4 (q : Nat) (a0 a1 a2 a3 a4 : Value) (w : World) (h : Blk w q 28 #[a0, a1, a2, a3, a4]) :
    Calls Tryd.prog 26 #[.pointer (some ⟨q, 0, none⟩)] w fun e w' => e = .returned (.tuple #[]) ∧ Blk w' q 28 #[a0, a1, a2, .int .u32 0, a4] ∧ Kept (Only q) w w' := by
  have HB := Lib.hid h
  obtain ⟨⟨x0, x1, x2, x3, x4⟩, x5, x6, x7, x8, x9⟩ := full5 h
  have hl := h.lt
  clear h
  go_enter Tryd.func26, Tryd.ntmps26
  go_wp2
  go_end0
  exact ⟨rfl, HB.out.put 3 _, Kept.own w q 3 _⟩

theorem kf_5 (q : Nat) (a0 a1 a2 a3 a4 : Value) (w : World) (h : Blk w q 28 #[a0, a1, a2, a3, a4]) :
    Calls Tryd.prog 27 #[.pointer (some ⟨q, 0, none⟩)] w fun e w' => e = .returned (.tuple #[]) ∧ Blk w' q 28 #[a0, a1, a2, .int .u32 3758096385, a4] ∧ Kept (Only q) w w' := by
  have HB := Lib.hid h
  obtain ⟨⟨x0, x1, x2, x3, x4⟩, x5, x6, x7, x8, x9⟩ := full5 h
  have hl := h.lt
  clear h
  go_enter Tryd.func27, Tryd.ntmps27
  go_wp2
  go_end0
  exact ⟨rfl, HB.out.put 3 _, Kept.own w q 3 _⟩

theorem kf_6 (q : Nat) (a0 a1 a2 a3 a4 : Value) (w : World) (h : Blk w q 28 #[a0, a1, a2, a3, a4]) :
    Calls Tryd.prog 28 #[.pointer (some ⟨q, 0, none⟩)] w fun e w' => e = .returned (.tuple #[]) ∧ Blk w' q 28 #[a0, a1, .int .u16 2, a3, a4] ∧ Kept (Only q) w w' := by
  have HB := Lib.hid h
  obtain ⟨⟨x0, x1, x2, x3, x4⟩, x5, x6, x7, x8, x9⟩ := full5 h
  have hl := h.lt
  clear h
  go_enter Tryd.func28, Tryd.ntmps28
  go_wp2
  go_end0
  exact ⟨rfl, HB.out.put 2 _, Kept.own w q 2 _⟩

theorem kf_7 (q : Nat) (a0 a1 a2 a3 a4 : Value) (w : World) (h : Blk w q 28 #[a0, a1, a2, a3, a4]) :
    Calls Tryd.prog 29 #[.pointer (some ⟨q, 0, none⟩)] w fun e w' => e = .returned (.tuple #[]) ∧ Blk w' q 28 #[a0, a1, .int .u16 0, a3, a4] ∧ Kept (Only q) w w' := by
  have HB := Lib.hid h
  obtain ⟨⟨x0, x1, x2, x3, x4⟩, x5, x6, x7, x8, x9⟩ := full5 h
  have hl := h.lt
  clear h
  go_enter Tryd.func29, Tryd.ntmps29
  go_wp2
  go_end0
  exact ⟨rfl, HB.out.put 2 _, Kept.own w q 2 _⟩

theorem kf_8 (q : Nat) (a0 a1 a2 a3 a4 : Value) (w : World) (h : Blk w q 28 #[a0, a1, a2, a3, a4]) :
    Calls Tryd.prog 30 #[.pointer (some ⟨q, 0, none⟩)] w fun e w' => e = .returned (.tuple #[]) ∧ Blk w' q 28 #[a0, a1, .int .u16 3, a3, a4] ∧ Kept (Only q) w w' := by
  have HB := Lib.hid h
  obtain ⟨⟨x0, x1, x2, x3, x4⟩, x5, x6, x7, x8, x9⟩ := full5 h
  have hl := h.lt
  clear h
  go_enter Tryd.func30, Tryd.ntmps30
  go_wp2
  go_end0
  exact ⟨rfl, HB.out.put 2 _, Kept.own w q 2 _⟩

theorem kf_10 (q : Nat) (a0 a1 a2 a3 a4 : Value) (w : World) (h : Blk w q 28 #[a0, a1, a2, a3, a4]) :
    Calls Tryd.prog 32 #[.pointer (some ⟨q, 0, none⟩)] w fun e w' => e = .returned (.tuple #[]) ∧ Blk w' q 28 #[a0, a1, a2, a3, .slice none 0 0] ∧ Kept (Only q) w w' := by
  have HB := Lib.hid h
  obtain ⟨⟨x0, x1, x2, x3, x4⟩, x5, x6, x7, x8, x9⟩ := full5 h
  have hl := h.lt
  clear h
  go_enter Tryd.func32, Tryd.ntmps32
  go_wp2
  go_end0
  exact ⟨rfl, HB.out.put 4 _, Kept.own w q 4 _⟩

theorem kf_9 (q r : Nat) (a0 a1 a2 a3 a4 : Value) (A : Option Addr) (n c : Nat) (w : World) (h : Blk w q 28 #[a0, a1, a2, a3, a4]) (hr : w.cell? ⟨r, 0, none⟩ = some (.slice A n c)) (_ : r ≠ q) :
    Calls Tryd.prog 31 #[.pointer (some ⟨q, 0, none⟩), .pointer (some ⟨r, 0, none⟩)] w fun e w' => e = .returned (.tuple #[]) ∧ Blk w' q 28 #[a0, .int .u16 65001, a2, a3, .slice A n c] ∧ Kept (Only q) w w' := by
  have HB := Lib.hid h
  obtain ⟨⟨x0, x1, x2, x3, x4⟩, x5, x6, x7, x8, x9⟩ := full5 h
  have hl := h.lt
  have hlr := World.block_lt_of_cell? _ _ hr
  simp only at hlr
  clear h
  go_enter Tryd.func31, Tryd.ntmps31
  go_wp2_with fail
  go_region
  all_goals
    go_wp2
    go_end0
    first
      | exact ⟨rfl, ((HB.out.put 1 _).put 4 _).drewN _, ((Kept.own w q 1 _).trans (Kept.own _ q 4 _)).drewN _⟩
      | exact ⟨rfl, ((HB.out.put 4 _).put 1 _).drewN _, ((Kept.own w q 4 _).trans (Kept.own _ q 1 _)).drewN _⟩

theorem kc_2 (p : Nat) (s : Value) (L : List Cp) (w : World) (hb : Blk w p 28 #[.int .u8 4, .int .u16 65001, .int .u16 180, .int .u32 3221225985, s]) (hc : Cps w s L) (hr : RdC w) (hn : Cp.number L = (65001, true)) (hi : Cp.ipv4 false L = true) (hll : L.length ≤ 1000000) :
    Calls Tryd.prog 23 #[.func (.func 24) #[] #[], .pointer (some ⟨p, 0, none⟩)] w fun e w' => e = .returned (.int .u8 0) ∧ Kept Nothing w w' := by
  obtain ⟨A, c, rfl, _, _⟩ := hc.form
  have KA := (Kept.refl Nothing w).alloc (.cells #[.int .u8 4, .int .u16 65001, .int .u16 180, .int .u32 3221225985, .slice A L.length c] 28)
  have FB := Lib.hid (Blk.fresh w 28 #[.int .u8 4, .int .u16 65001, .int .u16 180, .int .u32 3221225985, .slice A L.length c])
  have HC := Lib.hid ((hc.offo (P := Only w.heap.size) (fun k (e : k = w.heap.size) => by omega)).old KA)
  have KA0 := Lib.hid KA
  have RW := Lib.hid hr
  have hsub : (⟨4, 65001, 180, 3221225985, L⟩ : Opn).sub 65001 9 false = 0 := by
    simp [Opn.sub, Opn.number, Opn.own, hn, hi]
  have HS := Lib.hid hsub
  have HLL := Lib.hid hll
  obtain ⟨⟨m0, m1, m2, m3, m4⟩, -⟩ := full5 hb
  have hl := hb.lt
  clear hb hc hr KA hsub hn hi hll
  go_enter Tryd.func23, Tryd.ntmps23
  go_wp2_with fail
  refine (kf_2 _ _ _ _ _ _ _ FB.out).mono ?_
  rintro _ u ⟨rfl, hq, hk⟩
  obtain ⟨⟨x0, x1, x2, x3, x4⟩, -⟩ := full5 hq
  have hC := (HC.out.off hk).cps
  have K1 := Lib.hid (KA0.out.late hk (fun i (e : i = w.heap.size) => by omega))
  have CK := op_check ⟨4, 65001, 180, 3221225985, L⟩ ⟨(by show 4 < 256; decide), (by show 65001 < 65536; decide), (by show 180 < 65536; decide), (by show 3221225985 < 4294967296; decide)⟩ (.slice A L.length c) 65001 9 false u (RW.out.kept K1.out) hC HLL.out
  rw [HS.out] at CK
  have CK' : Calls Tryd.prog 19 #[.agg #[.int .u8 4, .int .u16 65001, .int .u16 180, .int .u32 3221225985, .slice A L.length c], .agg #[.int .u32 65001, .int .u32 9, .bool false]] u fun e w' => ∃ d, e = .returned (.tuple #[.agg #[.int .u8 0, .int .u8 0], d]) ∧ By w' d (Opn.data 0) ∧ Kept Nothing u w' := CK
  have HK := Lib.hid CK'
  clear CK CK' hC hq hk FB HC HS HLL
  go_wp2_with fail
  refine HK.out.mono ?_
  rintro _ w3 ⟨d, rfl, hd, hk3⟩
  obtain ⟨Ad, cd, rfl, _, _⟩ := hd.form
  have K3 := Lib.hid ((K1.out.trans hk3).alloc (.cells #[.int .u8 0, .int .u8 0] 30))
  clear hd hk3 K1 HK
  go_wp2
  go_ret
  exact ⟨rfl, K3.out⟩

theorem kc_3 (p : Nat) (s : Value) (L : List Cp) (w : World) (hb : Blk w p 28 #[.int .u8 4, .int .u16 65001, .int .u16 180, .int .u32 3221225985, s]) (hc : Cps w s L) (hr : RdC w) (hn : Cp.number L = (65001, true)) (_ : Cp.ipv4 false L = true) (hll : L.length ≤ 1000000) :
    Calls Tryd.prog 23 #[.func (.func 25) #[] #[], .pointer (some ⟨p, 0, none⟩)] w fun e w' => e = .returned (.int .u8 2) ∧ Kept Nothing w w' := by
  obtain ⟨A, c, rfl, _, _⟩ := hc.form
  have KA := (Kept.refl Nothing w).alloc (.cells #[.int .u8 4, .int .u16 65001, .int .u16 180, .int .u32 3221225985, .slice A L.length c] 28)
  have FB := Lib.hid (Blk.fresh w 28 #[.int .u8 4, .int .u16 65001, .int .u16 180, .int .u32 3221225985, .slice A L.length c])
  have HC := Lib.hid ((hc.offo (P := Only w.heap.size) (fun k (e : k = w.heap.size) => by omega)).old KA)
  have KA0 := Lib.hid KA
  have RW := Lib.hid hr
  have hsub : (⟨4, 9, 180, 3221225985, L⟩ : Opn).sub 65001 9 false = 2 := by
    simp [Opn.sub, Opn.number, Opn.own, hn]
  have HS := Lib.hid hsub
  have HLL := Lib.hid hll
  obtain ⟨⟨m0, m1, m2, m3, m4⟩, -⟩ := full5 hb
  have hl := hb.lt
  clear hb hc hr KA hsub hn hll
  go_enter Tryd.func23, Tryd.ntmps23
  go_wp2_with fail
  refine (kf_3 _ _ _ _ _ _ _ FB.out).mono ?_
  rintro _ u ⟨rfl, hq, hk⟩
  obtain ⟨⟨x0, x1, x2, x3, x4⟩, -⟩ := full5 hq
  have hC := (HC.out.off hk).cps
  have K1 := Lib.hid (KA0.out.late hk (fun i (e : i = w.heap.size) => by omega))
  have CK := op_check ⟨4, 9, 180, 3221225985, L⟩ ⟨(by show 4 < 256; decide), (by show 9 < 65536; decide), (by show 180 < 65536; decide), (by show 3221225985 < 4294967296; decide)⟩ (.slice A L.length c) 65001 9 false u (RW.out.kept K1.out) hC HLL.out
  rw [HS.out] at CK
  have CK' : Calls Tryd.prog 19 #[.agg #[.int .u8 4, .int .u16 9, .int .u16 180, .int .u32 3221225985, .slice A L.length c], .agg #[.int .u32 65001, .int .u32 9, .bool false]] u fun e w' => ∃ d, e = .returned (.tuple #[.agg #[.int .u8 2, .int .u8 2], d]) ∧ By w' d (Opn.data 2) ∧ Kept Nothing u w' := CK
  have HK := Lib.hid CK'
  clear CK CK' hC hq hk FB HC HS HLL
  go_wp2_with fail
  refine HK.out.mono ?_
  rintro _ w3 ⟨d, rfl, hd, hk3⟩
  obtain ⟨Ad, cd, rfl, _, _⟩ := hd.form
  have K3 := Lib.hid ((K1.out.trans hk3).alloc (.cells #[.int .u8 2, .int .u8 2] 30))
  clear hd hk3 K1 HK
  go_wp2
  go_ret
  exact ⟨rfl, K3.out⟩

theorem kc_4 (p : Nat) (s : Value) (L : List Cp) (w : World) (hb : Blk w p 28 #[.int .u8 4, .int .u16 65001, .int .u16 180, .int .u32 3221225985, s]) (hc : Cps w s L) (hr : RdC w) (hn : Cp.number L = (65001, true)) (_ : Cp.ipv4 false L = true) (hll : L.length ≤ 1000000) :
    Calls Tryd.prog 23 #[.func (.func 26) #[] #[], .pointer (some ⟨p, 0, none⟩)] w fun e w' => e = .returned (.int .u8 3) ∧ Kept Nothing w w' := by
  obtain ⟨A, c, rfl, _, _⟩ := hc.form
  have KA := (Kept.refl Nothing w).alloc (.cells #[.int .u8 4, .int .u16 65001, .int .u16 180, .int .u32 3221225985, .slice A L.length c] 28)
  have FB := Lib.hid (Blk.fresh w 28 #[.int .u8 4, .int .u16 65001, .int .u16 180, .int .u32 3221225985, .slice A L.length c])
  have HC := Lib.hid ((hc.offo (P := Only w.heap.size) (fun k (e : k = w.heap.size) => by omega)).old KA)
  have KA0 := Lib.hid KA
  have RW := Lib.hid hr
  have hsub : (⟨4, 65001, 180, 0, L⟩ : Opn).sub 65001 9 false = 3 := by
    simp [Opn.sub, Opn.number, Opn.own, hn]
  have HS := Lib.hid hsub
  have HLL := Lib.hid hll
  obtain ⟨⟨m0, m1, m2, m3, m4⟩, -⟩ := full5 hb
  have hl := hb.lt
  clear hb hc hr KA hsub hn hll
  go_enter Tryd.func23, Tryd.ntmps23
  go_wp2_with fail
  refine (kf_4 _ _ _ _ _ _ _ FB.out).mono ?_
  rintro _ u ⟨rfl, hq, hk⟩
  obtain ⟨⟨x0, x1, x2, x3, x4⟩, -⟩ := full5 hq
  have hC := (HC.out.off hk).cps
  have K1 := Lib.hid (KA0.out.late hk (fun i (e : i = w.heap.size) => by omega))
  have CK := op_check ⟨4, 65001, 180, 0, L⟩ ⟨(by show 4 < 256; decide), (by show 65001 < 65536; decide), (by show 180 < 65536; decide), (by show 0 < 4294967296; decide)⟩ (.slice A L.length c) 65001 9 false u (RW.out.kept K1.out) hC HLL.out
  rw [HS.out] at CK
  have CK' : Calls Tryd.prog 19 #[.agg #[.int .u8 4, .int .u16 65001, .int .u16 180, .int .u32 0, .slice A L.length c], .agg #[.int .u32 65001, .int .u32 9, .bool false]] u fun e w' => ∃ d, e = .returned (.tuple #[.agg #[.int .u8 2, .int .u8 3], d]) ∧ By w' d (Opn.data 3) ∧ Kept Nothing u w' := CK
  have HK := Lib.hid CK'
  clear CK CK' hC hq hk FB HC HS HLL
  go_wp2_with fail
  refine HK.out.mono ?_
  rintro _ w3 ⟨d, rfl, hd, hk3⟩
  obtain ⟨Ad, cd, rfl, _, _⟩ := hd.form
  have K3 := Lib.hid ((K1.out.trans hk3).alloc (.cells #[.int .u8 2, .int .u8 3] 30))
  clear hd hk3 K1 HK
  go_wp2
  go_ret
  exact ⟨rfl, K3.out⟩

theorem kc_5 (p : Nat) (s : Value) (L : List Cp) (w : World) (hb : Blk w p 28 #[.int .u8 4, .int .u16 65001, .int .u16 180, .int .u32 3221225985, s]) (hc : Cps w s L) (hr : RdC w) (hn : Cp.number L = (65001, true)) (_ : Cp.ipv4 false L = true) (hll : L.length ≤ 1000000) :
    Calls Tryd.prog 23 #[.func (.func 27) #[] #[], .pointer (some ⟨p, 0, none⟩)] w fun e w' => e = .returned (.int .u8 3) ∧ Kept Nothing w w' := by
  obtain ⟨A, c, rfl, _, _⟩ := hc.form
  have KA := (Kept.refl Nothing w).alloc (.cells #[.int .u8 4, .int .u16 65001, .int .u16 180, .int .u32 3221225985, .slice A L.length c] 28)
  have FB := Lib.hid (Blk.fresh w 28 #[.int .u8 4, .int .u16 65001, .int .u16 180, .int .u32 3221225985, .slice A L.length c])
  have HC := Lib.hid ((hc.offo (P := Only w.heap.size) (fun k (e : k = w.heap.size) => by omega)).old KA)
  have KA0 := Lib.hid KA
  have RW := Lib.hid hr
  have hsub : (⟨4, 65001, 180, 3758096385, L⟩ : Opn).sub 65001 9 false = 3 := by
    simp [Opn.sub, Opn.number, Opn.own, hn]
  have HS := Lib.hid hsub
  have HLL := Lib.hid hll
  obtain ⟨⟨m0, m1, m2, m3, m4⟩, -⟩ := full5 hb
  have hl := hb.lt
  clear hb hc hr KA hsub hn hll
  go_enter Tryd.func23, Tryd.ntmps23
  go_wp2_with fail
  refine (kf_5 _ _ _ _ _ _ _ FB.out).mono ?_
  rintro _ u ⟨rfl, hq, hk⟩
  obtain ⟨⟨x0, x1, x2, x3, x4⟩, -⟩ := full5 hq
  have hC := (HC.out.off hk).cps
  have K1 := Lib.hid (KA0.out.late hk (fun i (e : i = w.heap.size) => by omega))
  have CK := op_check ⟨4, 65001, 180, 3758096385, L⟩ ⟨(by show 4 < 256; decide), (by show 65001 < 65536; decide), (by show 180 < 65536; decide), (by show 3758096385 < 4294967296; decide)⟩ (.slice A L.length c) 65001 9 false u (RW.out.kept K1.out) hC HLL.out
  rw [HS.out] at CK
  have CK' : Calls Tryd.prog 19 #[.agg #[.int .u8 4, .int .u16 65001, .int .u16 180, .int .u32 3758096385, .slice A L.length c], .agg #[.int .u32 65001, .int .u32 9, .bool false]] u fun e w' => ∃ d, e = .returned (.tuple #[.agg #[.int .u8 2, .int .u8 3], d]) ∧ By w' d (Opn.data 3) ∧ Kept Nothing u w' := CK
  have HK := Lib.hid CK'
  clear CK CK' hC hq hk FB HC HS HLL
  go_wp2_with fail
  refine HK.out.mono ?_
  rintro _ w3 ⟨d, rfl, hd, hk3⟩
  obtain ⟨Ad, cd, rfl, _, _⟩ := hd.form
  have K3 := Lib.hid ((K1.out.trans hk3).alloc (.cells #[.int .u8 2, .int .u8 3] 30))
  clear hd hk3 K1 HK
  go_wp2
  go_ret
  exact ⟨rfl, K3.out⟩

theorem kc_6 (p : Nat) (s : Value) (L : List Cp) (w : World) (hb : Blk w p 28 #[.int .u8 4, .int .u16 65001, .int .u16 180, .int .u32 3221225985, s]) (hc : Cps w s L) (hr : RdC w) (hn : Cp.number L = (65001, true)) (_ : Cp.ipv4 false L = true) (hll : L.length ≤ 1000000) :
    Calls Tryd.prog 23 #[.func (.func 28) #[] #[], .pointer (some ⟨p, 0, none⟩)] w fun e w' => e = .returned (.int .u8 6) ∧ Kept Nothing w w' := by
  obtain ⟨A, c, rfl, _, _⟩ := hc.form
  have KA := (Kept.refl Nothing w).alloc (.cells #[.int .u8 4, .int .u16 65001, .int .u16 180, .int .u32 3221225985, .slice A L.length c] 28)
  have FB := Lib.hid (Blk.fresh w 28 #[.int .u8 4, .int .u16 65001, .int .u16 180, .int .u32 3221225985, .slice A L.length c])
  have HC := Lib.hid ((hc.offo (P := Only w.heap.size) (fun k (e : k = w.heap.size) => by omega)).old KA)
  have KA0 := Lib.hid KA
  have RW := Lib.hid hr
  have hsub : (⟨4, 65001, 2, 3221225985, L⟩ : Opn).sub 65001 9 false = 6 := by
    simp [Opn.sub, Opn.number, Opn.own, hn]
  have HS := Lib.hid hsub
  have HLL := Lib.hid hll
  obtain ⟨⟨m0, m1, m2, m3, m4⟩, -⟩ := full5 hb
  have hl := hb.lt
  clear hb hc hr KA hsub hn hll
  go_enter Tryd.func23, Tryd.ntmps23
  go_wp2_with fail
  refine (kf_6 _ _ _ _ _ _ _ FB.out).mono ?_
  rintro _ u ⟨rfl, hq, hk⟩
  obtain ⟨⟨x0, x1, x2, x3, x4⟩, -⟩ := full5 hq
  have hC := (HC.out.off hk).cps
  have K1 := Lib.hid (KA0.out.late hk (fun i (e : i = w.heap.size) => by omega))
  have CK := op_check ⟨4, 65001, 2, 3221225985, L⟩ ⟨(by show 4 < 256; decide), (by show 65001 < 65536; decide), (by show 2 < 65536; decide), (by show 3221225985 < 4294967296; decide)⟩ (.slice A L.length c) 65001 9 false u (RW.out.kept K1.out) hC HLL.out
  rw [HS.out] at CK
  have CK' : Calls Tryd.prog 19 #[.agg #[.int .u8 4, .int .u16 65001, .int .u16 2, .int .u32 3221225985, .slice A L.length c], .agg #[.int .u32 65001, .int .u32 9, .bool false]] u fun e w' => ∃ d, e = .returned (.tuple #[.agg #[.int .u8 2, .int .u8 6], d]) ∧ By w' d (Opn.data 6) ∧ Kept Nothing u w' := CK
  have HK := Lib.hid CK'
  clear CK CK' hC hq hk FB HC HS HLL
  go_wp2_with fail
  refine HK.out.mono ?_
  rintro _ w3 ⟨d, rfl, hd, hk3⟩
  obtain ⟨Ad, cd, rfl, _, _⟩ := hd.form
  have K3 := Lib.hid ((K1.out.trans hk3).alloc (.cells #[.int .u8 2, .int .u8 6] 30))
  clear hd hk3 K1 HK
  go_wp2
  go_ret
  exact ⟨rfl, K3.out⟩

theorem kc_7 (p : Nat) (s : Value) (L : List Cp) (w : World) (hb : Blk w p 28 #[.int .u8 4, .int .u16 65001, .int .u16 180, .int .u32 3221225985, s]) (hc : Cps w s L) (hr : RdC w) (hn : Cp.number L = (65001, true)) (hi : Cp.ipv4 false L = true) (hll : L.length ≤ 1000000) :
    Calls Tryd.prog 23 #[.func (.func 29) #[] #[], .pointer (some ⟨p, 0, none⟩)] w fun e w' => e = .returned (.int .u8 0) ∧ Kept Nothing w w' := by
  obtain ⟨A, c, rfl, _, _⟩ := hc.form
  have KA := (Kept.refl Nothing w).alloc (.cells #[.int .u8 4, .int .u16 65001, .int .u16 180, .int .u32 3221225985, .slice A L.length c] 28)
  have FB := Lib.hid (Blk.fresh w 28 #[.int .u8 4, .int .u16 65001, .int .u16 180, .int .u32 3221225985, .slice A L.length c])
  have HC := Lib.hid ((hc.offo (P := Only w.heap.size) (fun k (e : k = w.heap.size) => by omega)).old KA)
  have KA0 := Lib.hid KA
  have RW := Lib.hid hr
  have hsub : (⟨4, 65001, 0, 3221225985, L⟩ : Opn).sub 65001 9 false = 0 := by
    simp [Opn.sub, Opn.number, Opn.own, hn, hi]
  have HS := Lib.hid hsub
  have HLL := Lib.hid hll
  obtain ⟨⟨m0, m1, m2, m3, m4⟩, -⟩ := full5 hb
  have hl := hb.lt
  clear hb hc hr KA hsub hn hi hll
  go_enter Tryd.func23, Tryd.ntmps23
  go_wp2_with fail
  refine (kf_7 _ _ _ _ _ _ _ FB.out).mono ?_
  rintro _ u ⟨rfl, hq, hk⟩
  obtain ⟨⟨x0, x1, x2, x3, x4⟩, -⟩ := full5 hq
  have hC := (HC.out.off hk).cps
  have K1 := Lib.hid (KA0.out.late hk (fun i (e : i = w.heap.size) => by omega))
  have CK := op_check ⟨4, 65001, 0, 3221225985, L⟩ ⟨(by show 4 < 256; decide), (by show 65001 < 65536; decide), (by show 0 < 65536; decide), (by show 3221225985 < 4294967296; decide)⟩ (.slice A L.length c) 65001 9 false u (RW.out.kept K1.out) hC HLL.out
  rw [HS.out] at CK
  have CK' : Calls Tryd.prog 19 #[.agg #[.int .u8 4, .int .u16 65001, .int .u16 0, .int .u32 3221225985, .slice A L.length c], .agg #[.int .u32 65001, .int .u32 9, .bool false]] u fun e w' => ∃ d, e = .returned (.tuple #[.agg #[.int .u8 0, .int .u8 0], d]) ∧ By w' d (Opn.data 0) ∧ Kept Nothing u w' := CK
  have HK := Lib.hid CK'
  clear CK CK' hC hq hk FB HC HS HLL
  go_wp2_with fail
  refine HK.out.mono ?_
  rintro _ w3 ⟨d, rfl, hd, hk3⟩
  obtain ⟨Ad, cd, rfl, _, _⟩ := hd.form
  have K3 := Lib.hid ((K1.out.trans hk3).alloc (.cells #[.int .u8 0, .int .u8 0] 30))
  clear hd hk3 K1 HK
  go_wp2
  go_ret
  exact ⟨rfl, K3.out⟩

theorem kc_8 (p : Nat) (s : Value) (L : List Cp) (w : World) (hb : Blk w p 28 #[.int .u8 4, .int .u16 65001, .int .u16 180, .int .u32 3221225985, s]) (hc : Cps w s L) (hr : RdC w) (hn : Cp.number L = (65001, true)) (hi : Cp.ipv4 false L = true) (hll : L.length ≤ 1000000) :
    Calls Tryd.prog 23 #[.func (.func 30) #[] #[], .pointer (some ⟨p, 0, none⟩)] w fun e w' => e = .returned (.int .u8 0) ∧ Kept Nothing w w' := by
  obtain ⟨A, c, rfl, _, _⟩ := hc.form
  have KA := (Kept.refl Nothing w).alloc (.cells #[.int .u8 4, .int .u16 65001, .int .u16 180, .int .u32 3221225985, .slice A L.length c] 28)
  have FB := Lib.hid (Blk.fresh w 28 #[.int .u8 4, .int .u16 65001, .int .u16 180, .int .u32 3221225985, .slice A L.length c])
  have HC := Lib.hid ((hc.offo (P := Only w.heap.size) (fun k (e : k = w.heap.size) => by omega)).old KA)
  have KA0 := Lib.hid KA
  have RW := Lib.hid hr
  have hsub : (⟨4, 65001, 3, 3221225985, L⟩ : Opn).sub 65001 9 false = 0 := by
    simp [Opn.sub, Opn.number, Opn.own, hn, hi]
  have HS := Lib.hid hsub
  have HLL := Lib.hid hll
  obtain ⟨⟨m0, m1, m2, m3, m4⟩, -⟩ := full5 hb
  have hl := hb.lt
  clear hb hc hr KA hsub hn hi hll
  go_enter Tryd.func23, Tryd.ntmps23
  go_wp2_with fail
  refine (kf_8 _ _ _ _ _ _ _ FB.out).mono ?_
  rintro _ u ⟨rfl, hq, hk⟩
  obtain ⟨⟨x0, x1, x2, x3, x4⟩, -⟩ := full5 hq
  have hC := (HC.out.off hk).cps
  have K1 := Lib.hid (KA0.out.late hk (fun i (e : i = w.heap.size) => by omega))
  have CK := op_check ⟨4, 65001, 3, 3221225985, L⟩ ⟨(by show 4 < 256; decide), (by show 65001 < 65536; decide), (by show 3 < 65536; decide), (by show 3221225985 < 4294967296; decide)⟩ (.slice A L.length c) 65001 9 false u (RW.out.kept K1.out) hC HLL.out
  rw [HS.out] at CK
  have CK' : Calls Tryd.prog 19 #[.agg #[.int .u8 4, .int .u16 65001, .int .u16 3, .int .u32 3221225985, .slice A L.length c], .agg #[.int .u32 65001, .int .u32 9, .bool false]] u fun e w' => ∃ d, e = .returned (.tuple #[.agg #[.int .u8 0, .int .u8 0], d]) ∧ By w' d (Opn.data 0) ∧ Kept Nothing u w' := CK
  have HK := Lib.hid CK'
  clear CK CK' hC hq hk FB HC HS HLL
  go_wp2_with fail
  refine HK.out.mono ?_
  rintro _ w3 ⟨d, rfl, hd, hk3⟩
  obtain ⟨Ad, cd, rfl, _, _⟩ := hd.form
  have K3 := Lib.hid ((K1.out.trans hk3).alloc (.cells #[.int .u8 0, .int .u8 0] 30))
  clear hd hk3 K1 HK
  go_wp2
  go_ret
  exact ⟨rfl, K3.out⟩

theorem kc_9 (p : Nat) (s : Value) (L : List Cp) (w : World) (hb : Blk w p 28 #[.int .u8 4, .int .u16 65001, .int .u16 180, .int .u32 3221225985, s]) (hc : Cps w s L) (hr : RdC w) (_ : Cp.number L = (65001, true)) (_ : Cp.ipv4 false L = true) (_ : L.length ≤ 1000000) (r : Nat) (T : Value) (M : List Cp) (hcT : Cps w T M) (hT : w.cell? ⟨r, 0, none⟩ = some T) (hMn : Cp.number M = (0, false)) (hMi : Cp.ipv4 false M = false) (hMl : M.length ≤ 1000000) :
    Calls Tryd.prog 23 #[.func (.func 31) #[] #[.pointer (some ⟨r, 0, none⟩)], .pointer (some ⟨p, 0, none⟩)] w fun e w' => e = .returned (.int .u8 7) ∧ Kept Nothing w w' := by
  obtain ⟨A, c, rfl, _, _⟩ := hc.form
  obtain ⟨AT, cT, rfl, _, _⟩ := hcT.form
  have KA := (Kept.refl Nothing w).alloc (.cells #[.int .u8 4, .int .u16 65001, .int .u16 180, .int .u32 3221225985, .slice A L.length c] 28)
  have FB := Lib.hid (Blk.fresh w 28 #[.int .u8 4, .int .u16 65001, .int .u16 180, .int .u32 3221225985, .slice A L.length c])
  have HC := Lib.hid ((hc.offo (P := Only w.heap.size) (fun k (e : k = w.heap.size) => by omega)).old KA)
  have HCT := Lib.hid hcT
  have HTc := Lib.hid (KA.cell_some hT (fun x => x))
  have HNE : Hid (r ≠ w.heap.size) := Lib.hid (by have := World.block_lt_of_cell? _ _ hT; simp only at this; omega)
  have KA0 := Lib.hid KA
  have RW := Lib.hid hr
  have hsub : (⟨4, 65001, 180, 3221225985, M⟩ : Opn).sub 65001 9 false = 7 := by
    simp [Opn.sub, Opn.number, Opn.own, hMn, hMi]
  have HS := Lib.hid hsub
  have HLL := Lib.hid hMl
  obtain ⟨⟨m0, m1, m2, m3, m4⟩, -⟩ := full5 hb
  have hl := hb.lt
  clear hb hc hr KA hsub hcT hT hMn hMi hMl
  go_enter Tryd.func23, Tryd.ntmps23
  go_wp2_with fail
  refine (kf_9 _ r _ _ _ _ _ _ _ _ _ FB.out HTc.out HNE.out).mono ?_
  rintro _ u ⟨rfl, hq, hk⟩
  obtain ⟨⟨x0, x1, x2, x3, x4⟩, -⟩ := full5 hq
  have hC := ((HCT.out.offo (P := Only w.heap.size) (fun k (e : k = w.heap.size) => by omega)).old KA0.out |>.off hk).cps
  have K1 := Lib.hid (KA0.out.late hk (fun i (e : i = w.heap.size) => by omega))
  have CK := op_check ⟨4, 65001, 180, 3221225985, M⟩ ⟨(by show 4 < 256; decide), (by show 65001 < 65536; decide), (by show 180 < 65536; decide), (by show 3221225985 < 4294967296; decide)⟩ (.slice AT M.length cT) 65001 9 false u (RW.out.kept K1.out) hC HLL.out
  rw [HS.out] at CK
  have CK' : Calls Tryd.prog 19 #[.agg #[.int .u8 4, .int .u16 65001, .int .u16 180, .int .u32 3221225985, .slice AT M.length cT], .agg #[.int .u32 65001, .int .u32 9, .bool false]] u fun e w' => ∃ d, e = .returned (.tuple #[.agg #[.int .u8 2, .int .u8 7], d]) ∧ By w' d (Opn.data 7) ∧ Kept Nothing u w' := CK
  have HK := Lib.hid CK'
  clear CK CK' hC hq hk FB HC HS HLL
  go_wp2_with fail
  refine HK.out.mono ?_
  rintro _ w3 ⟨d, rfl, hd, hk3⟩
  obtain ⟨Ad, cd, rfl, _, _⟩ := hd.form
  have K3 := Lib.hid ((K1.out.trans hk3).alloc (.cells #[.int .u8 2, .int .u8 7] 30))
  clear hd hk3 K1 HK
  go_wp2
  go_ret
  exact ⟨rfl, K3.out⟩

theorem kc_10 (p : Nat) (s : Value) (L : List Cp) (w : World) (hb : Blk w p 28 #[.int .u8 4, .int .u16 65001, .int .u16 180, .int .u32 3221225985, s]) (hc : Cps w s L) (hr : RdC w) (_ : Cp.number L = (65001, true)) (_ : Cp.ipv4 false L = true) (_ : L.length ≤ 1000000) :
    Calls Tryd.prog 23 #[.func (.func 32) #[] #[], .pointer (some ⟨p, 0, none⟩)] w fun e w' => e = .returned (.int .u8 0) ∧ Kept Nothing w w' := by
  obtain ⟨A, c, rfl, _, _⟩ := hc.form
  have KA := (Kept.refl Nothing w).alloc (.cells #[.int .u8 4, .int .u16 65001, .int .u16 180, .int .u32 3221225985, .slice A L.length c] 28)
  have FB := Lib.hid (Blk.fresh w 28 #[.int .u8 4, .int .u16 65001, .int .u16 180, .int .u32 3221225985, .slice A L.length c])
  have HC := Lib.hid ((hc.offo (P := Only w.heap.size) (fun k (e : k = w.heap.size) => by omega)).old KA)
  have KA0 := Lib.hid KA
  have RW := Lib.hid hr
  have hsub : (⟨4, 65001, 180, 3221225985, []⟩ : Opn).sub 65001 9 false = 0 := by
    simp [Opn.sub, Opn.number, Opn.own, show Cp.number [] = (0, false) from rfl, show Cp.ipv4 false [] = true from rfl]
  have HS := Lib.hid hsub
  have HLL := Lib.hid (show ([] : List Cp).length ≤ 1000000 by decide)
  obtain ⟨⟨m0, m1, m2, m3, m4⟩, -⟩ := full5 hb
  have hl := hb.lt
  clear hb hc hr KA hsub
  go_enter Tryd.func23, Tryd.ntmps23
  go_wp2_with fail
  refine (kf_10 _ _ _ _ _ _ _ FB.out).mono ?_
  rintro _ u ⟨rfl, hq, hk⟩
  obtain ⟨⟨x0, x1, x2, x3, x4⟩, -⟩ := full5 hq
  have hC := Cps.nil u
  have K1 := Lib.hid (KA0.out.late hk (fun i (e : i = w.heap.size) => by omega))
  have CK := op_check ⟨4, 65001, 180, 3221225985, []⟩ ⟨(by show 4 < 256; decide), (by show 65001 < 65536; decide), (by show 180 < 65536; decide), (by show 3221225985 < 4294967296; decide)⟩ (.slice none 0 0) 65001 9 false u (RW.out.kept K1.out) hC HLL.out
  rw [HS.out] at CK
  have CK' : Calls Tryd.prog 19 #[.agg #[.int .u8 4, .int .u16 65001, .int .u16 180, .int .u32 3221225985, .slice none 0 0], .agg #[.int .u32 65001, .int .u32 9, .bool false]] u fun e w' => ∃ d, e = .returned (.tuple #[.agg #[.int .u8 0, .int .u8 0], d]) ∧ By w' d (Opn.data 0) ∧ Kept Nothing u w' := CK
  have HK := Lib.hid CK'
  clear CK CK' hC hq hk FB HC HS HLL
  go_wp2_with fail
  refine HK.out.mono ?_
  rintro _ w3 ⟨d, rfl, hd, hk3⟩
  obtain ⟨Ad, cd, rfl, _, _⟩ := hd.form
  have K3 := Lib.hid ((K1.out.trans hk3).alloc (.cells #[.int .u8 0, .int .u8 0] 30))
  clear hd hk3 K1 HK
  go_wp2
  go_ret
  exact ⟨rfl, K3.out⟩

end Go.Proofs.YtohgkibpcgfihaaDoor
