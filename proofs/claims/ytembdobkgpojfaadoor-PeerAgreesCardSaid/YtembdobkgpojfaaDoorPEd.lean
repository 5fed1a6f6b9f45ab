
/-
  peer: Agree, the document's Agree; number.Short; the law's wakes.
-/
import Derived.Test.YtembdobkgpojfaaDoorPEc
import Derived.Test.YtembdobkgpojfaaDoorDc
namespace Go.Proofs.YtembdobkgpojfaaDoor
open Go.RowKit

/-- What is agreed on. -/
structure Pe.Ag where
  h : Int
  k : Int
  four : Bool
  ref : Bool
  n : Nat
def Pe.Ag.cl (a : Pe.Ag) : Array Value := #[.int .i64 a.h, .int .i64 a.k, .bool a.four, .bool a.ref, .int .u32 (a.n : Int)]
def Pe.agree (a b : Int) (f : Nat) (l : List Cp) : Pe.Ag := ⟨(Ck.agreed a b).1, (Ck.agreed a b).2, (Cp.number l).2, Cp.refreshes l, if (Cp.number l).2 = true then (Cp.number l).1 else f⟩
theorem boxes2P (w : World) (t1 t2 : TypeId) (c1 c2 : Array Value) :
    Blk ((w.alloc (.cells c1 t1)).alloc (.cells c2 t2)) w.heap.size t1 c1 ∧ Blk ((w.alloc (.cells c1 t1)).alloc (.cells c2 t2)) (w.heap.size + 1) t2 c2 ∧ Kept Nothing w ((w.alloc (.cells c1 t1)).alloc (.cells c2 t2)) := by
  refine ⟨(Blk.fresh w _ _).alloc _, ?_, ((Kept.refl _ w).alloc _).alloc _⟩
  have := Blk.fresh (w.alloc (.cells c1 t1)) t2 c2
  rwa [World.size_alloc] at this
theorem wrap32_small {x : Nat} (h : x < 65536) : IntKind.u32.wrap (x : Int) = (x : Int) := by
  simp only [IntKind.wrap, IntKind.bits, IntKind.signed]
  simp
  omega
set_option maxRecDepth 100000 in
set_option maxHeartbeats 4000000 in
theorem pe_agree (a b : Int) (ha : a < 9223372036854775808) (hb : b < 9223372036854775808) (f : Nat) (hf : f < 65536) (v : Value) (l : List Cp) (hl : l.length ≤ 1000000) (w : World) (hv : Cps w v l) :
    Calls Tryd.prog 34 #[.int .i64 a, .int .i64 b, .int .u16 (f : Int), v] w fun e w' => e = .returned (.agg (Pe.agree a b f l).cl) ∧ Kept Nothing w w' := by
  obtain ⟨A, c, rfl, -, -⟩ := hv.form
  have HA := Lib.hid (fun u => ck_agreed a b ha hb u)
  have HN := Lib.hid (fun u (k : Kept Nothing w u) => cp_number _ l u (hv.old k) hl)
  have HR := Lib.hid (fun u (k : Kept Nothing w u) => cp_refreshes _ l u (hv.old k) hl)
  have HW := wrap32_small hf
  have HX : Hid (Pe.agree a b f l = ⟨(Ck.agreed a b).1, (Ck.agreed a b).2, (Cp.number l).2, Cp.refreshes l, if (Cp.number l).2 = true then (Cp.number l).1 else f⟩) := Lib.hid rfl
  have R0 := Blk.fresh w 79 #[.int .i64 0, .int .i64 0, .bool false, .bool false, .int .u32 0]
  have K0 := Lib.hid ((Kept.refl Nothing w).alloc (.cells #[.int .i64 0, .int .i64 0, .bool false, .bool false, .int .u32 0] 79))
  clear hv ha hb hf
  generalize Pe.agree a b f l = z at *
  generalize Ck.agreed a b = ag at *
  obtain ⟨h, k⟩ := ag
  generalize Cp.number l = nu at *
  obtain ⟨nn, four⟩ := nu
  generalize Cp.refreshes l = rf at *
  simp only at HA HN HR HX
  obtain ⟨m, hm⟩ : ∃ m, l.length = m := ⟨_, rfl⟩
  rw [hm] at HN HR ⊢
  clear hm hl
  obtain ⟨zf, hzf⟩ : ∃ z : Int, (f : Int) = z := ⟨_, rfl⟩
  rw [hzf] at HW ⊢
  have HZF := Lib.hid hzf
  clear hzf
  have HRES : Hid (z.cl = #[.int .i64 h, .int .i64 k, .bool four, .bool rf, .int .u32 (if four = true then (nn : Int) else zf)]) := Lib.hid (by rw [HX.out, ← HZF.out]; cases four <;> rfl)
  clear HX
  go_enter Tryd.func34, Tryd.ntmps34
  go_upto_region 1 with fail
  change Code.wp _ _ _ _ (w.alloc (.cells #[.int .i64 0, .int .i64 0, .bool false, .bool false, .int .u32 0] 79))
  generalize w.alloc (.cells #[.int .i64 0, .int .i64 0, .bool false, .bool false, .int .u32 0] 79) = W0 at *
  have HR0 := Lib.hid R0
  clear R0
  go_wp2_with fail
  refine (HA.out W0).mono ?_
  rintro e w1 ⟨rfl, rfl⟩
  go_wp2_with fail
  refine (HN.out W0 K0.out).mono ?_
  rintro e w2 ⟨rfl, hk2⟩
  have K2 := Lib.hid (K0.out.trans hk2)
  have R2 := Lib.hid (HR0.out.kept hk2 (fun x => x))
  clear hk2 HN HA HR0 K0
  cases four with
  | true =>
    go_wp2_with fail
    refine (HR.out w2 K2.out).mono ?_
    rintro e w3 ⟨rfl, hk3⟩
    have K3 := Lib.hid (K2.out.trans hk3)
    have R3 := Lib.hid (R2.out.kept hk3 (fun x => x))
    clear hk3 R2 K2
    go_wp2_with (refine wpList_store_row rfl 79 _ _ rfl w.heap.size #[.int .i64 h, .int .i64 k, .bool true, .bool rf, .int .u32 (nn : Int)] rfl rfl 79 _ R3.out (by kernel_rfl) rfl (by kernel_rfl) ?_)
    have hB := setRow_heap w3 w.heap.size _ #[.int .i64 h, .int .i64 k, .bool true, .bool rf, .int .u32 (nn : Int)] _ _ R3.out
    rw [HRES.out]
    refine bodyPost_ret (v := .agg #[.int .i64 h, .int .i64 k, .bool true, .bool rf, .int .u32 (nn : Int)]) ?_ rfl ⟨rfl, K3.out.trans_new (Kept.setRow _ _) (fun i hi (e : i = w.heap.size) => by omega)⟩
    exact results_cell_row (p := 8) rfl _ _ w.heap.size 79 _ (0, 0) _ rfl hB Tryd.underlying79 rfl (by kernel_rfl)
  | false =>
    go_wp2_with fail
    refine (HR.out w2 K2.out).mono ?_
    rintro e w3 ⟨rfl, hk3⟩
    have K3 := Lib.hid (K2.out.trans hk3)
    have R3 := Lib.hid (R2.out.kept hk3 (fun x => x))
    clear hk3 R2 K2
    go_wp2_with (refine wpList_store_row rfl 79 _ _ rfl w.heap.size #[.int .i64 h, .int .i64 k, .bool false, .bool rf, .int .u32 zf] rfl rfl 79 _ R3.out (by kernel_rfl) rfl (by kernel_rfl) ?_)
    have hB := setRow_heap w3 w.heap.size _ #[.int .i64 h, .int .i64 k, .bool false, .bool rf, .int .u32 zf] _ _ R3.out
    rw [HRES.out]
    refine bodyPost_ret (v := .agg #[.int .i64 h, .int .i64 k, .bool false, .bool rf, .int .u32 zf]) ?_ rfl ⟨rfl, K3.out.trans_new (Kept.setRow _ _) (fun i hi (e : i = w.heap.size) => by omega)⟩
    exact results_cell_row (p := 8) rfl _ _ w.heap.size 79 _ (0, 0) _ rfl hB Tryd.underlying79 rfl (by kernel_rfl)
set_option maxRecDepth 100000 in
set_option maxHeartbeats 4000000 in
theorem rpe_agree (a b : Int) (ha : a < 9223372036854775808) (hb : b < 9223372036854775808) (f : Nat) (hf : f < 65536) (v : Value) (l : List Cp) (hl : l.length ≤ 1000000) (w : World) (hv : Cps w v l) :
    Calls Tryd.prog 35 #[.int .i64 a, .int .i64 b, .int .u16 (f : Int), v] w fun e w' => e = .returned (.agg (Pe.agree a b f l).cl) ∧ Kept Nothing w w' := by
  obtain ⟨A, c, rfl, -, -⟩ := hv.form
  have HA := Lib.hid (fun u => rc_agreed a b ha hb u)
  have HN := Lib.hid (fun u (k : Kept Nothing w u) => rcp_number _ l u (hv.old k) hl)
  have HR := Lib.hid (fun u (k : Kept Nothing w u) => rcp_refreshes _ l u (hv.old k) hl)
  have HW := wrap32_small hf
  have HX : Hid (Pe.agree a b f l = ⟨(Ck.agreed a b).1, (Ck.agreed a b).2, (Cp.number l).2, Cp.refreshes l, if (Cp.number l).2 = true then (Cp.number l).1 else f⟩) := Lib.hid rfl
  clear ha hb hf
  generalize Pe.agree a b f l = z at *
  generalize Ck.agreed a b = ag at *
  obtain ⟨h, k⟩ := ag
  generalize Cp.number l = nu at *
  obtain ⟨nn, four⟩ := nu
  generalize Cp.refreshes l = rf at *
  simp only at HA HN HR HX
  obtain ⟨m, hm⟩ : ∃ m, l.length = m := ⟨_, rfl⟩
  rw [hm] at HN HR ⊢
  clear hm hl hv
  obtain ⟨zf, hzf⟩ : ∃ z : Int, (f : Int) = z := ⟨_, rfl⟩
  rw [hzf] at HW ⊢
  have HZF := Lib.hid hzf
  clear hzf
  have HRES : Hid (z.cl = #[.int .i64 h, .int .i64 k, .bool four, .bool rf, .int .u32 (if four = true then (nn : Int) else zf)]) := Lib.hid (by rw [HX.out, ← HZF.out]; cases four <;> rfl)
  clear HX
  obtain ⟨R0, B0, K0⟩ := boxes2P w 82 82 #[.int .i64 0, .int .i64 0, .bool false, .bool false, .int .u32 0] #[.int .i64 0, .int .i64 0, .bool false, .bool false, .int .u32 zf]
  go_enter Tryd.func35, Tryd.ntmps35
  go_upto_region 2 with fail
  change Code.wp _ _ _ _ ((w.alloc (.cells #[.int .i64 0, .int .i64 0, .bool false, .bool false, .int .u32 0] 82)).alloc (.cells #[.int .i64 0, .int .i64 0, .bool false, .bool false, .int .u32 zf] 82))
  generalize (w.alloc (.cells #[.int .i64 0, .int .i64 0, .bool false, .bool false, .int .u32 0] 82)).alloc (.cells #[.int .i64 0, .int .i64 0, .bool false, .bool false, .int .u32 zf] 82) = W0 at *
  have f0 := B0.free 0
  have f1 := B0.free 1
  have b0 := B0.cell 0
  have b1 := B0.cell 1
  go_wp2_with fail
  refine (HA.out W0).mono ?_
  rintro e w1 ⟨rfl, rfl⟩
  go_upto_region 3 with fail
  have B1 := Lib.hid ((B0.put 0 (.int .i64 h)).put 1 (.int .i64 k))
  have kk := (Kept.own W0 (w.heap.size + 1) 0 (.int .i64 h)).trans (Kept.own (W0.setCell ⟨w.heap.size + 1, 0, none⟩ (.int .i64 h)) (w.heap.size + 1) 1 (.int .i64 k))
  have R1 := Lib.hid (R0.kept kk (fun (e : w.heap.size = w.heap.size + 1) => by omega))
  have K1 := Lib.hid (K0.trans_new kk (fun i hi (e : i = w.heap.size + 1) => by omega))
  clear kk f0 f1 b0 b1 R0 B0 K0 HA
  generalize (W0.setCell ⟨w.heap.size + 1, 0, none⟩ (.int .i64 h)).setCell ⟨w.heap.size + 1, 1, none⟩ (.int .i64 k) = W1 at *
  go_wp2_with fail
  refine (HR.out W1 K1.out).mono ?_
  rintro e w2 ⟨rfl, hk2⟩
  have B2 := B1.out.kept hk2 (fun x => x)
  have R2 := R1.out.kept hk2 (fun x => x)
  have K2 := K1.out.trans hk2
  have f3 := B2.free 3
  have b3 := B2.cell 3
  clear B1 R1 K1 hk2 HR
  go_upto_region 4 with fail
  have B3 := Lib.hid (B2.put 3 (.bool rf))
  have kk := Kept.own w2 (w.heap.size + 1) 3 (.bool rf)
  have R3 := Lib.hid (R2.kept kk (fun (e : w.heap.size = w.heap.size + 1) => by omega))
  have K3 := Lib.hid (K2.trans_new kk (fun i hi (e : i = w.heap.size + 1) => by omega))
  clear kk f3 b3 R2 B2 K2
  generalize w2.setCell ⟨w.heap.size + 1, 3, none⟩ (.bool rf) = W3 at *
  go_wp2_with fail
  refine (HN.out W3 K3.out).mono ?_
  rintro e w4 ⟨rfl, hk4⟩
  have B4 := B3.out.kept hk4 (fun x => x)
  have R4 := R3.out.kept hk4 (fun x => x)
  have K4 := K3.out.trans hk4
  clear B3 R3 K3 hk4 HN
  cases four with
  | false =>
    have b0 : w4.cell? ⟨w.heap.size + 1, 0, none⟩ = some (.int .i64 h) := B4.cell 0
    have b1 : w4.cell? ⟨w.heap.size + 1, 1, none⟩ = some (.int .i64 k) := B4.cell 1
    have b2 : w4.cell? ⟨w.heap.size + 1, 2, none⟩ = some (.bool false) := B4.cell 2
    have b3 : w4.cell? ⟨w.heap.size + 1, 3, none⟩ = some (.bool rf) := B4.cell 3
    have b4 : w4.cell? ⟨w.heap.size + 1, 4, none⟩ = some (.int .u32 zf) := B4.cell 4
    have R4h := Lib.hid R4
    have K4h := Lib.hid K4
    clear B4 R4 K4
    go_wp2_with (refine wpList_store_row rfl 82 _ _ rfl w.heap.size #[.int .i64 h, .int .i64 k, .bool false, .bool rf, .int .u32 zf] rfl rfl 82 _ R4h.out (by kernel_rfl) rfl (by kernel_rfl) ?_)
    have hB := setRow_heap w4 w.heap.size _ #[.int .i64 h, .int .i64 k, .bool false, .bool rf, .int .u32 zf] _ _ R4h.out
    rw [HRES.out]
    refine bodyPost_ret (v := .agg #[.int .i64 h, .int .i64 k, .bool false, .bool rf, .int .u32 zf]) ?_ rfl ⟨rfl, K4h.out.trans_new (Kept.setRow _ _) (fun i hi (e : i = w.heap.size) => by omega)⟩
    exact results_cell_row (p := 8) rfl _ _ w.heap.size 82 _ (0, 0) _ rfl hB Tryd.underlying82 rfl (by kernel_rfl)
  | true =>
    have f2 := B4.free 2
    have f4 := B4.free 4
    have b2 : w4.cell? ⟨w.heap.size + 1, 2, none⟩ = some (.bool false) := B4.cell 2
    have b4 : w4.cell? ⟨w.heap.size + 1, 4, none⟩ = some (.int .u32 zf) := B4.cell 4
    go_upto_region 8 with fail
    have B5 := (B4.put 2 (.bool true)).put 4 (.int .u32 (nn : Int))
    have kk := (Kept.own w4 (w.heap.size + 1) 2 (.bool true)).trans (Kept.own (w4.setCell ⟨w.heap.size + 1, 2, none⟩ (.bool true)) (w.heap.size + 1) 4 (.int .u32 (nn : Int)))
    have R5 := Lib.hid (R4.kept kk (fun (e : w.heap.size = w.heap.size + 1) => by omega))
    have K5 := Lib.hid (K4.trans_new kk (fun i hi (e : i = w.heap.size + 1) => by omega))
    clear kk f2 f4 b2 b4 R4 B4 K4
    generalize (w4.setCell ⟨w.heap.size + 1, 2, none⟩ (.bool true)).setCell ⟨w.heap.size + 1, 4, none⟩ (.int .u32 (nn : Int)) = w5 at *
    have b0 : w5.cell? ⟨w.heap.size + 1, 0, none⟩ = some (.int .i64 h) := B5.cell 0
    have b1 : w5.cell? ⟨w.heap.size + 1, 1, none⟩ = some (.int .i64 k) := B5.cell 1
    have b2 : w5.cell? ⟨w.heap.size + 1, 2, none⟩ = some (.bool true) := B5.cell 2
    have b3 : w5.cell? ⟨w.heap.size + 1, 3, none⟩ = some (.bool rf) := B5.cell 3
    have b4 : w5.cell? ⟨w.heap.size + 1, 4, none⟩ = some (.int .u32 (nn : Int)) := B5.cell 4
    clear B5
    go_wp2_with (refine wpList_store_row rfl 82 _ _ rfl w.heap.size #[.int .i64 h, .int .i64 k, .bool true, .bool rf, .int .u32 (nn : Int)] rfl rfl 82 _ R5.out (by kernel_rfl) rfl (by kernel_rfl) ?_)
    have hB := setRow_heap w5 w.heap.size _ #[.int .i64 h, .int .i64 k, .bool true, .bool rf, .int .u32 (nn : Int)] _ _ R5.out
    rw [HRES.out]
    refine bodyPost_ret (v := .agg #[.int .i64 h, .int .i64 k, .bool true, .bool rf, .int .u32 (nn : Int)]) ?_ rfl ⟨rfl, K5.out.trans_new (Kept.setRow _ _) (fun i hi (e : i = w.heap.size) => by omega)⟩
    exact results_cell_row (p := 8) rfl _ _ w.heap.size 82 _ (0, 0) _ rfl hB Tryd.underlying82 rfl (by kernel_rfl)
theorem as_one (w : World) (t : TypeId) (n : Nat) (hn : n < 4294967296) : As (w.alloc (.cells #[.int .u32 (n : Int)] t)) (.slice (some ⟨w.heap.size, 0, none⟩) 1 1) [n] := by
  refine ⟨fun m hm => by simp at hm; omega, _, 1, rfl, Nat.le_refl _, by simp [maxLen], rfl, (fun h => by cases h), fun a ha j u hu => ?_, fun u hu => ?_⟩
  · injection ha with ha
    subst ha
    rw [add_none, Nat.zero_add, (Blk.fresh w t _).cell, ← hu]
    simp [ass]
  · simp [ass] at hu
    subst hu
    rfl
def oW : Pe.O := ⟨65001, 100, [65002], 1⟩
set_option maxRecDepth 100000 in
set_option maxHeartbeats 4000000 in
theorem pe_wakes (w : World) (hs : Spans w) : Calls Tryd.prog 33 #[] w fun e w' => e = .returned (.bool true) ∧ Kept Nothing w w' := by
  have k1 := (Kept.refl Nothing w).alloc (.cells #[.int .u32 65002] 45)
  have hA := as_one w 45 65002 (by decide)
  have k2 := k1.alloc (.cells #[.int .u32 65001, .int .u32 100, .slice (some ⟨w.heap.size, 0, none⟩) 1 1, .int .u32 1] 49)
  have hA2 := hA.old ((Kept.refl Nothing _).alloc (.cells #[.int .u32 65001, .int .u32 100, .slice (some ⟨w.heap.size, 0, none⟩) 1 1, .int .u32 1] 49))
  have hB := Blk.fresh (w.alloc (.cells #[.int .u32 65002] 45)) 49 #[.int .u32 65001, .int .u32 100, .slice (some ⟨w.heap.size, 0, none⟩) 1 1, .int .u32 1]
  rw [World.size_alloc] at hB
  go_enter Tryd.func33, Tryd.ntmps33
  go_upto_region 2 with fail
  change Code.wp _ _ _ _ ((w.alloc (.cells #[.int .u32 65002] 45)).alloc (.cells #[.int .u32 65001, .int .u32 100, .slice (some ⟨w.heap.size, 0, none⟩) 1 1, .int .u32 1] 49))
  have HO : Hid (∀ u, Kept Nothing ((w.alloc (.cells #[.int .u32 65002] 45)).alloc (.cells #[.int .u32 65001, .int .u32 100, .slice (some ⟨w.heap.size, 0, none⟩) 1 1, .int .u32 1] 49)) u → PeO u (.slice (some ⟨w.heap.size, 0, none⟩) 1 1) oW ∧ Spans u) := Lib.hid (fun u k => ⟨⟨by decide, by decide, hA2.old k⟩, hs.kept (k2.trans k)⟩)
  have HB := Lib.hid hB
  have HK := Lib.hid k2
  clear hA hA2 hs k1 k2 hB
  generalize (w.alloc (.cells #[.int .u32 65002] 45)).alloc (.cells #[.int .u32 65001, .int .u32 100, .slice (some ⟨w.heap.size, 0, none⟩) 1 1, .int .u32 1] 49) = W0 at *
  have HCB : Hid (∀ u, Kept Nothing W0 u → u.cell? ⟨w.heap.size + 1, 0, none⟩ = some (.int .u32 65001) ∧ u.cell? ⟨w.heap.size + 1, 1, none⟩ = some (.int .u32 100) ∧ u.cell? ⟨w.heap.size + 1, 2, none⟩ = some (.slice (some ⟨w.heap.size, 0, none⟩) 1 1) ∧ u.cell? ⟨w.heap.size + 1, 3, none⟩ = some (.int .u32 1)) :=
    Lib.hid (fun u k => have h := HB.out.kept k (fun x => x); ⟨h.cell 0, h.cell 1, h.cell 2, h.cell 3⟩)
  have HMa : Hid (∀ u, Kept Nothing W0 u → Calls Tryd.prog 24 #[.agg #[.int .u32 65001, .int .u32 100, .slice (some ⟨w.heap.size, 0, none⟩) 1 1, .int .u32 1]] u fun e w' => e = .returned (.bool true) ∧ Kept Nothing u w') :=
    Lib.hid (fun u k => pe_may oW _ u (HO.out u k).1 (HO.out u k).2)
  have HCl : Hid (∀ u (n r : Nat), Kept Nothing W0 u → n < 4294967296 → Pe.cls oW n = r → Calls Tryd.prog 26 #[.agg #[.int .u32 65001, .int .u32 100, .slice (some ⟨w.heap.size, 0, none⟩) 1 1, .int .u32 1], .int .u32 (n : Int)] u fun e w' => e = .returned (.int .i64 (r : Int)) ∧ Kept Nothing u w') :=
    Lib.hid (fun u n r k hn hr => by rw [← hr]; exact pe_class oW _ n hn u (HO.out u k).1 (HO.out u k).2)
  have HTe : Hid (∀ u (k : Int) (r : Nat), Pe.tells oW k = r → Calls Tryd.prog 28 #[.agg #[.int .u32 65001, .int .u32 100, .slice (some ⟨w.heap.size, 0, none⟩) 1 1, .int .u32 1], .int .i64 k] u fun e w' => e = .returned (.int .u32 (r : Int)) ∧ Kept Nothing u w') :=
    Lib.hid (fun u k r hr => by rw [← hr]; exact pe_tells oW _ ⟨_, _, _, rfl⟩ k u)
  clear HO HB
  obtain ⟨b0, b1, b2, b3⟩ := HCB.out W0 (Kept.refl _ _)
  go_wp2_with fail
  refine (HMa.out W0 (Kept.refl _ _)).mono ?_
  rintro e w1 ⟨rfl, k1⟩
  have K1 := Lib.hid k1
  obtain ⟨c0, c1, c2, c3⟩ := HCB.out w1 k1
  clear b0 b1 b2 b3 k1
  go_wp2_with fail
  refine (HCl.out w1 65001 1 K1.out (by decide) (by rfl)).mono ?_
  rintro e w2 ⟨rfl, k2⟩
  have K2 := Lib.hid (K1.out.trans k2)
  obtain ⟨b0, b1, b2, b3⟩ := HCB.out w2 K2.out
  clear c0 c1 c2 c3 k2 K1
  go_wp2_with fail
  refine (HCl.out w2 65002 2 K2.out (by decide) (by rfl)).mono ?_
  rintro e w3 ⟨rfl, k3⟩
  have K3 := Lib.hid (K2.out.trans k3)
  obtain ⟨c0, c1, c2, c3⟩ := HCB.out w3 K3.out
  clear b0 b1 b2 b3 k3 K2
  go_wp2_with fail
  refine (HCl.out w3 200 3 K3.out (by decide) (by rfl)).mono ?_
  rintro e w4 ⟨rfl, k4⟩
  have K4 := Lib.hid (K3.out.trans k4)
  obtain ⟨b0, b1, b2, b3⟩ := HCB.out w4 K4.out
  clear c0 c1 c2 c3 k4 K3
  go_wp2_with fail
  refine (HCl.out w4 100 0 K4.out (by decide) (by rfl)).mono ?_
  rintro e w5 ⟨rfl, k5⟩
  have K5 := Lib.hid (K4.out.trans k5)
  obtain ⟨c0, c1, c2, c3⟩ := HCB.out w5 K5.out
  clear b0 b1 b2 b3 k5 K4
  go_wp2_with fail
  refine (HCl.out w5 23456 0 K5.out (by decide) (by rfl)).mono ?_
  rintro e w6 ⟨rfl, k6⟩
  have K6 := Lib.hid (K5.out.trans k6)
  obtain ⟨b0, b1, b2, b3⟩ := HCB.out w6 K6.out
  clear c0 c1 c2 c3 k6 K5
  go_wp2_with fail
  refine (HTe.out w6 3 100 (by rfl)).mono ?_
  rintro e w7 ⟨rfl, k7⟩
  have K7 := Lib.hid (K6.out.trans k7)
  obtain ⟨c0, c1, c2, c3⟩ := HCB.out w7 K7.out
  clear b0 b1 b2 b3 k7 K6
  go_wp2_with fail
  refine (HTe.out w7 2 65001 (by rfl)).mono ?_
  rintro e w8 ⟨rfl, k8⟩
  have K8 := Lib.hid (K7.out.trans k8)
  clear c0 c1 c2 c3 k8 K7
  go_wp2
  go_ret
  exact ⟨rfl, HK.out.trans K8.out⟩
end Go.Proofs.YtembdobkgpojfaaDoor
