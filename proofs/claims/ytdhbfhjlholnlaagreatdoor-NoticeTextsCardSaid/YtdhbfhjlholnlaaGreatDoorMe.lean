
/-
  notice: Read at the examples.
-/
import Derived.Test.YtdhbfhjlholnlaaGreatDoorMd
import Derived.Test.YtdhbfhjlholnlaaGreatDoorGa
namespace Go.Proofs.YtdhbfhjlholnlaaGreatDoor
open Go.RowKit Go.Maps

theorem not_nothingN {p : Nat} : ¬ Nothing p := fun x => x
theorem n_look {pb m n : Nat} {D : DataW Unit} {w : World} (hown : w.ownsMap Tryz.prog 5 (fnM pb) m n D) (hg : Gn pb [5, 4, 3, 2, 1] D) (t : UInt8) (ht : t ∈ ([5, 4, 3, 2, 1] : List UInt8)) :
    (Instr.lookup 76 (.map (some m)) (.int .u8 (t.toNat : Int)) true).run Tryz.prog w = .ok (.tuple #[fnN pb t, .bool true]) w := by
  obtain ⟨t0, r0, -⟩ := fnM_mk pb 0
  replace r0 : fnM pb .nilFunc = some (.lit (.int .u8 (t0.toNat : Int)), []) := r0
  have hkey : keyOf Tryz.prog 5 (.int .u8 (t.toNat : Int)) = some (keyN t) := keyOf_int_mk Tryz.underlying5 (by have := t.toNat_lt; simp [Lit.wf, IntKind.min, IntKind.max, IntKind.signed, IntKind.bits]; omega)
  obtain ⟨v, ps, hrun, hv⟩ := hown.look_ok (t := 76) keyedN Tryz.underlying76 (Tryz.zeroValue74 _) r0 hkey
  obtain ⟨h1, h2⟩ := hg.2 t
  rw [h1, decide_eq_true ht] at hrun
  obtain ⟨t', hat, hte⟩ := h2 ht
  rw [hat] at hv
  rw [hrun, fnM_val hv, hte]

set_option maxRecDepth 100000 in
set_option maxHeartbeats 4000000 in
theorem nread3 (v : Value) (w : World) (h : By w v [6, 2, 7]) :
    Calls Tryz.prog 12 #[.agg #[.int .u8 3, v], .agg #[.bool false, .bool false, .bool false]] w fun r w' => ∃ A m, r = .returned (.tuple #[.agg (msgc 3 6 2 (.slice A 1 m) 0 0), .agg nonc]) ∧ Bs w' (.slice A 1 m) [7] ∧ Kept Nothing w w' := by
  obtain ⟨A0, c0, rfl, _, _⟩ := h.form
  have K0 := ((((Kept.refl Nothing w).alloc (.cells #[.int .u8 3, .slice A0 3 c0] 65)).alloc (.cells #[.bool false, .bool false, .bool false] 67)).alloc (.cells (msgc 0 0 0 (.slice none 0 0) 0 0) 61)).alloc (.cells nonc 57)
  have HY := Lib.hid (h.old K0)
  have KK := Lib.hid K0
  have B0 : Hid (Blk ((((w.alloc (.cells #[.int .u8 3, .slice A0 3 c0] 65)).alloc (.cells #[.bool false, .bool false, .bool false] 67)).alloc (.cells (msgc 0 0 0 (.slice none 0 0) 0 0) 61)).alloc (.cells nonc 57)) w.heap.size 65 #[.int .u8 3, .slice A0 3 c0]) := Lib.hid ((((Blk.fresh w _ _).alloc _).alloc _).alloc _)
  have B1 : Hid (Blk ((((w.alloc (.cells #[.int .u8 3, .slice A0 3 c0] 65)).alloc (.cells #[.bool false, .bool false, .bool false] 67)).alloc (.cells (msgc 0 0 0 (.slice none 0 0) 0 0) 61)).alloc (.cells nonc 57)) (w.heap.size + 1) 67 #[.bool false, .bool false, .bool false]) := Lib.hid (by
    have := Blk.fresh (w.alloc (.cells #[.int .u8 3, .slice A0 3 c0] 65)) 67 #[.bool false, .bool false, .bool false]
    rw [World.size_alloc] at this
    exact (this.alloc _).alloc _)
  have ZM : Hid (Blk ((((w.alloc (.cells #[.int .u8 3, .slice A0 3 c0] 65)).alloc (.cells #[.bool false, .bool false, .bool false] 67)).alloc (.cells (msgc 0 0 0 (.slice none 0 0) 0 0) 61)).alloc (.cells nonc 57)) (w.heap.size + 1 + 1) 61 (msgc 0 0 0 (.slice none 0 0) 0 0)) := Lib.hid (by
    have := Blk.fresh ((w.alloc (.cells #[.int .u8 3, .slice A0 3 c0] 65)).alloc (.cells #[.bool false, .bool false, .bool false] 67)) 61 (msgc 0 0 0 (.slice none 0 0) 0 0)
    rw [World.size_alloc, World.size_alloc] at this
    exact this.alloc _)
  have ZN : Hid (Blk ((((w.alloc (.cells #[.int .u8 3, .slice A0 3 c0] 65)).alloc (.cells #[.bool false, .bool false, .bool false] 67)).alloc (.cells (msgc 0 0 0 (.slice none 0 0) 0 0) 61)).alloc (.cells nonc 57)) (w.heap.size + 1 + 1 + 1) 57 nonc) := Lib.hid (by
    have := Blk.fresh (((w.alloc (.cells #[.int .u8 3, .slice A0 3 c0] 65)).alloc (.cells #[.bool false, .bool false, .bool false] 67)).alloc (.cells (msgc 0 0 0 (.slice none 0 0) 0 0) 61)) 57 nonc
    rwa [World.size_alloc, World.size_alloc, World.size_alloc] at this)
  clear h K0
  go_enter Tryz.func12, Tryz.ntmps12
  go_upto_region 1 with fail
  change Code.wp _ _ _ _ ((((w.alloc (.cells #[.int .u8 3, .slice A0 3 c0] 65)).alloc (.cells #[.bool false, .bool false, .bool false] 67)).alloc (.cells (msgc 0 0 0 (.slice none 0 0) 0 0) 61)).alloc (.cells nonc 57))
  generalize ((((w.alloc (.cells #[.int .u8 3, .slice A0 3 c0] 65)).alloc (.cells #[.bool false, .bool false, .bool false] 67)).alloc (.cells (msgc 0 0 0 (.slice none 0 0) 0 0) 61)).alloc (.cells nonc 57)) = W at *
  have x0 := B0.out.cell 0
  have x1 := B0.out.cell 1
  have s0 := B1.out.cell 0
  have s1 := B1.out.cell 1
  have s2 := B1.out.cell 2
  simp at x0 x1 s0 s1 s2
  have HRd := Lib.hid (fun u => n_readers false false false u)
  have en : ∀ args w, (callFunc 28 args).run Tryz.prog w = .ok (.enter 28 args) w := enters_of Tryz.func28 (by kernel_rfl) rfl
  go_cut [6, 7] (fun x y wx => x = .func (.func 28) #[] #[] ∧ y = .bool true ∧ Hid (Kept Nothing W wx))
  case first =>
    go_region_law (go_simp; go_at_call 17; refine (HRd.out _).mono ?_; rintro e w1 ⟨pb, mm, nn, DD, rfl, own, gn, hk1⟩; (have hk1' := ((Kept.refl Nothing W).drew).trans hk1); (have hlk := n_look own gn 3 (by decide)); (have hfn : fnN pb 3 = .func (.func 28) #[] #[] := rfl); rw [hfn] at hlk; (have hlk2 : (Instr.lookup 76 (.map (some mm)) (.int .u8 3) true).run Tryz.prog w1 = .ok (.tuple #[.func (.func 28) #[] #[], .bool true]) w1 := hlk); (have K1 := Lib.hid hk1'); (have y0 := hk1'.cell_some x0 (fun x => x)); clear hlk hfn own gn hk1 hk1')
    all_goals
      go_wp2
      go_meet
      exact ⟨rfl, rfl, K1⟩
  case rest =>
    obtain ⟨rfl, rfl, hC⟩ := hcut
    have kc := hC.out
    have HYc := Lib.hid (HY.out.old kc)
    have B0c := B0.out.kept kc (fun x => x)
    have ZMc := Lib.hid (ZM.out.kept kc (fun x => x))
    have ZNc := Lib.hid (ZN.out.kept kc (fun x => x))
    have Kc := Lib.hid (KK.out.trans kc)
    have z0 := B0c.cell 0
    have z1 := B0c.cell 1
    simp at z0 z1
    have HB0 := Lib.hid B0c
    clear kc hC B0c x0 x1 s0 s1 s2 HRd B0 B1 ZM ZN KK HY
    rename_i wc
    have HMB : Hid (Calls Tryz.prog 19 #[.agg #[.int .u8 3, .slice A0 3 c0]] wc fun r w' => ∃ v', r = .returned (.tuple #[v', .int .i64 0]) ∧ Kept Nothing wc w') := Lib.hid ((msg_bytes (3, [6, 2, 7]) (.slice A0 3 c0) wc HYc.out (by decide)).mono fun _ _ ⟨v', hr, _, hk⟩ => ⟨v', hr, hk⟩)
    go_wp2_with fail
    refine (HMB.out).mono ?_
    rintro e w2 ⟨v2, rfl, hk2⟩
    have HY2 := Lib.hid (HYc.out.old hk2)
    have HB2 := Lib.hid (HB0.out.kept hk2 (fun x => x))
    have ZM2 := Lib.hid (ZMc.out.kept hk2 (fun x => x))
    have ZN2 := Lib.hid (ZNc.out.kept hk2 (fun x => x))
    have K2 := Lib.hid (Kc.out.trans hk2)
    have y0 := HB2.out.cell 0
    have y1 := HB2.out.cell 1
    simp at y0 y1
    clear hk2 HMB HYc HB0 ZMc ZNc Kc z0 z1
    go_wp2_with fail
    refine (nr3 _ w2 HY2.out).mono ?_
    rintro e w3 ⟨A5, m5, rfl, hb3, hk3⟩
    have Z11 : Hid (Blk ((w3.alloc (.cells (msgc 0 0 0 (.slice none 0 0) 0 0) 61)).alloc (.cells nonc 57)) w3.heap.size 61 (msgc 0 0 0 (.slice none 0 0) 0 0)) := Lib.hid ((Blk.fresh w3 _ _).alloc _)
    have Z12 : Hid (Blk ((w3.alloc (.cells (msgc 0 0 0 (.slice none 0 0) 0 0) 61)).alloc (.cells nonc 57)) (w3.heap.size + 1) 57 nonc) := Lib.hid (by
      have := Blk.fresh (w3.alloc (.cells (msgc 0 0 0 (.slice none 0 0) 0 0) 61)) 57 nonc
      rwa [World.size_alloc] at this)
    have k4 : Kept Nothing w2 (((w3.alloc (.cells (msgc 0 0 0 (.slice none 0 0) 0 0) 61)).alloc (.cells nonc 57))) := (hk3.alloc _).alloc _
    have h23 : w2.heap.size ≤ w3.heap.size := hk3.size
    have k5 := k4.trans_new (Kept.setRow w3.heap.size (msgc 0 6 2 (.slice A5 1 m5) 0 0)) (fun i hi (e : i = w3.heap.size) => by omega)
    have k6 := k5.trans_new (Kept.setRow (w3.heap.size + 1) nonc) (fun i hi (e : i = w3.heap.size + 1) => by omega)
    have c11 : Blk (((w3.alloc (.cells (msgc 0 0 0 (.slice none 0 0) 0 0) 61)).alloc (.cells nonc 57)).setRow w3.heap.size (msgc 0 6 2 (.slice A5 1 m5) 0 0)) w3.heap.size 61 (msgc 0 6 2 (.slice A5 1 m5) 0 0) := setRow_heap _ _ _ _ _ _ Z11.out
    have d11 := Blk.kept c11 (Kept.setRow (w3.heap.size + 1) nonc) (fun (e : w3.heap.size = w3.heap.size + 1) => by omega)
    have d12 : Blk ((((w3.alloc (.cells (msgc 0 0 0 (.slice none 0 0) 0 0) 61)).alloc (.cells nonc 57)).setRow w3.heap.size (msgc 0 6 2 (.slice A5 1 m5) 0 0)).setRow (w3.heap.size + 1) nonc) (w3.heap.size + 1) 57 nonc := setRow_heap _ _ _ _ _ _ (Z12.out.kept (Kept.setRow _ _) (fun (e : w3.heap.size + 1 = w3.heap.size) => by omega))
    have hb6 := Lib.hid (((hb3.kept (((Kept.refl Nothing w3).alloc (.cells (msgc 0 0 0 (.slice none 0 0) 0 0) 61)).alloc (.cells nonc 57)) (NoBytes.nothing _)).kept (Kept.setRow w3.heap.size (msgc 0 6 2 (.slice A5 1 m5) 0 0)) (NoBytes.of_blk Z11.out (by decide))).kept (Kept.setRow (w3.heap.size + 1) nonc) (NoBytes.of_blk (Z12.out.kept (Kept.setRow _ _) (fun (e : w3.heap.size + 1 = w3.heap.size) => by omega)) (by decide)))
    clear hb3
    have hlt2 : w.heap.size + 1 + 1 + 1 < w2.heap.size := ZN2.out.lt
    have D11 := Lib.hid d11
    have D12 := Lib.hid d12
    have K6 := Lib.hid k6
    have L2 := Lib.hid hlt2
    have L3 := Lib.hid h23
    clear k4 k5 k6 c11 d11 d12 hk3 hlt2 h23 y0 y1
    go_upto_region 9 with (first | (refine wpList_store_row rfl 61 _ _ rfl w3.heap.size (msgc 0 6 2 (.slice A5 1 m5) 0 0) rfl rfl 61 _ Z11.out (by kernel_rfl) rfl (rdmsg_one ..) ?_) | (refine wpList_store_row rfl 57 _ _ rfl (w3.heap.size + 1) nonc rfl rfl 57 _ (by exact Z12.out.kept (Kept.setRow _ _) (fun (e : w3.heap.size + 1 = w3.heap.size) => by omega)) (by kernel_rfl) rfl (by kernel_rfl) ?_))
    change Code.wp _ _ _ _ ((((w3.alloc (.cells (msgc 0 0 0 (.slice none 0 0) 0 0) 61)).alloc (.cells nonc 57)).setRow w3.heap.size (msgc 0 6 2 (.slice A5 1 m5) 0 0)).setRow (w3.heap.size + 1) nonc)
    generalize (((w3.alloc (.cells (msgc 0 0 0 (.slice none 0 0) 0 0) 61)).alloc (.cells nonc 57)).setRow w3.heap.size (msgc 0 6 2 (.slice A5 1 m5) 0 0)).setRow (w3.heap.size + 1) nonc = w6 at *
    clear Z11 Z12
    generalize hg3 : w3.heap.size = g3 at *
    clear hg3
    have y0 := (HB2.out.kept K6.out (fun x => x)).cell 0
    have x0 := D12.out.cell 0
    have x1 := D12.out.cell 1
    have f0 := D11.out.free 0
    have f1 := D11.out.cell 0
    have ZM6 := Lib.hid (ZM2.out.kept K6.out (fun x => x))
    have ZN6 := Lib.hid (ZN2.out.kept K6.out (fun x => x))
    simp [nonc] at x0 x1
    simp at y0
    simp [msgc] at f1
    have e11 : Blk (w6.setCell ⟨g3, 0, none⟩ (.int .u8 3)) g3 61 (msgc 3 6 2 (.slice A5 1 m5) 0 0) := D11.out.put 0 _
    have E11 := Lib.hid e11
    clear e11
    go_upto_region 12 with fail
    have l2 := L2.out
    have l3 := L3.out
    have ZM7 := Lib.hid (ZM6.out.far (p := ⟨g3, 0, none⟩) (fun (e : w.heap.size + 1 + 1 = g3) => by omega) (.int .u8 3))
    have ZN7 := Lib.hid (ZN6.out.far (p := ⟨g3, 0, none⟩) (fun (e : w.heap.size + 1 + 1 + 1 = g3) => by omega) (.int .u8 3))
    have k7 := K2.out.trans K6.out
    have s2 := K2.out.size
    have k8 := Kept.setCell k7 (p := ⟨g3, 0, none⟩) (fun (h : g3 < w.heap.size) => by exfalso; omega) (.int .u8 3)
    have K8 := Lib.hid k8
    have hb7 := Lib.hid (hb6.out.kept (Kept.setCell (Kept.refl (Only g3) w6) (p := ⟨g3, 0, none⟩) (fun _ => rfl) (.int .u8 3)) (NoBytes.of_blk D11.out (by decide)))
    clear l2 l3 k7 s2 k8
    generalize w6.setCell ⟨g3, 0, none⟩ (.int .u8 3) = w7 at *
    go_wp2_with (first
      | (refine wpList_load_row rfl 61 _ rfl g3 rfl 61 _ (0, 0) _ E11.out Tryz.underlying61 rfl (by kernel_rfl) ?_)
      | (refine wpList_store_row rfl 61 _ _ rfl (w.heap.size + 1 + 1) (msgc 3 6 2 (.slice A5 1 m5) 0 0) rfl rfl 61 _ ZM7.out (by kernel_rfl) rfl (rdmsg_one ..) ?_)
      | (refine wpList_store_row rfl 57 _ _ rfl (w.heap.size + 1 + 1 + 1) nonc rfl rfl 57 _ (by exact ZN7.out.kept (Kept.setRow _ _) (fun (e : w.heap.size + 1 + 1 + 1 = w.heap.size + 1 + 1) => by omega)) (by kernel_rfl) rfl (by kernel_rfl) ?_))
    have hBm : Blk (w7.setRow (w.heap.size + 1 + 1) (msgc 3 6 2 (.slice A5 1 m5) 0 0)) (w.heap.size + 1 + 1) 61 (msgc 3 6 2 (.slice A5 1 m5) 0 0) := setRow_heap w7 _ _ _ _ _ ZM7.out
    have hBm2 := Blk.kept hBm (Kept.setRow (w.heap.size + 1 + 1 + 1) nonc) (fun (e : w.heap.size + 1 + 1 = w.heap.size + 1 + 1 + 1) => by omega)
    have hBn : Blk ((w7.setRow (w.heap.size + 1 + 1) (msgc 3 6 2 (.slice A5 1 m5) 0 0)).setRow (w.heap.size + 1 + 1 + 1) nonc) (w.heap.size + 1 + 1 + 1) 57 nonc := setRow_heap _ _ _ _ _ _ (ZN7.out.kept (Kept.setRow _ _) (fun (e : w.heap.size + 1 + 1 + 1 = w.heap.size + 1 + 1) => by omega))
    have kf : Kept Nothing w ((w7.setRow (w.heap.size + 1 + 1) (msgc 3 6 2 (.slice A5 1 m5) 0 0)).setRow (w.heap.size + 1 + 1 + 1) nonc) := (K8.out.trans_new (Kept.setRow _ _) (fun i hi (e : i = w.heap.size + 1 + 1) => by omega)).trans_new (Kept.setRow _ _) (fun i hi (e : i = w.heap.size + 1 + 1 + 1) => by omega)
    have hbs := (hb7.out.kept (Kept.setRow (w.heap.size + 1 + 1) (msgc 3 6 2 (.slice A5 1 m5) 0 0)) (NoBytes.of_blk ZM7.out (by decide))).kept (Kept.setRow (w.heap.size + 1 + 1 + 1) nonc) (NoBytes.of_blk (ZN7.out.kept (Kept.setRow _ _) (fun (e : w.heap.size + 1 + 1 + 1 = w.heap.size + 1 + 1) => by omega)) (by decide))
    exact bodyPost_ret (v := .tuple #[.agg (msgc 3 6 2 (.slice A5 1 m5) 0 0), .agg nonc]) (results_cells2 rfl _ _ _ ⟨w.heap.size + 1 + 1, 0, none⟩ ⟨w.heap.size + 1 + 1 + 1, 0, none⟩ _ _ rfl rfl (run_loadVar_row _ _ 61 _ _ _ _ hBm2 Tryz.underlying61 rfl (by kernel_rfl)) (run_loadVar_row _ _ 57 _ _ _ _ hBn Tryz.underlying57 rfl (by kernel_rfl))) rfl ⟨A5, m5, rfl, hbs, kf⟩

set_option maxRecDepth 100000 in
set_option maxHeartbeats 4000000 in
theorem nread5 (v : Value) (w : World) (h : By w v [0, 1, 0, 1]) :
    Calls Tryz.prog 12 #[.agg #[.int .u8 5, v], .agg #[.bool false, .bool false, .bool false]] w fun r w' => r = .returned (.tuple #[.agg (msgc 5 0 0 (.slice none 0 0) 1 1), .agg nonc]) ∧ Kept Nothing w w' := by
  obtain ⟨A0, c0, rfl, _, _⟩ := h.form
  have K0 := ((((Kept.refl Nothing w).alloc (.cells #[.int .u8 5, .slice A0 4 c0] 65)).alloc (.cells #[.bool false, .bool false, .bool false] 67)).alloc (.cells (msgc 0 0 0 (.slice none 0 0) 0 0) 61)).alloc (.cells nonc 57)
  have HY := Lib.hid (h.old K0)
  have KK := Lib.hid K0
  have B0 : Hid (Blk ((((w.alloc (.cells #[.int .u8 5, .slice A0 4 c0] 65)).alloc (.cells #[.bool false, .bool false, .bool false] 67)).alloc (.cells (msgc 0 0 0 (.slice none 0 0) 0 0) 61)).alloc (.cells nonc 57)) w.heap.size 65 #[.int .u8 5, .slice A0 4 c0]) := Lib.hid ((((Blk.fresh w _ _).alloc _).alloc _).alloc _)
  have B1 : Hid (Blk ((((w.alloc (.cells #[.int .u8 5, .slice A0 4 c0] 65)).alloc (.cells #[.bool false, .bool false, .bool false] 67)).alloc (.cells (msgc 0 0 0 (.slice none 0 0) 0 0) 61)).alloc (.cells nonc 57)) (w.heap.size + 1) 67 #[.bool false, .bool false, .bool false]) := Lib.hid (by
    have := Blk.fresh (w.alloc (.cells #[.int .u8 5, .slice A0 4 c0] 65)) 67 #[.bool false, .bool false, .bool false]
    rw [World.size_alloc] at this
    exact (this.alloc _).alloc _)
  have ZM : Hid (Blk ((((w.alloc (.cells #[.int .u8 5, .slice A0 4 c0] 65)).alloc (.cells #[.bool false, .bool false, .bool false] 67)).alloc (.cells (msgc 0 0 0 (.slice none 0 0) 0 0) 61)).alloc (.cells nonc 57)) (w.heap.size + 1 + 1) 61 (msgc 0 0 0 (.slice none 0 0) 0 0)) := Lib.hid (by
    have := Blk.fresh ((w.alloc (.cells #[.int .u8 5, .slice A0 4 c0] 65)).alloc (.cells #[.bool false, .bool false, .bool false] 67)) 61 (msgc 0 0 0 (.slice none 0 0) 0 0)
    rw [World.size_alloc, World.size_alloc] at this
    exact this.alloc _)
  have ZN : Hid (Blk ((((w.alloc (.cells #[.int .u8 5, .slice A0 4 c0] 65)).alloc (.cells #[.bool false, .bool false, .bool false] 67)).alloc (.cells (msgc 0 0 0 (.slice none 0 0) 0 0) 61)).alloc (.cells nonc 57)) (w.heap.size + 1 + 1 + 1) 57 nonc) := Lib.hid (by
    have := Blk.fresh (((w.alloc (.cells #[.int .u8 5, .slice A0 4 c0] 65)).alloc (.cells #[.bool false, .bool false, .bool false] 67)).alloc (.cells (msgc 0 0 0 (.slice none 0 0) 0 0) 61)) 57 nonc
    rwa [World.size_alloc, World.size_alloc, World.size_alloc] at this)
  clear h K0
  go_enter Tryz.func12, Tryz.ntmps12
  go_upto_region 1 with fail
  change Code.wp _ _ _ _ ((((w.alloc (.cells #[.int .u8 5, .slice A0 4 c0] 65)).alloc (.cells #[.bool false, .bool false, .bool false] 67)).alloc (.cells (msgc 0 0 0 (.slice none 0 0) 0 0) 61)).alloc (.cells nonc 57))
  generalize ((((w.alloc (.cells #[.int .u8 5, .slice A0 4 c0] 65)).alloc (.cells #[.bool false, .bool false, .bool false] 67)).alloc (.cells (msgc 0 0 0 (.slice none 0 0) 0 0) 61)).alloc (.cells nonc 57)) = W at *
  have x0 := B0.out.cell 0
  have x1 := B0.out.cell 1
  have s0 := B1.out.cell 0
  have s1 := B1.out.cell 1
  have s2 := B1.out.cell 2
  simp at x0 x1 s0 s1 s2
  have HRd := Lib.hid (fun u => n_readers false false false u)
  have en : ∀ args w, (callFunc 33 args).run Tryz.prog w = .ok (.enter 33 args) w := enters_of Tryz.func33 (by kernel_rfl) rfl
  go_cut [6, 7] (fun x y wx => x = .func (.func 33) #[] #[] ∧ y = .bool true ∧ Hid (Kept Nothing W wx))
  case first =>
    go_region_law (go_simp; go_at_call 17; refine (HRd.out _).mono ?_; rintro e w1 ⟨pb, mm, nn, DD, rfl, own, gn, hk1⟩; (have hk1' := ((Kept.refl Nothing W).drew).trans hk1); (have hlk := n_look own gn 5 (by decide)); (have hfn : fnN pb 5 = .func (.func 33) #[] #[] := rfl); rw [hfn] at hlk; (have hlk2 : (Instr.lookup 76 (.map (some mm)) (.int .u8 5) true).run Tryz.prog w1 = .ok (.tuple #[.func (.func 33) #[] #[], .bool true]) w1 := hlk); (have K1 := Lib.hid hk1'); (have y0 := hk1'.cell_some x0 (fun x => x)); clear hlk hfn own gn hk1 hk1')
    all_goals
      go_wp2
      go_meet
      exact ⟨rfl, rfl, K1⟩
  case rest =>
    obtain ⟨rfl, rfl, hC⟩ := hcut
    have kc := hC.out
    have HYc := Lib.hid (HY.out.old kc)
    have B0c := B0.out.kept kc (fun x => x)
    have ZMc := Lib.hid (ZM.out.kept kc (fun x => x))
    have ZNc := Lib.hid (ZN.out.kept kc (fun x => x))
    have Kc := Lib.hid (KK.out.trans kc)
    have z0 := B0c.cell 0
    have z1 := B0c.cell 1
    simp at z0 z1
    have HB0 := Lib.hid B0c
    clear kc hC B0c x0 x1 s0 s1 s2 HRd B0 B1 ZM ZN KK HY
    rename_i wc
    have HMB : Hid (Calls Tryz.prog 19 #[.agg #[.int .u8 5, .slice A0 4 c0]] wc fun r w' => ∃ v', r = .returned (.tuple #[v', .int .i64 0]) ∧ Kept Nothing wc w') := Lib.hid ((msg_bytes (5, [0, 1, 0, 1]) (.slice A0 4 c0) wc HYc.out (by decide)).mono fun _ _ ⟨v', hr, _, hk⟩ => ⟨v', hr, hk⟩)
    go_wp2_with fail
    refine (HMB.out).mono ?_
    rintro e w2 ⟨v2, rfl, hk2⟩
    have HY2 := Lib.hid (HYc.out.old hk2)
    have HB2 := Lib.hid (HB0.out.kept hk2 (fun x => x))
    have ZM2 := Lib.hid (ZMc.out.kept hk2 (fun x => x))
    have ZN2 := Lib.hid (ZNc.out.kept hk2 (fun x => x))
    have K2 := Lib.hid (Kc.out.trans hk2)
    have y0 := HB2.out.cell 0
    have y1 := HB2.out.cell 1
    simp at y0 y1
    clear hk2 HMB HYc HB0 ZMc ZNc Kc z0 z1
    go_wp2_with fail
    refine (nr5 _ w2 HY2.out).mono ?_
    rintro e w3 ⟨rfl, hk3⟩
    have Z11 : Hid (Blk ((w3.alloc (.cells (msgc 0 0 0 (.slice none 0 0) 0 0) 61)).alloc (.cells nonc 57)) w3.heap.size 61 (msgc 0 0 0 (.slice none 0 0) 0 0)) := Lib.hid ((Blk.fresh w3 _ _).alloc _)
    have Z12 : Hid (Blk ((w3.alloc (.cells (msgc 0 0 0 (.slice none 0 0) 0 0) 61)).alloc (.cells nonc 57)) (w3.heap.size + 1) 57 nonc) := Lib.hid (by
      have := Blk.fresh (w3.alloc (.cells (msgc 0 0 0 (.slice none 0 0) 0 0) 61)) 57 nonc
      rwa [World.size_alloc] at this)
    have k4 : Kept Nothing w2 (((w3.alloc (.cells (msgc 0 0 0 (.slice none 0 0) 0 0) 61)).alloc (.cells nonc 57))) := (hk3.alloc _).alloc _
    have h23 : w2.heap.size ≤ w3.heap.size := hk3.size
    have k5 := k4.trans_new (Kept.setRow w3.heap.size (msgc 0 0 0 (.slice none 0 0) 1 1)) (fun i hi (e : i = w3.heap.size) => by omega)
    have k6 := k5.trans_new (Kept.setRow (w3.heap.size + 1) nonc) (fun i hi (e : i = w3.heap.size + 1) => by omega)
    have c11 : Blk (((w3.alloc (.cells (msgc 0 0 0 (.slice none 0 0) 0 0) 61)).alloc (.cells nonc 57)).setRow w3.heap.size (msgc 0 0 0 (.slice none 0 0) 1 1)) w3.heap.size 61 (msgc 0 0 0 (.slice none 0 0) 1 1) := setRow_heap _ _ _ _ _ _ Z11.out
    have d11 := Blk.kept c11 (Kept.setRow (w3.heap.size + 1) nonc) (fun (e : w3.heap.size = w3.heap.size + 1) => by omega)
    have d12 : Blk ((((w3.alloc (.cells (msgc 0 0 0 (.slice none 0 0) 0 0) 61)).alloc (.cells nonc 57)).setRow w3.heap.size (msgc 0 0 0 (.slice none 0 0) 1 1)).setRow (w3.heap.size + 1) nonc) (w3.heap.size + 1) 57 nonc := setRow_heap _ _ _ _ _ _ (Z12.out.kept (Kept.setRow _ _) (fun (e : w3.heap.size + 1 = w3.heap.size) => by omega))
    have hlt2 : w.heap.size + 1 + 1 + 1 < w2.heap.size := ZN2.out.lt
    have D11 := Lib.hid d11
    have D12 := Lib.hid d12
    have K6 := Lib.hid k6
    have L2 := Lib.hid hlt2
    have L3 := Lib.hid h23
    clear k4 k5 k6 c11 d11 d12 hk3 hlt2 h23 y0 y1
    go_upto_region 9 with (first | (refine wpList_store_row rfl 61 _ _ rfl w3.heap.size (msgc 0 0 0 (.slice none 0 0) 1 1) rfl rfl 61 _ Z11.out (by kernel_rfl) rfl (rdmsg_one ..) ?_) | (refine wpList_store_row rfl 57 _ _ rfl (w3.heap.size + 1) nonc rfl rfl 57 _ (by exact Z12.out.kept (Kept.setRow _ _) (fun (e : w3.heap.size + 1 = w3.heap.size) => by omega)) (by kernel_rfl) rfl (by kernel_rfl) ?_))
    change Code.wp _ _ _ _ ((((w3.alloc (.cells (msgc 0 0 0 (.slice none 0 0) 0 0) 61)).alloc (.cells nonc 57)).setRow w3.heap.size (msgc 0 0 0 (.slice none 0 0) 1 1)).setRow (w3.heap.size + 1) nonc)
    generalize (((w3.alloc (.cells (msgc 0 0 0 (.slice none 0 0) 0 0) 61)).alloc (.cells nonc 57)).setRow w3.heap.size (msgc 0 0 0 (.slice none 0 0) 1 1)).setRow (w3.heap.size + 1) nonc = w6 at *
    clear Z11 Z12
    generalize hg3 : w3.heap.size = g3 at *
    clear hg3
    have y0 := (HB2.out.kept K6.out (fun x => x)).cell 0
    have x0 := D12.out.cell 0
    have x1 := D12.out.cell 1
    have f0 := D11.out.free 0
    have f1 := D11.out.cell 0
    have ZM6 := Lib.hid (ZM2.out.kept K6.out (fun x => x))
    have ZN6 := Lib.hid (ZN2.out.kept K6.out (fun x => x))
    simp [nonc] at x0 x1
    simp at y0
    simp [msgc] at f1
    have e11 : Blk (w6.setCell ⟨g3, 0, none⟩ (.int .u8 5)) g3 61 (msgc 5 0 0 (.slice none 0 0) 1 1) := D11.out.put 0 _
    have E11 := Lib.hid e11
    clear e11
    go_upto_region 12 with fail
    have l2 := L2.out
    have l3 := L3.out
    have ZM7 := Lib.hid (ZM6.out.far (p := ⟨g3, 0, none⟩) (fun (e : w.heap.size + 1 + 1 = g3) => by omega) (.int .u8 5))
    have ZN7 := Lib.hid (ZN6.out.far (p := ⟨g3, 0, none⟩) (fun (e : w.heap.size + 1 + 1 + 1 = g3) => by omega) (.int .u8 5))
    have k7 := K2.out.trans K6.out
    have s2 := K2.out.size
    have k8 := Kept.setCell k7 (p := ⟨g3, 0, none⟩) (fun (h : g3 < w.heap.size) => by exfalso; omega) (.int .u8 5)
    have K8 := Lib.hid k8
    clear l2 l3 k7 s2 k8
    generalize w6.setCell ⟨g3, 0, none⟩ (.int .u8 5) = w7 at *
    go_wp2_with (first
      | (refine wpList_load_row rfl 61 _ rfl g3 rfl 61 _ (0, 0) _ E11.out Tryz.underlying61 rfl (by kernel_rfl) ?_)
      | (refine wpList_store_row rfl 61 _ _ rfl (w.heap.size + 1 + 1) (msgc 5 0 0 (.slice none 0 0) 1 1) rfl rfl 61 _ ZM7.out (by kernel_rfl) rfl (rdmsg_one ..) ?_)
      | (refine wpList_store_row rfl 57 _ _ rfl (w.heap.size + 1 + 1 + 1) nonc rfl rfl 57 _ (by exact ZN7.out.kept (Kept.setRow _ _) (fun (e : w.heap.size + 1 + 1 + 1 = w.heap.size + 1 + 1) => by omega)) (by kernel_rfl) rfl (by kernel_rfl) ?_))
    have hBm : Blk (w7.setRow (w.heap.size + 1 + 1) (msgc 5 0 0 (.slice none 0 0) 1 1)) (w.heap.size + 1 + 1) 61 (msgc 5 0 0 (.slice none 0 0) 1 1) := setRow_heap w7 _ _ _ _ _ ZM7.out
    have hBm2 := Blk.kept hBm (Kept.setRow (w.heap.size + 1 + 1 + 1) nonc) (fun (e : w.heap.size + 1 + 1 = w.heap.size + 1 + 1 + 1) => by omega)
    have hBn : Blk ((w7.setRow (w.heap.size + 1 + 1) (msgc 5 0 0 (.slice none 0 0) 1 1)).setRow (w.heap.size + 1 + 1 + 1) nonc) (w.heap.size + 1 + 1 + 1) 57 nonc := setRow_heap _ _ _ _ _ _ (ZN7.out.kept (Kept.setRow _ _) (fun (e : w.heap.size + 1 + 1 + 1 = w.heap.size + 1 + 1) => by omega))
    have kf : Kept Nothing w ((w7.setRow (w.heap.size + 1 + 1) (msgc 5 0 0 (.slice none 0 0) 1 1)).setRow (w.heap.size + 1 + 1 + 1) nonc) := (K8.out.trans_new (Kept.setRow _ _) (fun i hi (e : i = w.heap.size + 1 + 1) => by omega)).trans_new (Kept.setRow _ _) (fun i hi (e : i = w.heap.size + 1 + 1 + 1) => by omega)
    exact bodyPost_ret (v := .tuple #[.agg (msgc 5 0 0 (.slice none 0 0) 1 1), .agg nonc]) (results_cells2 rfl _ _ _ ⟨w.heap.size + 1 + 1, 0, none⟩ ⟨w.heap.size + 1 + 1 + 1, 0, none⟩ _ _ rfl rfl (run_loadVar_row _ _ 61 _ _ _ _ hBm2 Tryz.underlying61 rfl (by kernel_rfl)) (run_loadVar_row _ _ 57 _ _ _ _ hBn Tryz.underlying57 rfl (by kernel_rfl))) rfl ⟨rfl, kf⟩
end Go.Proofs.YtdhbfhjlholnlaaGreatDoor
