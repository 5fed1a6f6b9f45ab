
/-
  notice: a message in cells; the readers of a notification and of a refresh, at the examples' bodies.
-/
import Derived.Test.YtdhbfhjlholnlaaGreatDoorMb
import Derived.Test.YtdhbfhjlholnlaaGreatDoorRp
import Derived.Test.YtdhbfhjlholnlaaGreatDoorRn
import Derived.Laws.Tables
import Derived.Deep.RegionLaw
namespace Go.Proofs.YtdhbfhjlholnlaaGreatDoor
open Go.RowKit

/-- A message's cells: its type, and what a notice and a refresh have. -/
def msgc (ty nc ns : Int) (dv : Value) (fam sub : Int) : Array Value :=
  #[.int .u8 ty, .int .u8 0, .int .u16 0, .int .u16 0, .int .u32 0, .slice none 0 0, .slice none 0 0, .int .u32 0, .int .u8 0, .slice none 0 0, .int .u32 0, .int .u32 0, .int .u32 0, .int .u32 0, .int .u32 0, .slice none 0 0, .slice none 0 0, .int .u32 0, .int .u32 0, .slice none 0 0, .slice none 0 0, .int .i64 0, .int .u8 nc, .int .u8 ns, dv, .int .u16 fam, .int .u8 sub]
/-- No notice. -/
def nonc : Array Value := #[.int .u8 0, .int .u8 0, .slice none 0 0]
theorem results_cells2 {fn : Func} {p u : Tmp} {ty tu : TypeId} (h : fn.results = #[.cell p ty, .cell u tu]) (tmps : Array Value) (P : Program) (w : World) (a b : Addr) (x y : Value) (ha : tmps.getD p undef = .pointer (some a)) (hb : tmps.getD u undef = .pointer (some b))
    (h1 : (loadVar ty a).run P w = .ok x w) (h2 : (loadVar tu b).run P w = .ok y w) : (results fn tmps).run P w = .ok (.tuple #[x, y]) w := by
  simp only [results, h]
  rw [Array.getD_eq_getD_getElem?] at ha hb
  simp [Sem.run_bind, Result.andThen, ha, hb, asAddr, h1, h2]
theorem step_store_row {P : Program} {ops : Array Oper} {o : Oper} {a : Act} {w : World} {K : Act → World → Prop} {Q : Exit → Act → World → Prop} {E : Prop} (hgd : o.guard = none) (ty : TypeId) (x y : Operand) (ho : o.op = .store ty x y)
    (g : Nat) (cells : Array Value) (hx : a.eval x = .pointer (some ⟨g, 0, none⟩)) (hy : a.eval y = .agg cells)
    (t : TypeId) (old : Array Value) (hg : w.heap[g]? = some (.cells old t (0, 0))) (hi : (P.info? ty).map (·.size) = some cells.size)
    (hold : old.size = cells.size) (h1 : cells.all (·.oneCell') = true)
    (h : K (a.put o.dst undef) (w.setRow g cells)) : if Region.wanted o (yielded ops a.tmps) = true then Oper.wp P o a w K Q else E := by
  have hw : Region.wanted o (yielded ops a.tmps) = true := by simp [Region.wanted, hgd]
  rw [if_pos hw]
  exact wp_store_row ty x y ho g cells hx hy t old hg hi hold h1 h
theorem step_load_row {P : Program} {ops : Array Oper} {o : Oper} {a : Act} {w : World} {K : Act → World → Prop} {Q : Exit → Act → World → Prop} {E : Prop} (hgd : o.guard = none) (ty : TypeId) (x : Operand) (ho : o.op = .load ty x)
    (g : Nat) (hx : a.eval x = .pointer (some ⟨g, 0, none⟩)) (t : TypeId) (cs : Array Value) (fr : Nat × Nat) (d : TypeDesc) (hg : w.heap[g]? = some (.cells cs t fr))
    (hu : P.underlying ty = some d) (hd : (match d with | .struct _ | .array _ _ => true | _ => false) = true) (hi : (P.info? ty).map (·.size) = some cs.size)
    (h : K (a.put o.dst (.agg cs)) w) : if Region.wanted o (yielded ops a.tmps) = true then Oper.wp P o a w K Q else E := by
  have hw : Region.wanted o (yielded ops a.tmps) = true := by simp [Region.wanted, hgd]
  rw [if_pos hw]
  exact wp_load_row ty x ho g hx t cs fr d hg hu hd hi h
theorem rd_byte_at (p : Nat) (s s' : RS) (n : Nat) (h1 : RS.num (s.got 1) = n) (h2 : s.pass 1 = s') (w : World) (h : Rd w p s) :
    Calls Tryz.prog 30 #[.pointer (some ⟨p, 0, none⟩)] w fun r w' => r = .returned (.int .u8 (n : Int)) ∧ Rd w' p s' ∧ Kept (Only p) w w' := by
  subst h1 h2
  exact rd_byte p s w h
theorem rd_two_at (p : Nat) (s s' : RS) (n : Nat) (h1 : RS.num (s.got 2) = n) (h2 : s.pass 2 = s') (w : World) (h : Rd w p s) :
    Calls Tryz.prog 34 #[.pointer (some ⟨p, 0, none⟩)] w fun r w' => r = .returned (.int .u16 (n : Int)) ∧ Rd w' p s' ∧ Kept (Only p) w w' := by
  subst h1 h2
  exact rd_two p s w h
theorem rd_rest_at (p : Nat) (s : RS) (l : List UInt8) (h1 : s.got s.left = l) (w : World) (h : Rd w p s) :
    Calls Tryz.prog 31 #[.pointer (some ⟨p, 0, none⟩)] w fun r w' => ∃ A c, r = .returned (.slice A l.length c) ∧ Bs w' (.slice A l.length c) l ∧ Kept (Only p) w w' := by
  subst h1
  refine (rd_rest p s w h).mono fun r w' ⟨v, hr, hb, _, hk⟩ => ?_
  obtain ⟨A, c, rfl, _, _⟩ := hb.form
  exact ⟨A, c, hr, hb, hk⟩
theorem rdmsg_one (ty nc ns fam sub : Int) (A : Option Addr) (n c : Nat) : (msgc ty nc ns (.slice A n c) fam sub).all (·.oneCell') = true := by simp [msgc, Value.oneCell']

set_option maxRecDepth 100000 in
set_option maxHeartbeats 2000000 in
theorem nr3 (v : Value) (w : World) (h : By w v [6, 2, 7]) :
    Calls Tryz.prog 28 #[v] w fun r w' => ∃ A m, r = .returned (.tuple #[.agg (msgc 0 6 2 (.slice A 1 m) 0 0), .agg nonc]) ∧ Bs w' (.slice A 1 m) [7] ∧ Kept Nothing w w' := by
  obtain ⟨A0, c0, rfl, _, _⟩ := h.form
  have K0 := (((Kept.refl Nothing w).alloc (.cells (msgc 0 0 0 (.slice none 0 0) 0 0) 61)).alloc (.cells nonc 57))
  have HY := Lib.hid (h.old K0)
  have KK := Lib.hid K0
  have ZM : Hid (Blk ((w.alloc (.cells (msgc 0 0 0 (.slice none 0 0) 0 0) 61)).alloc (.cells nonc 57)) w.heap.size 61 (msgc 0 0 0 (.slice none 0 0) 0 0)) := Lib.hid ((Blk.fresh w _ _).alloc _)
  have ZN : Hid (Blk ((w.alloc (.cells (msgc 0 0 0 (.slice none 0 0) 0 0) 61)).alloc (.cells nonc 57)) (w.heap.size + 1) 57 nonc) := Lib.hid (by
    have := Blk.fresh (w.alloc (.cells (msgc 0 0 0 (.slice none 0 0) 0 0) 61)) 57 nonc
    rwa [World.size_alloc] at this)
  clear h K0
  go_enter Tryz.func28, Tryz.ntmps28
  go_upto_region 1 with fail
  change Code.wp _ _ _ _ ((w.alloc (.cells (msgc 0 0 0 (.slice none 0 0) 0 0) 61)).alloc (.cells nonc 57))
  generalize (w.alloc (.cells (msgc 0 0 0 (.slice none 0 0) 0 0) 61)).alloc (.cells nonc 57) = W at *
  have hWz : w.heap.size + 1 < W.heap.size := ZN.out.lt
  have HWz := Lib.hid hWz
  clear hWz
  go_wp2_with fail
  refine (rd_new _ [6, 2, 7] W HY.out (by decide)).mono ?_
  rintro e w1 ⟨p, rfl, hp, hk, hpz⟩
  have P1 := Lib.hid hp
  have K1 := Lib.hid hk
  have HP := Lib.hid hpz
  clear hp hk hpz
  go_wp2_with fail
  refine (rd_byte_at p _ ⟨[6, 2, 7], 1, [], 0⟩ 6 rfl rfl w1 P1.out).mono ?_
  rintro e w2 ⟨rfl, hp, hk⟩
  have P2 := Lib.hid hp
  have K2 := Lib.hid hk
  clear hp hk
  go_wp2_with fail
  refine (rd_byte_at p _ ⟨[6, 2, 7], 2, [], 0⟩ 2 rfl rfl w2 P2.out).mono ?_
  rintro e w3 ⟨rfl, hp, hk⟩
  have P3 := Lib.hid hp
  have K3 := Lib.hid hk
  clear hp hk
  have ka := (Kept.refl Nothing w3).alloc (.cells #[.int .u8 6, .int .u8 2] 23)
  have P4 := Lib.hid (P3.out.kept ka (NoRd.nothing _))
  have B4 := Lib.hid (Blk.fresh w3 23 #[.int .u8 6, .int .u8 2])
  have hgp : ∀ g, g < W.heap.size → ¬ Only p g := fun g hg (e : g = p) => by have := HP.out; omega
  have k4 : Kept (Only p) W (w3.alloc (.cells #[.int .u8 6, .int .u8 2] 23)) := (((K1.out.mono (fun _ x => x.elim)).trans K2.out).trans K3.out).trans (ka.mono (fun _ x => x.elim))
  have hz := HWz.out
  have ZM4 := Lib.hid (ZM.out.kept k4 (hgp _ (by omega)))
  have ZN4 := Lib.hid (ZN.out.kept k4 (hgp _ (by omega)))
  have K4 := Lib.hid k4
  have HGP := Lib.hid hgp
  have hpb : p ≠ w3.heap.size := fun e => by have := P3.out.lt; omega
  have HPB := Lib.hid hpb
  clear ka k4 hz hgp hpb P1 P2 P3 K1 K2 K3 ZM ZN HY
  go_upto_region 3 with fail
  generalize hg4 : w3.heap.size = g4 at *
  clear hg4
  generalize w3.alloc (.cells #[.int .u8 6, .int .u8 2] 23) = w4 at *
  have HR := Lib.hid (fun u (h : Rd u p ⟨[6, 2, 7], 2, [], 0⟩) => rd_rest_at p _ [7] rfl u h)
  have b0 := B4.out.cell 0
  have b1 := B4.out.cell 1
  simp at b0 b1
  refine wp_region_any (by kernel_rfl) ?_
  change wpAny _ _ _ _ _ _ _ (World.drew _)
  refine wpAny_take (i := 1) (v := .pointer (some ⟨p, 0, none⟩)) rfl (by kernel_rfl) (by kernel_rfl) (by kernel_rfl) (fun _ _ _ h => h) (Or.inl ⟨by rfl, fun _ => by rfl⟩) ?_
  refine wpAny_take (i := 5) (v := .agg nonc) rfl (by kernel_rfl) (by kernel_rfl) (by kernel_rfl) (fun _ _ _ h => h) (Or.inl ⟨by rfl, fun _ => by kernel_rfl⟩) ?_
  refine wpAny_ready (rs := [0, 2]) (by kernel_rfl) (by simp) ?_
  refine AllReady.cons rfl ?_ (AllReady.cons rfl ?_ AllReady.nil)
  · intro K hK
    go_simp
    refine hK _ _ ?_
    clear hK K
    refine wpAny_ready (rs := [2]) (by kernel_rfl) (by simp) ?_
    refine AllReady.cons rfl ?_ AllReady.nil
    intro K hK
    go_simp
    refine (HR.out _ (by exact P4.out.kept ((Kept.refl Nothing w4).drew) (NoRd.nothing _))).mono ?_
    rintro e w5 ⟨A5, m5, rfl, hb5, hk5⟩
    have hk5' := ((Kept.refl (Only p) w4).drew).trans hk5
    have K5 := Lib.hid hk5'
    have B5 := B4.out.kept hk5' (fun (e : g4 = p) => HPB.out e.symm)
    have d0 := B5.cell 0
    have d1 := B5.cell 1
    simp at d0 d1
    have ZM5 := Lib.hid (ZM4.out.kept hk5' (HGP.out _ (by have := HWz.out; omega)))
    have ZN5 := Lib.hid (ZN4.out.kept hk5' (HGP.out _ HWz.out))
    have HB5 := Lib.hid hb5
    clear hb5 hk5 hk5' B5
    refine hK _ _ ?_
    clear hK K
    refine wpAny_ready (rs := [3]) (by kernel_rfl) (by simp) ?_
    refine AllReady.cons rfl ?_ AllReady.nil
    intro K hK
    go_simp
    refine hK _ _ ?_
    clear hK K
    refine wpAny_ready (rs := [4]) (by kernel_rfl) (by simp) ?_
    refine AllReady.cons rfl ?_ AllReady.nil
    intro K hK
    go_simp
    refine hK _ _ ?_
    clear hK K
    refine wpAny_ready (rs := [6]) (by kernel_rfl) (by simp) ?_
    refine AllReady.cons rfl ?_ AllReady.nil
    intro K hK
    refine step_store_row (by rfl) 61 _ _ rfl w.heap.size (msgc 0 6 2 (.slice A5 1 m5) 0 0) (by rfl) (by rfl) 61 _ ZM5.out (by kernel_rfl) rfl (rdmsg_one ..) ?_
    refine hK _ _ ?_
    clear hK K
    refine wpAny_ready (rs := [7]) (by kernel_rfl) (by simp) ?_
    refine AllReady.cons rfl ?_ AllReady.nil
    intro K hK
    refine step_store_row (by rfl) 57 _ _ rfl (w.heap.size + 1) nonc (by rfl) (by rfl) 57 _ (by exact ZN5.out.kept (Kept.setRow _ _) (fun (e : w.heap.size + 1 = w.heap.size) => by omega)) (by kernel_rfl) rfl (by kernel_rfl) ?_
    refine hK _ _ ?_
    clear hK K
    refine wpAny_done (by kernel_rfl) ?_ _
    simp only [Exit.then]
    apply_assumption
    go_wp2
    have hBm : Blk (w5.setRow w.heap.size (msgc 0 6 2 (.slice A5 1 m5) 0 0)) w.heap.size 61 (msgc 0 6 2 (.slice A5 1 m5) 0 0) := setRow_heap w5 _ _ _ _ _ ZM5.out
    have hBm2 := Blk.kept hBm (Kept.setRow (w.heap.size + 1) nonc) (fun (e : w.heap.size = w.heap.size + 1) => by omega)
    have hBn : Blk ((w5.setRow w.heap.size (msgc 0 6 2 (.slice A5 1 m5) 0 0)).setRow (w.heap.size + 1) nonc) (w.heap.size + 1) 57 nonc := setRow_heap _ _ _ _ _ _ (ZN5.out.kept (Kept.setRow _ _) (fun (e : w.heap.size + 1 = w.heap.size) => by omega))
    have hz := HWz.out
    have hp := HP.out
    have kf : Kept Nothing w ((w5.setRow w.heap.size (msgc 0 6 2 (.slice A5 1 m5) 0 0)).setRow (w.heap.size + 1) nonc) := (((KK.out.trans_new K4.out (fun i hi (e : i = p) => by omega)).trans_new K5.out (fun i hi (e : i = p) => by omega)).trans_new (Kept.setRow _ _) (fun i hi (e : i = w.heap.size) => by omega)).trans_new (Kept.setRow _ _) (fun i hi (e : i = w.heap.size + 1) => by omega)
    have hbs := (HB5.out.kept (Kept.setRow w.heap.size (msgc 0 6 2 (.slice A5 1 m5) 0 0)) (NoBytes.of_blk ZM5.out (by decide))).kept (Kept.setRow (w.heap.size + 1) nonc) (NoBytes.of_blk (ZN5.out.kept (Kept.setRow _ _) (fun (e : w.heap.size + 1 = w.heap.size) => by omega)) (by decide))
    exact bodyPost_ret (v := .tuple #[.agg (msgc 0 6 2 (.slice A5 1 m5) 0 0), .agg nonc]) (results_cells2 rfl _ _ _ ⟨w.heap.size, 0, none⟩ ⟨w.heap.size + 1, 0, none⟩ _ _ rfl rfl (run_loadVar_row _ _ 61 _ _ _ _ hBm2 Tryz.underlying61 rfl (by kernel_rfl)) (run_loadVar_row _ _ 57 _ _ _ _ hBn Tryz.underlying57 rfl (by kernel_rfl))) rfl ⟨A5, m5, rfl, hbs, kf⟩
  · intro K hK
    go_simp
    refine (HR.out _ (by exact P4.out.kept ((Kept.refl Nothing w4).drew) (NoRd.nothing _))).mono ?_
    rintro e w5 ⟨A5, m5, rfl, hb5, hk5⟩
    have hk5' := ((Kept.refl (Only p) w4).drew).trans hk5
    have K5 := Lib.hid hk5'
    have B5 := B4.out.kept hk5' (fun (e : g4 = p) => HPB.out e.symm)
    have d0 := B5.cell 0
    have d1 := B5.cell 1
    simp at d0 d1
    have ZM5 := Lib.hid (ZM4.out.kept hk5' (HGP.out _ (by have := HWz.out; omega)))
    have ZN5 := Lib.hid (ZN4.out.kept hk5' (HGP.out _ HWz.out))
    have HB5 := Lib.hid hb5
    clear hb5 hk5 hk5' B5
    refine hK _ _ ?_
    clear hK K
    refine wpAny_ready (rs := [0]) (by kernel_rfl) (by simp) ?_
    refine AllReady.cons rfl ?_ AllReady.nil
    intro K hK
    go_simp
    refine hK _ _ ?_
    clear hK K
    refine wpAny_ready (rs := [3]) (by kernel_rfl) (by simp) ?_
    refine AllReady.cons rfl ?_ AllReady.nil
    intro K hK
    go_simp
    refine hK _ _ ?_
    clear hK K
    refine wpAny_ready (rs := [4]) (by kernel_rfl) (by simp) ?_
    refine AllReady.cons rfl ?_ AllReady.nil
    intro K hK
    go_simp
    refine hK _ _ ?_
    clear hK K
    refine wpAny_ready (rs := [6]) (by kernel_rfl) (by simp) ?_
    refine AllReady.cons rfl ?_ AllReady.nil
    intro K hK
    refine step_store_row (by rfl) 61 _ _ rfl w.heap.size (msgc 0 6 2 (.slice A5 1 m5) 0 0) (by rfl) (by rfl) 61 _ ZM5.out (by kernel_rfl) rfl (rdmsg_one ..) ?_
    refine hK _ _ ?_
    clear hK K
    refine wpAny_ready (rs := [7]) (by kernel_rfl) (by simp) ?_
    refine AllReady.cons rfl ?_ AllReady.nil
    intro K hK
    refine step_store_row (by rfl) 57 _ _ rfl (w.heap.size + 1) nonc (by rfl) (by rfl) 57 _ (by exact ZN5.out.kept (Kept.setRow _ _) (fun (e : w.heap.size + 1 = w.heap.size) => by omega)) (by kernel_rfl) rfl (by kernel_rfl) ?_
    refine hK _ _ ?_
    clear hK K
    refine wpAny_done (by kernel_rfl) ?_ _
    simp only [Exit.then]
    apply_assumption
    go_wp2
    have hBm : Blk (w5.setRow w.heap.size (msgc 0 6 2 (.slice A5 1 m5) 0 0)) w.heap.size 61 (msgc 0 6 2 (.slice A5 1 m5) 0 0) := setRow_heap w5 _ _ _ _ _ ZM5.out
    have hBm2 := Blk.kept hBm (Kept.setRow (w.heap.size + 1) nonc) (fun (e : w.heap.size = w.heap.size + 1) => by omega)
    have hBn : Blk ((w5.setRow w.heap.size (msgc 0 6 2 (.slice A5 1 m5) 0 0)).setRow (w.heap.size + 1) nonc) (w.heap.size + 1) 57 nonc := setRow_heap _ _ _ _ _ _ (ZN5.out.kept (Kept.setRow _ _) (fun (e : w.heap.size + 1 = w.heap.size) => by omega))
    have hz := HWz.out
    have hp := HP.out
    have kf : Kept Nothing w ((w5.setRow w.heap.size (msgc 0 6 2 (.slice A5 1 m5) 0 0)).setRow (w.heap.size + 1) nonc) := (((KK.out.trans_new K4.out (fun i hi (e : i = p) => by omega)).trans_new K5.out (fun i hi (e : i = p) => by omega)).trans_new (Kept.setRow _ _) (fun i hi (e : i = w.heap.size) => by omega)).trans_new (Kept.setRow _ _) (fun i hi (e : i = w.heap.size + 1) => by omega)
    have hbs := (HB5.out.kept (Kept.setRow w.heap.size (msgc 0 6 2 (.slice A5 1 m5) 0 0)) (NoBytes.of_blk ZM5.out (by decide))).kept (Kept.setRow (w.heap.size + 1) nonc) (NoBytes.of_blk (ZN5.out.kept (Kept.setRow _ _) (fun (e : w.heap.size + 1 = w.heap.size) => by omega)) (by decide))
    exact bodyPost_ret (v := .tuple #[.agg (msgc 0 6 2 (.slice A5 1 m5) 0 0), .agg nonc]) (results_cells2 rfl _ _ _ ⟨w.heap.size, 0, none⟩ ⟨w.heap.size + 1, 0, none⟩ _ _ rfl rfl (run_loadVar_row _ _ 61 _ _ _ _ hBm2 Tryz.underlying61 rfl (by kernel_rfl)) (run_loadVar_row _ _ 57 _ _ _ _ hBn Tryz.underlying57 rfl (by kernel_rfl))) rfl ⟨A5, m5, rfl, hbs, kf⟩

set_option maxRecDepth 100000 in
set_option maxHeartbeats 2000000 in
theorem nr5 (v : Value) (w : World) (h : By w v [0, 1, 0, 1]) :
    Calls Tryz.prog 33 #[v] w fun r w' => r = .returned (.tuple #[.agg (msgc 0 0 0 (.slice none 0 0) 1 1), .agg nonc]) ∧ Kept Nothing w w' := by
  obtain ⟨A0, c0, rfl, _, _⟩ := h.form
  have K0 := (((Kept.refl Nothing w).alloc (.cells (msgc 0 0 0 (.slice none 0 0) 0 0) 61)).alloc (.cells nonc 57))
  have HY := Lib.hid (h.old K0)
  have KK := Lib.hid K0
  have ZM : Hid (Blk ((w.alloc (.cells (msgc 0 0 0 (.slice none 0 0) 0 0) 61)).alloc (.cells nonc 57)) w.heap.size 61 (msgc 0 0 0 (.slice none 0 0) 0 0)) := Lib.hid ((Blk.fresh w _ _).alloc _)
  have ZN : Hid (Blk ((w.alloc (.cells (msgc 0 0 0 (.slice none 0 0) 0 0) 61)).alloc (.cells nonc 57)) (w.heap.size + 1) 57 nonc) := Lib.hid (by
    have := Blk.fresh (w.alloc (.cells (msgc 0 0 0 (.slice none 0 0) 0 0) 61)) 57 nonc
    rwa [World.size_alloc] at this)
  clear h K0
  go_enter Tryz.func33, Tryz.ntmps33
  go_upto_region 1 with fail
  change Code.wp _ _ _ _ ((w.alloc (.cells (msgc 0 0 0 (.slice none 0 0) 0 0) 61)).alloc (.cells nonc 57))
  generalize (w.alloc (.cells (msgc 0 0 0 (.slice none 0 0) 0 0) 61)).alloc (.cells nonc 57) = W at *
  have hWz : w.heap.size + 1 < W.heap.size := ZN.out.lt
  have HWz := Lib.hid hWz
  clear hWz
  go_wp2_with fail
  refine (rd_new _ [0, 1, 0, 1] W HY.out (by decide)).mono ?_
  rintro e w1 ⟨p, rfl, hp, hk, hpz⟩
  have P1 := Lib.hid hp
  have K1 := Lib.hid hk
  have HP := Lib.hid hpz
  clear hp hk hpz
  go_wp2_with fail
  refine (rd_two_at p _ ⟨[0, 1, 0, 1], 2, [], 0⟩ 1 rfl rfl w1 P1.out).mono ?_
  rintro e w2 ⟨rfl, hp, hk⟩
  have P2 := Lib.hid hp
  have K2 := Lib.hid hk
  clear hp hk
  go_wp2_with fail
  refine (rd_byte_at p _ ⟨[0, 1, 0, 1], 3, [], 0⟩ 0 rfl rfl w2 P2.out).mono ?_
  rintro e w3 ⟨rfl, hp, hk⟩
  have P3 := Lib.hid hp
  have K3 := Lib.hid hk
  clear hp hk
  go_wp2_with fail
  refine (rd_byte_at p _ ⟨[0, 1, 0, 1], 4, [], 0⟩ 1 rfl rfl w3 P3.out).mono ?_
  rintro e w5 ⟨rfl, hp, hk⟩
  have hgp : ∀ g, g < W.heap.size → ¬ Only p g := fun g hg (e : g = p) => by have := HP.out; omega
  have k4 : Kept (Only p) W w5 := (((K1.out.mono (fun _ x => x.elim)).trans K2.out).trans K3.out).trans hk
  have hz := HWz.out
  have ZM5 := Lib.hid (ZM.out.kept k4 (hgp _ (by omega)))
  have ZN5 := Lib.hid (ZN.out.kept k4 (hgp _ (by omega)))
  have K4 := Lib.hid k4
  clear hgp k4 hz hp hk P1 P2 P3 K1 K2 K3 ZM ZN HY
  go_wp2_with (first
    | (refine wpList_store_row rfl 61 _ _ rfl w.heap.size (msgc 0 0 0 (.slice none 0 0) 1 1) rfl rfl 61 _ ZM5.out (by kernel_rfl) rfl (rdmsg_one ..) ?_)
    | (refine wpList_store_row rfl 57 _ _ rfl (w.heap.size + 1) nonc rfl rfl 57 _ (by exact ZN5.out.kept (Kept.setRow _ _) (fun (e : w.heap.size + 1 = w.heap.size) => by omega)) (by kernel_rfl) rfl (by kernel_rfl) ?_))
  have hBm : Blk (w5.setRow w.heap.size (msgc 0 0 0 (.slice none 0 0) 1 1)) w.heap.size 61 (msgc 0 0 0 (.slice none 0 0) 1 1) := setRow_heap w5 _ _ _ _ _ ZM5.out
  have hBm2 := Blk.kept hBm (Kept.setRow (w.heap.size + 1) nonc) (fun (e : w.heap.size = w.heap.size + 1) => by omega)
  have hBn : Blk ((w5.setRow w.heap.size (msgc 0 0 0 (.slice none 0 0) 1 1)).setRow (w.heap.size + 1) nonc) (w.heap.size + 1) 57 nonc := setRow_heap _ _ _ _ _ _ (ZN5.out.kept (Kept.setRow _ _) (fun (e : w.heap.size + 1 = w.heap.size) => by omega))
  have hz := HWz.out
  have hp := HP.out
  have kf : Kept Nothing w ((w5.setRow w.heap.size (msgc 0 0 0 (.slice none 0 0) 1 1)).setRow (w.heap.size + 1) nonc) := ((KK.out.trans_new K4.out (fun i hi (e : i = p) => by omega)).trans_new (Kept.setRow _ _) (fun i hi (e : i = w.heap.size) => by omega)).trans_new (Kept.setRow _ _) (fun i hi (e : i = w.heap.size + 1) => by omega)
  exact bodyPost_ret (v := .tuple #[.agg (msgc 0 0 0 (.slice none 0 0) 1 1), .agg nonc]) (results_cells2 rfl _ _ _ ⟨w.heap.size, 0, none⟩ ⟨w.heap.size + 1, 0, none⟩ _ _ rfl rfl (run_loadVar_row _ _ 61 _ _ _ _ hBm2 Tryz.underlying61 rfl (by kernel_rfl)) (run_loadVar_row _ _ 57 _ _ _ _ hBn Tryz.underlying57 rfl (by kernel_rfl))) rfl ⟨rfl, kf⟩
end Go.Proofs.YtdhbfhjlholnlaaGreatDoor
