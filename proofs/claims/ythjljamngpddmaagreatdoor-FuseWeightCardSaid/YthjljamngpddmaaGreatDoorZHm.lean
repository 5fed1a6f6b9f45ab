
/-
  The law FuseWeight.
-/
import Derived.Test.YthjljamngpddmaaGreatDoorY28
import Derived.Maps.AppendAt
namespace Go.Proofs.YthjljamngpddmaaGreatDoor
open Go.RowKit Go.Shelf
attribute [local go_sem] Oper.semAt_some

set_option maxRecDepth 100000 in
set_option maxHeartbeats 8000000 in
theorem law_weight (v0 v1 : Value) (l m : List Seg) (w : World) (h0 : Pts w v0 l) (h1 : Pts w v1 m) (hr : Rdy2 w) (hs : Bkt w) :
    Calls Tryz.prog 6 #[v0, v1] w fun e w' => e = .returned (.bool true) ∧ Kept Nothing w w' := by
  obtain ⟨A, c, rfl, -, -⟩ := h0.form
  obtain ⟨A', c', rfl, -, -⟩ := h1.form
  have HM1 := Lib.hid (fun u (k : Kept Nothing w u) => brought _ l u (h0.old k))
  have HM2 := Lib.hid (fun u (k : Kept Nothing w u) => brought _ m u (h1.old k))
  have HR := Lib.hid hr
  have HS := Lib.hid hs
  obtain ⟨hb1, hb2⟩ := brF_bnd l
  obtain ⟨hd1, hd2⟩ := brF_bnd m
  have hz : ∀ s ∈ plains (brF m), s.2 ≠ [] := fun s hs => (brF_num (List.mem_filter.1 hs).1).2.1
  have hpq := brF_pln (l := m)
  have h8 := brF_len l
  have h40 : ∀ s ∈ brF l, s.2.length ≤ 40 := fun s hs => (brF_num hs).1
  have h8m := brF_len m
  have h40m : ∀ s ∈ brF m, s.2.length ≤ 40 := fun s hs => (brF_num hs).1
  clear h0 h1 hr hs
  generalize brF l = P at *
  generalize brF m = Q at *
  have hmf := run_mkFunc
  obtain ⟨i1, hi1, hy0, hy1, hy2⟩ := info_parts as_info
  refine (callsIn_wide (n := 4)).1 (callsIn_of_wp_marks Tryz.func6 rfl trivial ?_ rfl)
  rw [wpIn_wide]
  simp only [Tryz.ntmps6, List.size_toArray, List.length_cons, List.length_nil, Nat.reduceAdd, Nat.reduceSub, Array.replicate_succ, Array.replicate_zero, List.push_toArray, List.append_toArray, List.nil_append, List.cons_append]
  go_upto_region 1 with fail
  have b4 := Blk.fresh w 4 #[.bool false]
  have k4 := (Kept.refl Nothing w).alloc (.cells #[.bool false] 4)
  obtain ⟨wA, hwA⟩ : ∃ wA, w.alloc (.cells #[.bool false] 4) = wA := ⟨_, rfl⟩
  rw [hwA] at b4 k4 ⊢
  have B4 := Lib.hid b4
  have K4 := Lib.hid k4
  clear b4 k4 hwA
  go_upto_region 2 with (first
    | (go_at_call 25; refine (HM2.out _ K1.out).mono ?_; rintro e w2 ⟨v2, rfl, p2, k2⟩; (have Q2 := Lib.hid p2.pts); (replace P1 := Lib.hid (P1.out.old k2)); (obtain ⟨A2, c2, rfl, -, -⟩ := p2.pts.form); (have K2 := Lib.hid (K1.out.trans k2)); (have KB2 := Lib.hid (KB1.out.trans k2)); clear p2 k2)
    | (go_at_call 25; refine (HM1.out _ K4.out).mono ?_; rintro e w1 ⟨v1, rfl, p1, k1⟩; (have P1 := Lib.hid p1.pts); (obtain ⟨A1, c1, rfl, -, -⟩ := p1.pts.form); (have K1 := Lib.hid (K4.out.trans k1)); (have KB1 := Lib.hid k1); clear p1 k1))
  clear HM1 HM2 K1 KB1 K4
  have FU := Lib.hid (fuse_fuse _ _ P Q w2 P1.out Q2.out hb1 hd1 hb2 hd2 hz)
  have BQ := Lib.hid (fun u (k : Kept Nothing w2 u) => fuse_bare _ Q u (Q2.out.old k) hd1 hd2)
  have B2 := Lib.hid (B4.out.kept KB2.out (fun x => x))
  have hgw : w.heap.size < w2.heap.size := B2.out.lt
  go_upto_region 3 with (go_at_call 33; refine (FU.out).mono ?_; rintro e w3 ⟨v3, rfl, p3, k3⟩; (have F3 := Lib.hid p3.pts); (obtain ⟨A3, c3, rfl, -, -⟩ := p3.pts.form); (have K3 := Lib.hid k3); clear p3 k3)
  go_upto_region 4 with (go_at_call 35; refine (BQ.out _ K3.out).mono ?_; rintro e w5 ⟨v5, ys, rfl, o5, r5, -, k5⟩; (have E5 := Lib.hid (show Pts w5 v5 (plains Q) from Pts.of_own o5 r5.cells)); (obtain ⟨A5, c5, rfl, -, -⟩ := E5.out.form); (have K5 := Lib.hid (K3.out.trans k5)); (replace F3 := Lib.hid (F3.out.old k5)); clear o5 r5 k5)
  replace P1 := Lib.hid (P1.out.old K5.out)
  replace B2 := Lib.hid (B2.out.kept K5.out (fun x => x))
  have hpl := plains_len Q
  have hd3 : ∀ s ∈ plains Q, s.2.length ≤ 1000000 := fun s hs => hd2 s (List.mem_filter.1 hs).1
  have WB := Lib.hid (fun u (k : Kept Nothing w5 u) => fuse_wt _ (plains Q) u (E5.out.old k) (by omega) hd3)
  have WP := Lib.hid (fun u (k : Kept Nothing w5 u) => fuse_wt _ P u (P1.out.old k) hb1 hb2)
  have KW := Lib.hid (K2.out.trans K5.out)
  have CW := Lib.hid (fun u (k : Kept Nothing w5 u) => wakes9 u (HR.out.kept (KW.out.trans k)) (HS.out.kept (KW.out.trans k)))
  rw [Fz.wt_plains] at WB
  have hgw5 : w.heap.size < w5.heap.size := B2.out.lt
  clear FU BQ K3 K2 KB2 B4 HR HS hgw
  by_cases hlt : Fz.wt P < Fz.wt Q
  · have hf := Fz.fuse_less hlt
    have SM := Lib.hid (fun u (k : Kept Nothing w5 u) => path_same _ _ _ P u (F3.out.old k) (P1.out.old k))
    rw [decide_eq_true hf] at SM
    have hlt' : (Fz.wt P : Int) < (Fz.wt Q : Int) := by omega
    clear hf hb2 hd2 hz hpq h40 h40m hd3
    go_upto_region 5 with (first
      | (go_at_call 36; refine (WP.out _ m1).mono ?_; rintro e u2 ⟨rfl, q2⟩; have m2 := m1.trans q2)
      | (go_at_call 36; refine (WB.out _ (Kept.refl _ _)).mono ?_; rintro e u1 ⟨rfl, m1⟩))
    go_wp2_with (first
      | (go_at_call 32; refine (CW.out _ m3).mono ?_; rintro e u4 ⟨rfl, q4⟩; (have m4 := m3.trans q4); (have r4 := (B2.out.kept m4 (fun x => x)).cell 0); (have f4 := (B2.out.kept m4 (fun x => x)).free 0))
      | (go_at_call 16; refine (SM.out _ m2).mono ?_; rintro e u3 ⟨rfl, q3⟩; have m3 := m2.trans q3))
    have e0 := ((B2.out.kept m4 (fun x => x)).put 0 (.bool true)).cell 0
    refine ⟨.bool true, by simp [results, Tryz.results6, go_sem, e0], rfl, ?_⟩
    exact (KW.out.trans m4).setCell (p := ⟨w.heap.size, 0, none⟩) (fun h => absurd h (Nat.lt_irrefl _)) _
  · obtain ⟨hw1, hcf, NN, hn1, hn2⟩ := Fz.fuse_facts hpq (Nat.le_of_not_lt hlt)
    have hlt' : ¬ (Fz.wt P : Int) < (Fz.wt Q : Int) := by omega
    obtain ⟨hfl, hfs⟩ := Fz.fuse_bnd h40 h40m
    have hfl' : (Fz.fuse P Q).length ≤ 1000000 := by omega
    have hfs' : ∀ s ∈ Fz.fuse P Q, s.2.length ≤ 1000000 := fun s hs => by have := hfs s hs; omega
    have hFfit : ∀ n ∈ Fz.nums (plains (Fz.fuse P Q)), n < 4294967296 := Fz.nums_lt F3.out.fits
    have hQfit : ∀ n ∈ Fz.nums (plains Q), n < 4294967296 := fun n h => hFfit n (by rw [hn1]; exact List.mem_append_right _ h)
    have hFp := plains_len (Fz.fuse P Q)
    have hFs : ∀ s ∈ plains (Fz.fuse P Q), s.2.length ≤ 1000000 := fun s hs => hfs' s (List.mem_filter.1 hs).1
    have hPp := plains_len P
    have hPs : ∀ s ∈ plains P, s.2.length ≤ 1000000 := fun s hs => hb2 s (List.mem_filter.1 hs).1
    have hFc : (Fz.nums (plains (Fz.fuse P Q))).length ≤ 1280 := by
      rw [Fz.nums_len]
      have := Pt.cnt_le3 80 (plains (Fz.fuse P Q)) (fun s hs => hfs s (List.mem_filter.1 hs).1)
      omega
    generalize Fz.fuse P Q = F at *
    have WF := Lib.hid (fun u (k : Kept Nothing w5 u) => fuse_wt _ F u (F3.out.old k) hfl' hfs')
    rw [hw1] at WF
    have CF := Lib.hid (fun u (k : Kept Nothing w5 u) => confeds_any _ F u (F3.out.old k) hfl' hfs')
    have CP := Lib.hid (fun u (k : Kept Nothing w5 u) => confeds_any _ P u (P1.out.old k) hb1 hb2)
    have BF := Lib.hid (fun u (k : Kept Nothing w5 u) => fuse_bare _ F u (F3.out.old k) hfl' hfs')
    have BP := Lib.hid (fun u (k : Kept Nothing w5 u) => fuse_bare _ P u (P1.out.old k) hb1 hb2)
    generalize Fz.confs F = M at CF hcf
    generalize Fz.confs P = T at CP hcf
    have HCF : Hid (M <+: T) := Lib.hid hcf
    have H1 : Hid (Fz.nums (plains F) = NN ++ Fz.nums (plains Q)) := Lib.hid hn1
    have H2 : Hid (NN <+: Fz.nums (plains P)) := Lib.hid hn2
    have HFF := Lib.hid hFfit
    have HQF := Lib.hid hQfit
    have HFS := Lib.hid hFs
    have HPS := Lib.hid hPs
    have HD3 := Lib.hid hd3
    have HQ40 : Hid (Pt.cnt (plains Q) ≤ 320) := Lib.hid (by have := Pt.cnt_le3 40 (plains Q) (fun s hs => h40m s (List.mem_filter.1 hs).1); omega)
    clear hfl hfs hw1 hcf hn1 hn2 hz hpq h40 h40m hFfit hQfit hfs' hFs hPs hb2 hd2 hd3 F3 P1
    go_upto_region 8 with (first
      | (go_at_call 36; refine (WP.out _ m3).mono ?_; rintro e u4 ⟨rfl, q4⟩; have m4 := m3.trans q4)
      | (go_at_call 36; refine (WF.out _ m2).mono ?_; rintro e u3 ⟨rfl, q3⟩; have m3 := m2.trans q3)
      | (go_at_call 36; refine (WP.out _ m1).mono ?_; rintro e u2 ⟨rfl, q2⟩; have m2 := m1.trans q2)
      | (go_at_call 36; refine (WB.out _ (Kept.refl _ _)).mono ?_; rintro e u1 ⟨rfl, m1⟩))
    clear m1 m2 m3 q2 q3 q4 WP WF WB
    go_upto_region 10 with (first
      | (go_at_call 37; refine (CP.out _ c1).mono ?_; rintro e w7 ⟨v7, rfl, p7, k7⟩; (have T7 := Lib.hid p7); (replace M6 := Lib.hid (M6.out.old k7)); (obtain ⟨A7, c7, rfl, hc7, -⟩ := p7.form); (have c2 := c1.trans k7); clear p7 k7)
      | (go_at_call 37; refine (CF.out _ m4).mono ?_; rintro e w6 ⟨v6, rfl, p6, k6⟩; (have M6 := Lib.hid p6); (obtain ⟨A6, c6, rfl, -, -⟩ := p6.form); (have c1 := m4.trans k6); clear p6 k6))
    have hMT := HCF.out.length_le
    have hle : ¬ (T.length : Int) < (M.length : Int) := by omega
    have hsl := slice_hiP2 A7 T.length c7 M.length (by omega)
    have SM := Lib.hid (fun u (k : Kept Nothing w7 u) => path_same _ _ M (T.take M.length) u (M6.out.old k) ((T7.out.pre hMT).old k))
    rw [decide_eq_true (List.prefix_iff_eq_take.1 HCF.out)] at SM
    clear c1 hMT hc7 CF CP HCF M6 T7
    go_upto_region 12 with (go_at_call 16; refine (SM.out _ (Kept.refl _ _)).mono ?_; rintro e w8 ⟨rfl, k8⟩)
    have c3 := c2.trans k8
    clear c2 k8 SM hsl
    go_upto_region 13 with fail
    have b10 := (Blk.fresh w8 70 #[.slice none 0 0]).alloc (.cells #[.slice none 0 0] 70)
    have b11 := Blk.fresh (w8.alloc (.cells #[.slice none 0 0] 70)) 70 #[.slice none 0 0]
    rw [World.size_alloc] at b11
    have k9 := c3.trans (((Kept.refl Nothing w8).alloc (.cells #[.slice none 0 0] 70)).alloc (.cells #[.slice none 0 0] 70))
    have hz8 := c3.size
    generalize (w8.alloc (.cells #[.slice none 0 0] 70)).alloc (.cells #[.slice none 0 0] 70) = w9 at b10 b11 k9 ⊢
    generalize w8.heap.size = g10 at *
    clear m4 c3
    go_wp2_with (go_at_call 35; refine (BF.out _ k9).mono ?_; rintro e w10 ⟨v10, xs10, rfl, o10, r10, -, k10⟩; (obtain ⟨A10, c10, rfl, -, -⟩ := ow_form o10); (have O10 := Lib.hid o10); (have R10 := Lib.hid r10); (have K10 := Lib.hid (k9.trans k10)); (replace b10 := b10.kept k10 (fun x => x)); (replace b11 := b11.kept k10 (fun x => x)); clear o10 r10 k10)
    have hg10 : g10 < w10.heap.size := b10.lt
    have hg11 : g10 + 1 < w10.heap.size := b11.lt
    clear k9 BF
    refine wp_rfN1 (gf := 28) (fs := #[.slice A10 (plains F).length c10]) (u := fun x : UInt8 × Nat => .int .u8 (x.1.toNat : Int)) (v := fun x => .int .u32 (x.2 : Int)) (q2 := 13) (xs := Pt.all (plains F)) (S := Only g10) (B := w10.heap.size + 2) rfl (enters_of Tryz.func28 (by kernel_rfl) rfl) (fun k (e : k = g10) => by omega)
      (all_seqN w10 _ (plains F) _ _ w10 (POff.of_own O10.out R10.out (fun k (e : k = g10) => by subst e; exact ⟨_, _, b10, by decide, by decide⟩)) (Kept.refl _ _) (fun k (e : k = g10) => by omega) (by omega) (by omega) HFS.out)
      (Gthr w10 g10) (Gthr.stays hg10) (Gthr.start b10) ?assign ?body ?post
    case assign =>
      intro l x W K hK
      simp only [List.setIfInBounds_toArray, List.set_cons_succ, List.set_cons_zero] at hK ⊢
      gi_wp2
      exact hK
    case body =>
      rintro l pre x W ⟨hk, nv, hb, ho⟩ hp2 hz
      simp only [List.setIfInBounds_toArray, List.set_cons_succ, List.set_cons_zero]
      have c0 : W.cell? ⟨g10, 0, none⟩ = some nv := hb.cell 0
      have hpl : (pre.map (·.2)).length + 1 ≤ 1280 := by
        have h1 := hp2.length_le
        have h2 : (Pt.all (plains F)).length = (Fz.nums (plains F)).length := by rw [Fz.nums_len, Pt.length_all]
        rw [List.length_append] at h1
        simp only [List.length_cons, List.length_nil, List.length_map] at h1 ⊢
        omega
      have hpm : (pre.map (·.2)).length + 1 ≤ maxLen := by unfold maxLen; omega
      gi_wp2_with (gi_at_builtin; refine wpListIn_append_own_at _ rfl _ _ 70 rfl (w10.heap.size + 2) 54 i1 (.int .u32 0) 1 4 Tryz.underlying70 hi1 hy0 hy1 hy2 rfl (by decide) nv _ (ass (pre.map (·.2))) rfl (ow_kept ho ((Kept.refl Nothing W).alloc _) (fun _ _ x => x)) ⟨W.heap.size, 0, none⟩ 1 1 [.int .u32 (x.2 : Int)] rfl rfl (cell_one_new _ _ _) (by simp [Value.oneCell']) hpm (by omega) (by rw [World.size_alloc]; omega) ?_; intro v' w7 ho7 hg7 _ _; (have PU := Lib.hid (Gthr.push hk hb ho _ hg7 ho7)); (have b7 := NR.far hb ho _ hg7); (have d7 : w7.cell? ⟨g10, 0, none⟩ = some nv := b7.cell 0); (have f7 := b7.free 0); (obtain ⟨A11, c11, rfl, -, -⟩ := ow_form ho7); clear ho7 hg7)
      have PU' := PU.out
      rw [List.length_map] at PU'
      exact PU'
    case post =>
      intro D wB hD hG hd
      obtain ⟨hk1, hn1⟩ := hG
      have N1 : Hid (NR (w10.heap.size + 2) wB g10 (Fz.nums (plains F))) := Lib.hid hn1
      replace b11 := b11.kept hk1 (fun (e : g10 + 1 = g10) => by omega)
      have KB := Lib.hid (K10.out.trans_new hk1 (fun i hi (e : i = g10) => by omega))
      have hD1 : D < wB.heap.size := (Array.getElem?_eq_some_iff.1 hd).1
      have hzB := hk1.size
      have HD1 := Lib.hid hd
      clear hk1 hn1 hd O10 R10 K10 b10
      go_wp2_with fail
      have hQc : (Fz.nums (plains Q)).length ≤ 320 := by
        have h1 := congrArg List.length H1.out
        rw [Fz.nums_len]
        have := HQ40.out
        omega
      have hg11 : g10 + 1 < wB.heap.size := by omega
      refine wp_rfN1 (gf := 28) (fs := #[.slice A5 (plains Q).length c5]) (u := fun x : UInt8 × Nat => .int .u8 (x.1.toNat : Int)) (v := fun x => .int .u32 (x.2 : Int)) (q2 := 15) (xs := Pt.all (plains Q)) (S := Only (g10 + 1)) (B := wB.heap.size + 2) rfl (enters_of Tryz.func28 (by kernel_rfl) rfl) (fun k (e : k = g10 + 1) => by omega)
        (all_seqN w5 _ (plains Q) _ _ wB (POff.of_new E5.out (fun k (e : k = g10 + 1) => by omega)) KB.out (fun k (e : k = g10 + 1) => by omega) (by have := KB.out.size; omega) (by omega) HD3.out)
        (Gthr wB (g10 + 1)) (Gthr.stays hg11) (Gthr.start b11) ?assign ?body ?post
      case assign =>
        intro l x W K hK
        simp only [List.setIfInBounds_toArray, List.set_cons_succ, List.set_cons_zero] at hK ⊢
        gi_wp2
        exact hK
      case body =>
        rintro l pre x W ⟨hk, nv, hb, ho⟩ hp2 hz
        simp only [List.setIfInBounds_toArray, List.set_cons_succ, List.set_cons_zero]
        have c0 : W.cell? ⟨g10 + 1, 0, none⟩ = some nv := hb.cell 0
        have hpl : (pre.map (·.2)).length + 1 ≤ 320 := by
          have h1 := hp2.length_le
          have h2 : (Pt.all (plains Q)).length = (Fz.nums (plains Q)).length := by rw [Fz.nums_len, Pt.length_all]
          rw [List.length_append] at h1
          simp only [List.length_cons, List.length_nil, List.length_map] at h1 ⊢
          omega
        have hpm : (pre.map (·.2)).length + 1 ≤ maxLen := by unfold maxLen; omega
        gi_wp2_with (gi_at_builtin; refine wpListIn_append_own_at _ rfl _ _ 70 rfl (wB.heap.size + 2) 54 i1 (.int .u32 0) 1 4 Tryz.underlying70 hi1 hy0 hy1 hy2 rfl (by decide) nv _ (ass (pre.map (·.2))) rfl (ow_kept ho ((Kept.refl Nothing W).alloc _) (fun _ _ x => x)) ⟨W.heap.size, 0, none⟩ 1 1 [.int .u32 (x.2 : Int)] rfl rfl (cell_one_new _ _ _) (by simp [Value.oneCell']) hpm (by omega) (by rw [World.size_alloc]; omega) ?_; intro v' w7 ho7 hg7 _ _; (have PU := Lib.hid (Gthr.push hk hb ho _ hg7 ho7)); (have b7 := NR.far hb ho _ hg7); (have d7 : w7.cell? ⟨g10 + 1, 0, none⟩ = some nv := b7.cell 0); (have f7 := b7.free 0); (obtain ⟨A11, c11, rfl, -, -⟩ := ow_form ho7); clear ho7 hg7)
        have PU' := PU.out
        rw [List.length_map] at PU'
        exact PU'
      case post =>
        intro D2 wC hD2 hG hd
        obtain ⟨hk2, hn2⟩ := hG
        obtain ⟨vN, bN, oN⟩ := N1.out.kept hk2 (fun (e : g10 = g10 + 1) => by omega) (fun i h _ (e : i = g10 + 1) => by omega)
        obtain ⟨vE, bE, oE⟩ := (show NR (wB.heap.size + 2) wC (g10 + 1) (Fz.nums (plains Q)) from hn2)
        have KC := Lib.hid (KB.out.trans_new hk2 (fun i hi (e : i = g10 + 1) => by omega))
        have HD1' := Lib.hid ((hk2.block D hD1 (fun (e : D = g10 + 1) => by omega)).trans HD1.out)
        have hD2z : D2 < wC.heap.size := (Array.getElem?_eq_some_iff.1 hd).1
        have hzC := hk2.size
        have HD2 := Lib.hid hd
        clear hk2 hn2 hd N1 KB HD1 E5 HD3 b11
        have H1L := congrArg List.length H1.out
        rw [List.length_append] at H1L
        obtain ⟨AN, cN, rfl, -, -⟩ := ow_form oN
        obtain ⟨AE, cE, rfl, -, -⟩ := ow_form oE
        obtain ⟨AD, cD, hsl, asD⟩ := As.drop_own oN HFF.out (m := NN.length) (by omega)
        have hdr : (Fz.nums (plains F)).drop NN.length = Fz.nums (plains Q) := by rw [H1.out]; simp
        rw [hdr] at asD
        have asE := As.of_own oE HQF.out
        have AN0 := Lib.hid (As.of_own oN HFF.out)
        have EQ := Lib.hid (fun u (k : Kept Nothing wC u) => as_equal _ _ _ _ u (asD.old k) (asE.old k))
        rw [beq_self_eq_true] at EQ
        have H1' := H1
        have BN := Lib.hid bN
        have BE := Lib.hid bE
        have hsub : ((Fz.nums (plains F)).length : Int) - ((Fz.nums (plains Q)).length : Int) = (NN.length : Int) := by omega
        have hnl : ¬ ((Fz.nums (plains F)).length : Int) < ((Fz.nums (plains Q)).length : Int) := by omega
        generalize Fz.nums (plains F) = NF at *
        generalize Fz.nums (plains Q) = NQ at *
        have hnn : NF.length - NN.length = NQ.length := by omega
        rw [hnn] at hsl EQ
        have hNl : (NN.length : Int) ≤ 1280 := by omega
        have hwr : IntKind.i64.wrap (NN.length : Int) = (NN.length : Int) := by rw [IntKind.wrap_i64]; omega
        have hwr2 : IntKind.i64.wrap ((NF.length : Int) - (NQ.length : Int)) = (NN.length : Int) := by rw [hsub]; exact hwr
        have Z0 : Hid (∀ u, Kept Nothing wC u → u.cell? ⟨g10, 0, none⟩ = some (.slice AN NF.length cN)) := Lib.hid (fun u k => (BN.out.kept k (fun x => x)).cell 0)
        have Z1 : Hid (∀ u, Kept Nothing wC u → u.cell? ⟨g10 + 1, 0, none⟩ = some (.slice AE NQ.length cE)) := Lib.hid (fun u k => (BE.out.kept k (fun x => x)).cell 0)
        have XB := Lib.hid (show wC.drew.cell? ⟨g10, 0, none⟩ = some (.slice AN NF.length cN) ∧ wC.drew.cell? ⟨g10 + 1, 0, none⟩ = some (.slice AE NQ.length cE) from ⟨bN.cell 0, bE.cell 0⟩)
        have hNF : (NF.length : Int) ≤ 1280 := by omega
        have hNLe : NN.length ≤ NF.length := by omega
        have HLL : Hid (NF.length = NN.length + NQ.length) := Lib.hid H1L
        clear XB H1L H1' hnn
        clear asD asE bN bE oN oE hdr HFF HQF
        go_upto_region 19 with fail
        refine wp_region_last3 wC (Facts [some (.slice AN NF.length cN), some (.int .i64 (NF.length : Int)), some (.slice AE NQ.length cE), some (.int .i64 (NQ.length : Int)), some (.bool false), some (.bool false), some (.slice AN NF.length cN), some (.slice AN NF.length cN), some (.int .i64 (NF.length : Int)), some (.slice AE NQ.length cE), some (.int .i64 (NQ.length : Int)), some (.int .i64 (NN.length : Int)), some (.slice AD NQ.length cD), some (.slice AE NQ.length cE), some (.bool true), some (.bool false)] (fun _ _ _ => True)) 16 _ (by rfl) (by rfl) (by kernel_rfl) (by rfl) (by kernel_rfl) (by decide +kernel) (by intro d hd; simp [dsts] at hd ⊢; omega) (ready_nil (by kernel_rfl)) (fun k => if k = 5 then false else true) (by kernel_rfl) ?_ (Facts.stab (fun _ _ _ _ _ h => h)) ((Kept.refl Nothing wC).drew) ?_ ?_
        · refine Facts.guards2 (gv := fun k => if k = 5 then false else true) (E := [5]) (by kernel_rfl) ?_
          repeat (first | refine List.forall_mem_cons.2 ⟨by rfl, ?_⟩ | exact List.forall_mem_nil _)
        · refine OweTo.cons ?_ (by rfl) ?_
          · intro u a hk hf hfar
            have v10 : a.tmps.getD 10 undef = .pointer (some ⟨g10, 0, none⟩) := hfar 10 (by decide)
            have w10 := v10
            rw [Array.getD_eq_getD_getElem?] at w10
            have zc := Z0.out u hk
            clear hf hfar
            go_simp
            exact ⟨_, rfl, Kept.refl _ _, rfl⟩
          refine OweTo.cons ?_ (by rfl) ?_
          · intro u a hk hf hfar
            have v81 : a.tmps.getD 81 undef = .slice AN NF.length cN := hf 0 _ 81 rfl rfl ⟨⟨0, .data⟩, Array.mem_of_getElem? (i := 0) rfl, rfl, rfl⟩
            have w81 := v81
            rw [Array.getD_eq_getD_getElem?] at w81
            clear hf hfar
            go_simp
            exact ⟨_, rfl, Kept.refl _ _, rfl⟩
          refine OweTo.cons ?_ (by rfl) ?_
          · intro u a hk hf hfar
            have v11 : a.tmps.getD 11 undef = .pointer (some ⟨g10 + 1, 0, none⟩) := hfar 11 (by decide)
            have w11 := v11
            rw [Array.getD_eq_getD_getElem?] at w11
            have zc := Z1.out u hk
            clear hf hfar
            go_simp
            exact ⟨_, rfl, Kept.refl _ _, rfl⟩
          refine OweTo.cons ?_ (by rfl) ?_
          · intro u a hk hf hfar
            have v83 : a.tmps.getD 83 undef = .slice AE NQ.length cE := hf 2 _ 83 rfl rfl ⟨⟨2, .data⟩, Array.mem_of_getElem? (i := 0) rfl, rfl, rfl⟩
            have w83 := v83
            rw [Array.getD_eq_getD_getElem?] at w83
            clear hf hfar
            go_simp
            exact ⟨_, rfl, Kept.refl _ _, rfl⟩
          refine OweTo.cons ?_ (by rfl) ?_
          · intro u a hk hf hfar
            have v82 : a.tmps.getD 82 undef = .int .i64 (NF.length : Int) := hf 1 _ 82 rfl rfl ⟨⟨1, .data⟩, Array.mem_of_getElem? (i := 0) rfl, rfl, rfl⟩
            have w82 := v82
            rw [Array.getD_eq_getD_getElem?] at w82
            have v84 : a.tmps.getD 84 undef = .int .i64 (NQ.length : Int) := hf 3 _ 84 rfl rfl ⟨⟨3, .data⟩, Array.mem_of_getElem? (i := 1) rfl, rfl, rfl⟩
            have w84 := v84
            rw [Array.getD_eq_getD_getElem?] at w84
            clear hf hfar
            go_simp
            exact ⟨_, rfl, Kept.refl _ _, rfl⟩
          refine OweTo.cons ?_ (by rfl) ?_
          · intro u a hk hf hfar
            have v85 : a.tmps.getD 85 undef = .bool false := hf 4 _ 85 rfl rfl ⟨⟨4, .data⟩, Array.mem_of_getElem? (i := 0) rfl, rfl, rfl⟩
            have w85 := v85
            rw [Array.getD_eq_getD_getElem?] at w85
            clear hf hfar
            go_simp
            exact ⟨_, rfl, Kept.refl _ _, rfl⟩
          refine OweTo.cons ?_ (by rfl) ?_
          · intro u a hk hf hfar
            have v10 : a.tmps.getD 10 undef = .pointer (some ⟨g10, 0, none⟩) := hfar 10 (by decide)
            have w10 := v10
            rw [Array.getD_eq_getD_getElem?] at w10
            have zc := Z0.out u hk
            clear hf hfar
            go_simp
            exact ⟨_, rfl, Kept.refl _ _, rfl⟩
          refine OweTo.cons ?_ (by rfl) ?_
          · intro u a hk hf hfar
            have v10 : a.tmps.getD 10 undef = .pointer (some ⟨g10, 0, none⟩) := hfar 10 (by decide)
            have w10 := v10
            rw [Array.getD_eq_getD_getElem?] at w10
            have zc := Z0.out u hk
            clear hf hfar
            go_simp
            exact ⟨_, rfl, Kept.refl _ _, rfl⟩
          refine OweTo.cons ?_ (by rfl) ?_
          · intro u a hk hf hfar
            have v88 : a.tmps.getD 88 undef = .slice AN NF.length cN := hf 7 _ 88 rfl rfl ⟨⟨7, .data⟩, Array.mem_of_getElem? (i := 0) rfl, rfl, rfl⟩
            have w88 := v88
            rw [Array.getD_eq_getD_getElem?] at w88
            clear hf hfar
            go_simp
            exact ⟨_, rfl, Kept.refl _ _, rfl⟩
          refine OweTo.cons ?_ (by rfl) ?_
          · intro u a hk hf hfar
            have v11 : a.tmps.getD 11 undef = .pointer (some ⟨g10 + 1, 0, none⟩) := hfar 11 (by decide)
            have w11 := v11
            rw [Array.getD_eq_getD_getElem?] at w11
            have zc := Z1.out u hk
            clear hf hfar
            go_simp
            exact ⟨_, rfl, Kept.refl _ _, rfl⟩
          refine OweTo.cons ?_ (by rfl) ?_
          · intro u a hk hf hfar
            have v90 : a.tmps.getD 90 undef = .slice AE NQ.length cE := hf 9 _ 90 rfl rfl ⟨⟨9, .data⟩, Array.mem_of_getElem? (i := 0) rfl, rfl, rfl⟩
            have w90 := v90
            rw [Array.getD_eq_getD_getElem?] at w90
            clear hf hfar
            go_simp
            exact ⟨_, rfl, Kept.refl _ _, rfl⟩
          refine OweTo.cons ?_ (by rfl) ?_
          · intro u a hk hf hfar
            have v89 : a.tmps.getD 89 undef = .int .i64 (NF.length : Int) := hf 8 _ 89 rfl rfl ⟨⟨8, .data⟩, Array.mem_of_getElem? (i := 0) rfl, rfl, rfl⟩
            have w89 := v89
            rw [Array.getD_eq_getD_getElem?] at w89
            have v91 : a.tmps.getD 91 undef = .int .i64 (NQ.length : Int) := hf 10 _ 91 rfl rfl ⟨⟨10, .data⟩, Array.mem_of_getElem? (i := 1) rfl, rfl, rfl⟩
            have w91 := v91
            rw [Array.getD_eq_getD_getElem?] at w91
            clear hf hfar
            go_simp
            exact ⟨_, rfl, Kept.refl _ _, rfl⟩
          refine OweTo.cons ?_ (by rfl) ?_
          · intro u a hk hf hfar
            have v87 : a.tmps.getD 87 undef = .slice AN NF.length cN := hf 6 _ 87 rfl rfl ⟨⟨6, .data⟩, Array.mem_of_getElem? (i := 0) rfl, rfl, rfl⟩
            have w87 := v87
            rw [Array.getD_eq_getD_getElem?] at w87
            have v92 : a.tmps.getD 92 undef = .int .i64 (NN.length : Int) := hf 11 _ 92 rfl rfl ⟨⟨11, .data⟩, Array.mem_of_getElem? (i := 1) rfl, rfl, rfl⟩
            have w92 := v92
            rw [Array.getD_eq_getD_getElem?] at w92
            clear hf hfar
            go_simp
            exact ⟨_, rfl, Kept.refl _ _, rfl⟩
          refine OweTo.cons ?_ (by rfl) ?_
          · intro u a hk hf hfar
            have v11 : a.tmps.getD 11 undef = .pointer (some ⟨g10 + 1, 0, none⟩) := hfar 11 (by decide)
            have w11 := v11
            rw [Array.getD_eq_getD_getElem?] at w11
            have zc := Z1.out u hk
            clear hf hfar
            go_simp
            exact ⟨_, rfl, Kept.refl _ _, rfl⟩
          refine OweTo.cons ?_ (by rfl) ?_
          · intro u a hk hf hfar
            have v93 : a.tmps.getD 93 undef = .slice AD NQ.length cD := hf 12 _ 93 rfl rfl ⟨⟨12, .data⟩, Array.mem_of_getElem? (i := 0) rfl, rfl, rfl⟩
            have w93 := v93
            rw [Array.getD_eq_getD_getElem?] at w93
            have v94 : a.tmps.getD 94 undef = .slice AE NQ.length cE := hf 13 _ 94 rfl rfl ⟨⟨13, .data⟩, Array.mem_of_getElem? (i := 1) rfl, rfl, rfl⟩
            have w94 := v94
            rw [Array.getD_eq_getD_getElem?] at w94
            clear hf hfar
            go_simp
            refine (EQ.out u hk).mono ?_
            rintro e u' ⟨rfl, hk'⟩
            exact ⟨_, rfl, hk', rfl⟩
          refine OweTo.cons ?_ (by rfl) ?_
          · intro u a hk hf hfar
            have v95 : a.tmps.getD 95 undef = .bool true := hf 14 _ 95 rfl rfl ⟨⟨14, .data⟩, Array.mem_of_getElem? (i := 0) rfl, rfl, rfl⟩
            have w95 := v95
            rw [Array.getD_eq_getD_getElem?] at w95
            clear hf hfar
            go_simp
            exact ⟨_, rfl, Kept.refl _ _, rfl⟩
          exact OweTo.last (by decide)
        · intro A u hk hsz hdef hfar hfacts
          have x86 : A.tmps.getD 86 undef = .bool false := hfacts 5 _ 86 (by decide) rfl rfl
          have x96 : A.tmps.getD 96 undef = .bool false := hfacts 15 _ 96 (by decide) rfl rfl
          have hA := arr_put A.tmps [81, 82, 83, 84, 85, 86, 87, 88, 89, 90, 91, 92, 93, 94, 95, 96, 97] _ hsz (fun t ht => hfar t ht)
          obtain ⟨At, Ad⟩ := A
          simp only at hdef x86 x96 hA
          subst hdef
          simp only [List.foldl_cons, List.foldl_nil, x86, x96] at hA
          clear x86 x96 hfar hfacts hsz
          generalize At.getD 81 undef = y81 at hA
          generalize At.getD 82 undef = y82 at hA
          generalize At.getD 83 undef = y83 at hA
          generalize At.getD 84 undef = y84 at hA
          generalize At.getD 85 undef = y85 at hA
          generalize At.getD 87 undef = y87 at hA
          generalize At.getD 88 undef = y88 at hA
          generalize At.getD 89 undef = y89 at hA
          generalize At.getD 90 undef = y90 at hA
          generalize At.getD 91 undef = y91 at hA
          generalize At.getD 92 undef = y92 at hA
          generalize At.getD 93 undef = y93 at hA
          generalize At.getD 94 undef = y94 at hA
          generalize At.getD 95 undef = y95 at hA
          generalize At.getD 97 undef = y97 at hA
          simp only [List.setIfInBounds_toArray, List.set_cons_succ, List.set_cons_zero] at hA
          subst hA
          clear Z0 Z1 EQ hsl hnl hNl
          go_simp
          go_upto_region 22 with fail
          have b16 := Blk.fresh u 3 #[.int .i64 0]
          have kE := hk.trans ((Kept.refl Nothing u).alloc (.cells #[.int .i64 0] 3))
          have hzu := hk.size
          generalize u.alloc (.cells #[.int .i64 0] 3) = wE at b16 kE ⊢
          generalize u.heap.size = g16 at *
          clear hk
          go_wp2_with (go_at_call 35; refine (BP.out _ (KC.out.trans kE)).mono ?_; rintro e w12 ⟨v12, xs12, rfl, o12, r12, -, k12⟩; (obtain ⟨A12, c12, rfl, -, -⟩ := ow_form o12); (have O12 := Lib.hid o12); (have R12 := Lib.hid r12); (have KE := Lib.hid (kE.trans k12)); (replace b16 := b16.kept k12 (fun x => x)); clear o12 r12 k12)
          have hg16 : g16 < w12.heap.size := b16.lt
          have hzE := KE.out.size
          clear kE BP
          refine wp_rfN2 (gf := 28) (fs := #[.slice A12 (plains P).length c12]) (u := fun x : UInt8 × Nat => .int .u8 (x.1.toNat : Int)) (v := fun x => .int .u32 (x.2 : Int)) (q2 := 18) (xs := Pt.all (plains P)) (S := Only g16) (B := w12.heap.size + 2) rfl (enters_of Tryz.func28 (by kernel_rfl) rfl) (fun k (e : k = g16) => by omega)
            (all_seqN w12 _ (plains P) _ _ w12 (POff.of_own O12.out R12.out (fun k (e : k = g16) => by subst e; exact ⟨_, _, b16, by decide, by decide⟩)) (Kept.refl _ _) (fun k (e : k = g16) => by omega) (by omega) (by omega) HPS.out)
            (fun pre W => Kept (Only g16) w12 W ∧ Blk W g16 3 #[.int .i64 (pre.length : Int)] ∧ pre.length ≤ NN.length) (fun _ W => Kept (Only g16) w12 W)
            (fun s A A' h k => ⟨h.1.trans_new k (fun i hi x => by omega), h.2.1.kept k (by omega), h.2.2⟩) (fun s A A' h k => h.trans_new k (fun i hi x => by omega)) ⟨Kept.refl _ _, b16, Nat.zero_le _⟩ ?assign ?body ?post
          case assign =>
            intro l x W K hK
            simp only [List.setIfInBounds_toArray, List.set_cons_succ, List.set_cons_zero] at hK ⊢
            gi_wp2
            exact hK
          case body =>
            rintro l pre x W ⟨hk3, hb, hle3⟩ hp2 hz
            simp only [List.setIfInBounds_toArray, List.set_cons_succ, List.set_cons_zero]
            have c16 : W.cell? ⟨g16, 0, none⟩ = some (.int .i64 (pre.length : Int)) := hb.cell 0
            have f16 := hb.free 0
            have kw3 : Kept Nothing wC W := KE.out.trans_new hk3 (fun i hi (e : i = g16) => by omega)
            have n0 : W.cell? ⟨g10, 0, none⟩ = some (.slice AN NF.length cN) := (BN.out.kept kw3 (fun x => x)).cell 0
            have e0 : W.cell? ⟨g10 + 1, 0, none⟩ = some (.slice AE NQ.length cE) := (BE.out.kept kw3 (fun x => x)).cell 0
            have HK3 := Lib.hid hk3
            by_cases heq : pre.length = NN.length
            · rw [heq] at c16
              clear hk3 kw3 heq hle3 hb f16
              gi_wp2
              exact ⟨Kept.refl _ _, rfl, HK3.out⟩
            · have hlt3 : pre.length < NN.length := by omega
              have hx := Fz.same_at (R := NQ) H2.out hp2 hlt3
              rw [← H1.out] at hx
              obtain ⟨bn, on, rfl, hcn⟩ := AN0.out.at (by omega)
              have x0 := kw3.cell_some (hcn pre.length (by omega)) (fun x => x)
              rw [hx] at x0
              have i1 : (0 : Int) ≤ (pre.length : Int) := by omega
              have i2 : (pre.length : Int) < (NF.length : Int) := by omega
              have i3 : (pre.length : Int) < 1280 := by omega
              have hq : ¬ ((pre.length : Int) = (NN.length : Int)) := by omega
              have HOW := Lib.hid (Kept.own W g16 0 (.int .i64 ((pre.length : Int) + 1)))
              have HSE := Lib.hid (hk3.setCell (p := ⟨g16, 0, none⟩) (fun _ => rfl) (.int .i64 ((pre.length : Int) + 1)))
              have HPU := Lib.hid (hb.put 0 (.int .i64 ((pre.length : Int) + 1)))
              have HL3 := Lib.hid hlt3
              clear hk3 kw3 heq hle3 hb hcn hx hlt3
              gi_wp2
              refine ⟨HOW.out.toS, HSE.out, ?_, by have := HL3.out; simp only [List.length_append, List.length_cons, List.length_nil]; omega⟩
              rw [List.length_append]
              exact HPU.out
          case post =>
            intro D3 W hD3 hpo hd
            have hk3 : Kept (Only g16) w12 W := by
              rcases hpo with ⟨h, _⟩ | ⟨pre, _, h⟩
              · exact h
              · exact h
            have kk : Kept Nothing wC W := KE.out.trans_new hk3 (fun i hi (e : i = g16) => by omega)
            have d1 := Lib.hid ((kk.block D (by omega) (fun x => x)).trans HD1'.out)
            have d2 := Lib.hid ((kk.block D2 hD2z (fun x => x)).trans HD2.out)
            have d3 := Lib.hid hd
            have h3z : D3 < W.heap.size := (Array.getElem?_eq_some_iff.1 hd).1
            have hzW := kk.size
            have KF := Lib.hid (KC.out.trans kk)
            clear hk3 kk hd hpo b16
            go_wp2_with (go_at_call 32; refine (CW.out _ KF.out).mono ?_; rintro e wG ⟨rfl, kG⟩; (have bG := B2.out.kept (KF.out.trans kG) (fun x => x)); (have r4 : wG.cell? ⟨w.heap.size, 0, none⟩ = some (.bool false) := bG.cell 0); (have f4 := bG.free 0))
            have e0 := ((((bG.put 0 (.bool true)).putObj (D := D3) (by omega) (.deferred none)).putObj (D := D2) (by omega) (.deferred none)).putObj (D := D) (by omega) (.deferred none)).cell 0
            have s3 : (wG.setCell ⟨w.heap.size, 0, none⟩ (.bool true)).heap[D3]? = some (.deferred (some [])) := (Below.heap_setCell wG ⟨w.heap.size, 0, none⟩ _ D3 (by show D3 ≠ w.heap.size; omega)).trans ((kG.block D3 h3z (fun x => x)).trans d3.out)
            have s2 : ((wG.setCell ⟨w.heap.size, 0, none⟩ (.bool true)).putObj D3 (.deferred none)).heap[D2]? = some (.deferred (some [])) := (World.putObj_heap_other (by omega)).trans ((Below.heap_setCell wG ⟨w.heap.size, 0, none⟩ _ D2 (by show D2 ≠ w.heap.size; omega)).trans ((kG.block D2 (by omega) (fun x => x)).trans d2.out))
            have s1 : (((wG.setCell ⟨w.heap.size, 0, none⟩ (.bool true)).putObj D3 (.deferred none)).putObj D2 (.deferred none)).heap[D]? = some (.deferred (some [])) := (World.putObj_heap_other (by omega)).trans ((World.putObj_heap_other (by omega)).trans ((Below.heap_setCell wG ⟨w.heap.size, 0, none⟩ _ D (by show D ≠ w.heap.size; omega)).trans ((kG.block D (by omega) (fun x => x)).trans d1.out)))
            refine ⟨by simp, .inl ⟨_, _, rfl, run_takeDeferred s3, ⟨by simp, .inl ⟨_, _, rfl, run_takeDeferred s2, ⟨by simp, .inl ⟨_, _, rfl, run_takeDeferred s1, ?_⟩⟩⟩⟩⟩⟩
            have k0 := (KW.out.trans (KF.out.trans kG)).setCell (p := ⟨w.heap.size, 0, none⟩) (fun h => absurd h (Nat.lt_irrefl _)) (.bool true)
            have k1 := k0.trans_new ((Kept.putObj _ D3 (.deferred none)).mono (fun k (e : k = D3) => e)) (fun i hi (e : i = D3) => by omega)
            have k2 := k1.trans_new ((Kept.putObj _ D2 (.deferred none)).mono (fun k (e : k = D2) => e)) (fun i hi (e : i = D2) => by omega)
            have k3 := k2.trans_new ((Kept.putObj _ D (.deferred none)).mono (fun k (e : k = D) => e)) (fun i hi (e : i = D) => by omega)
            exact ⟨.bool true, by simp [results, Tryz.results6, go_sem, e0], rfl, k3⟩
end Go.Proofs.YthjljamngpddmaaGreatDoor
