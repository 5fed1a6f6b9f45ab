
/-
  The law PrefixTells.
-/
import Derived.Test.YtfjhpeijlhlaeaaDoorTa
namespace Go.Proofs.YtfjhpeijlhlaeaaDoor
open Go.RowKit

set_option maxRecDepth 100000 in
set_option maxHeartbeats 16000000 in
theorem ptells_law (x y ip : Nat) (b c kk : Int) (hx : x < 4294967296) (hy : y < 4294967296) (hip : ip < 4294967296) (w : World) (hr : Rdy w) :
    Calls Tryd.prog 3 #[.agg #[.int .u32 (x : Int), .int .i64 b], .agg #[.int .u32 (y : Int), .int .i64 c], .int .u32 (ip : Int), .int .i64 kk] w fun e w' => e = .returned (.bool true) ∧ Kept Nothing w w' := by
  have P4 : Hid (Blk ((w.alloc (.cells (pc x b) 25)).alloc (.cells (pc y c) 25)) w.heap.size 25 (pc x b)) := Lib.hid ((Blk.fresh w _ _).alloc _)
  have P5 : Hid (Blk ((w.alloc (.cells (pc x b) 25)).alloc (.cells (pc y c) 25)) (w.heap.size + 1) 25 (pc y c)) := Lib.hid (by
    have := Blk.fresh (w.alloc (.cells (pc x b) 25)) 25 (pc y c)
    rwa [World.size_alloc] at this)
  have KW : Hid (Kept Nothing w ((w.alloc (.cells (pc x b) 25)).alloc (.cells (pc y c) 25))) := Lib.hid (((Kept.refl _ w).alloc _).alloc _)
  have SZ : ((w.alloc (.cells (pc x b) 25)).alloc (.cells (pc y c) 25)).heap.size = w.heap.size + 1 + 1 := by rw [World.size_alloc, World.size_alloc]
  go_enter Tryd.func3, Tryd.ntmps3
  go_wp2_with fail
  generalize hW1 : (w.alloc (.cells (pc x b) 25)).alloc (.cells (pc y c) 25) = W1 at P4 P5 KW SZ
  have hW2 : (w.alloc (.cells #[.int .u32 (x : Int), .int .i64 b] 25)).alloc (.cells #[.int .u32 (y : Int), .int .i64 c] 25) = W1 := hW1
  rw [hW2]
  clear hW1 hW2
  refine wp_region_facts (TB W1 w.heap.size (w.heap.size + 1) x b y c) TJ (TF x b y c) TR (by kernel_rfl) (by decide) (by intro d hd; simp [dsts] at hd ⊢; omega) (by rfl) (ready_nil (by kernel_rfl)) TF.step ?_ ?_ ?_
  · refine ⟨⟨none, none, 0⟩, ⟨rfl, rfl, rfl, rfl⟩, (Kept.refl _ _).drew, fun a e => (by cases e), fun a e => (by cases e), fun a a' e => (by cases e), fun e => absurd e (by simp), fun e => absurd e (by simp), P4.out.drew, P5.out.drew⟩
  · refine OwesAll.cons ?_ (OwesAll.cons ?_ (OwesAll.cons ?_ (OwesAll.cons ?_ (OwesAll.cons ?_ (OwesAll.cons ?_ (OwesAll.cons ?_ (OwesAll.cons ?_ OwesAll.nil)))))))
    · intro listed G u a hsz hun haf hJ hB hK hfar
      have f4 : a.tmps.getD 4 undef = .pointer (some ⟨w.heap.size, 0, none⟩) := hfar 4 (by decide)
      have f4' : a.tmps[4]?.getD undef = .pointer (some ⟨w.heap.size, 0, none⟩) := by rw [← Array.getD_eq_getD_getElem?]; exact f4
      have J' := Lib.hid (hJ.other (i := 0) (by decide))
      have c0 : u.cell? ⟨w.heap.size, 0, none⟩ = some (.int .u32 (x : Int)) := hB.2.2.2.2.2.2.1.cell 0
      have c1 : u.cell? ⟨w.heap.size, 1, none⟩ = some (.int .i64 b) := hB.2.2.2.2.2.2.1.cell 1
      have HB := Lib.hid hB
      clear hK haf hfar hJ hun hsz hB
      go_simp
      exact ⟨_, rfl, G, TR.refl _ _ _, HB.out, J'.out, rfl⟩
    · intro listed G u a hsz hun haf hJ hB hK hfar
      have v0 : a.tmps.getD 14 undef = .agg (pc x b) := hK 0 _ 14 rfl rfl (haf ⟨0, .data⟩ (Array.mem_of_getElem? (i := 0) rfl) rfl)
      have v0' : a.tmps[14]?.getD undef = .agg (pc x b) := by rw [← Array.getD_eq_getD_getElem?]; exact v0
      have J' := Lib.hid (hJ.other (i := 1) (by decide))
      have HB := Lib.hid hB
      clear hK haf hfar hJ hun hsz hB
      go_simp
      refine (lof_any x b u).mono ?_
      rintro e u' ⟨rfl, hk⟩
      exact ⟨_, rfl, G, TR.refl _ _ _, HB.out.kept hk, J'.out, rfl⟩
    · intro listed G u a hsz hun haf hJ hB hK hfar
      have f4 : a.tmps.getD 5 undef = .pointer (some ⟨w.heap.size + 1, 0, none⟩) := hfar 5 (by decide)
      have f4' : a.tmps[5]?.getD undef = .pointer (some ⟨w.heap.size + 1, 0, none⟩) := by rw [← Array.getD_eq_getD_getElem?]; exact f4
      have J' := Lib.hid (hJ.other (i := 2) (by decide))
      have c0 : u.cell? ⟨w.heap.size + 1, 0, none⟩ = some (.int .u32 (y : Int)) := hB.2.2.2.2.2.2.2.cell 0
      have c1 : u.cell? ⟨w.heap.size + 1, 1, none⟩ = some (.int .i64 c) := hB.2.2.2.2.2.2.2.cell 1
      have HB := Lib.hid hB
      clear hK haf hfar hJ hun hsz hB
      go_simp
      exact ⟨_, rfl, G, TR.refl _ _ _, HB.out, J'.out, rfl⟩
    · intro listed G u a hsz hun haf hJ hB hK hfar
      have v0 : a.tmps.getD 16 undef = .agg (pc y c) := hK 2 _ 16 rfl rfl (haf ⟨2, .data⟩ (Array.mem_of_getElem? (i := 0) rfl) rfl)
      have v0' : a.tmps[16]?.getD undef = .agg (pc y c) := by rw [← Array.getD_eq_getD_getElem?]; exact v0
      have J' := Lib.hid (hJ.other (i := 3) (by decide))
      have HB := Lib.hid hB
      clear hK haf hfar hJ hun hsz hB
      go_simp
      refine (lof_any y c u).mono ?_
      rintro e u' ⟨rfl, hk⟩
      exact ⟨_, rfl, G, TR.refl _ _ _, HB.out.kept hk, J'.out, rfl⟩
    · intro listed G u a hsz hun haf hJ hB hK hfar
      obtain ⟨hn, hJ'⟩ := hJ.four hsz hun u.heap.size
      have J' := Lib.hid hJ'
      have HB := Lib.hid (hB.four hn)
      have HN := Lib.hid hn
      clear hK haf hfar hJ hun hsz hB hJ' hn
      go_simp
      exact ⟨_, rfl, { G with a9 := some u.heap.size }, ⟨fun a e => (by rw [HN.out] at e; cases e), fun a e => e⟩, HB.out, J'.out, _, rfl, rfl⟩
    · intro listed G u a hsz hun haf hJ hB hK hfar
      obtain ⟨hn, hJ'⟩ := hJ.five hsz hun u.heap.size
      have J' := Lib.hid hJ'
      have HB := Lib.hid (hB.five hn)
      have HN := Lib.hid hn
      clear hK haf hfar hJ hun hsz hB hJ' hn
      go_simp
      exact ⟨_, rfl, { G with a10 := some u.heap.size }, ⟨fun a e => e, fun a e => (by rw [HN.out] at e; cases e)⟩, HB.out, J'.out, _, rfl, rfl⟩
    · intro listed G u a hsz hun haf hJ hB hK hfar
      obtain ⟨g, hg, va⟩ : ∃ g, G.a9 = some g ∧ a.tmps.getD 9 undef = .pointer (some ⟨g, 0, none⟩) := hK 4 _ 9 rfl rfl (haf ⟨4, .data⟩ (Array.mem_of_getElem? (i := 0) rfl) rfl)
      have va' : a.tmps[9]?.getD undef = .pointer (some ⟨g, 0, none⟩) := by rw [← Array.getD_eq_getD_getElem?]; exact va
      have v0 : a.tmps.getD 15 undef = .agg (pc x b) := hK 1 _ 15 rfl rfl (haf ⟨1, .data⟩ (Array.mem_of_getElem? (i := 1) rfl) rfl)
      have v0' : a.tmps[15]?.getD undef = .agg (pc x b) := by rw [← Array.getD_eq_getD_getElem?]; exact v0
      obtain ⟨hn, hJ'⟩ := hJ.six hsz hun
      have J' := Lib.hid hJ'
      have hblk := (hB.2.1 g hg).2
      rw [if_neg (by omega)] at hblk
      have HB := Lib.hid (hB.six hn hg (by omega) (by omega))
      have c0 : u.cell? ⟨g, 0, none⟩ = some (.int .u32 0) := hblk.cell 0
      have c1 : u.cell? ⟨g, 1, none⟩ = some (.int .i64 0) := hblk.cell 1
      have f0 : u.frozen? ⟨g, 0, none⟩ = false := hblk.free 0
      have f1 : u.frozen? ⟨g, 1, none⟩ = false := hblk.free 1
      clear hK haf hfar hJ hun hsz hB hJ' hn hblk hg
      unfold pc at v0 v0'
      go_simp
      exact ⟨undef, { G with n := 1 }, ⟨fun a e => e, fun a e => e⟩, HB.out, J'.out, trivial⟩
    · intro listed G u a hsz hun haf hJ hB hK hfar
      obtain ⟨g, hg, va⟩ : ∃ g, G.a10 = some g ∧ a.tmps.getD 10 undef = .pointer (some ⟨g, 0, none⟩) := hK 5 _ 10 rfl rfl (haf ⟨5, .data⟩ (Array.mem_of_getElem? (i := 0) rfl) rfl)
      have va' : a.tmps[10]?.getD undef = .pointer (some ⟨g, 0, none⟩) := by rw [← Array.getD_eq_getD_getElem?]; exact va
      have v0 : a.tmps.getD 17 undef = .agg (pc y c) := hK 3 _ 17 rfl rfl (haf ⟨3, .data⟩ (Array.mem_of_getElem? (i := 1) rfl) rfl)
      have v0' : a.tmps[17]?.getD undef = .agg (pc y c) := by rw [← Array.getD_eq_getD_getElem?]; exact v0
      obtain ⟨hn, hJ'⟩ := hJ.seven hsz hun (haf ⟨6, .chain⟩ (Array.mem_of_getElem? (i := 2) rfl) rfl)
      have J' := Lib.hid hJ'
      have hblk := (hB.2.2.1 g hg).2
      rw [if_neg (by omega)] at hblk
      have HB := Lib.hid (hB.seven hn hg (by omega) (by omega))
      have c0 : u.cell? ⟨g, 0, none⟩ = some (.int .u32 0) := hblk.cell 0
      have c1 : u.cell? ⟨g, 1, none⟩ = some (.int .i64 0) := hblk.cell 1
      have f0 : u.frozen? ⟨g, 0, none⟩ = false := hblk.free 0
      have f1 : u.frozen? ⟨g, 1, none⟩ = false := hblk.free 1
      clear hK haf hfar hJ hun hsz hB hJ' hn hblk hg
      unfold pc at v0 v0'
      go_simp
      exact ⟨undef, { G with n := 2 }, ⟨fun a e => e, fun a e => e⟩, HB.out, J'.out, trivial⟩
  · intro vals G u hB hJ hV
    obtain ⟨j4, j5, j6, j7⟩ := hJ
    obtain ⟨p9, e9, v9⟩ : ∃ p, G.a9 = some p ∧ vals 4 = .pointer (some ⟨p, 0, none⟩) := hV 4 _ 9 rfl rfl
    obtain ⟨p10, e10, v10⟩ : ∃ p, G.a10 = some p ∧ vals 5 = .pointer (some ⟨p, 0, none⟩) := hV 5 _ 10 rfl rfl
    have v0 : vals 0 = .agg (pc x b) := hV 0 _ 14 rfl rfl
    have v1 : vals 1 = .agg (pc x b) := hV 1 _ 15 rfl rfl
    have v2 : vals 2 = .agg (pc y c) := hV 2 _ 16 rfl rfl
    have v3 : vals 3 = .agg (pc y c) := hV 3 _ 17 rfl rfl
    have h1 : 1 ≤ G.n := by simpa using j6.symm
    have h2 : 2 ≤ G.n := by simpa using j7.symm
    have B9 := (hB.2.1 p9 e9).2
    have B10 := (hB.2.2.1 p10 e10).2
    rw [if_pos h1] at B9
    rw [if_pos h2] at B10
    have B4 := hB.2.2.2.2.2.2.1
    have B5 := hB.2.2.2.2.2.2.2
    have KF := Lib.hid (KW.out.trans hB.1)
    have HT := Lib.hid tells_any
    have M1 := Lib.hid (may_any x b hx)
    have M2 := Lib.hid (rmay_any x b hx)
    have T1 := Lib.hid (text_any x b hx)
    have T2 := Lib.hid (rtext_any x b hx)
    have C1 := Lib.hid (compare_any x y b c)
    have C2 := Lib.hid (rcompare_any x y b c)
    have S1 := Lib.hid (sign_any (cmpP x b y c) (cmpP_in x b y c))
    have H1 := Lib.hid (has_any x ip b hip)
    have H2 := Lib.hid (rhas_any x ip b hx hip)
    have N1 := Lib.hid (contains_any x y b c hy)
    have N2 := Lib.hid (rcontains_any x y b c hx hy)
    have I1 := Lib.hid (ipText_any ip hip)
    have I2 := Lib.hid (ripText_any ip hip)
    generalize may x b = mb at M1 M2
    generalize text x b = tx at T1 T2
    generalize cmpP x b y c = cp at C1 C2 S1
    generalize has x b ip = hb at H1 H2
    generalize contains x b y c = cb at N1 N2
    generalize ipText ip = it at I1 I2
    have d40 := up_cell (v := .int .u32 (x : Int)) (B4.cell 0)
    have d41 := up_cell (v := .int .i64 b) (B4.cell 1)
    have d50 := up_cell (v := .int .u32 (y : Int)) (B5.cell 0)
    have d51 := up_cell (v := .int .i64 c) (B5.cell 1)
    have d90 := up_cell (v := .int .u32 (x : Int)) (B9.cell 0)
    have d91 := up_cell (v := .int .i64 b) (B9.cell 1)
    have d100 := up_cell (v := .int .u32 (y : Int)) (B10.cell 0)
    have d101 := up_cell (v := .int .i64 c) (B10.cell 1)
    clear hV hB j4 j5 j6 j7 e9 e10 h1 h2 B9 B10 B4 B5
    unfold pc at v0 v1 v2 v3
    simp [putAll, Act.put, Array.setIfInBounds, v0, v1, v2, v3, v9, v10]
    clear v0 v1 v2 v3 v9 v10
    go_wp2_with fail
    refine wp_region_up (by kernel_rfl) (by kernel_rfl) ?_
    repeat (go_big_quiet_step ((first
      | (go_at_call 11; exact up_call (M1.out _))
      | (go_at_call 12; exact up_call (M2.out _))
      | (go_at_call 13; exact up_call (T1.out _ ((hr.kept KF.out).kept (Up.kept _))))
      | (go_at_call 14; exact up_call (T2.out _))
      | (go_at_call 16; exact up_call (C1.out _))
      | (go_at_call 17; exact up_call (C2.out _))
      | (go_at_call 15; exact up_same (S1.out _))
      | (go_at_call 18; exact up_call (H1.out _))
      | (go_at_call 19; exact up_call (H2.out _))
      | (go_at_call 20; exact up_call (N1.out _))
      | (go_at_call 21; exact up_call (N2.out _)))))
    refine wpQuiet_nil ?_
    rintro _ ⟨⟨w2, k⟩, rfl⟩
    replace k := KF.out.trans k
    clear d40 d41 d50 d51 d90 d91 d100 d101 M1 M2 T1 T2 C1 C2 S1 H1 H2 N1 N2
    have O1 := of_any ip (kk.tmod 70) hip
    have O2 := rof_any ip (kk.tmod 70) hip
    have O3 := of_any ip kk hip
    have O4 := rof_any ip kk hip
    have Q1 := Lib.hid (bit_any ip (kk.tmod 70) hip)
    have Q2 := Lib.hid (rBit_any ip (kk.tmod 70) hip)
    have Q3 := Lib.hid (bit_any ip kk hip)
    have Q4 := Lib.hid (rBit_any ip kk hip)
    generalize (low ip (cl (kk.tmod 70)) : Nat) = l1 at O1 O2
    generalize (cl (kk.tmod 70) : Nat) = c1 at O1 O2
    generalize (low ip (cl kk) : Nat) = l3 at O3 O4
    generalize (cl kk : Nat) = c3 at O3 O4
    generalize bitAt ip (kk.tmod 70) = b1 at Q1 Q2
    generalize bitAt ip kk = b3 at Q3 Q4
    have L1 := Lib.hid (lof_any (l1 : Int) (c1 : Int))
    have L3 := Lib.hid (lof_any (l3 : Int) (c3 : Int))
    replace O1 := Lib.hid O1
    replace O2 := Lib.hid O2
    replace O3 := Lib.hid O3
    replace O4 := Lib.hid O4
    have he := eq_ref
    have hg := guard_ref
    go_wp2_with (first
      | (go_at_call 22; (with_reducible refine (I1.out _ (hr.kept k)).mono ?_); rintro e q1 ⟨rfl, k1⟩; replace k := k.trans k1)
      | (go_at_call 23; (with_reducible refine (I2.out _).mono ?_); rintro e q1 ⟨rfl, k1⟩; replace k := k.trans k1)
      | (go_at_call 24; (with_reducible refine (O1.out _).mono ?_); rintro e q1 ⟨rfl, k1⟩; replace k := k.trans k1)
      | (go_at_call 10; (with_reducible refine (L1.out _).mono ?_); rintro e q1 ⟨rfl, k1⟩; replace k := k.trans k1)
      | (go_at_call 25; (with_reducible refine (O2.out _).mono ?_); rintro e q1 ⟨rfl, k1⟩; replace k := k.trans k1)
      | (go_at_call 24; (with_reducible refine (O3.out _).mono ?_); rintro e q1 ⟨rfl, k1⟩; replace k := k.trans k1)
      | (go_at_call 10; (with_reducible refine (L3.out _).mono ?_); rintro e q1 ⟨rfl, k1⟩; replace k := k.trans k1)
      | (go_at_call 25; (with_reducible refine (O4.out _).mono ?_); rintro e q1 ⟨rfl, k1⟩; replace k := k.trans k1)
      | (go_at_call 26; (with_reducible refine (Q1.out _).mono ?_); rintro e q1 ⟨rfl, rfl⟩)
      | (go_at_call 27; (with_reducible refine (Q2.out _).mono ?_); rintro e q1 ⟨rfl, rfl⟩)
      | (go_at_call 26; (with_reducible refine (Q3.out _).mono ?_); rintro e q1 ⟨rfl, rfl⟩)
      | (go_at_call 27; (with_reducible refine (Q4.out _).mono ?_); rintro e q1 ⟨rfl, rfl⟩)
      | (go_at_call 28; (with_reducible refine (HT.out _ (hr.kept k)).mono ?_); rintro e q1 ⟨rfl, k1⟩; replace k := k.trans k1))
    go_ret
    exact ⟨rfl, k⟩
end Go.Proofs.YtfjhpeijlhlaeaaDoor
