
/-
  The law PrefixNests.
-/
import Derived.Test.YtfjhpeijlhlaeaaDoorTc
import Derived.IntWalk
import Derived.Deep.DeepCutAuto
import Derived.Deep.CutBlock
import Derived.Outline
namespace Go.Proofs.YtfjhpeijlhlaeaaDoor
open Go.RowKit

set_option maxRecDepth 100000 in
set_option maxHeartbeats 16000000 in
theorem nests_law (x y ip m1 m2 : Nat) (b c : Int) (hx : x < 4294967296) (hy : y < 4294967296) (hip : ip < 4294967296) (hm1 : m1 < 33) (hm2 : m2 < 33) (hb : b % 18446744073709551616 % 33 = (m1 : Int)) (hc : c % 18446744073709551616 % 33 = (m2 : Int)) (w : World) (hr : Rdy w) :
    Calls Tryd.prog 7 #[.agg #[.int .u32 (x : Int), .int .i64 b], .agg #[.int .u32 (y : Int), .int .i64 c], .int .u32 (ip : Int)] w fun e w' => e = .returned (.bool true) ∧ Kept Nothing w w' := by
  have P3 : Hid (Blk ((w.alloc (.cells (pc x b) 25)).alloc (.cells (pc y c) 25)) w.heap.size 25 (pc x b)) := Lib.hid ((Blk.fresh w _ _).alloc _)
  have P4 : Hid (Blk ((w.alloc (.cells (pc x b) 25)).alloc (.cells (pc y c) 25)) (w.heap.size + 1) 25 (pc y c)) := Lib.hid (by
    have := Blk.fresh (w.alloc (.cells (pc x b) 25)) 25 (pc y c)
    rwa [World.size_alloc] at this)
  have KW : Hid (Kept Nothing w ((w.alloc (.cells (pc x b) 25)).alloc (.cells (pc y c) 25))) := Lib.hid (((Kept.refl _ w).alloc _).alloc _)
  have O1 : Hid (∀ w, Calls Tryd.prog 24 #[.int .u32 (x : Int), .int .i64 (m1 : Int)] w fun e w' => e = .returned (.agg (pc (low x m1 : Nat) (m1 : Int))) ∧ Kept Nothing w w') := Lib.hid (fun w => by
    have := of_any x m1 hx w
    rwa [ncl m1 (by omega)] at this)
  have O2 : Hid (∀ w, Calls Tryd.prog 24 #[.int .u32 (y : Int), .int .i64 (m2 : Int)] w fun e w' => e = .returned (.agg (pc (low y m2 : Nat) (m2 : Int))) ∧ Kept Nothing w w') := Lib.hid (fun w => by
    have := of_any y m2 hy w
    rwa [ncl m2 (by omega)] at this)
  have two : Two (low x m1) m1 (low y m2) m2 ip := ⟨by omega, by omega, (nlow x m1 m1 (Nat.le_refl _) (by omega)).symm, (nlow y m2 m2 (Nat.le_refl _) (by omega)).symm, Nat.lt_of_le_of_lt (low_le x m1) hx, Nat.lt_of_le_of_lt (low_le y m2) hy, hip⟩
  generalize low x m1 = X at O1 two
  generalize low y m2 = Y at O2 two
  have TW := Lib.hid two
  have hb0 := Int.emod_nonneg b (show (18446744073709551616 : Int) ≠ 0 by decide)
  have hb1 := Int.emod_lt_of_pos b (show (0 : Int) < 18446744073709551616 by decide)
  have hc0 := Int.emod_nonneg c (show (18446744073709551616 : Int) ≠ 0 by decide)
  have hc1 := Int.emod_lt_of_pos c (show (0 : Int) < 18446744073709551616 by decide)
  have hbt : Int.tmod (b % 18446744073709551616) 33 = (m1 : Int) := by rw [Int.tmod_eq_emod_of_nonneg hb0]; exact hb
  have hct : Int.tmod (c % 18446744073709551616) 33 = (m2 : Int) := by rw [Int.tmod_eq_emod_of_nonneg hc0]; exact hc
  clear two
  go_enter Tryd.func7, Tryd.ntmps7
  go_wp2_with fail
  generalize hW1 : (w.alloc (.cells (pc x b) 25)).alloc (.cells (pc y c) 25) = W1 at P3 P4 KW
  have hW2 : (w.alloc (.cells #[.int .u32 (x : Int), .int .i64 b] 25)).alloc (.cells #[.int .u32 (y : Int), .int .i64 c] 25) = W1 := hW1
  rw [hW2]
  clear hW1 hW2
  refine wp_region_facts (NB w x b y c X m1 Y m2) NJ (NF w.heap.size (w.heap.size + 1) x b m1 X y c m2 Y) NR (by kernel_rfl) (by decide) (by intro d hd; simp [dsts] at hd ⊢; omega) (by rfl) (ready_nil (by kernel_rfl)) NF.step ?_ ?_ ?_
  · exact ⟨0, ⟨rfl, rfl, fun e => absurd e (by omega), fun e => absurd e (by omega)⟩, KW.out.drew, P3.out.drew, P4.out.drew⟩
  · refine OwesAll.cons ?_ (OwesAll.cons ?_ (OwesAll.cons ?_ (OwesAll.cons ?_ (OwesAll.cons ?_ (OwesAll.cons ?_ (OwesAll.cons ?_ (OwesAll.cons ?_ (OwesAll.cons ?_ (OwesAll.cons ?_ (OwesAll.cons ?_ (OwesAll.cons ?_ (OwesAll.cons ?_ (OwesAll.cons ?_ (OwesAll.cons ?_ (OwesAll.cons ?_ (OwesAll.cons ?_ (OwesAll.cons ?_ (OwesAll.nil))))))))))))))))))
    · intro listed G u a hsz hun haf hJ hB hK hfar
      have J' := Lib.hid (hJ.other (i := 0) hsz (by decide))
      have f4 : a.tmps.getD 3 undef = .pointer (some ⟨w.heap.size, 0, none⟩) := hfar 3 (by decide)
      have f4' : a.tmps[3]?.getD undef = .pointer (some ⟨w.heap.size, 0, none⟩) := by rw [← Array.getD_eq_getD_getElem?]; exact f4
      have HB := Lib.hid hB
      clear hK haf hfar hJ hun hsz hB
      go_simp
      exact ⟨_, rfl, G, trivial, HB.out, J'.out, rfl⟩
    · intro listed G u a hsz hun haf hJ hB hK hfar
      have J' := Lib.hid (hJ.other (i := 1) hsz (by decide))
      have v0 : a.tmps.getD 13 undef = .pointer (some ⟨w.heap.size, 0, none⟩) := hK 0 _ 13 rfl rfl (haf ⟨0, .data⟩ (Array.mem_of_getElem? (i := 0) rfl) rfl)
      have v0' : a.tmps[13]?.getD undef = .pointer (some ⟨w.heap.size, 0, none⟩) := by rw [← Array.getD_eq_getD_getElem?]; exact v0
      have hn := hJ.early hsz (by decide) hun
      subst hn
      have hblk := hB.2.1
      rw [if_neg (by omega)] at hblk
      have c0 : u.cell? ⟨w.heap.size, 0, none⟩ = some (.int .u32 (x : Int)) := hblk.cell 0
      clear hblk
      have HB := Lib.hid hB
      clear hK haf hfar hJ hun hsz hB
      go_simp
      exact ⟨_, rfl, 0, trivial, HB.out, J'.out, rfl⟩
    · intro listed G u a hsz hun haf hJ hB hK hfar
      have J' := Lib.hid (hJ.other (i := 2) hsz (by decide))
      have f4 : a.tmps.getD 3 undef = .pointer (some ⟨w.heap.size, 0, none⟩) := hfar 3 (by decide)
      have f4' : a.tmps[3]?.getD undef = .pointer (some ⟨w.heap.size, 0, none⟩) := by rw [← Array.getD_eq_getD_getElem?]; exact f4
      have HB := Lib.hid hB
      clear hK haf hfar hJ hun hsz hB
      go_simp
      exact ⟨_, rfl, G, trivial, HB.out, J'.out, rfl⟩
    · intro listed G u a hsz hun haf hJ hB hK hfar
      have J' := Lib.hid (hJ.other (i := 3) hsz (by decide))
      have v0 : a.tmps.getD 15 undef = .pointer (some ⟨w.heap.size, 1, none⟩) := hK 2 _ 15 rfl rfl (haf ⟨2, .data⟩ (Array.mem_of_getElem? (i := 0) rfl) rfl)
      have v0' : a.tmps[15]?.getD undef = .pointer (some ⟨w.heap.size, 1, none⟩) := by rw [← Array.getD_eq_getD_getElem?]; exact v0
      have hn := hJ.early hsz (by decide) hun
      subst hn
      have hblk := hB.2.1
      rw [if_neg (by omega)] at hblk
      have c0 : u.cell? ⟨w.heap.size, 1, none⟩ = some (.int .i64 b) := hblk.cell 1
      clear hblk
      have HB := Lib.hid hB
      clear hK haf hfar hJ hun hsz hB
      go_simp
      exact ⟨_, rfl, 0, trivial, HB.out, J'.out, rfl⟩
    · intro listed G u a hsz hun haf hJ hB hK hfar
      have J' := Lib.hid (hJ.other (i := 4) hsz (by decide))
      have v0 : a.tmps.getD 16 undef = .int .i64 b := hK 3 _ 16 rfl rfl (haf ⟨3, .data⟩ (Array.mem_of_getElem? (i := 0) rfl) rfl)
      have v0' : a.tmps[16]?.getD undef = .int .i64 b := by rw [← Array.getD_eq_getD_getElem?]; exact v0
      have HB := Lib.hid hB
      clear hK haf hfar hJ hun hsz hB
      go_simp
      exact ⟨_, rfl, G, trivial, HB.out, J'.out, rfl⟩
    · intro listed G u a hsz hun haf hJ hB hK hfar
      have J' := Lib.hid (hJ.other (i := 5) hsz (by decide))
      have v0 : a.tmps.getD 17 undef = .int .u64 (b % 18446744073709551616) := hK 4 _ 17 rfl rfl (haf ⟨4, .data⟩ (Array.mem_of_getElem? (i := 0) rfl) rfl)
      have v0' : a.tmps[17]?.getD undef = .int .u64 (b % 18446744073709551616) := by rw [← Array.getD_eq_getD_getElem?]; exact v0
      have HB := Lib.hid hB
      clear hK haf hfar hJ hun hsz hB
      go_simp
      exact ⟨_, rfl, G, trivial, HB.out, J'.out, rfl⟩
    · intro listed G u a hsz hun haf hJ hB hK hfar
      have J' := Lib.hid (hJ.other (i := 6) hsz (by decide))
      have v0 : a.tmps.getD 18 undef = .int .u64 (m1 : Int) := hK 5 _ 18 rfl rfl (haf ⟨5, .data⟩ (Array.mem_of_getElem? (i := 0) rfl) rfl)
      have v0' : a.tmps[18]?.getD undef = .int .u64 (m1 : Int) := by rw [← Array.getD_eq_getD_getElem?]; exact v0
      have HB := Lib.hid hB
      clear hK haf hfar hJ hun hsz hB
      go_simp
      exact ⟨_, rfl, G, trivial, HB.out, J'.out, congrArg (Value.int .i64) (IntWalk.i64_in _ (by omega))⟩
    · intro listed G u a hsz hun haf hJ hB hK hfar
      have J' := Lib.hid (hJ.other (i := 7) hsz (by decide))
      have v0 : a.tmps.getD 14 undef = .int .u32 (x : Int) := hK 1 _ 14 rfl rfl (haf ⟨1, .data⟩ (Array.mem_of_getElem? (i := 0) rfl) rfl)
      have v0' : a.tmps[14]?.getD undef = .int .u32 (x : Int) := by rw [← Array.getD_eq_getD_getElem?]; exact v0
      have v1 : a.tmps.getD 19 undef = .int .i64 (m1 : Int) := hK 6 _ 19 rfl rfl (haf ⟨6, .data⟩ (Array.mem_of_getElem? (i := 1) rfl) rfl)
      have v1' : a.tmps[19]?.getD undef = .int .i64 (m1 : Int) := by rw [← Array.getD_eq_getD_getElem?]; exact v1
      have HB := Lib.hid hB
      clear hK haf hfar hJ hun hsz hB
      go_simp
      refine (O1.out u).mono ?_
      rintro e u' ⟨rfl, hk⟩
      exact ⟨_, rfl, G, trivial, HB.out.kept hk, J'.out, rfl⟩
    · intro listed G u a hsz hun haf hJ hB hK hfar
      have J' := Lib.hid (hJ.other (i := 8) hsz (by decide))
      have f4 : a.tmps.getD 4 undef = .pointer (some ⟨w.heap.size + 1, 0, none⟩) := hfar 4 (by decide)
      have f4' : a.tmps[4]?.getD undef = .pointer (some ⟨w.heap.size + 1, 0, none⟩) := by rw [← Array.getD_eq_getD_getElem?]; exact f4
      have HB := Lib.hid hB
      clear hK haf hfar hJ hun hsz hB
      go_simp
      exact ⟨_, rfl, G, trivial, HB.out, J'.out, rfl⟩
    · intro listed G u a hsz hun haf hJ hB hK hfar
      have J' := Lib.hid (hJ.other (i := 9) hsz (by decide))
      have v0 : a.tmps.getD 21 undef = .pointer (some ⟨w.heap.size + 1, 0, none⟩) := hK 8 _ 21 rfl rfl (haf ⟨8, .data⟩ (Array.mem_of_getElem? (i := 0) rfl) rfl)
      have v0' : a.tmps[21]?.getD undef = .pointer (some ⟨w.heap.size + 1, 0, none⟩) := by rw [← Array.getD_eq_getD_getElem?]; exact v0
      have hn := hJ.early2 hsz (by decide) hun
      have hblk := hB.2.2
      rw [if_neg hn] at hblk
      have c0 : u.cell? ⟨w.heap.size + 1, 0, none⟩ = some (.int .u32 (y : Int)) := hblk.cell 0
      clear hblk
      have HB := Lib.hid hB
      clear hK haf hfar hJ hun hsz hB
      go_simp
      exact ⟨_, rfl, G, trivial, HB.out, J'.out, rfl⟩
    · intro listed G u a hsz hun haf hJ hB hK hfar
      have J' := Lib.hid (hJ.other (i := 10) hsz (by decide))
      have f4 : a.tmps.getD 4 undef = .pointer (some ⟨w.heap.size + 1, 0, none⟩) := hfar 4 (by decide)
      have f4' : a.tmps[4]?.getD undef = .pointer (some ⟨w.heap.size + 1, 0, none⟩) := by rw [← Array.getD_eq_getD_getElem?]; exact f4
      have HB := Lib.hid hB
      clear hK haf hfar hJ hun hsz hB
      go_simp
      exact ⟨_, rfl, G, trivial, HB.out, J'.out, rfl⟩
    · intro listed G u a hsz hun haf hJ hB hK hfar
      have J' := Lib.hid (hJ.other (i := 11) hsz (by decide))
      have v0 : a.tmps.getD 23 undef = .pointer (some ⟨w.heap.size + 1, 1, none⟩) := hK 10 _ 23 rfl rfl (haf ⟨10, .data⟩ (Array.mem_of_getElem? (i := 0) rfl) rfl)
      have v0' : a.tmps[23]?.getD undef = .pointer (some ⟨w.heap.size + 1, 1, none⟩) := by rw [← Array.getD_eq_getD_getElem?]; exact v0
      have hn := hJ.early2 hsz (by decide) hun
      have hblk := hB.2.2
      rw [if_neg hn] at hblk
      have c0 : u.cell? ⟨w.heap.size + 1, 1, none⟩ = some (.int .i64 c) := hblk.cell 1
      clear hblk
      have HB := Lib.hid hB
      clear hK haf hfar hJ hun hsz hB
      go_simp
      exact ⟨_, rfl, G, trivial, HB.out, J'.out, rfl⟩
    · intro listed G u a hsz hun haf hJ hB hK hfar
      have J' := Lib.hid (hJ.other (i := 12) hsz (by decide))
      have v0 : a.tmps.getD 24 undef = .int .i64 c := hK 11 _ 24 rfl rfl (haf ⟨11, .data⟩ (Array.mem_of_getElem? (i := 0) rfl) rfl)
      have v0' : a.tmps[24]?.getD undef = .int .i64 c := by rw [← Array.getD_eq_getD_getElem?]; exact v0
      have HB := Lib.hid hB
      clear hK haf hfar hJ hun hsz hB
      go_simp
      exact ⟨_, rfl, G, trivial, HB.out, J'.out, rfl⟩
    · intro listed G u a hsz hun haf hJ hB hK hfar
      have J' := Lib.hid (hJ.other (i := 13) hsz (by decide))
      have v0 : a.tmps.getD 25 undef = .int .u64 (c % 18446744073709551616) := hK 12 _ 25 rfl rfl (haf ⟨12, .data⟩ (Array.mem_of_getElem? (i := 0) rfl) rfl)
      have v0' : a.tmps[25]?.getD undef = .int .u64 (c % 18446744073709551616) := by rw [← Array.getD_eq_getD_getElem?]; exact v0
      have HB := Lib.hid hB
      clear hK haf hfar hJ hun hsz hB
      go_simp
      exact ⟨_, rfl, G, trivial, HB.out, J'.out, rfl⟩
    · intro listed G u a hsz hun haf hJ hB hK hfar
      have J' := Lib.hid (hJ.other (i := 14) hsz (by decide))
      have v0 : a.tmps.getD 26 undef = .int .u64 (m2 : Int) := hK 13 _ 26 rfl rfl (haf ⟨13, .data⟩ (Array.mem_of_getElem? (i := 0) rfl) rfl)
      have v0' : a.tmps[26]?.getD undef = .int .u64 (m2 : Int) := by rw [← Array.getD_eq_getD_getElem?]; exact v0
      have HB := Lib.hid hB
      clear hK haf hfar hJ hun hsz hB
      go_simp
      exact ⟨_, rfl, G, trivial, HB.out, J'.out, congrArg (Value.int .i64) (IntWalk.i64_in _ (by omega))⟩
    · intro listed G u a hsz hun haf hJ hB hK hfar
      have J' := Lib.hid (hJ.other (i := 15) hsz (by decide))
      have v0 : a.tmps.getD 22 undef = .int .u32 (y : Int) := hK 9 _ 22 rfl rfl (haf ⟨9, .data⟩ (Array.mem_of_getElem? (i := 0) rfl) rfl)
      have v0' : a.tmps[22]?.getD undef = .int .u32 (y : Int) := by rw [← Array.getD_eq_getD_getElem?]; exact v0
      have v1 : a.tmps.getD 27 undef = .int .i64 (m2 : Int) := hK 14 _ 27 rfl rfl (haf ⟨14, .data⟩ (Array.mem_of_getElem? (i := 1) rfl) rfl)
      have v1' : a.tmps[27]?.getD undef = .int .i64 (m2 : Int) := by rw [← Array.getD_eq_getD_getElem?]; exact v1
      have HB := Lib.hid hB
      clear hK haf hfar hJ hun hsz hB
      go_simp
      refine (O2.out u).mono ?_
      rintro e u' ⟨rfl, hk⟩
      exact ⟨_, rfl, G, trivial, HB.out.kept hk, J'.out, rfl⟩
    · intro listed G u a hsz hun haf hJ hB hK hfar
      have f4 : a.tmps.getD 3 undef = .pointer (some ⟨w.heap.size, 0, none⟩) := hfar 3 (by decide)
      have f4' : a.tmps[3]?.getD undef = .pointer (some ⟨w.heap.size, 0, none⟩) := by rw [← Array.getD_eq_getD_getElem?]; exact f4
      have v0 : a.tmps.getD 20 undef = .agg (pc X m1) := hK 7 _ 20 rfl rfl (haf ⟨7, .data⟩ (Array.mem_of_getElem? (i := 0) rfl) rfl)
      have v0' : a.tmps[20]?.getD undef = .agg (pc X m1) := by rw [← Array.getD_eq_getD_getElem?]; exact v0
      obtain ⟨rfl, hJ'⟩ := hJ.first hsz hun (haf ⟨1, .phase⟩ (Array.mem_of_getElem? (i := 3) rfl) rfl) (haf ⟨3, .phase⟩ (Array.mem_of_getElem? (i := 5) rfl) rfl)
      have J' := Lib.hid hJ'
      have hblk := hB.2.1
      rw [if_neg (by omega)] at hblk
      have HB := Lib.hid hB.first
      have c0 : u.cell? ⟨w.heap.size, 0, none⟩ = some (.int .u32 (x : Int)) := hblk.cell 0
      have c1 : u.cell? ⟨w.heap.size, 1, none⟩ = some (.int .i64 b) := hblk.cell 1
      have f0 : u.frozen? ⟨w.heap.size, 0, none⟩ = false := hblk.free 0
      have f1 : u.frozen? ⟨w.heap.size, 1, none⟩ = false := hblk.free 1
      clear hK haf hfar hJ hun hsz hB hJ' hblk
      unfold pc at v0 v0'
      go_simp
      exact ⟨undef, 1, trivial, HB.out, J'.out, trivial⟩
    · intro listed G u a hsz hun haf hJ hB hK hfar
      have f4 : a.tmps.getD 4 undef = .pointer (some ⟨w.heap.size + 1, 0, none⟩) := hfar 4 (by decide)
      have f4' : a.tmps[4]?.getD undef = .pointer (some ⟨w.heap.size + 1, 0, none⟩) := by rw [← Array.getD_eq_getD_getElem?]; exact f4
      have v0 : a.tmps.getD 28 undef = .agg (pc Y m2) := hK 15 _ 28 rfl rfl (haf ⟨15, .data⟩ (Array.mem_of_getElem? (i := 0) rfl) rfl)
      have v0' : a.tmps[28]?.getD undef = .agg (pc Y m2) := by rw [← Array.getD_eq_getD_getElem?]; exact v0
      obtain ⟨rfl, hJ'⟩ := hJ.second hsz hun (haf ⟨16, .chain⟩ (Array.mem_of_getElem? (i := 1) rfl) rfl) (haf ⟨9, .phase⟩ (Array.mem_of_getElem? (i := 11) rfl) rfl) (haf ⟨11, .phase⟩ (Array.mem_of_getElem? (i := 13) rfl) rfl)
      have J' := Lib.hid hJ'
      have hblk := hB.2.2
      rw [if_neg (by omega)] at hblk
      have HB := Lib.hid hB.second
      have c0 : u.cell? ⟨w.heap.size + 1, 0, none⟩ = some (.int .u32 (y : Int)) := hblk.cell 0
      have c1 : u.cell? ⟨w.heap.size + 1, 1, none⟩ = some (.int .i64 c) := hblk.cell 1
      have f0 : u.frozen? ⟨w.heap.size + 1, 0, none⟩ = false := hblk.free 0
      have f1 : u.frozen? ⟨w.heap.size + 1, 1, none⟩ = false := hblk.free 1
      clear hK haf hfar hJ hun hsz hB hJ' hblk
      unfold pc at v0 v0'
      go_simp
      exact ⟨undef, 2, trivial, HB.out, J'.out, trivial⟩
  · intro vals G u hB hJ hV
    obtain ⟨j16, j17, _, _⟩ := hJ
    have h1 : 1 ≤ G := by simpa using j16.symm
    have h2 : 2 ≤ G := by simpa using j17.symm
    obtain ⟨k, B3, B4⟩ := hB
    rw [if_pos h1] at B3
    rw [if_pos h2] at B4
    clear hV j16 j17 h1 h2 P3 P4 KW O1 O2 hb0 hb1 hc0 hc1 hbt hct
    have HT := Lib.hid tells_any
    have HA := Lib.hid (contains_any X Y m1 m2 TW.out.y32)
    have HB := Lib.hid (contains_any Y X m2 m1 TW.out.x32)
    have HP := Lib.hid (has_any X ip m1 hip)
    have HQ := Lib.hid (has_any Y ip m2 hip)
    have d30 := up_cell (v := .int .u32 (X : Int)) (B3.cell 0)
    have d31 := up_cell (v := .int .i64 (m1 : Int)) (B3.cell 1)
    have d40 := up_cell (v := .int .u32 (Y : Int)) (B4.cell 0)
    have d41 := up_cell (v := .int .i64 (m2 : Int)) (B4.cell 1)
    have K := Lib.hid k
    have B3 := Lib.hid B3
    have B4 := Lib.hid B4
    simp [putAll, Act.put, Array.setIfInBounds]
    go_wp2_with fail
    refine wp_region_up (by kernel_rfl) (by kernel_rfl) ?_
    repeat (go_big_quiet_step ((first
      | (go_at_call 20; (with_reducible exact up_call (HA.out _)))
      | (go_at_call 20; (with_reducible exact up_call (HB.out _))))))
    refine wpQuiet_nil ?_
    rintro w2 ⟨⟨_, k2⟩, rfl⟩
    clear d30 d31 d40 d41
    have K := Lib.hid (K.out.trans k2)
    have B3 := Lib.hid (B3.out.kept k2 (fun x => x))
    have B4 := Lib.hid (B4.out.kept k2 (fun x => x))
    clear k k2
    go_upto_region 4 with fail
    have HPP : Hid (∀ w, Calls Tryd.prog 18 #[.agg #[.int .u32 (X : Int), .int .i64 (m1 : Int)], .int .u32 (X : Int)] w fun e w' => e = .returned (.bool true) ∧ Kept Nothing w w') := Lib.hid (fun w => by have := has_any X X m1 TW.out.x32 w; rwa [TW.out.t5] at this)
    have HCC : Hid (∀ w, Calls Tryd.prog 20 #[.agg #[.int .u32 (X : Int), .int .i64 (m1 : Int)], .agg #[.int .u32 (X : Int), .int .i64 (m1 : Int)]] w fun e w' => e = .returned (.bool true) ∧ Kept Nothing w w') := Lib.hid (fun w => by have := contains_any X X m1 m1 TW.out.x32 w; rwa [TW.out.t6] at this)
    have hg := guard_pfx
    go_cut [97] (fun v wx => v = .bool false ∧ Kept Nothing w wx ∧ Blk wx w.heap.size 25 (pc X m1) ∧ Blk wx (w.heap.size + 1) 25 (pc Y m2))
    case first =>
      have C1 := Lib.hid (compare_any X Y m1 m2)
      have t1 := TW.out.t1
      have t2 := TW.out.t2
      have t3 := TW.out.t3
      have t4 := TW.out.t4
      have he := fun w => eq_pfx X Y m1 m2 w
      rw [← t3] at he
      clear HA HB t3
      generalize contains X (m1 : Int) Y (m2 : Int) = a at *
      generalize contains Y (m2 : Int) X (m1 : Int) = bb at *
      generalize has X (m1 : Int) ip = hp at *
      generalize has Y (m2 : Int) ip = hq at *
      generalize cmpP X m1 Y m2 = c1 at *
      have c30 : w2.cell? ⟨w.heap.size, 0, none⟩ = some (.int .u32 (X : Int)) := B3.out.cell 0
      have c31 : w2.cell? ⟨w.heap.size, 1, none⟩ = some (.int .i64 (m1 : Int)) := B3.out.cell 1
      have c40 : w2.cell? ⟨w.heap.size + 1, 0, none⟩ = some (.int .u32 (Y : Int)) := B4.out.cell 0
      have c41 : w2.cell? ⟨w.heap.size + 1, 1, none⟩ = some (.int .i64 (m2 : Int)) := B4.out.cell 1
      have hall : (hp = true ∧ hq = true ∧ a = true ∧ bb = true ∧ c1 ≤ 0) ∨ (hp = true ∧ hq = true ∧ a = true ∧ bb = false ∧ c1 ≤ 0) ∨ (hp = true ∧ hq = true ∧ a = false ∧ bb = true) ∨
          (hp = true ∧ hq = false ∧ a = true ∧ bb = true ∧ c1 ≤ 0) ∨ (hp = true ∧ hq = false ∧ a = true ∧ bb = false ∧ c1 ≤ 0) ∨ (hp = true ∧ hq = false ∧ a = false ∧ bb = true) ∨ (hp = true ∧ hq = false ∧ a = false ∧ bb = false) ∨
          (hp = false ∧ hq = true ∧ a = false ∧ bb = true) ∨ (hp = false ∧ hq = true ∧ a = false ∧ bb = false) ∨
          (hp = false ∧ hq = false ∧ a = true ∧ bb = true ∧ c1 ≤ 0) ∨ (hp = false ∧ hq = false ∧ a = true ∧ bb = false ∧ c1 ≤ 0) ∨ (hp = false ∧ hq = false ∧ a = false ∧ bb = true) ∨ (hp = false ∧ hq = false ∧ a = false ∧ bb = false) := by
        clear he HP HQ C1 c30 c31 c40 c41 HPP HCC
        cases hp <;> cases hq <;> cases a <;> cases bb <;> simp at t1 t2 t4 ⊢ <;> omega
      clear t1 t2 t4 HT TW
      rcases hall with ⟨rfl, rfl, rfl, rfl, h4⟩ | ⟨rfl, rfl, rfl, rfl, h4⟩ | ⟨rfl, rfl, rfl, rfl⟩ | ⟨rfl, rfl, rfl, rfl, h4⟩ | ⟨rfl, rfl, rfl, rfl, h4⟩ | ⟨rfl, rfl, rfl, rfl⟩ | ⟨rfl, rfl, rfl, rfl⟩ | ⟨rfl, rfl, rfl, rfl⟩ | ⟨rfl, rfl, rfl, rfl⟩ | ⟨rfl, rfl, rfl, rfl, h4⟩ | ⟨rfl, rfl, rfl, rfl, h4⟩ | ⟨rfl, rfl, rfl, rfl⟩ | ⟨rfl, rfl, rfl, rfl⟩
      all_goals as_aux_lemma =>
        go_wp2_with (first
          | (go_at_call 18; (with_reducible refine (HP.out _).mono ?_); rintro e q1 ⟨rfl, k1⟩; replace K := Lib.hid (K.out.trans k1); replace B3 := Lib.hid (B3.out.kept k1 (fun x => x)); replace B4 := Lib.hid (B4.out.kept k1 (fun x => x)); replace c30 : q1.cell? ⟨w.heap.size, 0, none⟩ = some (.int .u32 (X : Int)) := B3.out.cell 0; replace c31 : q1.cell? ⟨w.heap.size, 1, none⟩ = some (.int .i64 (m1 : Int)) := B3.out.cell 1; replace c40 : q1.cell? ⟨w.heap.size + 1, 0, none⟩ = some (.int .u32 (Y : Int)) := B4.out.cell 0; replace c41 : q1.cell? ⟨w.heap.size + 1, 1, none⟩ = some (.int .i64 (m2 : Int)) := B4.out.cell 1)
          | (go_at_call 18; (with_reducible refine (HQ.out _).mono ?_); rintro e q1 ⟨rfl, k1⟩; replace K := Lib.hid (K.out.trans k1); replace B3 := Lib.hid (B3.out.kept k1 (fun x => x)); replace B4 := Lib.hid (B4.out.kept k1 (fun x => x)); replace c30 : q1.cell? ⟨w.heap.size, 0, none⟩ = some (.int .u32 (X : Int)) := B3.out.cell 0; replace c31 : q1.cell? ⟨w.heap.size, 1, none⟩ = some (.int .i64 (m1 : Int)) := B3.out.cell 1; replace c40 : q1.cell? ⟨w.heap.size + 1, 0, none⟩ = some (.int .u32 (Y : Int)) := B4.out.cell 0; replace c41 : q1.cell? ⟨w.heap.size + 1, 1, none⟩ = some (.int .i64 (m2 : Int)) := B4.out.cell 1)
          | (go_at_call 18; (with_reducible refine (HPP.out _).mono ?_); rintro e q1 ⟨rfl, k1⟩; replace K := Lib.hid (K.out.trans k1); replace B3 := Lib.hid (B3.out.kept k1 (fun x => x)); replace B4 := Lib.hid (B4.out.kept k1 (fun x => x)); replace c30 : q1.cell? ⟨w.heap.size, 0, none⟩ = some (.int .u32 (X : Int)) := B3.out.cell 0; replace c31 : q1.cell? ⟨w.heap.size, 1, none⟩ = some (.int .i64 (m1 : Int)) := B3.out.cell 1; replace c40 : q1.cell? ⟨w.heap.size + 1, 0, none⟩ = some (.int .u32 (Y : Int)) := B4.out.cell 0; replace c41 : q1.cell? ⟨w.heap.size + 1, 1, none⟩ = some (.int .i64 (m2 : Int)) := B4.out.cell 1)
          | (go_at_call 16; (with_reducible refine (C1.out _).mono ?_); rintro e q1 ⟨rfl, k1⟩; replace K := Lib.hid (K.out.trans k1); replace B3 := Lib.hid (B3.out.kept k1 (fun x => x)); replace B4 := Lib.hid (B4.out.kept k1 (fun x => x)); replace c30 : q1.cell? ⟨w.heap.size, 0, none⟩ = some (.int .u32 (X : Int)) := B3.out.cell 0; replace c31 : q1.cell? ⟨w.heap.size, 1, none⟩ = some (.int .i64 (m1 : Int)) := B3.out.cell 1; replace c40 : q1.cell? ⟨w.heap.size + 1, 0, none⟩ = some (.int .u32 (Y : Int)) := B4.out.cell 0; replace c41 : q1.cell? ⟨w.heap.size + 1, 1, none⟩ = some (.int .i64 (m2 : Int)) := B4.out.cell 1)
          | (go_at_call 20; (with_reducible refine (HCC.out _).mono ?_); rintro e q1 ⟨rfl, k1⟩; replace K := Lib.hid (K.out.trans k1); replace B3 := Lib.hid (B3.out.kept k1 (fun x => x)); replace B4 := Lib.hid (B4.out.kept k1 (fun x => x)); replace c30 : q1.cell? ⟨w.heap.size, 0, none⟩ = some (.int .u32 (X : Int)) := B3.out.cell 0; replace c31 : q1.cell? ⟨w.heap.size, 1, none⟩ = some (.int .i64 (m1 : Int)) := B3.out.cell 1; replace c40 : q1.cell? ⟨w.heap.size + 1, 0, none⟩ = some (.int .u32 (Y : Int)) := B4.out.cell 0; replace c41 : q1.cell? ⟨w.heap.size + 1, 1, none⟩ = some (.int .i64 (m2 : Int)) := B4.out.cell 1))
        go_meet
        exact ⟨by first | rfl | rw [decide_eq_false (show ¬ 0 < c1 by omega)], K.out, B3.out, B4.out⟩
    case rest =>
      obtain ⟨rfl, k, b3, b4⟩ := hcut
      have K := Lib.hid k
      have B3 := Lib.hid b3
      have B4 := Lib.hid b4
      clear k b3 b4
      go_upto_region 6 with fail
      go_cut [116] (fun v wx => v = .bool false ∧ Kept Nothing w wx ∧ Blk wx w.heap.size 25 (pc X m1) ∧ Blk wx (w.heap.size + 1) 25 (pc Y m2))
      case first =>
        have C1 := compare_any X Y m1 m2
        have C2 := compare_any Y X m2 m1
        have he := fun w => eq_pfx X Y m1 m2 w
        have hord : (cmpP X m1 Y m2 = -1 ∧ cmpP Y m2 X m1 = 1 ∧ (decide ((X : Int) = Y) && decide ((m1 : Int) = m2)) = false) ∨ (cmpP X m1 Y m2 = 1 ∧ cmpP Y m2 X m1 = -1 ∧ (decide ((X : Int) = Y) && decide ((m1 : Int) = m2)) = false) ∨ (cmpP X m1 Y m2 = 0 ∧ cmpP Y m2 X m1 = 0 ∧ (decide ((X : Int) = Y) && decide ((m1 : Int) = m2)) = true) := by
          simp only [Bool.and_eq_false_iff, Bool.and_eq_true, decide_eq_false_iff_not, decide_eq_true_eq]
          unfold cmpP cmpI
          repeat' split
          all_goals omega
        have d30 := up_cell (v := .int .u32 (X : Int)) (B3.out.cell 0)
        have d31 := up_cell (v := .int .i64 (m1 : Int)) (B3.out.cell 1)
        have d40 := up_cell (v := .int .u32 (Y : Int)) (B4.out.cell 0)
        have d41 := up_cell (v := .int .i64 (m2 : Int)) (B4.out.cell 1)
        generalize cmpP X m1 Y m2 = r1 at C1 hord
        generalize cmpP Y m2 X m1 = r2 at C2 hord
        generalize (decide ((X : Int) = Y) && decide ((m1 : Int) = m2)) = eb at he hord
        clear HA HB HP HQ HPP HCC HT TW
        rcases hord with ⟨rfl, rfl, rfl⟩ | ⟨rfl, rfl, rfl⟩ | ⟨rfl, rfl, rfl⟩
        all_goals as_aux_lemma =>
          have C1 := Lib.hid C1
          have C2 := Lib.hid C2
          refine wp_region_up (by kernel_rfl) (by kernel_rfl) ?_
          repeat (go_big_quiet_step ((first
            | (go_at_call 16; (with_reducible exact up_call (C1.out _)))
            | (go_at_call 16; (with_reducible exact up_call (C2.out _))))))
          refine wpQuiet_nil ?_
          rintro w3 ⟨⟨_, k3⟩, rfl⟩
          go_wp2
          go_meet
          exact ⟨rfl, K.out.trans k3, B3.out.kept k3 (fun x => x), B4.out.kept k3 (fun x => x)⟩
      case rest =>
        obtain ⟨rfl, k, b3, b4⟩ := hcut
        clear K B3 B4 HA HB HQ HPP HCC
        have K := Lib.hid k
        have B3 := Lib.hid b3
        have c30 : wc.cell? ⟨w.heap.size, 0, none⟩ = some (.int .u32 (X : Int)) := b3.cell 0
        have c31 : wc.cell? ⟨w.heap.size, 1, none⟩ = some (.int .i64 (m1 : Int)) := b3.cell 1
        have d30 := up_cell (v := .int .u32 (X : Int)) (b3.cell 0)
        have d31 := up_cell (v := .int .i64 (m1 : Int)) (b3.cell 1)
        clear k b3 b4
        by_cases h32 : m1 = 32
        · subst h32
          have HP : Hid (∀ w, Calls Tryd.prog 18 #[.agg #[.int .u32 (X : Int), .int .i64 32], .int .u32 (ip : Int)] w fun e w' => e = .returned (.bool ((ip : Int) == (X : Int))) ∧ Kept Nothing w w') := Lib.hid (fun w => by
            have := has_any X ip 32 hip w
            rw [n32] at this
            exact this)
          have hcs : ((ip : Int) == (X : Int)) = true ∨ ((ip : Int) == (X : Int)) = false := by cases ((ip : Int) == (X : Int)) <;> simp
          rcases hcs with hz | hz
          all_goals
            rw [hz] at HP
            go_wp2_with fail
            refine wp_region_up (by kernel_rfl) (by kernel_rfl) ?_
            repeat (go_big_quiet_step ((first
              | (go_at_call 18; (with_reducible exact up_call (HP.out _)))
              | (go_at_call 28; exact up_call (HT.out _ ((hr.kept K.out).kept (Up.kept _)))))))
            refine wpQuiet_nil ?_
            rintro w3 ⟨⟨_, k3⟩, rfl⟩
            clear d30 d31
            go_wp2
            go_ret
            exact ⟨rfl, K.out.trans k3⟩
        · have hn32 : m1 < 32 := by omega
          have hne : ((m1 : Int) == 32) = false := by simp; omega
          have HH := half (z := ip) hn32 TW.out.hx TW.out.x32
          have HG := Lib.hid HH
          clear HH h32 d30 d31
          have KA := Lib.hid (fun o => (Kept.refl Nothing wc).alloc o)
          have L0 := Lib.hid (Blk.fresh wc 25 #[.int .u32 (X : Int), .int .i64 ((m1 : Int) + 1)])
          have d30 : (wc.alloc (.cells #[.int .u32 (X : Int), .int .i64 ((m1 : Int) + 1)] 25)).cell? ⟨w.heap.size, 0, none⟩ = some (.int .u32 (X : Int)) := (KA.out _).cell_some c30 (fun x => x)
          have d31 : (wc.alloc (.cells #[.int .u32 (X : Int), .int .i64 ((m1 : Int) + 1)] 25)).cell? ⟨w.heap.size, 1, none⟩ = some (.int .i64 (m1 : Int)) := (KA.out _).cell_some c31 (fun x => x)
          have e30 : ((wc.alloc (.cells #[.int .u32 (X : Int), .int .i64 ((m1 : Int) + 1)] 25)).alloc (.cells #[.int .u32 0, .int .i64 0] 25)).cell? ⟨w.heap.size, 0, none⟩ = some (.int .u32 (X : Int)) := ((KA.out _).alloc _).cell_some c30 (fun x => x)
          have e31 : ((wc.alloc (.cells #[.int .u32 (X : Int), .int .i64 ((m1 : Int) + 1)] 25)).alloc (.cells #[.int .u32 0, .int .i64 0] 25)).cell? ⟨w.heap.size, 1, none⟩ = some (.int .i64 (m1 : Int)) := ((KA.out _).alloc _).cell_some c31 (fun x => x)
          have hpw : 2 ^ (31 - m1) < 4294967296 := Nat.lt_of_le_of_lt (Nat.pow_le_pow_right (by omega) (show 31 - m1 ≤ 31 by omega)) (by decide)
          have hor : bits .or .u32 (X : Int) ((2 : Int) ^ (31 - m1) % 4294967296) = ((upper X m1 : Nat) : Int) := by
            have e : ((2 : Int) ^ (31 - m1)) = ((2 ^ (31 - m1) : Nat) : Int) := by simp
            have ho := HG.out.or_
            rw [e]
            generalize (2 ^ (31 - m1) : Nat) = D at hpw ho ⊢
            rw [Int.emod_eq_of_lt (by omega) (by omega), u32_or_nat _ _ TW.out.x32 hpw, ho]
          have U32 := HG.out.up32
          have e1 : ((m1 + 1 : Nat) : Int) = (m1 : Int) + 1 := by omega
          have HLs := fun w => has_any X ip ((m1 + 1 : Nat) : Int) hip w
          have HUs := fun w => has_any (upper X m1) ip ((m1 + 1 : Nat) : Int) hip w
          have HPs := fun w => has_any X ip (m1 : Int) hip w
          have HCL := fun w => contains_any X X (m1 : Int) ((m1 + 1 : Nat) : Int) TW.out.x32 w
          have HCU := fun w => contains_any X (upper X m1) (m1 : Int) ((m1 + 1 : Nat) : Int) U32 w
          have HBU := fun w => bit_any (upper X m1) (m1 : Int) U32 w
          have HBL := fun w => bit_any X (m1 : Int) TW.out.x32 w
          rw [ncontains X m1 X (m1 + 1) (by omega) (by omega) HG.out.lowMay, show (decide (m1 ≤ m1 + 1) && decide (X = low X m1)) = true by rw [decide_eq_true TW.out.hx, decide_eq_true (show m1 ≤ m1 + 1 by omega)]; rfl, e1] at HCL
          rw [ncontains X m1 (upper X m1) (m1 + 1) (by omega) (by omega) HG.out.upMay, HG.out.upLow, show (decide (m1 ≤ m1 + 1) && decide (X = X)) = true by simp, e1] at HCU
          rw [HG.out.bitUp] at HBU
          rw [HG.out.bitLow] at HBL
          have hone := HG.out.one
          rw [nhas X (m1 + 1) ip (by omega), e1] at HLs
          rw [nhas (upper X m1) (m1 + 1) ip (by omega), e1] at HUs
          rw [nhas X m1 ip (by omega)] at HPs
          generalize decide (X = low ip (m1 + 1)) = bl at HLs hone
          generalize decide (upper X m1 = low ip (m1 + 1)) = bu at HUs hone
          generalize decide (X = low ip m1) = bp at HPs hone
          clear hpw HG e1 HP
          generalize upper X m1 = U at *
          subst hone
          have HL := Lib.hid HLs
          have HU := Lib.hid HUs
          have HP := Lib.hid HPs
          have HCL := Lib.hid HCL
          have HCU := Lib.hid HCU
          have HBU := Lib.hid HBU
          have HBL := Lib.hid HBL
          go_wp2_with fail
          go_region
          try rw [hor]
          have BL : Hid (Blk (((wc.alloc (.cells #[.int .u32 (X : Int), .int .i64 ((m1 : Int) + 1)] 25)).alloc (.cells #[.int .u32 (U : Int), .int .i64 ((m1 : Int) + 1)] 25)).drew) wc.heap.size 25 (pc X ((m1 : Int) + 1))) := Lib.hid ((L0.out.alloc _).drew)
          have BU : Hid (Blk (((wc.alloc (.cells #[.int .u32 (X : Int), .int .i64 ((m1 : Int) + 1)] 25)).alloc (.cells #[.int .u32 (U : Int), .int .i64 ((m1 : Int) + 1)] 25)).drew) (wc.heap.size + 1) 25 (pc U ((m1 : Int) + 1))) := Lib.hid (by
            have := Blk.fresh (wc.alloc (.cells #[.int .u32 (X : Int), .int .i64 ((m1 : Int) + 1)] 25)) 25 (pc U ((m1 : Int) + 1))
            rw [World.size_alloc] at this
            exact this.drew)
          have K5 : Hid (Kept Nothing wc (((wc.alloc (.cells #[.int .u32 (X : Int), .int .i64 ((m1 : Int) + 1)] 25)).alloc (.cells #[.int .u32 (U : Int), .int .i64 ((m1 : Int) + 1)] 25)).drew)) := Lib.hid (((KA.out _).alloc _).drew)
          generalize ((wc.alloc (.cells #[.int .u32 (X : Int), .int .i64 ((m1 : Int) + 1)] 25)).alloc (.cells #[.int .u32 (U : Int), .int .i64 ((m1 : Int) + 1)] 25)).drew = W5 at BL BU K5 ⊢
          replace B3 := Lib.hid (B3.out.kept K5.out (fun x => x))
          replace K := Lib.hid (K.out.trans K5.out)
          clear d30 d31 e30 e31 c30 c31 L0 KA hor K5
          generalize wc.heap.size = lw at *
          have d30 := up_cell (v := .int .u32 (X : Int)) (B3.out.cell 0)
          have d31 := up_cell (v := .int .i64 (m1 : Int)) (B3.out.cell 1)
          have d50 := up_cell (v := .int .u32 (X : Int)) (BL.out.cell 0)
          have d51 := up_cell (v := .int .i64 ((m1 : Int) + 1)) (BL.out.cell 1)
          have d60 := up_cell (v := .int .u32 (U : Int)) (BU.out.cell 0)
          have d61 := up_cell (v := .int .i64 ((m1 : Int) + 1)) (BU.out.cell 1)
          go_wp2_with fail
          refine wp_region_up (by kernel_rfl) (by kernel_rfl) ?_
          repeat (go_big_quiet_step ((first
            | (go_at_call 18; (with_reducible exact up_call (HL.out _)))
            | (go_at_call 18; (with_reducible exact up_call (HU.out _))))))
          refine wpQuiet_nil ?_
          rintro q0 ⟨⟨_, k1⟩, rfl⟩
          clear d30 d31 d50 d51 d60 d61
          replace B3 := Lib.hid (B3.out.kept k1 (fun x => x))
          replace BL := Lib.hid (BL.out.kept k1 (fun x => x))
          replace BU := Lib.hid (BU.out.kept k1 (fun x => x))
          replace K := Lib.hid (K.out.trans k1)
          have c30 : q0.cell? ⟨w.heap.size, 0, none⟩ = some (.int .u32 (X : Int)) := B3.out.cell 0
          have c31 : q0.cell? ⟨w.heap.size, 1, none⟩ = some (.int .i64 (m1 : Int)) := B3.out.cell 1
          have c50 : q0.cell? ⟨lw, 0, none⟩ = some (.int .u32 (X : Int)) := BL.out.cell 0
          have c51 : q0.cell? ⟨lw, 1, none⟩ = some (.int .i64 ((m1 : Int) + 1)) := BL.out.cell 1
          have c60 : q0.cell? ⟨lw + 1, 0, none⟩ = some (.int .u32 (U : Int)) := BU.out.cell 0
          have c61 : q0.cell? ⟨lw + 1, 1, none⟩ = some (.int .i64 ((m1 : Int) + 1)) := BU.out.cell 1
          clear k1
          cases bl <;> cases bu
          all_goals
            go_wp2_with (first
              | (go_at_call 20; (with_reducible refine (HCL.out _).mono ?_); rintro e q1 ⟨rfl, k1⟩; replace B3 := Lib.hid (B3.out.kept k1 (fun x => x)); replace BL := Lib.hid (BL.out.kept k1 (fun x => x)); replace BU := Lib.hid (BU.out.kept k1 (fun x => x)); replace K := Lib.hid (K.out.trans k1); replace c30 : q1.cell? ⟨w.heap.size, 0, none⟩ = some (.int .u32 (X : Int)) := B3.out.cell 0; replace c31 : q1.cell? ⟨w.heap.size, 1, none⟩ = some (.int .i64 (m1 : Int)) := B3.out.cell 1; replace c50 : q1.cell? ⟨lw, 0, none⟩ = some (.int .u32 (X : Int)) := BL.out.cell 0; replace c51 : q1.cell? ⟨lw, 1, none⟩ = some (.int .i64 ((m1 : Int) + 1)) := BL.out.cell 1; replace c60 : q1.cell? ⟨lw + 1, 0, none⟩ = some (.int .u32 (U : Int)) := BU.out.cell 0; replace c61 : q1.cell? ⟨lw + 1, 1, none⟩ = some (.int .i64 ((m1 : Int) + 1)) := BU.out.cell 1)
              | (go_at_call 20; (with_reducible refine (HCU.out _).mono ?_); rintro e q1 ⟨rfl, k1⟩; replace B3 := Lib.hid (B3.out.kept k1 (fun x => x)); replace BL := Lib.hid (BL.out.kept k1 (fun x => x)); replace BU := Lib.hid (BU.out.kept k1 (fun x => x)); replace K := Lib.hid (K.out.trans k1); replace c30 : q1.cell? ⟨w.heap.size, 0, none⟩ = some (.int .u32 (X : Int)) := B3.out.cell 0; replace c31 : q1.cell? ⟨w.heap.size, 1, none⟩ = some (.int .i64 (m1 : Int)) := B3.out.cell 1; replace c50 : q1.cell? ⟨lw, 0, none⟩ = some (.int .u32 (X : Int)) := BL.out.cell 0; replace c51 : q1.cell? ⟨lw, 1, none⟩ = some (.int .i64 ((m1 : Int) + 1)) := BL.out.cell 1; replace c60 : q1.cell? ⟨lw + 1, 0, none⟩ = some (.int .u32 (U : Int)) := BU.out.cell 0; replace c61 : q1.cell? ⟨lw + 1, 1, none⟩ = some (.int .i64 ((m1 : Int) + 1)) := BU.out.cell 1)
              | (go_at_call 18; (with_reducible refine (HP.out _).mono ?_); rintro e q1 ⟨rfl, k1⟩; replace B3 := Lib.hid (B3.out.kept k1 (fun x => x)); replace BL := Lib.hid (BL.out.kept k1 (fun x => x)); replace BU := Lib.hid (BU.out.kept k1 (fun x => x)); replace K := Lib.hid (K.out.trans k1); replace c30 : q1.cell? ⟨w.heap.size, 0, none⟩ = some (.int .u32 (X : Int)) := B3.out.cell 0; replace c31 : q1.cell? ⟨w.heap.size, 1, none⟩ = some (.int .i64 (m1 : Int)) := B3.out.cell 1; replace c50 : q1.cell? ⟨lw, 0, none⟩ = some (.int .u32 (X : Int)) := BL.out.cell 0; replace c51 : q1.cell? ⟨lw, 1, none⟩ = some (.int .i64 ((m1 : Int) + 1)) := BL.out.cell 1; replace c60 : q1.cell? ⟨lw + 1, 0, none⟩ = some (.int .u32 (U : Int)) := BU.out.cell 0; replace c61 : q1.cell? ⟨lw + 1, 1, none⟩ = some (.int .i64 ((m1 : Int) + 1)) := BU.out.cell 1)
              | (go_at_call 26; (with_reducible refine (HBU.out _).mono ?_); rintro e q1 ⟨rfl, rfl⟩)
              | (go_at_call 26; (with_reducible refine (HBL.out _).mono ?_); rintro e q1 ⟨rfl, rfl⟩)
              | (go_at_call 28; (with_reducible refine (HT.out _ (hr.kept K.out)).mono ?_); rintro e q1 ⟨rfl, k1⟩; replace K := Lib.hid (K.out.trans k1)))
            go_ret
            exact ⟨rfl, K.out⟩
end Go.Proofs.YtfjhpeijlhlaeaaDoor
