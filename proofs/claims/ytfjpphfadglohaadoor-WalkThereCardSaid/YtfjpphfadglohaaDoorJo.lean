
/-
  The law's check of itself: what five texts are read as.
-/
import Derived.Test.YtfjpphfadglohaaDoorJn
import Derived.Test.YtfjpphfadglohaaDoorJi
namespace Go.Proofs.YtfjpphfadglohaaDoor
open Go.RowKit

theorem wk1 : Pt.parseP [49, 48, 32, 50, 48, 32, 123, 51, 48, 44, 52, 48, 125] = ([(2, [10, 20]), (1, [30, 40])], 0) := by rfl
theorem wk1b : Pt.bytes [(2, [10, 20]), (1, [30, 40])] false = ([2, 2, 0, 10, 0, 20, 1, 2, 0, 30, 0, 40], 0) := by rfl
theorem wk2 : Pt.parseP [40, 54, 53, 48, 48, 49, 32, 54, 53, 48, 48, 50, 41, 32, 49, 48] = ([(3, [65001, 65002]), (2, [10])], 0) := by rfl
theorem wk3 : Pt.parseP [49, 32, 124, 32, 50] = ([(2, [1]), (2, [2])], 0) := by rfl
theorem wk4 : Pt.parseP [91, 55, 93] = ([(4, [7])], 0) := by rfl
theorem wk5 : Pt.parseP [45] = ([], 0) := by rfl

theorem made_by {w : World} {cs : Array Value} {l : List UInt8} {n : Nat} (hn : w.heap.size = n) (hl : cs.toList = bys l) (hm : l.length ≤ maxLen) : By (w.alloc (.cells cs 5)) (.slice (some ⟨n, 0, none⟩) l.length l.length) l := by
  subst hn
  exact (Bs.made (Blk.fresh w 5 cs) hl hm).by
theorem made_blk {w : World} {cs : Array Value} {t : TypeId} {n : Nat} (hn : w.heap.size = n) : Blk (w.alloc (.cells cs t)) n t cs := by
  subst hn
  exact Blk.fresh w t cs

theorem asc_of {l : List UInt8} (h : l.all (fun b => b.toNat < 128) = true) : Asc l := fun b hb => by
  have := List.all_eq_true.1 h b hb
  simpa using this

set_option maxRecDepth 20000 in
set_option maxHeartbeats 4000000 in
theorem wakes_true (w : World) (hr : Rdy2 w) (hs : Bkt w) :
    Calls Tryd.prog 18 #[] w fun e w' => e = .returned (.bool true) ∧ Kept Nothing w w' := by
  have H1 := Lib.hid (parseP_any [49, 48, 32, 50, 48, 32, 123, 51, 48, 44, 52, 48, 125] (asc_of rfl) (by simp))
  have H2 := Lib.hid (parseP_any [40, 54, 53, 48, 48, 49, 32, 54, 53, 48, 48, 50, 41, 32, 49, 48] (asc_of rfl) (by simp))
  have H3 := Lib.hid (parseP_any [49, 32, 124, 32, 50] (asc_of rfl) (by simp))
  have H4 := Lib.hid (parseP_any [91, 55, 93] (asc_of rfl) (by simp))
  have H5 := Lib.hid (parseP_any [45] (asc_of rfl) (by simp))
  have HB := Lib.hid (fun v w (h : Pts w v [(2, [10, 20]), (1, [30, 40])]) => path_bytes v _ false w h (by simp) (by simp))
  rw [wk1] at H1
  rw [wk2] at H2
  rw [wk3] at H3
  rw [wk4] at H4
  rw [wk5] at H5
  rw [wk1b] at HB
  have HR := Lib.hid hr
  have HS := Lib.hid hs
  clear hr hs
  go_enter Tryd.func18, Tryd.ntmps18
  go_upto_region 2 with (go_at_call 57; refine (H1.out _ HR.out HS.out).mono ?_; rintro e w1 ⟨v1, rfl, p1, k1⟩; (have P1 := Lib.hid p1); (have R1 := Lib.hid (HR.out.kept k1)); (have S1 := Lib.hid (HS.out.kept k1)); (have K1 := Lib.hid k1); clear p1 k1)
  go_upto_region 3 with (go_at_call 13; refine (HB.out _ _ P1.out.pts).mono ?_; rintro e w2 ⟨v2, rfl, b2, k2⟩; (replace b2 := Bs.of_own b2); (have B2 := Lib.hid b2); (have R2 := Lib.hid (R1.out.kept k2)); (have S2 := Lib.hid (S1.out.kept k2)); (have K2 := Lib.hid k2); clear b2 k2)
  go_upto_region 4 with (go_at_call 57; refine (H2.out _ R2.out S2.out).mono ?_; rintro e w3 ⟨v3, rfl, p3, k3⟩; (have P3 := Lib.hid p3); (have R3 := Lib.hid (R2.out.kept k3)); (have S3 := Lib.hid (S2.out.kept k3)); (have K3 := Lib.hid k3); clear p3 k3)
  go_upto_region 5 with (go_at_call 57; refine (H3.out _ R3.out S3.out).mono ?_; rintro e w4 ⟨v4, rfl, p4, k4⟩; (have P4 := Lib.hid p4); (have R4 := Lib.hid (R3.out.kept k4)); (have S4 := Lib.hid (S3.out.kept k4)); (have K4 := Lib.hid k4); clear p4 k4)
  go_upto_region 6 with (go_at_call 57; refine (H4.out _ R4.out S4.out).mono ?_; rintro e w5 ⟨v5, rfl, p5, k5⟩; (have P5 := Lib.hid p5); (have R5 := Lib.hid (R4.out.kept k5)); (have S5 := Lib.hid (S4.out.kept k5)); (have K5 := Lib.hid k5); clear p5 k5)
  have K36 := Lib.hid (K4.out.trans K5.out)
  obtain ⟨A3, c3, rfl, -, -⟩ := P3.out.pts.form
  obtain ⟨A4, c4, rfl, -, -⟩ := P4.out.pts.form
  obtain ⟨A5, c5, rfl, -, -⟩ := P5.out.pts.form
  obtain ⟨b3, o3, _, _, rfl, x30, -, -⟩ := P3.out.pts.at2 (i := 0) (by simp)
  obtain ⟨b3', o3', _, _, e3, x31, -, -⟩ := P3.out.pts.at2 (i := 1) (by simp)
  obtain ⟨rfl, rfl⟩ : b3 = b3' ∧ o3 = o3' := by simpa using e3
  obtain ⟨b5, o5, _, _, rfl, x50, -, -⟩ := P5.out.pts.at2 (i := 0) (by simp)
  replace x30 := K36.out.cell_some x30 (fun x => x)
  replace x31 := K36.out.cell_some x31 (fun x => x)
  have X30 : Hid (w5.cell? ⟨b3, o3, none⟩ = some (.int .u8 3)) := Lib.hid x30
  have X31 : Hid (w5.cell? ⟨b3, o3 + 2, none⟩ = some (.int .u8 2)) := Lib.hid x31
  have X50 : Hid (w5.cell? ⟨b5, o5, none⟩ = some (.int .u8 4)) := Lib.hid x50
  have B5 := Lib.hid (B2.out.kept (K3.out.trans (K4.out.trans K5.out)) (NoBytes.nothing _))
  have KA := Lib.hid (K1.out.trans (K2.out.trans (K3.out.trans (K4.out.trans K5.out))))
  clear x30 x31 x50 P1 P3 P4 P5 B2 K1 K2 K3 K4 K5 K36 R1 R2 R3 R4 S1 S2 S3 S4 H1 H2 H3 H4 HB HR HS e3
  go_wp2_with (first
    | (go_at_call 57; refine (H5.out _ R5.out S5.out).mono ?_; rintro e w6 ⟨v6, rfl, p6, k6⟩; (obtain ⟨A6, c6, rfl, -, -⟩ := p6.pts.form); (have KZ := Lib.hid k6); (have B6 := Lib.hid (B5.out.kept k6 (NoBytes.nothing _))); (have K6 := Lib.hid (KA.out.trans k6)); clear p6 k6)
    | (go_at_call 14; refine (by_equal _ _ [2, 2, 0, 10, 0, 20, 1, 2, 0, 30, 0, 40] [2, 2, 0, 10, 0, 20, 1, 2, 0, 30, 0, 40] _ (B6.out.kept ((Kept.refl Nothing _).alloc _) (NoBytes.nothing _)).by (made_by (l := [2, 2, 0, 10, 0, 20, 1, 2, 0, 30, 0, 40]) rfl rfl (by simp [maxLen]))).mono ?_; rintro e w7 ⟨rfl, e7⟩; (have K7 : Hid (Kept Nothing w6 w7) := Lib.hid (by rw [← e7]; exact (Kept.refl Nothing _).alloc _)); (have y30 := (KZ.out.trans K7.out).cell_some X30.out (fun x => x)); (have y31 := (KZ.out.trans K7.out).cell_some X31.out (fun x => x)); (have y50 := (KZ.out.trans K7.out).cell_some X50.out (fun x => x)); clear e7))
  go_ret
  exact ⟨rfl, K6.out.trans K7.out⟩
end Go.Proofs.YtfjpphfadglohaaDoor
