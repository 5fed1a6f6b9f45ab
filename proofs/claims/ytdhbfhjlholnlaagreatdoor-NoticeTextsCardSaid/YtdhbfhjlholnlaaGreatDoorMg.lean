
/-
  notice: the law NoticeTexts (printed by wip/gen_mg.py).
-/
import Derived.Test.YtdhbfhjlholnlaaGreatDoorMf
namespace Go.Proofs.YtdhbfhjlholnlaaGreatDoor
open Go.RowKit Go.Maps

/-- The first thirty bytes at most. -/
def tk (l : List UInt8) : List UInt8 := l.take 30
theorem nparse_at (l : List UInt8) (hl : l.length ≤ 100000) (a b e : Nat) (h : Nt.parse l = (a, b, e)) (w : World) (hr : Rdy2 w) (hn : Nms w) :
    Calls Tryz.prog 4 #[.string ⟨l.toArray⟩] w fun r w' => r = .returned (.tuple #[.agg #[.int .u8 (a : Int), .int .u8 (b : Int)], .int .i64 (e : Int)]) ∧ Kept Nothing w w' := by
  have := nparse_any l hl w hr hn
  rw [h] at this
  exact this
theorem text_len (c s : Nat) (hc : c < 256) (hs : s < 256) : (Nt.text c s).length ≤ 100000 := by
  have h1 := code_len c hc
  have h2 := dec_len32 s (by omega)
  unfold Nt.text
  simp
  omega

set_option maxRecDepth 100000 in
set_option maxHeartbeats 4000000 in
theorem texts_law (c s : Nat) (hc : c < 256) (hs : s < 256) (l : List UInt8) (_hl : l.length ≤ maxLen) (w : World) (hr : Rdy2 w) (hn : Nms w) (hu : Uni w) :
    Calls Tryz.prog 3 #[.agg #[.int .u8 (c : Int), .int .u8 (s : Int)], .string ⟨l.toArray⟩] w fun r w' => r = .returned (.bool true) ∧ Kept Nothing w w' := by
  have k0 := (Kept.refl Nothing w).alloc (.cells #[.int .u8 (c : Int), .int .u8 (s : Int)] 23)
  have FF : Hid (Blk (w.alloc (.cells #[.int .u8 (c : Int), .int .u8 (s : Int)] 23)) w.heap.size 23 #[.int .u8 (c : Int), .int .u8 (s : Int)]) := Lib.hid (Blk.fresh w _ _)
  have a0 : (w.alloc (.cells #[.int .u8 (c : Int), .int .u8 (s : Int)] 23)).cell? ⟨w.heap.size, 0, none⟩ = some (.int .u8 (c : Int)) := FF.out.cell 0
  have a1 : (w.alloc (.cells #[.int .u8 (c : Int), .int .u8 (s : Int)] 23)).cell? ⟨w.heap.size, 1, none⟩ = some (.int .u8 (s : Int)) := FF.out.cell 1
  go_enter Tryz.func3, Tryz.ntmps3
  go_upto_region 1 with fail
  change Code.wp _ _ _ _ (w.alloc (.cells #[.int .u8 (c : Int), .int .u8 (s : Int)] 23))
  have HT := Lib.hid (fun u (k : Kept Nothing w u) => text_at c s hc hs (l := (Nt.text c s).toArray) rfl (x := (c : Int)) (y := (s : Int)) rfl rfl u (hr.kept k) (hn.kept k))
  have HP := Lib.hid (fun u (k : Kept Nothing w u) => nparse_at (Nt.text c s) (text_len c s hc hs) c s 0 (Nt.parse_text c s hc hs) u (hr.kept k) (hn.kept k))
  have K0 := Lib.hid k0
  have HR := Lib.hid hr
  have HN := Lib.hid hn
  have HU := Lib.hid hu
  clear k0 hr hn hu
  generalize w.alloc (.cells #[.int .u8 (c : Int), .int .u8 (s : Int)] 23) = w0 at *
  generalize Nt.text c s = tx at HT HP
  go_wp2_with fail
  refine (HT.out _ K0.out).mono ?_
  rintro e w1 ⟨rfl, hk⟩
  have K1 := Lib.hid (K0.out.trans hk)
  have F1 := Lib.hid (FF.out.kept hk (fun x => x))
  clear hk FF HT
  go_wp2_with fail
  refine (HP.out _ K1.out).mono ?_
  rintro e w2 ⟨rfl, hk⟩
  have K2 := Lib.hid (K1.out.trans hk)
  have F2 := Lib.hid (F1.out.kept hk (fun x => x))
  clear hk F1 HP K0 K1
  go_upto_region 2 with fail
  change Code.wp _ _ _ _ (w2.alloc (.cells #[.int .u8 (c : Int), .int .u8 (s : Int)] 23))
  have k3 := (Kept.refl Nothing w2).alloc (.cells #[.int .u8 (c : Int), .int .u8 (s : Int)] 23)
  have G3 := Lib.hid (Blk.fresh w2 23 #[.int .u8 (c : Int), .int .u8 (s : Int)])
  have K3 := Lib.hid (K2.out.trans k3)
  have F3 := Lib.hid (F2.out.kept k3 (fun x => x))
  clear k3 K2 F2
  generalize w2.alloc (.cells #[.int .u8 (c : Int), .int .u8 (s : Int)] 23) = w3 at *
  generalize w2.heap.size = g2 at *
  go_cut [1] (fun x wx => x = .string ⟨(tk l).toArray⟩ ∧ wx = w3)
  case first =>
    have hE : (⟨l.toArray⟩ : ByteArray).extract 0 (min (l.length : Int) 30).toNat = ⟨(tk l).toArray⟩ := by
      apply ByteArray.ext
      have e : (min (l.length : Int) 30).toNat = min l.length 30 := by omega
      rw [e, ByteArray.data_extract]
      apply Array.ext'
      simp [tk]
      omega
    rcases Nat.lt_or_ge l.length 30 with h | h
    · have h1 : (l.length : Int) < 30 := by omega
      go_wp2
      go_meet
      exact ⟨rfl, rfl⟩
    · have h1 : 30 ≤ (l.length : Int) := by omega
      have h2 : ¬ (l.length : Int) < 30 := by omega
      go_wp2
      go_meet
      exact ⟨rfl, rfl⟩
  case rest =>
    obtain ⟨rfl, rfl⟩ := hcut
    have hlen : (tk l).length ≤ 100000 := by simp [tk]; omega
    have hpi := Nt.parse_inv (tk l)
    rcases hpX : Nt.parse (tk l) with ⟨a, b, e⟩
    rw [hpX] at hpi
    simp only at hpi
    have HP2 := Lib.hid (fun u (k : Kept Nothing w u) => nparse_at (tk l) hlen a b e hpX u (HR.out.kept k) (HN.out.kept k))
    have HY := Lib.hid (fun u (k : Kept Nothing w u) => n_tells u (HR.out.kept k) (HN.out.kept k) (HU.out.kept k))
    have HT2 := Lib.hid (fun (ha : a < 256) (hb : b < 256) u (k : Kept Nothing w u) => text_at a b ha hb (l := (Nt.text a b).toArray) rfl (x := (a : Int)) (y := (b : Int)) rfl rfl u (HR.out.kept k) (HN.out.kept k))
    have HP3 := Lib.hid (fun (ha : a < 256) (hb : b < 256) u (k : Kept Nothing w u) => nparse_at (Nt.text a b) (text_len a b ha hb) a b 0 (Nt.parse_text a b ha hb) u (HR.out.kept k) (HN.out.kept k))
    have HTX : Hid (Nt.text a b = Nt.text a b) := Lib.hid rfl
    clear hpX HR HN HU
    generalize tk l = t at *
    go_wp2_with fail
    refine (HP2.out _ K3.out).mono ?_
    rintro r w4 ⟨rfl, hk⟩
    have K4 := Lib.hid (K3.out.trans hk)
    have F4 := Lib.hid (F3.out.kept hk (fun x => x))
    have G4 := Lib.hid (G3.out.kept hk (fun x => x))
    clear hk K3 F3 G3 HP2
    go_upto_region 4 with fail
    change Code.wp _ _ _ _ (w4.alloc (.cells #[.int .u8 (a : Int), .int .u8 (b : Int)] 23))
    have k5 := (Kept.refl Nothing w4).alloc (.cells #[.int .u8 (a : Int), .int .u8 (b : Int)] 23)
    have B5 := Lib.hid (Blk.fresh w4 23 #[.int .u8 (a : Int), .int .u8 (b : Int)])
    have K5 := Lib.hid (K4.out.trans k5)
    have F5 := Lib.hid (F4.out.kept k5 (fun x => x))
    have G5 := Lib.hid (G4.out.kept k5 (fun x => x))
    clear k5 K4 F4 G4
    generalize w4.alloc (.cells #[.int .u8 (a : Int), .int .u8 (b : Int)] 23) = w5 at *
    generalize w4.heap.size = g4 at *
    have f0 : w5.cell? ⟨w.heap.size, 0, none⟩ = some (.int .u8 (c : Int)) := F5.out.cell 0
    have f1 : w5.cell? ⟨w.heap.size, 1, none⟩ = some (.int .u8 (s : Int)) := F5.out.cell 1
    have x0 : w5.cell? ⟨g2, 0, none⟩ = some (.int .u8 (c : Int)) := G5.out.cell 0
    have x1 : w5.cell? ⟨g2, 1, none⟩ = some (.int .u8 (s : Int)) := G5.out.cell 1
    have y0 : w5.cell? ⟨g4, 0, none⟩ = some (.int .u8 (a : Int)) := B5.out.cell 0
    have y1 : w5.cell? ⟨g4, 1, none⟩ = some (.int .u8 (b : Int)) := B5.out.cell 1
    clear F5 G5
    generalize hXT : Nt.text a b = X at *
    rcases hpi with ⟨rfl, ha, hb, hcase⟩ | ⟨rfl, rfl, rfl | rfl⟩
    · clear hXT HTX
      have HT3 := Lib.hid (HT2.out ha hb)
      have HP4 := Lib.hid (HP3.out ha hb)
      clear HT2 HP3
      go_wp2_with fail
      refine (HT3.out _ K5.out).mono ?_
      rintro r w6 ⟨rfl, hk⟩
      have K6 := Lib.hid (K5.out.trans hk)
      have B6 := Lib.hid (B5.out.kept hk (fun x => x))
      clear hk K5 B5 f0 f1 x0 x1 y0 y1
      go_wp2_with fail
      refine (HP4.out _ K6.out).mono ?_
      rintro r w7 ⟨rfl, hk⟩
      have K7 := Lib.hid (K6.out.trans hk)
      have B7 := Lib.hid (B6.out.kept hk (fun x => x))
      clear hk K6 B6
      go_upto_region 9 with fail
      change Code.wp _ _ _ _ (w7.alloc (.cells #[.int .u8 (a : Int), .int .u8 (b : Int)] 23))
      have k8 := (Kept.refl Nothing w7).alloc (.cells #[.int .u8 (a : Int), .int .u8 (b : Int)] 23)
      have D8 := Lib.hid (Blk.fresh w7 23 #[.int .u8 (a : Int), .int .u8 (b : Int)])
      have K8 := Lib.hid (K7.out.trans k8)
      have B8 := Lib.hid (B7.out.kept k8 (fun x => x))
      clear k8 K7 B7
      generalize w7.alloc (.cells #[.int .u8 (a : Int), .int .u8 (b : Int)] 23) = w8 at *
      generalize w7.heap.size = g7 at *
      have x0 : w8.cell? ⟨g7, 0, none⟩ = some (.int .u8 (a : Int)) := D8.out.cell 0
      have x1 : w8.cell? ⟨g7, 1, none⟩ = some (.int .u8 (b : Int)) := D8.out.cell 1
      have y0 : w8.cell? ⟨g4, 0, none⟩ = some (.int .u8 (a : Int)) := B8.out.cell 0
      have y1 : w8.cell? ⟨g4, 1, none⟩ = some (.int .u8 (b : Int)) := B8.out.cell 1
      clear D8
      go_wp2_with fail
      refine (HT3.out _ K8.out).mono ?_
      rintro r w9 ⟨rfl, hk⟩
      have K9 := Lib.hid (K8.out.trans hk)
      have z0 : w9.cell? ⟨g4, 0, none⟩ = some (.int .u8 (a : Int)) := (B8.out.kept hk (fun x => x)).cell 0
      clear hk K8 B8 x0 x1 y0 y1
      rcases hcase with hcase | rfl
      · have h1 : (1 : Int) ≤ (a : Int) := by omega
        have h2 : (a : Int) ≤ 6 := by omega
        go_wp2_with (go_at_call 6; refine (HY.out _ K9.out).mono ?_; rintro r w10 ⟨rfl, hk⟩)
        all_goals
          go_ret
          exact ⟨rfl, K9.out.trans hk⟩
      · go_wp2_with (go_at_call 6; refine (HY.out _ K9.out).mono ?_; rintro r w10 ⟨rfl, hk⟩)
        all_goals
          go_ret
          exact ⟨rfl, K9.out.trans hk⟩
    all_goals
      go_wp2_with (go_at_call 6; refine (HY.out _ K5.out).mono ?_; rintro r w6 ⟨rfl, hk⟩)
      go_ret
      exact ⟨rfl, K5.out.trans hk⟩
end Go.Proofs.YtdhbfhjlholnlaaGreatDoor
