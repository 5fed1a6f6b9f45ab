
/-
  What the examples of chapter 3 say (function wakes of the law's package) holds, in whatever memory; nothing that was there is changed.
-/
import Derived.Test.YtohkhcobljenjaaFv
import Derived.Laws.StructEq
import Derived.Deep.DeepCutAuto
import Derived.Deep.CutBlock
namespace Go.Proofs.Ytohkhcobljenjaa
open Go.RowKit

namespace Fr
theorem feed_new (b : List UInt8) : feed IS.new b = run b := rfl
theorem ex1 : feed IS.new (List.replicate 16 255 ++ [0, 19, 4]) = ([(4, [])], ⟨[], 0, []⟩) := by
  have h := run_bytes (m := (4, [])) (by decide) []
  rw [List.append_nil] at h
  rw [feed_new]
  rw [show (List.replicate 16 255 ++ [0, 19, 4] : List UInt8) = (bytes (4, [])).1 from by decide, h, run_short (by decide)]
theorem ex2 : feed IS.new (List.replicate 16 255 ++ [0, 20, 4]) = ([], ⟨[], 2, [0, 20]⟩) := by
  rw [feed_new]
  have hj : judge (List.replicate 16 255 ++ [0, 20, 4]) = (2, [0, 20]) := by decide
  rw [run_bad (by decide) (by rw [hj]; decide), hj]
theorem ex3 : feed IS.new (List.replicate 18 255) = ([], ⟨List.replicate 18 255, 0, []⟩) := run_short (by decide)
theorem ex4 : feed IS.new (List.replicate 19 0) = ([], ⟨[], 1, []⟩) := by
  rw [feed_new]
  have hj : judge (List.replicate 19 0) = (1, []) := by decide
  rw [run_bad (by decide) (by rw [hj]; decide), hj]
end Fr

/-- What another intake's Feed leaves of an intake. -/
theorem In.apart {w w' : World} {F D S : Nat → Prop} {p : Nat} {s : Fr.IS} {a b d : Nat} (h : In w F D p s) (k : Kept S w w') (hf : ∀ g, F g → (a ≤ g ∧ g < b) ∨ d ≤ g) (hd : ∀ g, D g → (a ≤ g ∧ g < b) ∨ d ≤ g) (hs : ∀ g, S g → (g < a ∨ b ≤ g) ∧ (g < d)) : In w' F D p s :=
  h.kept k (fun g hg x => by have := hf g hg; have := hs g x; omega) (fun g hg x => by have := hd g hg; have := hs g x; omega)

theorem made3 (W : World) (k : Nat) (hk : W.heap.size = k) (x y z : Int) (a b c : UInt8) (hx : x = (a.toNat : Int)) (hy : y = (b.toNat : Int)) (hz : z = (c.toNat : Int)) : Bs (W.alloc (.cells #[.int .u8 x, .int .u8 y, .int .u8 z] 5)) (.slice (some ⟨k, 0, none⟩) 3 3) [a, b, c] := by
  subst hk hx hy hz
  exact Bs.made (l := [a, b, c]) (Blk.fresh W _ _) rfl (by simp [maxLen])

set_option maxRecDepth 100000 in
set_option maxHeartbeats 1600000 in
theorem wakes3 (w : World) :
    Calls Try.prog 13 #[] w fun r w' => r = .returned (.bool true) ∧ Kept Nothing w w' := by
  go_enter Try.func13, Try.ntmps13
  go_wp2_with fail
  refine (in_new2 _).mono ?_
  rintro e w1 ⟨pa, Fa, rfl, ha, ka, ra⟩
  have A1 := Lib.hid ha
  have K1 := Lib.hid ka
  have RA : Hid (∀ k, Fa k → w.heap.size ≤ k ∧ k < w1.heap.size) := fun k hk => ⟨ra k hk, ha.lt hk⟩
  clear ha ka ra
  go_wp2_with fail
  refine (in_new2 _).mono ?_
  rintro e w2 ⟨pb, Fb, rfl, hb, kb, rb⟩
  have A2 := Lib.hid (A1.out.old kb)
  have B2 := Lib.hid hb
  have K2 := Lib.hid (K1.out.trans kb)
  have RB : Hid (∀ k, Fb k → w1.heap.size ≤ k ∧ k < w2.heap.size) := fun k hk => ⟨rb k hk, hb.lt hk⟩
  have z1 := K1.out.size
  have z2 := kb.size
  clear hb kb rb A1 K1
  go_wp2_with fail
  refine (in_new2 _).mono ?_
  rintro e w3 ⟨pc, Fc, rfl, hc, kc, rc⟩
  have A3 := Lib.hid (A2.out.old kc)
  have B3 := Lib.hid (B2.out.old kc)
  have C3 := Lib.hid hc
  have K3 := Lib.hid (K2.out.trans kc)
  have RC : Hid (∀ k, Fc k → w2.heap.size ≤ k ∧ k < w3.heap.size) := fun k hk => ⟨rc k hk, hc.lt hk⟩
  have z3 := kc.size
  clear hc kc rc A2 B2 K2
  go_wp2_with fail
  refine (in_new2 _).mono ?_
  rintro e w4 ⟨pd, Fd, rfl, hd, kd, rd⟩
  have A4 := Lib.hid (A3.out.old kd)
  have B4 := Lib.hid (B3.out.old kd)
  have C4 := Lib.hid (C3.out.old kd)
  have D4 := Lib.hid hd
  have K4 := Lib.hid (K3.out.trans kd)
  have RD : Hid (∀ k, Fd k → w3.heap.size ≤ k ∧ k < w4.heap.size) := fun k hk => ⟨rd k hk, hd.lt hk⟩
  have z4 := kd.size
  clear hd kd rd A3 B3 C3 K3
  -- a
  go_wp2_with fail
  have kn := (Kept.refl Nothing w4).alloc (.cells #[.int .u8 0, .int .u8 19, .int .u8 4] 5)
  refine (ones_some 16 _ [0, 19, 4] _ (by decide) (by decide) (made3 w4 _ rfl 0 19 4 0 19 4 rfl rfl rfl).by (by simp) (by decide)).mono ?_
  rintro e w5 ⟨v5, rfl, hv, hn, hk⟩
  have kn2 := kn.trans hk
  have A5 := Lib.hid (A4.out.old kn2)
  have B5 := Lib.hid (B4.out.old kn2)
  have C5 := Lib.hid (C4.out.old kn2)
  have D5 := Lib.hid (D4.out.old kn2)
  have K5 := Lib.hid (K4.out.trans kn2)
  have z5 := kn2.size
  have V5 := Lib.hid hv.by
  have OV5 := Lib.hid (hn.off (S := Fa) (fun k hk => by have := RA.out k hk; rw [World.size_alloc]; omega))
  clear kn kn2 hv hn hk A4 B4 C4 D4 K4
  go_wp2_with fail
  refine (in_feed pa Fa Nothing Fr.IS.new v5 _ w5 A5.out V5.out OV5.out (by decide)).mono ?_
  rintro e w6 ⟨v6, rfl, F6, hm, hi, hk, hs⟩
  rw [Fr.ex1] at hm
  have M6 := Lib.hid (hm.below (F' := fun k => k < w4.heap.size) (fun k hk => by omega))
  have ra6 := RA.out
  have B6 := Lib.hid (B5.out.apart (a := w1.heap.size) (b := w2.heap.size) (d := w5.heap.size) hk (fun g hg => .inl (RB.out g hg)) (fun g hg => hg.elim) (fun g hg => by have := ra6 g hg; omega))
  have C6 := Lib.hid (C5.out.apart (a := w2.heap.size) (b := w3.heap.size) (d := w5.heap.size) hk (fun g hg => .inl (RC.out g hg)) (fun g hg => hg.elim) (fun g hg => by have := ra6 g hg; omega))
  have D6 := Lib.hid (D5.out.apart (a := w3.heap.size) (b := w4.heap.size) (d := w5.heap.size) hk (fun g hg => .inl (RD.out g hg)) (fun g hg => hg.elim) (fun g hg => by have := ra6 g hg; omega))
  have K6 := Lib.hid (K5.out.newly hk (fun i hi => (ra6 i hi).1))
  have z6 := hk.size
  clear hm hi hk hs ra6 A5 B5 C5 D5 K5 V5 OV5
  -- b
  go_wp2_with fail
  have kn := (Kept.refl Nothing w6).alloc (.cells #[.int .u8 0, .int .u8 20, .int .u8 4] 5)
  refine (ones_some 16 _ [0, 20, 4] _ (by decide) (by decide) (made3 w6 _ rfl 0 20 4 0 20 4 rfl rfl rfl).by (by simp) (by decide)).mono ?_
  rintro e w7 ⟨v7, rfl, hv, hn, hk⟩
  have kn2 := kn.trans hk
  have M7 := Lib.hid (M6.out.old kn2)
  have B7 := Lib.hid (B6.out.old kn2)
  have C7 := Lib.hid (C6.out.old kn2)
  have D7 := Lib.hid (D6.out.old kn2)
  have K7 := Lib.hid (K6.out.trans kn2)
  have z7 := kn2.size
  have V7 := Lib.hid hv.by
  have OV7 := Lib.hid (hn.off (S := Fb) (fun k hk => by have := RB.out k hk; rw [World.size_alloc]; omega))
  clear kn kn2 hv hn hk M6 B6 C6 D6 K6
  go_wp2_with fail
  refine (in_feed pb Fb Nothing Fr.IS.new v7 _ w7 B7.out V7.out OV7.out (by decide)).mono ?_
  rintro e w8 ⟨v8, rfl, F8, hm, hi, hk, hs⟩
  rw [Fr.ex2] at hm hi
  obtain ⟨A8, c8, rfl, _, _⟩ := alike_len hm
  have rb8 := RB.out
  have B8 := Lib.hid hi
  have RB8 : Hid ((∀ g, F8 g → (w1.heap.size ≤ g ∧ g < w2.heap.size) ∨ w7.heap.size ≤ g) ∧ (∀ g, DD w7 Nothing g → (w1.heap.size ≤ g ∧ g < w2.heap.size) ∨ w7.heap.size ≤ g)) := ⟨fun g hg => (hs g hg).imp (fun x => rb8 g x) (fun x => x), fun g hg => hg.elim (fun x => x.elim) (fun x => .inr x)⟩
  have M8 := Lib.hid (M7.out.step2 hk (fun g hg => by have := rb8 g hg; omega) (Sub.refl _ _) B7.out.noMs)
  have C8 := Lib.hid (C7.out.apart (a := w2.heap.size) (b := w3.heap.size) (d := w7.heap.size) hk (fun g hg => .inl (RC.out g hg)) (fun g hg => hg.elim) (fun g hg => by have := rb8 g hg; omega))
  have D8 := Lib.hid (D7.out.apart (a := w3.heap.size) (b := w4.heap.size) (d := w7.heap.size) hk (fun g hg => .inl (RD.out g hg)) (fun g hg => hg.elim) (fun g hg => by have := rb8 g hg; omega))
  have K8 := Lib.hid (K7.out.newly hk (fun i hi => by have := rb8 i hi; omega))
  have z8 := hk.size
  clear hm hi hk hs rb8 M7 B7 C7 D7 K7 V7 OV7
  -- c
  go_wp2_with fail
  refine (ones_none 18 _ (by decide) (by decide)).mono ?_
  rintro e w9 ⟨v9, rfl, hv, hn, hk⟩
  have M9 := Lib.hid (M8.out.old hk)
  have B9 := Lib.hid (B8.out.old hk)
  have C9 := Lib.hid (C8.out.old hk)
  have D9 := Lib.hid (D8.out.old hk)
  have K9 := Lib.hid (K8.out.trans hk)
  have z9 := hk.size
  have V9 := Lib.hid hv.by
  have OV9 := Lib.hid (hn.off (S := Fc) (fun k hk => by have := RC.out k hk; omega))
  clear hv hn hk M8 B8 C8 D8 K8
  go_wp2_with fail
  refine (in_feed pc Fc Nothing Fr.IS.new v9 _ w9 C9.out V9.out OV9.out (by decide)).mono ?_
  rintro e w10 ⟨v10, rfl, F10, hm, hi, hk, hs⟩
  rw [Fr.ex3] at hi
  have rc10 := RC.out
  have C10 := Lib.hid hi
  have RC10 : Hid ((∀ g, F10 g → (w2.heap.size ≤ g ∧ g < w3.heap.size) ∨ w9.heap.size ≤ g) ∧ (∀ g, DD w9 Nothing g → (w2.heap.size ≤ g ∧ g < w3.heap.size) ∨ w9.heap.size ≤ g)) := ⟨fun g hg => (hs g hg).imp (fun x => rc10 g x) (fun x => x), fun g hg => hg.elim (fun x => x.elim) (fun x => .inr x)⟩
  have M10 := Lib.hid (M9.out.step2 hk (fun g hg => by have := rc10 g hg; omega) (Sub.refl _ _) C9.out.noMs)
  have B10 := Lib.hid (B9.out.apart hk RB8.out.1 RB8.out.2 (fun g hg => by have := rc10 g hg; omega))
  have D10 := Lib.hid (D9.out.apart (a := w3.heap.size) (b := w4.heap.size) (d := w9.heap.size) hk (fun g hg => .inl (RD.out g hg)) (fun g hg => hg.elim) (fun g hg => by have := rc10 g hg; omega))
  have K10 := Lib.hid (K9.out.newly hk (fun i hi => by have := rc10 i hi; omega))
  have z10 := hk.size
  clear hm hi hk hs rc10 M9 B9 C9 D9 K9 V9 OV9
  -- d
  have mk : ∀ w : World, (Instr.makeSlice 25 (.int .i64 19) (.int .i64 19)).run Try.prog w = .ok (.slice (some ⟨w.heap.size, 0, none⟩) 19 19) (w.alloc (.cells (madeCells #[.int .u8 0] 19) 5)) := make_n 19 (by decide)
  have kn := (Kept.refl Nothing w10).alloc (.cells (madeCells #[.int .u8 0] 19) 5)
  have hz : Bs (w10.alloc (.cells (madeCells #[.int .u8 0] 19) 5)) (.slice (some ⟨w10.heap.size, 0, none⟩) 19 19) (List.replicate 19 0) := by
    have := Bs.made (l := List.replicate 19 (0 : UInt8)) (Blk.fresh w10 5 (madeCells #[.int .u8 0] 19)) (by rw [toList_madeCells_one]; simp [bys]; rfl) (by simp [maxLen])
    exact this
  have M11 := Lib.hid (M10.out.old kn)
  have B11 := Lib.hid (B10.out.old kn)
  have C11 := Lib.hid (C10.out.old kn)
  have D11 := Lib.hid (D10.out.old kn)
  have K11 := Lib.hid (K10.out.trans kn)
  have V11 := Lib.hid hz.by
  have OV11 : Hid (Off Fd (.slice (some ⟨w10.heap.size, 0, none⟩) 19 19)) := fun a n c e h0 x => by
    injection e with e1 e2 e3
    injection e1 with e1
    have := RD.out _ x
    rw [← e1] at this
    simp only at this
    omega
  clear kn hz M10 B10 C10 D10 K10
  go_wp2_with fail
  refine (in_feed pd Fd Nothing Fr.IS.new _ _ _ D11.out V11.out OV11.out (by decide)).mono ?_
  rintro e w12 ⟨v12, rfl, F12, hm, hi, hk, hs⟩
  rw [Fr.ex4] at hi
  have rd12 := RD.out
  have D12 := Lib.hid hi
  have M12 := Lib.hid (M11.out.step2 hk (fun g hg => by have := rd12 g hg; omega) (Sub.refl _ _) D11.out.noMs)
  have B12 := Lib.hid (B11.out.apart hk RB8.out.1 RB8.out.2 (fun g hg => by have := rd12 g hg; omega))
  have C12 := Lib.hid (C11.out.apart hk RC10.out.1 RC10.out.2 (fun g hg => by have := rd12 g hg; omega))
  have K12 := Lib.hid (K11.out.newly hk (fun i hi => by have := rd12 i hi; omega))
  clear hm hi hk hs rd12 M11 B11 C11 D11 K11 V11 OV11 mk z1 z2 z3 z4 z5 z6 z7 z8 z9 z10
  -- faults
  go_wp2_with fail
  refine (in_fault pb _ _ _ _ B12.out).mono ?_
  rintro e w13 ⟨v13, rfl, hv, hn, hk⟩
  have M13 := Lib.hid (M12.out.old hk)
  have C13 := Lib.hid (C12.out.old hk)
  have D13 := Lib.hid (D12.out.old hk)
  have K13 := Lib.hid (K12.out.trans hk)
  have V13 := Lib.hid hv
  obtain ⟨A13, c13, rfl, _, _⟩ := hv.form
  clear hv hn hk M12 B12 C12 D12 K12
  have hc2 : codeOf 2 = 1 := rfl
  have hc1 : codeOf 1 = 1 := rfl
  have ke := (Kept.refl Nothing w13).alloc (.cells #[.int .u8 1, .int .u8 2] 35)
  have be := Lib.hid (Blk.fresh w13 35 #[.int .u8 1, .int .u8 2])
  have M14 := Lib.hid (M13.out.old ke)
  have C14 := Lib.hid (C13.out.old ke)
  have D14 := Lib.hid (D13.out.old ke)
  have V14 := Lib.hid (V13.out.kept ke (NoBytes.nothing _))
  have K14 := Lib.hid (K13.out.trans ke)
  clear ke M13 C13 D13 V13 K13
  go_wp2_with fail
  refine (in_fault pd _ _ _ _ D14.out).mono ?_
  rintro e w15 ⟨v15, rfl, hv, hn, hk⟩
  have M15 := Lib.hid (M14.out.old hk)
  have C15 := Lib.hid (C14.out.old hk)
  have V15 := Lib.hid (V14.out.kept hk (NoBytes.nothing _))
  have K15 := Lib.hid (K14.out.trans hk)
  have E15 := Lib.hid (be.out.kept hk (fun x => x))
  obtain ⟨A15, c15, rfl, _, _⟩ := hv.form
  clear hv hn hk M14 C14 D14 V14 K14 be
  go_upto_region 8 with fail
  refine (show ∀ W7, Kept Nothing w15 W7 → Blk W7 w15.heap.size 35 #[.int .u8 1, .int .u8 1] → Code.wp _ _ _ _ W7 from ?_) _ ((Kept.refl Nothing w15).alloc _) (Blk.fresh w15 _ _)
  intro w16 hk hf
  have m16 := M15.out.old hk
  obtain ⟨A6, c6, rfl, hc6, _⟩ := alike_len m16
  obtain ⟨b6, x6, rfl, t0, t1, hx6⟩ := m16.at (i := 0) (by decide)
  obtain ⟨A7, c7, rfl, _, _⟩ := hx6.form
  have C16 := Lib.hid (C15.out.old hk)
  have K16 := Lib.hid (K15.out.trans hk)
  have e16 := E15.out.kept hk (fun x => x)
  have e0 : w16.cell? ⟨w13.heap.size, 0, none⟩ = some (.int .u8 1) := e16.cell 0
  have e1 : w16.cell? ⟨w13.heap.size, 1, none⟩ = some (.int .u8 2) := e16.cell 1
  have f0 : (w16.alloc (.cells #[.int .u8 0, .int .u8 20] 5)).cell? ⟨w15.heap.size, 0, none⟩ = some (.int .u8 1) := (hf.alloc _).cell 0
  have f1 : (w16.alloc (.cells #[.int .u8 0, .int .u8 20] 5)).cell? ⟨w15.heap.size, 1, none⟩ = some (.int .u8 1) := (hf.alloc _).cell 1
  have ks := (Kept.refl Nothing w16).alloc (.cells #[.int .u8 0, .int .u8 20] 5)
  have KS := Lib.hid (K16.out.trans ks)
  have CS := Lib.hid (C16.out.old ks)
  have EQ := Lib.hid (by_equal (.slice A13 2 c13) (.slice (some ⟨w16.heap.size, 0, none⟩) 2 2) [0, 20] [0, 20] _ ((V15.out.kept hk (NoBytes.nothing _)).kept ks (NoBytes.nothing _)).by (made2 w16 _ rfl 0 20 0 20 rfl rfl).by)
  clear m16 hx6 hk hf e16 M15 C15 V15 K15 E15 ks C16 K16
  go_wp2_with fail
  refine EQ.out.mono ?_
  rintro e w' ⟨rfl, rfl⟩
  go_wp2_with fail
  refine (in_waits2 pc _ _ _ _ CS.out).mono ?_
  rintro e w' ⟨rfl, rfl⟩
  go_wp2
  go_ret
  exact ⟨rfl, KS.out⟩
end Go.Proofs.Ytohkhcobljenjaa
