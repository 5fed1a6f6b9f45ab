
/-
  The law PeerKnown.
-/
import Derived.Test.YtembdobkgpojfaaDoorPEj
import Derived.Lib.Hide
namespace Go.Proofs.YtembdobkgpojfaaDoor
open Go.RowKit

def oG : Pe.O := ⟨1, 2, [3, 70000], 5⟩
def oL : Pe.O := ⟨7, 7, [], 1⟩

def oB1 : Pe.O := ⟨0, 2, [3, 70000], 5⟩
theorem may_oB1 : Pe.may oB1 = false := by decide

def oB2 : Pe.O := ⟨1, 23456, [3, 70000], 5⟩
theorem may_oB2 : Pe.may oB2 = false := by decide

def oB3 : Pe.O := ⟨1, 2, [3, 3], 5⟩
theorem may_oB3 : Pe.may oB3 = false := by decide

def oB4 : Pe.O := ⟨1, 2, [4, 3], 5⟩
theorem may_oB4 : Pe.may oB4 = false := by decide

def oB5 : Pe.O := ⟨1, 2, [1], 5⟩
theorem may_oB5 : Pe.may oB5 = false := by decide

def oB6 : Pe.O := ⟨1, 2, [2], 5⟩
theorem may_oB6 : Pe.may oB6 = false := by decide

def oB7 : Pe.O := ⟨1, 2, [65535], 5⟩
theorem may_oB7 : Pe.may oB7 = false := by decide

def oB8 : Pe.O := ⟨1, 1, [3, 70000], 5⟩
theorem may_oB8 : Pe.may oB8 = false := by decide

def oB9 : Pe.O := ⟨1, 2, [3, 70000], 0⟩
theorem may_oB9 : Pe.may oB9 = false := by decide

def oB10 : Pe.O := ⟨1, 2, [3, 70000], 3758096384⟩
theorem may_oB10 : Pe.may oB10 = false := by decide

def oB11 : Pe.O := ⟨1, 2, List.replicate 17 0, 5⟩
theorem may_oB11 : Pe.may oB11 = false := by decide

def oB12 : Pe.O := ⟨4294967295, 2, [3, 70000], 5⟩
theorem may_oB12 : Pe.may oB12 = false := by decide

theorem cls_bad {o : Pe.O} (h : Pe.may o = false) (n : Nat) : Pe.cls o n = 0 := by unfold Pe.cls; rw [if_pos h]
/-- What is known in the walk over the changes. -/
structure Gd (W u : World) (gR gB : Nat) : Prop where
  k : Kept Nothing W u
  b : Blk u gB 49 #[.int .u32 1, .int .u32 2, .slice (some ⟨gR, 0, none⟩) 2 2, .int .u32 5]
  r : As u (.slice (some ⟨gR, 0, none⟩) 2 2) [3, 70000]
  s : Spans u
  i : RdC u
  n : RdN u
theorem Gd.old {W u u' : World} {gR gB : Nat} (h : Gd W u gR gB) (k : Kept Nothing u u') : Gd W u' gR gB := ⟨h.k.trans k, h.b.kept k (fun x => x), h.r.old k, h.s.kept k, h.i.kept k, h.n.old k⟩
set_option maxRecDepth 100000 in
theorem pk_index (k : Nat) (hk : k < 12) (w : World) : ∃ f, (Instr.index 99 (.agg #[.func (.func 44) #[] #[], .func (.func 45) #[] #[], .func (.func 46) #[] #[], .func (.func 47) #[] #[], .func (.func 48) #[] #[], .func (.func 49) #[] #[], .func (.func 50) #[] #[], .func (.func 51) #[] #[], .func (.func 52) #[] #[], .func (.func 53) #[] #[], .func (.func 54) #[] #[], .func (.func 55) #[] #[]]) (.int .i64 (k : Int))).run Tryd.prog w = .ok f w ∧ f = (#[.func (.func 44) #[] #[], .func (.func 45) #[] #[], .func (.func 46) #[] #[], .func (.func 47) #[] #[], .func (.func 48) #[] #[], .func (.func 49) #[] #[], .func (.func 50) #[] #[], .func (.func 51) #[] #[], .func (.func 52) #[] #[], .func (.func 53) #[] #[], .func (.func 54) #[] #[], .func (.func 55) #[] #[]] : Array Value).getD k undef := by
  obtain rfl | rfl | rfl | rfl | rfl | rfl | rfl | rfl | rfl | rfl | rfl | rfl : k = 0 ∨ k = 1 ∨ k = 2 ∨ k = 3 ∨ k = 4 ∨ k = 5 ∨ k = 6 ∨ k = 7 ∨ k = 8 ∨ k = 9 ∨ k = 10 ∨ k = 11 := by omega
  all_goals exact ⟨_, by kernel_rfl, rfl⟩

theorem four_bytes (w : World) (g : Nat) (t : TypeId) (h : Blk w g t #[.int .u8 0, .int .u8 1, .int .u8 0, .int .u8 2]) : Cells4 w g [0, 1, 0, 2] := ⟨h.cell 0, h.cell 1, h.cell 2, h.cell 3⟩
set_option maxRecDepth 100000 in
set_option maxHeartbeats 32000000 in
theorem known15_law (W : World) (hs : Spans W) (hr : RdC W) (hn : RdN W) : Calls Tryd.prog 8 #[] W fun e w' => e = .returned (.bool true) ∧ Kept Nothing W w' := by
  have k1 := (Kept.refl Nothing W).alloc (.cells #[.int .u32 3, .int .u32 70000] 45)
  have A1 := as_row 45 [3, 70000] (by decide) (by decide) _ _ _ (Blk.fresh W 45 #[.int .u32 3, .int .u32 70000]) rfl
  have ka := (Kept.refl Nothing (W.alloc (.cells #[.int .u32 3, .int .u32 70000] 45))).alloc (.cells #[.int .u32 1, .int .u32 2, .slice (some ⟨W.heap.size, 0, none⟩) 2 2, .int .u32 5] 49)
  have B1 := Blk.fresh (W.alloc (.cells #[.int .u32 3, .int .u32 70000] 45)) 49 #[.int .u32 1, .int .u32 2, .slice (some ⟨W.heap.size, 0, none⟩) 2 2, .int .u32 5]
  rw [World.size_alloc] at B1
  have HG0 : Hid (Gd W ((W.alloc (.cells #[.int .u32 3, .int .u32 70000] 45)).alloc (.cells #[.int .u32 1, .int .u32 2, .slice (some ⟨W.heap.size, 0, none⟩) 2 2, .int .u32 5] 49)) W.heap.size (W.heap.size + 1)) := Lib.hid ⟨k1.trans ka, B1, A1.old ka, hs.kept (k1.trans ka), hr.kept (k1.trans ka), hn.old (k1.trans ka)⟩
  clear k1 A1 ka B1 hs hr hn
  go_enter Tryd.func8, Tryd.ntmps8
  go_upto_region 2 with fail
  change Code.wp _ _ _ _ ((W.alloc (.cells #[.int .u32 3, .int .u32 70000] 45)).alloc (.cells #[.int .u32 1, .int .u32 2, .slice (some ⟨W.heap.size, 0, none⟩) 2 2, .int .u32 5] 49))
  generalize (W.alloc (.cells #[.int .u32 3, .int .u32 70000] 45)).alloc (.cells #[.int .u32 1, .int .u32 2, .slice (some ⟨W.heap.size, 0, none⟩) 2 2, .int .u32 5] 49) = W1 at *
  obtain ⟨gB, hgB⟩ : ∃ g, g = W.heap.size + 1 := ⟨_, rfl⟩
  obtain ⟨gR, hgR⟩ : ∃ g, g = W.heap.size := ⟨_, rfl⟩
  rw [← hgB, ← hgR] at HG0
  rw [← hgB]
  clear hgB hgR
  go_wp2
  go_loopw [10] (fun i wr => ∃ k : Nat, i = .int .i64 (k : Int) ∧ k ≤ 12 ∧ Hid (Gd W wr gR gB)) (fun i _ => 12 - (intOf i).toNat)
  case atStart => exact ⟨0, rfl, by omega, HG0⟩
  case round =>
    clear HG0
    obtain ⟨k, rfl, hk, HG⟩ := hrel
    by_cases h12 : k < 12
    · obtain ⟨fv, hix, hfv⟩ := pk_index k h12 wr
      have hlt : (k : Int) < 12 := by omega
      have HFV := Lib.hid hfv
      clear hfv
      have g0 : wr.cell? ⟨gB, 0, none⟩ = some (.int .u32 1) := HG.out.b.cell 0
      have g1 : wr.cell? ⟨gB, 1, none⟩ = some (.int .u32 2) := HG.out.b.cell 1
      have g2 : wr.cell? ⟨gB, 2, none⟩ = some (.slice (some ⟨gR, 0, none⟩) 2 2) := HG.out.b.cell 2
      have g3 : wr.cell? ⟨gB, 3, none⟩ = some (.int .u32 5) := HG.out.b.cell 3
      have kz := (Kept.refl Nothing wr).alloc (.cells #[.int .u32 1, .int .u32 2, .slice (some ⟨gR, 0, none⟩) 2 2, .int .u32 5] 49)
      have HG2 := Lib.hid (HG.out.old kz)
      have HBX := Lib.hid (Blk.fresh wr 49 #[.int .u32 1, .int .u32 2, .slice (some ⟨gR, 0, none⟩) 2 2, .int .u32 5])
      have hsz := HG.out.b.lt
      have HZ := Lib.hid kz
      clear kz
      go_upto_region 6 with fail
      change Code.wp _ _ _ _ (wr.alloc (.cells #[.int .u32 1, .int .u32 2, .slice (some ⟨gR, 0, none⟩) 2 2, .int .u32 5] 49))
      generalize wr.alloc (.cells #[.int .u32 1, .int .u32 2, .slice (some ⟨gR, 0, none⟩) 2 2, .int .u32 5] 49) = w2 at *
      have HKW : Hid (∀ u, Kept (Only wr.heap.size) w2 u → Gd W u gR gB) := Lib.hid (fun u kk => HG.out.old (HZ.out.trans_new kk (fun i hi (e : i = wr.heap.size) => by omega)))
      clear g0 g1 g2 g3 hix HG HG2 HZ
      generalize wr.heap.size = bB at *
      have hkk : k = 0 ∨ k = 1 ∨ k = 2 ∨ k = 3 ∨ k = 4 ∨ k = 5 ∨ k = 6 ∨ k = 7 ∨ k = 8 ∨ k = 9 ∨ k = 10 ∨ k = 11 := by omega
      rcases hkk with rfl | rfl | rfl | rfl | rfl | rfl | rfl | rfl | rfl | rfl | rfl | rfl
      · obtain rfl : fv = .func (.func 44) #[] #[] := HFV.out
        go_wp2_with fail
        refine (pk_1 bB (some ⟨gR, 0, none⟩) 2 2 w2 HBX.out).mono ?_
        rintro e w3 ⟨rfl, hB3, hk3⟩
        have HG3 := Lib.hid (HKW.out w3 hk3)
        have HB3 := Lib.hid hB3
        have HO3 : Hid (∀ u, Kept Nothing w3 u → PeO u (.slice (some ⟨gR, 0, none⟩) 2 2) oB1 ∧ Spans u) := Lib.hid (fun u k => ⟨⟨by decide, by decide, HG3.out.r.old k⟩, HG3.out.s.kept k⟩)
        have HM : Hid (∀ u, Kept Nothing w3 u → Calls Tryd.prog 24 #[.agg #[.int .u32 0, .int .u32 2, .slice (some ⟨gR, 0, none⟩) 2 2, .int .u32 5]] u fun e w' => e = .returned (.bool false) ∧ Kept Nothing u w') := Lib.hid (fun u k => by
          have := pe_may oB1 _ u (HO3.out u k).1 (HO3.out u k).2
          rwa [may_oB1] at this)
        have HC : Hid (∀ u (n : Nat), n < 4294967296 → Kept Nothing w3 u → Calls Tryd.prog 26 #[.agg #[.int .u32 0, .int .u32 2, .slice (some ⟨gR, 0, none⟩) 2 2, .int .u32 5], .int .u32 (n : Int)] u fun e w' => e = .returned (.int .i64 0) ∧ Kept Nothing u w') := Lib.hid (fun u n hn k => by
          have := pe_class oB1 _ n hn u (HO3.out u k).1 (HO3.out u k).2
          rwa [cls_bad may_oB1] at this)
        clear HO3 HBX HKW HFV hB3 hk3
        have c0 : w3.cell? ⟨bB, 0, none⟩ = some (.int .u32 0) := HB3.out.cell 0
        have c1 : w3.cell? ⟨bB, 1, none⟩ = some (.int .u32 2) := HB3.out.cell 1
        have c2 : w3.cell? ⟨bB, 2, none⟩ = some (.slice (some ⟨gR, 0, none⟩) 2 2) := HB3.out.cell 2
        have c3 : w3.cell? ⟨bB, 3, none⟩ = some (.int .u32 5) := HB3.out.cell 3
        go_wp2_with fail
        refine (HM.out w3 (Kept.refl _ _)).mono ?_
        rintro e w4 ⟨rfl, hk4⟩
        have K4 := Lib.hid hk4
        have B4 := Lib.hid (HB3.out.kept hk4 (fun x => x))
        clear c0 c1 c2 c3 hk4 HM
        have c0 : w4.cell? ⟨bB, 0, none⟩ = some (.int .u32 0) := B4.out.cell 0
        have c1 : w4.cell? ⟨bB, 1, none⟩ = some (.int .u32 2) := B4.out.cell 1
        have c2 : w4.cell? ⟨bB, 2, none⟩ = some (.slice (some ⟨gR, 0, none⟩) 2 2) := B4.out.cell 2
        have c3 : w4.cell? ⟨bB, 3, none⟩ = some (.int .u32 5) := B4.out.cell 3
        go_wp2_with fail
        refine (HC.out w4 9 (by decide) K4.out).mono ?_
        rintro e w5 ⟨rfl, hk5⟩
        have K5 := Lib.hid (K4.out.trans hk5)
        have B5 := Lib.hid (B4.out.kept hk5 (fun x => x))
        clear c0 c1 c2 c3 hk5 B4 K4
        have c0 : w5.cell? ⟨bB, 0, none⟩ = some (.int .u32 0) := B5.out.cell 0
        have c1 : w5.cell? ⟨bB, 1, none⟩ = some (.int .u32 2) := B5.out.cell 1
        have c2 : w5.cell? ⟨bB, 2, none⟩ = some (.slice (some ⟨gR, 0, none⟩) 2 2) := B5.out.cell 2
        have c3 : w5.cell? ⟨bB, 3, none⟩ = some (.int .u32 5) := B5.out.cell 3
        go_wp2_with fail
        refine (HC.out w5 3 (by decide) K5.out).mono ?_
        rintro e w6 ⟨rfl, hk6⟩
        have K6 := Lib.hid (K5.out.trans hk6)
        clear c0 c1 c2 c3 hk6 B5 K5 HC
        go_wp2
        go_roundw
        case rel => exact ⟨1, by go_num, by omega, Lib.hid (HG3.out.old K6.out)⟩
        case measure => simp [intOf]
      · obtain rfl : fv = .func (.func 45) #[] #[] := HFV.out
        go_wp2_with fail
        refine (pk_2 bB (some ⟨gR, 0, none⟩) 2 2 w2 HBX.out).mono ?_
        rintro e w3 ⟨rfl, hB3, hk3⟩
        have HG3 := Lib.hid (HKW.out w3 hk3)
        have HB3 := Lib.hid hB3
        have HO3 : Hid (∀ u, Kept Nothing w3 u → PeO u (.slice (some ⟨gR, 0, none⟩) 2 2) oB2 ∧ Spans u) := Lib.hid (fun u k => ⟨⟨by decide, by decide, HG3.out.r.old k⟩, HG3.out.s.kept k⟩)
        have HM : Hid (∀ u, Kept Nothing w3 u → Calls Tryd.prog 24 #[.agg #[.int .u32 1, .int .u32 23456, .slice (some ⟨gR, 0, none⟩) 2 2, .int .u32 5]] u fun e w' => e = .returned (.bool false) ∧ Kept Nothing u w') := Lib.hid (fun u k => by
          have := pe_may oB2 _ u (HO3.out u k).1 (HO3.out u k).2
          rwa [may_oB2] at this)
        have HC : Hid (∀ u (n : Nat), n < 4294967296 → Kept Nothing w3 u → Calls Tryd.prog 26 #[.agg #[.int .u32 1, .int .u32 23456, .slice (some ⟨gR, 0, none⟩) 2 2, .int .u32 5], .int .u32 (n : Int)] u fun e w' => e = .returned (.int .i64 0) ∧ Kept Nothing u w') := Lib.hid (fun u n hn k => by
          have := pe_class oB2 _ n hn u (HO3.out u k).1 (HO3.out u k).2
          rwa [cls_bad may_oB2] at this)
        clear HO3 HBX HKW HFV hB3 hk3
        have c0 : w3.cell? ⟨bB, 0, none⟩ = some (.int .u32 1) := HB3.out.cell 0
        have c1 : w3.cell? ⟨bB, 1, none⟩ = some (.int .u32 23456) := HB3.out.cell 1
        have c2 : w3.cell? ⟨bB, 2, none⟩ = some (.slice (some ⟨gR, 0, none⟩) 2 2) := HB3.out.cell 2
        have c3 : w3.cell? ⟨bB, 3, none⟩ = some (.int .u32 5) := HB3.out.cell 3
        go_wp2_with fail
        refine (HM.out w3 (Kept.refl _ _)).mono ?_
        rintro e w4 ⟨rfl, hk4⟩
        have K4 := Lib.hid hk4
        have B4 := Lib.hid (HB3.out.kept hk4 (fun x => x))
        clear c0 c1 c2 c3 hk4 HM
        have c0 : w4.cell? ⟨bB, 0, none⟩ = some (.int .u32 1) := B4.out.cell 0
        have c1 : w4.cell? ⟨bB, 1, none⟩ = some (.int .u32 23456) := B4.out.cell 1
        have c2 : w4.cell? ⟨bB, 2, none⟩ = some (.slice (some ⟨gR, 0, none⟩) 2 2) := B4.out.cell 2
        have c3 : w4.cell? ⟨bB, 3, none⟩ = some (.int .u32 5) := B4.out.cell 3
        go_wp2_with fail
        refine (HC.out w4 9 (by decide) K4.out).mono ?_
        rintro e w5 ⟨rfl, hk5⟩
        have K5 := Lib.hid (K4.out.trans hk5)
        have B5 := Lib.hid (B4.out.kept hk5 (fun x => x))
        clear c0 c1 c2 c3 hk5 B4 K4
        have c0 : w5.cell? ⟨bB, 0, none⟩ = some (.int .u32 1) := B5.out.cell 0
        have c1 : w5.cell? ⟨bB, 1, none⟩ = some (.int .u32 23456) := B5.out.cell 1
        have c2 : w5.cell? ⟨bB, 2, none⟩ = some (.slice (some ⟨gR, 0, none⟩) 2 2) := B5.out.cell 2
        have c3 : w5.cell? ⟨bB, 3, none⟩ = some (.int .u32 5) := B5.out.cell 3
        go_wp2_with fail
        refine (HC.out w5 3 (by decide) K5.out).mono ?_
        rintro e w6 ⟨rfl, hk6⟩
        have K6 := Lib.hid (K5.out.trans hk6)
        clear c0 c1 c2 c3 hk6 B5 K5 HC
        go_wp2
        go_roundw
        case rel => exact ⟨2, by go_num, by omega, Lib.hid (HG3.out.old K6.out)⟩
        case measure => simp [intOf]
      · obtain rfl : fv = .func (.func 46) #[] #[] := HFV.out
        go_wp2_with fail
        refine (pk_3 bB (some ⟨gR, 0, none⟩) 2 2 w2 HBX.out).mono ?_
        rintro e w3 ⟨rfl, ⟨g3, hB3, hA3⟩, hk3⟩
        have HG3 := Lib.hid (HKW.out w3 hk3)
        have HB3 := Lib.hid hB3
        have HO3 : Hid (∀ u, Kept Nothing w3 u → PeO u (.slice (some ⟨g3, 0, none⟩) 2 2) oB3 ∧ Spans u) := Lib.hid (fun u k => ⟨⟨by decide, by decide, hA3.old k⟩, HG3.out.s.kept k⟩)
        have HM : Hid (∀ u, Kept Nothing w3 u → Calls Tryd.prog 24 #[.agg #[.int .u32 1, .int .u32 2, .slice (some ⟨g3, 0, none⟩) 2 2, .int .u32 5]] u fun e w' => e = .returned (.bool false) ∧ Kept Nothing u w') := Lib.hid (fun u k => by
          have := pe_may oB3 _ u (HO3.out u k).1 (HO3.out u k).2
          rwa [may_oB3] at this)
        have HC : Hid (∀ u (n : Nat), n < 4294967296 → Kept Nothing w3 u → Calls Tryd.prog 26 #[.agg #[.int .u32 1, .int .u32 2, .slice (some ⟨g3, 0, none⟩) 2 2, .int .u32 5], .int .u32 (n : Int)] u fun e w' => e = .returned (.int .i64 0) ∧ Kept Nothing u w') := Lib.hid (fun u n hn k => by
          have := pe_class oB3 _ n hn u (HO3.out u k).1 (HO3.out u k).2
          rwa [cls_bad may_oB3] at this)
        clear HO3 HBX HKW HFV hB3 hk3 hA3
        have c0 : w3.cell? ⟨bB, 0, none⟩ = some (.int .u32 1) := HB3.out.cell 0
        have c1 : w3.cell? ⟨bB, 1, none⟩ = some (.int .u32 2) := HB3.out.cell 1
        have c2 : w3.cell? ⟨bB, 2, none⟩ = some (.slice (some ⟨g3, 0, none⟩) 2 2) := HB3.out.cell 2
        have c3 : w3.cell? ⟨bB, 3, none⟩ = some (.int .u32 5) := HB3.out.cell 3
        go_wp2_with fail
        refine (HM.out w3 (Kept.refl _ _)).mono ?_
        rintro e w4 ⟨rfl, hk4⟩
        have K4 := Lib.hid hk4
        have B4 := Lib.hid (HB3.out.kept hk4 (fun x => x))
        clear c0 c1 c2 c3 hk4 HM
        have c0 : w4.cell? ⟨bB, 0, none⟩ = some (.int .u32 1) := B4.out.cell 0
        have c1 : w4.cell? ⟨bB, 1, none⟩ = some (.int .u32 2) := B4.out.cell 1
        have c2 : w4.cell? ⟨bB, 2, none⟩ = some (.slice (some ⟨g3, 0, none⟩) 2 2) := B4.out.cell 2
        have c3 : w4.cell? ⟨bB, 3, none⟩ = some (.int .u32 5) := B4.out.cell 3
        go_wp2_with fail
        refine (HC.out w4 9 (by decide) K4.out).mono ?_
        rintro e w5 ⟨rfl, hk5⟩
        have K5 := Lib.hid (K4.out.trans hk5)
        have B5 := Lib.hid (B4.out.kept hk5 (fun x => x))
        clear c0 c1 c2 c3 hk5 B4 K4
        have c0 : w5.cell? ⟨bB, 0, none⟩ = some (.int .u32 1) := B5.out.cell 0
        have c1 : w5.cell? ⟨bB, 1, none⟩ = some (.int .u32 2) := B5.out.cell 1
        have c2 : w5.cell? ⟨bB, 2, none⟩ = some (.slice (some ⟨g3, 0, none⟩) 2 2) := B5.out.cell 2
        have c3 : w5.cell? ⟨bB, 3, none⟩ = some (.int .u32 5) := B5.out.cell 3
        go_wp2_with fail
        refine (HC.out w5 3 (by decide) K5.out).mono ?_
        rintro e w6 ⟨rfl, hk6⟩
        have K6 := Lib.hid (K5.out.trans hk6)
        clear c0 c1 c2 c3 hk6 B5 K5 HC
        go_wp2
        go_roundw
        case rel => exact ⟨3, by go_num, by omega, Lib.hid (HG3.out.old K6.out)⟩
        case measure => simp [intOf]
      · obtain rfl : fv = .func (.func 47) #[] #[] := HFV.out
        go_wp2_with fail
        refine (pk_4 bB (some ⟨gR, 0, none⟩) 2 2 w2 HBX.out).mono ?_
        rintro e w3 ⟨rfl, ⟨g3, hB3, hA3⟩, hk3⟩
        have HG3 := Lib.hid (HKW.out w3 hk3)
        have HB3 := Lib.hid hB3
        have HO3 : Hid (∀ u, Kept Nothing w3 u → PeO u (.slice (some ⟨g3, 0, none⟩) 2 2) oB4 ∧ Spans u) := Lib.hid (fun u k => ⟨⟨by decide, by decide, hA3.old k⟩, HG3.out.s.kept k⟩)
        have HM : Hid (∀ u, Kept Nothing w3 u → Calls Tryd.prog 24 #[.agg #[.int .u32 1, .int .u32 2, .slice (some ⟨g3, 0, none⟩) 2 2, .int .u32 5]] u fun e w' => e = .returned (.bool false) ∧ Kept Nothing u w') := Lib.hid (fun u k => by
          have := pe_may oB4 _ u (HO3.out u k).1 (HO3.out u k).2
          rwa [may_oB4] at this)
        have HC : Hid (∀ u (n : Nat), n < 4294967296 → Kept Nothing w3 u → Calls Tryd.prog 26 #[.agg #[.int .u32 1, .int .u32 2, .slice (some ⟨g3, 0, none⟩) 2 2, .int .u32 5], .int .u32 (n : Int)] u fun e w' => e = .returned (.int .i64 0) ∧ Kept Nothing u w') := Lib.hid (fun u n hn k => by
          have := pe_class oB4 _ n hn u (HO3.out u k).1 (HO3.out u k).2
          rwa [cls_bad may_oB4] at this)
        clear HO3 HBX HKW HFV hB3 hk3 hA3
        have c0 : w3.cell? ⟨bB, 0, none⟩ = some (.int .u32 1) := HB3.out.cell 0
        have c1 : w3.cell? ⟨bB, 1, none⟩ = some (.int .u32 2) := HB3.out.cell 1
        have c2 : w3.cell? ⟨bB, 2, none⟩ = some (.slice (some ⟨g3, 0, none⟩) 2 2) := HB3.out.cell 2
        have c3 : w3.cell? ⟨bB, 3, none⟩ = some (.int .u32 5) := HB3.out.cell 3
        go_wp2_with fail
        refine (HM.out w3 (Kept.refl _ _)).mono ?_
        rintro e w4 ⟨rfl, hk4⟩
        have K4 := Lib.hid hk4
        have B4 := Lib.hid (HB3.out.kept hk4 (fun x => x))
        clear c0 c1 c2 c3 hk4 HM
        have c0 : w4.cell? ⟨bB, 0, none⟩ = some (.int .u32 1) := B4.out.cell 0
        have c1 : w4.cell? ⟨bB, 1, none⟩ = some (.int .u32 2) := B4.out.cell 1
        have c2 : w4.cell? ⟨bB, 2, none⟩ = some (.slice (some ⟨g3, 0, none⟩) 2 2) := B4.out.cell 2
        have c3 : w4.cell? ⟨bB, 3, none⟩ = some (.int .u32 5) := B4.out.cell 3
        go_wp2_with fail
        refine (HC.out w4 9 (by decide) K4.out).mono ?_
        rintro e w5 ⟨rfl, hk5⟩
        have K5 := Lib.hid (K4.out.trans hk5)
        have B5 := Lib.hid (B4.out.kept hk5 (fun x => x))
        clear c0 c1 c2 c3 hk5 B4 K4
        have c0 : w5.cell? ⟨bB, 0, none⟩ = some (.int .u32 1) := B5.out.cell 0
        have c1 : w5.cell? ⟨bB, 1, none⟩ = some (.int .u32 2) := B5.out.cell 1
        have c2 : w5.cell? ⟨bB, 2, none⟩ = some (.slice (some ⟨g3, 0, none⟩) 2 2) := B5.out.cell 2
        have c3 : w5.cell? ⟨bB, 3, none⟩ = some (.int .u32 5) := B5.out.cell 3
        go_wp2_with fail
        refine (HC.out w5 3 (by decide) K5.out).mono ?_
        rintro e w6 ⟨rfl, hk6⟩
        have K6 := Lib.hid (K5.out.trans hk6)
        clear c0 c1 c2 c3 hk6 B5 K5 HC
        go_wp2
        go_roundw
        case rel => exact ⟨4, by go_num, by omega, Lib.hid (HG3.out.old K6.out)⟩
        case measure => simp [intOf]
      · obtain rfl : fv = .func (.func 48) #[] #[] := HFV.out
        go_wp2_with fail
        refine (pk_5 bB (some ⟨gR, 0, none⟩) 2 2 w2 HBX.out).mono ?_
        rintro e w3 ⟨rfl, ⟨g3, hB3, hA3⟩, hk3⟩
        have HG3 := Lib.hid (HKW.out w3 hk3)
        have HB3 := Lib.hid hB3
        have HO3 : Hid (∀ u, Kept Nothing w3 u → PeO u (.slice (some ⟨g3, 0, none⟩) 1 1) oB5 ∧ Spans u) := Lib.hid (fun u k => ⟨⟨by decide, by decide, hA3.old k⟩, HG3.out.s.kept k⟩)
        have HM : Hid (∀ u, Kept Nothing w3 u → Calls Tryd.prog 24 #[.agg #[.int .u32 1, .int .u32 2, .slice (some ⟨g3, 0, none⟩) 1 1, .int .u32 5]] u fun e w' => e = .returned (.bool false) ∧ Kept Nothing u w') := Lib.hid (fun u k => by
          have := pe_may oB5 _ u (HO3.out u k).1 (HO3.out u k).2
          rwa [may_oB5] at this)
        have HC : Hid (∀ u (n : Nat), n < 4294967296 → Kept Nothing w3 u → Calls Tryd.prog 26 #[.agg #[.int .u32 1, .int .u32 2, .slice (some ⟨g3, 0, none⟩) 1 1, .int .u32 5], .int .u32 (n : Int)] u fun e w' => e = .returned (.int .i64 0) ∧ Kept Nothing u w') := Lib.hid (fun u n hn k => by
          have := pe_class oB5 _ n hn u (HO3.out u k).1 (HO3.out u k).2
          rwa [cls_bad may_oB5] at this)
        clear HO3 HBX HKW HFV hB3 hk3 hA3
        have c0 : w3.cell? ⟨bB, 0, none⟩ = some (.int .u32 1) := HB3.out.cell 0
        have c1 : w3.cell? ⟨bB, 1, none⟩ = some (.int .u32 2) := HB3.out.cell 1
        have c2 : w3.cell? ⟨bB, 2, none⟩ = some (.slice (some ⟨g3, 0, none⟩) 1 1) := HB3.out.cell 2
        have c3 : w3.cell? ⟨bB, 3, none⟩ = some (.int .u32 5) := HB3.out.cell 3
        go_wp2_with fail
        refine (HM.out w3 (Kept.refl _ _)).mono ?_
        rintro e w4 ⟨rfl, hk4⟩
        have K4 := Lib.hid hk4
        have B4 := Lib.hid (HB3.out.kept hk4 (fun x => x))
        clear c0 c1 c2 c3 hk4 HM
        have c0 : w4.cell? ⟨bB, 0, none⟩ = some (.int .u32 1) := B4.out.cell 0
        have c1 : w4.cell? ⟨bB, 1, none⟩ = some (.int .u32 2) := B4.out.cell 1
        have c2 : w4.cell? ⟨bB, 2, none⟩ = some (.slice (some ⟨g3, 0, none⟩) 1 1) := B4.out.cell 2
        have c3 : w4.cell? ⟨bB, 3, none⟩ = some (.int .u32 5) := B4.out.cell 3
        go_wp2_with fail
        refine (HC.out w4 9 (by decide) K4.out).mono ?_
        rintro e w5 ⟨rfl, hk5⟩
        have K5 := Lib.hid (K4.out.trans hk5)
        have B5 := Lib.hid (B4.out.kept hk5 (fun x => x))
        clear c0 c1 c2 c3 hk5 B4 K4
        have c0 : w5.cell? ⟨bB, 0, none⟩ = some (.int .u32 1) := B5.out.cell 0
        have c1 : w5.cell? ⟨bB, 1, none⟩ = some (.int .u32 2) := B5.out.cell 1
        have c2 : w5.cell? ⟨bB, 2, none⟩ = some (.slice (some ⟨g3, 0, none⟩) 1 1) := B5.out.cell 2
        have c3 : w5.cell? ⟨bB, 3, none⟩ = some (.int .u32 5) := B5.out.cell 3
        go_wp2_with fail
        refine (HC.out w5 3 (by decide) K5.out).mono ?_
        rintro e w6 ⟨rfl, hk6⟩
        have K6 := Lib.hid (K5.out.trans hk6)
        clear c0 c1 c2 c3 hk6 B5 K5 HC
        go_wp2
        go_roundw
        case rel => exact ⟨5, by go_num, by omega, Lib.hid (HG3.out.old K6.out)⟩
        case measure => simp [intOf]
      · obtain rfl : fv = .func (.func 49) #[] #[] := HFV.out
        go_wp2_with fail
        refine (pk_6 bB (some ⟨gR, 0, none⟩) 2 2 w2 HBX.out).mono ?_
        rintro e w3 ⟨rfl, ⟨g3, hB3, hA3⟩, hk3⟩
        have HG3 := Lib.hid (HKW.out w3 hk3)
        have HB3 := Lib.hid hB3
        have HO3 : Hid (∀ u, Kept Nothing w3 u → PeO u (.slice (some ⟨g3, 0, none⟩) 1 1) oB6 ∧ Spans u) := Lib.hid (fun u k => ⟨⟨by decide, by decide, hA3.old k⟩, HG3.out.s.kept k⟩)
        have HM : Hid (∀ u, Kept Nothing w3 u → Calls Tryd.prog 24 #[.agg #[.int .u32 1, .int .u32 2, .slice (some ⟨g3, 0, none⟩) 1 1, .int .u32 5]] u fun e w' => e = .returned (.bool false) ∧ Kept Nothing u w') := Lib.hid (fun u k => by
          have := pe_may oB6 _ u (HO3.out u k).1 (HO3.out u k).2
          rwa [may_oB6] at this)
        have HC : Hid (∀ u (n : Nat), n < 4294967296 → Kept Nothing w3 u → Calls Tryd.prog 26 #[.agg #[.int .u32 1, .int .u32 2, .slice (some ⟨g3, 0, none⟩) 1 1, .int .u32 5], .int .u32 (n : Int)] u fun e w' => e = .returned (.int .i64 0) ∧ Kept Nothing u w') := Lib.hid (fun u n hn k => by
          have := pe_class oB6 _ n hn u (HO3.out u k).1 (HO3.out u k).2
          rwa [cls_bad may_oB6] at this)
        clear HO3 HBX HKW HFV hB3 hk3 hA3
        have c0 : w3.cell? ⟨bB, 0, none⟩ = some (.int .u32 1) := HB3.out.cell 0
        have c1 : w3.cell? ⟨bB, 1, none⟩ = some (.int .u32 2) := HB3.out.cell 1
        have c2 : w3.cell? ⟨bB, 2, none⟩ = some (.slice (some ⟨g3, 0, none⟩) 1 1) := HB3.out.cell 2
        have c3 : w3.cell? ⟨bB, 3, none⟩ = some (.int .u32 5) := HB3.out.cell 3
        go_wp2_with fail
        refine (HM.out w3 (Kept.refl _ _)).mono ?_
        rintro e w4 ⟨rfl, hk4⟩
        have K4 := Lib.hid hk4
        have B4 := Lib.hid (HB3.out.kept hk4 (fun x => x))
        clear c0 c1 c2 c3 hk4 HM
        have c0 : w4.cell? ⟨bB, 0, none⟩ = some (.int .u32 1) := B4.out.cell 0
        have c1 : w4.cell? ⟨bB, 1, none⟩ = some (.int .u32 2) := B4.out.cell 1
        have c2 : w4.cell? ⟨bB, 2, none⟩ = some (.slice (some ⟨g3, 0, none⟩) 1 1) := B4.out.cell 2
        have c3 : w4.cell? ⟨bB, 3, none⟩ = some (.int .u32 5) := B4.out.cell 3
        go_wp2_with fail
        refine (HC.out w4 9 (by decide) K4.out).mono ?_
        rintro e w5 ⟨rfl, hk5⟩
        have K5 := Lib.hid (K4.out.trans hk5)
        have B5 := Lib.hid (B4.out.kept hk5 (fun x => x))
        clear c0 c1 c2 c3 hk5 B4 K4
        have c0 : w5.cell? ⟨bB, 0, none⟩ = some (.int .u32 1) := B5.out.cell 0
        have c1 : w5.cell? ⟨bB, 1, none⟩ = some (.int .u32 2) := B5.out.cell 1
        have c2 : w5.cell? ⟨bB, 2, none⟩ = some (.slice (some ⟨g3, 0, none⟩) 1 1) := B5.out.cell 2
        have c3 : w5.cell? ⟨bB, 3, none⟩ = some (.int .u32 5) := B5.out.cell 3
        go_wp2_with fail
        refine (HC.out w5 3 (by decide) K5.out).mono ?_
        rintro e w6 ⟨rfl, hk6⟩
        have K6 := Lib.hid (K5.out.trans hk6)
        clear c0 c1 c2 c3 hk6 B5 K5 HC
        go_wp2
        go_roundw
        case rel => exact ⟨6, by go_num, by omega, Lib.hid (HG3.out.old K6.out)⟩
        case measure => simp [intOf]
      · obtain rfl : fv = .func (.func 50) #[] #[] := HFV.out
        go_wp2_with fail
        refine (pk_7 bB (some ⟨gR, 0, none⟩) 2 2 w2 HBX.out).mono ?_
        rintro e w3 ⟨rfl, ⟨g3, hB3, hA3⟩, hk3⟩
        have HG3 := Lib.hid (HKW.out w3 hk3)
        have HB3 := Lib.hid hB3
        have HO3 : Hid (∀ u, Kept Nothing w3 u → PeO u (.slice (some ⟨g3, 0, none⟩) 1 1) oB7 ∧ Spans u) := Lib.hid (fun u k => ⟨⟨by decide, by decide, hA3.old k⟩, HG3.out.s.kept k⟩)
        have HM : Hid (∀ u, Kept Nothing w3 u → Calls Tryd.prog 24 #[.agg #[.int .u32 1, .int .u32 2, .slice (some ⟨g3, 0, none⟩) 1 1, .int .u32 5]] u fun e w' => e = .returned (.bool false) ∧ Kept Nothing u w') := Lib.hid (fun u k => by
          have := pe_may oB7 _ u (HO3.out u k).1 (HO3.out u k).2
          rwa [may_oB7] at this)
        have HC : Hid (∀ u (n : Nat), n < 4294967296 → Kept Nothing w3 u → Calls Tryd.prog 26 #[.agg #[.int .u32 1, .int .u32 2, .slice (some ⟨g3, 0, none⟩) 1 1, .int .u32 5], .int .u32 (n : Int)] u fun e w' => e = .returned (.int .i64 0) ∧ Kept Nothing u w') := Lib.hid (fun u n hn k => by
          have := pe_class oB7 _ n hn u (HO3.out u k).1 (HO3.out u k).2
          rwa [cls_bad may_oB7] at this)
        clear HO3 HBX HKW HFV hB3 hk3 hA3
        have c0 : w3.cell? ⟨bB, 0, none⟩ = some (.int .u32 1) := HB3.out.cell 0
        have c1 : w3.cell? ⟨bB, 1, none⟩ = some (.int .u32 2) := HB3.out.cell 1
        have c2 : w3.cell? ⟨bB, 2, none⟩ = some (.slice (some ⟨g3, 0, none⟩) 1 1) := HB3.out.cell 2
        have c3 : w3.cell? ⟨bB, 3, none⟩ = some (.int .u32 5) := HB3.out.cell 3
        go_wp2_with fail
        refine (HM.out w3 (Kept.refl _ _)).mono ?_
        rintro e w4 ⟨rfl, hk4⟩
        have K4 := Lib.hid hk4
        have B4 := Lib.hid (HB3.out.kept hk4 (fun x => x))
        clear c0 c1 c2 c3 hk4 HM
        have c0 : w4.cell? ⟨bB, 0, none⟩ = some (.int .u32 1) := B4.out.cell 0
        have c1 : w4.cell? ⟨bB, 1, none⟩ = some (.int .u32 2) := B4.out.cell 1
        have c2 : w4.cell? ⟨bB, 2, none⟩ = some (.slice (some ⟨g3, 0, none⟩) 1 1) := B4.out.cell 2
        have c3 : w4.cell? ⟨bB, 3, none⟩ = some (.int .u32 5) := B4.out.cell 3
        go_wp2_with fail
        refine (HC.out w4 9 (by decide) K4.out).mono ?_
        rintro e w5 ⟨rfl, hk5⟩
        have K5 := Lib.hid (K4.out.trans hk5)
        have B5 := Lib.hid (B4.out.kept hk5 (fun x => x))
        clear c0 c1 c2 c3 hk5 B4 K4
        have c0 : w5.cell? ⟨bB, 0, none⟩ = some (.int .u32 1) := B5.out.cell 0
        have c1 : w5.cell? ⟨bB, 1, none⟩ = some (.int .u32 2) := B5.out.cell 1
        have c2 : w5.cell? ⟨bB, 2, none⟩ = some (.slice (some ⟨g3, 0, none⟩) 1 1) := B5.out.cell 2
        have c3 : w5.cell? ⟨bB, 3, none⟩ = some (.int .u32 5) := B5.out.cell 3
        go_wp2_with fail
        refine (HC.out w5 3 (by decide) K5.out).mono ?_
        rintro e w6 ⟨rfl, hk6⟩
        have K6 := Lib.hid (K5.out.trans hk6)
        clear c0 c1 c2 c3 hk6 B5 K5 HC
        go_wp2
        go_roundw
        case rel => exact ⟨7, by go_num, by omega, Lib.hid (HG3.out.old K6.out)⟩
        case measure => simp [intOf]
      · obtain rfl : fv = .func (.func 51) #[] #[] := HFV.out
        go_wp2_with fail
        refine (pk_8 bB (some ⟨gR, 0, none⟩) 2 2 w2 HBX.out).mono ?_
        rintro e w3 ⟨rfl, hB3, hk3⟩
        have HG3 := Lib.hid (HKW.out w3 hk3)
        have HB3 := Lib.hid hB3
        have HO3 : Hid (∀ u, Kept Nothing w3 u → PeO u (.slice (some ⟨gR, 0, none⟩) 2 2) oB8 ∧ Spans u) := Lib.hid (fun u k => ⟨⟨by decide, by decide, HG3.out.r.old k⟩, HG3.out.s.kept k⟩)
        have HM : Hid (∀ u, Kept Nothing w3 u → Calls Tryd.prog 24 #[.agg #[.int .u32 1, .int .u32 1, .slice (some ⟨gR, 0, none⟩) 2 2, .int .u32 5]] u fun e w' => e = .returned (.bool false) ∧ Kept Nothing u w') := Lib.hid (fun u k => by
          have := pe_may oB8 _ u (HO3.out u k).1 (HO3.out u k).2
          rwa [may_oB8] at this)
        have HC : Hid (∀ u (n : Nat), n < 4294967296 → Kept Nothing w3 u → Calls Tryd.prog 26 #[.agg #[.int .u32 1, .int .u32 1, .slice (some ⟨gR, 0, none⟩) 2 2, .int .u32 5], .int .u32 (n : Int)] u fun e w' => e = .returned (.int .i64 0) ∧ Kept Nothing u w') := Lib.hid (fun u n hn k => by
          have := pe_class oB8 _ n hn u (HO3.out u k).1 (HO3.out u k).2
          rwa [cls_bad may_oB8] at this)
        clear HO3 HBX HKW HFV hB3 hk3
        have c0 : w3.cell? ⟨bB, 0, none⟩ = some (.int .u32 1) := HB3.out.cell 0
        have c1 : w3.cell? ⟨bB, 1, none⟩ = some (.int .u32 1) := HB3.out.cell 1
        have c2 : w3.cell? ⟨bB, 2, none⟩ = some (.slice (some ⟨gR, 0, none⟩) 2 2) := HB3.out.cell 2
        have c3 : w3.cell? ⟨bB, 3, none⟩ = some (.int .u32 5) := HB3.out.cell 3
        go_wp2_with fail
        refine (HM.out w3 (Kept.refl _ _)).mono ?_
        rintro e w4 ⟨rfl, hk4⟩
        have K4 := Lib.hid hk4
        have B4 := Lib.hid (HB3.out.kept hk4 (fun x => x))
        clear c0 c1 c2 c3 hk4 HM
        have c0 : w4.cell? ⟨bB, 0, none⟩ = some (.int .u32 1) := B4.out.cell 0
        have c1 : w4.cell? ⟨bB, 1, none⟩ = some (.int .u32 1) := B4.out.cell 1
        have c2 : w4.cell? ⟨bB, 2, none⟩ = some (.slice (some ⟨gR, 0, none⟩) 2 2) := B4.out.cell 2
        have c3 : w4.cell? ⟨bB, 3, none⟩ = some (.int .u32 5) := B4.out.cell 3
        go_wp2_with fail
        refine (HC.out w4 9 (by decide) K4.out).mono ?_
        rintro e w5 ⟨rfl, hk5⟩
        have K5 := Lib.hid (K4.out.trans hk5)
        have B5 := Lib.hid (B4.out.kept hk5 (fun x => x))
        clear c0 c1 c2 c3 hk5 B4 K4
        have c0 : w5.cell? ⟨bB, 0, none⟩ = some (.int .u32 1) := B5.out.cell 0
        have c1 : w5.cell? ⟨bB, 1, none⟩ = some (.int .u32 1) := B5.out.cell 1
        have c2 : w5.cell? ⟨bB, 2, none⟩ = some (.slice (some ⟨gR, 0, none⟩) 2 2) := B5.out.cell 2
        have c3 : w5.cell? ⟨bB, 3, none⟩ = some (.int .u32 5) := B5.out.cell 3
        go_wp2_with fail
        refine (HC.out w5 3 (by decide) K5.out).mono ?_
        rintro e w6 ⟨rfl, hk6⟩
        have K6 := Lib.hid (K5.out.trans hk6)
        clear c0 c1 c2 c3 hk6 B5 K5 HC
        go_wp2
        go_roundw
        case rel => exact ⟨8, by go_num, by omega, Lib.hid (HG3.out.old K6.out)⟩
        case measure => simp [intOf]
      · obtain rfl : fv = .func (.func 52) #[] #[] := HFV.out
        go_wp2_with fail
        refine (pk_9 bB (some ⟨gR, 0, none⟩) 2 2 w2 HBX.out).mono ?_
        rintro e w3 ⟨rfl, hB3, hk3⟩
        have HG3 := Lib.hid (HKW.out w3 hk3)
        have HB3 := Lib.hid hB3
        have HO3 : Hid (∀ u, Kept Nothing w3 u → PeO u (.slice (some ⟨gR, 0, none⟩) 2 2) oB9 ∧ Spans u) := Lib.hid (fun u k => ⟨⟨by decide, by decide, HG3.out.r.old k⟩, HG3.out.s.kept k⟩)
        have HM : Hid (∀ u, Kept Nothing w3 u → Calls Tryd.prog 24 #[.agg #[.int .u32 1, .int .u32 2, .slice (some ⟨gR, 0, none⟩) 2 2, .int .u32 0]] u fun e w' => e = .returned (.bool false) ∧ Kept Nothing u w') := Lib.hid (fun u k => by
          have := pe_may oB9 _ u (HO3.out u k).1 (HO3.out u k).2
          rwa [may_oB9] at this)
        have HC : Hid (∀ u (n : Nat), n < 4294967296 → Kept Nothing w3 u → Calls Tryd.prog 26 #[.agg #[.int .u32 1, .int .u32 2, .slice (some ⟨gR, 0, none⟩) 2 2, .int .u32 0], .int .u32 (n : Int)] u fun e w' => e = .returned (.int .i64 0) ∧ Kept Nothing u w') := Lib.hid (fun u n hn k => by
          have := pe_class oB9 _ n hn u (HO3.out u k).1 (HO3.out u k).2
          rwa [cls_bad may_oB9] at this)
        clear HO3 HBX HKW HFV hB3 hk3
        have c0 : w3.cell? ⟨bB, 0, none⟩ = some (.int .u32 1) := HB3.out.cell 0
        have c1 : w3.cell? ⟨bB, 1, none⟩ = some (.int .u32 2) := HB3.out.cell 1
        have c2 : w3.cell? ⟨bB, 2, none⟩ = some (.slice (some ⟨gR, 0, none⟩) 2 2) := HB3.out.cell 2
        have c3 : w3.cell? ⟨bB, 3, none⟩ = some (.int .u32 0) := HB3.out.cell 3
        go_wp2_with fail
        refine (HM.out w3 (Kept.refl _ _)).mono ?_
        rintro e w4 ⟨rfl, hk4⟩
        have K4 := Lib.hid hk4
        have B4 := Lib.hid (HB3.out.kept hk4 (fun x => x))
        clear c0 c1 c2 c3 hk4 HM
        have c0 : w4.cell? ⟨bB, 0, none⟩ = some (.int .u32 1) := B4.out.cell 0
        have c1 : w4.cell? ⟨bB, 1, none⟩ = some (.int .u32 2) := B4.out.cell 1
        have c2 : w4.cell? ⟨bB, 2, none⟩ = some (.slice (some ⟨gR, 0, none⟩) 2 2) := B4.out.cell 2
        have c3 : w4.cell? ⟨bB, 3, none⟩ = some (.int .u32 0) := B4.out.cell 3
        go_wp2_with fail
        refine (HC.out w4 9 (by decide) K4.out).mono ?_
        rintro e w5 ⟨rfl, hk5⟩
        have K5 := Lib.hid (K4.out.trans hk5)
        have B5 := Lib.hid (B4.out.kept hk5 (fun x => x))
        clear c0 c1 c2 c3 hk5 B4 K4
        have c0 : w5.cell? ⟨bB, 0, none⟩ = some (.int .u32 1) := B5.out.cell 0
        have c1 : w5.cell? ⟨bB, 1, none⟩ = some (.int .u32 2) := B5.out.cell 1
        have c2 : w5.cell? ⟨bB, 2, none⟩ = some (.slice (some ⟨gR, 0, none⟩) 2 2) := B5.out.cell 2
        have c3 : w5.cell? ⟨bB, 3, none⟩ = some (.int .u32 0) := B5.out.cell 3
        go_wp2_with fail
        refine (HC.out w5 3 (by decide) K5.out).mono ?_
        rintro e w6 ⟨rfl, hk6⟩
        have K6 := Lib.hid (K5.out.trans hk6)
        clear c0 c1 c2 c3 hk6 B5 K5 HC
        go_wp2
        go_roundw
        case rel => exact ⟨9, by go_num, by omega, Lib.hid (HG3.out.old K6.out)⟩
        case measure => simp [intOf]
      · obtain rfl : fv = .func (.func 53) #[] #[] := HFV.out
        go_wp2_with fail
        refine (pk_10 bB (some ⟨gR, 0, none⟩) 2 2 w2 HBX.out).mono ?_
        rintro e w3 ⟨rfl, hB3, hk3⟩
        have HG3 := Lib.hid (HKW.out w3 hk3)
        have HB3 := Lib.hid hB3
        have HO3 : Hid (∀ u, Kept Nothing w3 u → PeO u (.slice (some ⟨gR, 0, none⟩) 2 2) oB10 ∧ Spans u) := Lib.hid (fun u k => ⟨⟨by decide, by decide, HG3.out.r.old k⟩, HG3.out.s.kept k⟩)
        have HM : Hid (∀ u, Kept Nothing w3 u → Calls Tryd.prog 24 #[.agg #[.int .u32 1, .int .u32 2, .slice (some ⟨gR, 0, none⟩) 2 2, .int .u32 3758096384]] u fun e w' => e = .returned (.bool false) ∧ Kept Nothing u w') := Lib.hid (fun u k => by
          have := pe_may oB10 _ u (HO3.out u k).1 (HO3.out u k).2
          rwa [may_oB10] at this)
        have HC : Hid (∀ u (n : Nat), n < 4294967296 → Kept Nothing w3 u → Calls Tryd.prog 26 #[.agg #[.int .u32 1, .int .u32 2, .slice (some ⟨gR, 0, none⟩) 2 2, .int .u32 3758096384], .int .u32 (n : Int)] u fun e w' => e = .returned (.int .i64 0) ∧ Kept Nothing u w') := Lib.hid (fun u n hn k => by
          have := pe_class oB10 _ n hn u (HO3.out u k).1 (HO3.out u k).2
          rwa [cls_bad may_oB10] at this)
        clear HO3 HBX HKW HFV hB3 hk3
        have c0 : w3.cell? ⟨bB, 0, none⟩ = some (.int .u32 1) := HB3.out.cell 0
        have c1 : w3.cell? ⟨bB, 1, none⟩ = some (.int .u32 2) := HB3.out.cell 1
        have c2 : w3.cell? ⟨bB, 2, none⟩ = some (.slice (some ⟨gR, 0, none⟩) 2 2) := HB3.out.cell 2
        have c3 : w3.cell? ⟨bB, 3, none⟩ = some (.int .u32 3758096384) := HB3.out.cell 3
        go_wp2_with fail
        refine (HM.out w3 (Kept.refl _ _)).mono ?_
        rintro e w4 ⟨rfl, hk4⟩
        have K4 := Lib.hid hk4
        have B4 := Lib.hid (HB3.out.kept hk4 (fun x => x))
        clear c0 c1 c2 c3 hk4 HM
        have c0 : w4.cell? ⟨bB, 0, none⟩ = some (.int .u32 1) := B4.out.cell 0
        have c1 : w4.cell? ⟨bB, 1, none⟩ = some (.int .u32 2) := B4.out.cell 1
        have c2 : w4.cell? ⟨bB, 2, none⟩ = some (.slice (some ⟨gR, 0, none⟩) 2 2) := B4.out.cell 2
        have c3 : w4.cell? ⟨bB, 3, none⟩ = some (.int .u32 3758096384) := B4.out.cell 3
        go_wp2_with fail
        refine (HC.out w4 9 (by decide) K4.out).mono ?_
        rintro e w5 ⟨rfl, hk5⟩
        have K5 := Lib.hid (K4.out.trans hk5)
        have B5 := Lib.hid (B4.out.kept hk5 (fun x => x))
        clear c0 c1 c2 c3 hk5 B4 K4
        have c0 : w5.cell? ⟨bB, 0, none⟩ = some (.int .u32 1) := B5.out.cell 0
        have c1 : w5.cell? ⟨bB, 1, none⟩ = some (.int .u32 2) := B5.out.cell 1
        have c2 : w5.cell? ⟨bB, 2, none⟩ = some (.slice (some ⟨gR, 0, none⟩) 2 2) := B5.out.cell 2
        have c3 : w5.cell? ⟨bB, 3, none⟩ = some (.int .u32 3758096384) := B5.out.cell 3
        go_wp2_with fail
        refine (HC.out w5 3 (by decide) K5.out).mono ?_
        rintro e w6 ⟨rfl, hk6⟩
        have K6 := Lib.hid (K5.out.trans hk6)
        clear c0 c1 c2 c3 hk6 B5 K5 HC
        go_wp2
        go_roundw
        case rel => exact ⟨10, by go_num, by omega, Lib.hid (HG3.out.old K6.out)⟩
        case measure => simp [intOf]
      · obtain rfl : fv = .func (.func 54) #[] #[] := HFV.out
        go_wp2_with fail
        refine (pk_11 bB (some ⟨gR, 0, none⟩) 2 2 w2 HBX.out).mono ?_
        rintro e w3 ⟨rfl, ⟨g3, hB3, hA3⟩, hk3⟩
        have HG3 := Lib.hid (HKW.out w3 hk3)
        have HB3 := Lib.hid hB3
        have HO3 : Hid (∀ u, Kept Nothing w3 u → PeO u (.slice (some ⟨g3, 0, none⟩) 17 17) oB11 ∧ Spans u) := Lib.hid (fun u k => ⟨⟨by decide, by decide, hA3.old k⟩, HG3.out.s.kept k⟩)
        have HM : Hid (∀ u, Kept Nothing w3 u → Calls Tryd.prog 24 #[.agg #[.int .u32 1, .int .u32 2, .slice (some ⟨g3, 0, none⟩) 17 17, .int .u32 5]] u fun e w' => e = .returned (.bool false) ∧ Kept Nothing u w') := Lib.hid (fun u k => by
          have := pe_may oB11 _ u (HO3.out u k).1 (HO3.out u k).2
          rwa [may_oB11] at this)
        have HC : Hid (∀ u (n : Nat), n < 4294967296 → Kept Nothing w3 u → Calls Tryd.prog 26 #[.agg #[.int .u32 1, .int .u32 2, .slice (some ⟨g3, 0, none⟩) 17 17, .int .u32 5], .int .u32 (n : Int)] u fun e w' => e = .returned (.int .i64 0) ∧ Kept Nothing u w') := Lib.hid (fun u n hn k => by
          have := pe_class oB11 _ n hn u (HO3.out u k).1 (HO3.out u k).2
          rwa [cls_bad may_oB11] at this)
        clear HO3 HBX HKW HFV hB3 hk3 hA3
        have c0 : w3.cell? ⟨bB, 0, none⟩ = some (.int .u32 1) := HB3.out.cell 0
        have c1 : w3.cell? ⟨bB, 1, none⟩ = some (.int .u32 2) := HB3.out.cell 1
        have c2 : w3.cell? ⟨bB, 2, none⟩ = some (.slice (some ⟨g3, 0, none⟩) 17 17) := HB3.out.cell 2
        have c3 : w3.cell? ⟨bB, 3, none⟩ = some (.int .u32 5) := HB3.out.cell 3
        go_wp2_with fail
        refine (HM.out w3 (Kept.refl _ _)).mono ?_
        rintro e w4 ⟨rfl, hk4⟩
        have K4 := Lib.hid hk4
        have B4 := Lib.hid (HB3.out.kept hk4 (fun x => x))
        clear c0 c1 c2 c3 hk4 HM
        have c0 : w4.cell? ⟨bB, 0, none⟩ = some (.int .u32 1) := B4.out.cell 0
        have c1 : w4.cell? ⟨bB, 1, none⟩ = some (.int .u32 2) := B4.out.cell 1
        have c2 : w4.cell? ⟨bB, 2, none⟩ = some (.slice (some ⟨g3, 0, none⟩) 17 17) := B4.out.cell 2
        have c3 : w4.cell? ⟨bB, 3, none⟩ = some (.int .u32 5) := B4.out.cell 3
        go_wp2_with fail
        refine (HC.out w4 9 (by decide) K4.out).mono ?_
        rintro e w5 ⟨rfl, hk5⟩
        have K5 := Lib.hid (K4.out.trans hk5)
        have B5 := Lib.hid (B4.out.kept hk5 (fun x => x))
        clear c0 c1 c2 c3 hk5 B4 K4
        have c0 : w5.cell? ⟨bB, 0, none⟩ = some (.int .u32 1) := B5.out.cell 0
        have c1 : w5.cell? ⟨bB, 1, none⟩ = some (.int .u32 2) := B5.out.cell 1
        have c2 : w5.cell? ⟨bB, 2, none⟩ = some (.slice (some ⟨g3, 0, none⟩) 17 17) := B5.out.cell 2
        have c3 : w5.cell? ⟨bB, 3, none⟩ = some (.int .u32 5) := B5.out.cell 3
        go_wp2_with fail
        refine (HC.out w5 3 (by decide) K5.out).mono ?_
        rintro e w6 ⟨rfl, hk6⟩
        have K6 := Lib.hid (K5.out.trans hk6)
        clear c0 c1 c2 c3 hk6 B5 K5 HC
        go_wp2
        go_roundw
        case rel => exact ⟨11, by go_num, by omega, Lib.hid (HG3.out.old K6.out)⟩
        case measure => simp [intOf]
      · obtain rfl : fv = .func (.func 55) #[] #[] := HFV.out
        go_wp2_with fail
        refine (pk_12 bB (some ⟨gR, 0, none⟩) 2 2 w2 HBX.out).mono ?_
        rintro e w3 ⟨rfl, hB3, hk3⟩
        have HG3 := Lib.hid (HKW.out w3 hk3)
        have HB3 := Lib.hid hB3
        have HO3 : Hid (∀ u, Kept Nothing w3 u → PeO u (.slice (some ⟨gR, 0, none⟩) 2 2) oB12 ∧ Spans u) := Lib.hid (fun u k => ⟨⟨by decide, by decide, HG3.out.r.old k⟩, HG3.out.s.kept k⟩)
        have HM : Hid (∀ u, Kept Nothing w3 u → Calls Tryd.prog 24 #[.agg #[.int .u32 4294967295, .int .u32 2, .slice (some ⟨gR, 0, none⟩) 2 2, .int .u32 5]] u fun e w' => e = .returned (.bool false) ∧ Kept Nothing u w') := Lib.hid (fun u k => by
          have := pe_may oB12 _ u (HO3.out u k).1 (HO3.out u k).2
          rwa [may_oB12] at this)
        have HC : Hid (∀ u (n : Nat), n < 4294967296 → Kept Nothing w3 u → Calls Tryd.prog 26 #[.agg #[.int .u32 4294967295, .int .u32 2, .slice (some ⟨gR, 0, none⟩) 2 2, .int .u32 5], .int .u32 (n : Int)] u fun e w' => e = .returned (.int .i64 0) ∧ Kept Nothing u w') := Lib.hid (fun u n hn k => by
          have := pe_class oB12 _ n hn u (HO3.out u k).1 (HO3.out u k).2
          rwa [cls_bad may_oB12] at this)
        clear HO3 HBX HKW HFV hB3 hk3
        have c0 : w3.cell? ⟨bB, 0, none⟩ = some (.int .u32 4294967295) := HB3.out.cell 0
        have c1 : w3.cell? ⟨bB, 1, none⟩ = some (.int .u32 2) := HB3.out.cell 1
        have c2 : w3.cell? ⟨bB, 2, none⟩ = some (.slice (some ⟨gR, 0, none⟩) 2 2) := HB3.out.cell 2
        have c3 : w3.cell? ⟨bB, 3, none⟩ = some (.int .u32 5) := HB3.out.cell 3
        go_wp2_with fail
        refine (HM.out w3 (Kept.refl _ _)).mono ?_
        rintro e w4 ⟨rfl, hk4⟩
        have K4 := Lib.hid hk4
        have B4 := Lib.hid (HB3.out.kept hk4 (fun x => x))
        clear c0 c1 c2 c3 hk4 HM
        have c0 : w4.cell? ⟨bB, 0, none⟩ = some (.int .u32 4294967295) := B4.out.cell 0
        have c1 : w4.cell? ⟨bB, 1, none⟩ = some (.int .u32 2) := B4.out.cell 1
        have c2 : w4.cell? ⟨bB, 2, none⟩ = some (.slice (some ⟨gR, 0, none⟩) 2 2) := B4.out.cell 2
        have c3 : w4.cell? ⟨bB, 3, none⟩ = some (.int .u32 5) := B4.out.cell 3
        go_wp2_with fail
        refine (HC.out w4 9 (by decide) K4.out).mono ?_
        rintro e w5 ⟨rfl, hk5⟩
        have K5 := Lib.hid (K4.out.trans hk5)
        have B5 := Lib.hid (B4.out.kept hk5 (fun x => x))
        clear c0 c1 c2 c3 hk5 B4 K4
        have c0 : w5.cell? ⟨bB, 0, none⟩ = some (.int .u32 4294967295) := B5.out.cell 0
        have c1 : w5.cell? ⟨bB, 1, none⟩ = some (.int .u32 2) := B5.out.cell 1
        have c2 : w5.cell? ⟨bB, 2, none⟩ = some (.slice (some ⟨gR, 0, none⟩) 2 2) := B5.out.cell 2
        have c3 : w5.cell? ⟨bB, 3, none⟩ = some (.int .u32 5) := B5.out.cell 3
        go_wp2_with fail
        refine (HC.out w5 3 (by decide) K5.out).mono ?_
        rintro e w6 ⟨rfl, hk6⟩
        have K6 := Lib.hid (K5.out.trans hk6)
        clear c0 c1 c2 c3 hk6 B5 K5 HC
        go_wp2
        go_roundw
        case rel => exact ⟨12, by go_num, by omega, Lib.hid (HG3.out.old K6.out)⟩
        case measure => simp [intOf]
    · obtain rfl : k = 12 := by omega
      have kz := (Kept.refl Nothing wr).alloc (.cells #[.int .u32 7, .int .u32 7, .slice none 0 0, .int .u32 1] 49)
      have HG2 := Lib.hid (HG.out.old kz)
      have HL := Lib.hid (Blk.fresh wr 49 #[.int .u32 7, .int .u32 7, .slice none 0 0, .int .u32 1])
      clear kz HG
      go_upto_region 11 with fail
      change Code.wp _ _ _ _ (wr.alloc (.cells #[.int .u32 7, .int .u32 7, .slice none 0 0, .int .u32 1] 49))
      generalize wr.alloc (.cells #[.int .u32 7, .int .u32 7, .slice none 0 0, .int .u32 1] 49) = w2 at *
      generalize wr.heap.size = gL at *
      have k3 := (Kept.refl Nothing w2).alloc (.cells #[.int .u8 0, .int .u8 1, .int .u8 0, .int .u8 2] 5)
      have b3 := Blk.fresh w2 5 #[.int .u8 0, .int .u8 1, .int .u8 0, .int .u8 2]
      have k4 := (Kept.refl Nothing (w2.alloc (.cells #[.int .u8 0, .int .u8 1, .int .u8 0, .int .u8 2] 5))).alloc (.cells #[.int .u8 65, .slice (some ⟨w2.heap.size, 0, none⟩) 4 4] 62)
      have b4 := Blk.fresh (w2.alloc (.cells #[.int .u8 0, .int .u8 1, .int .u8 0, .int .u8 2] 5)) 62 #[.int .u8 65, .slice (some ⟨w2.heap.size, 0, none⟩) 4 4]
      rw [World.size_alloc] at b4
      have hcp := Cps.of_blk (l := [(65, [0, 1, 0, 2])]) b4 ⟨rfl, (four_bytes _ _ _ b3).by.old k4, trivial⟩ (by simp [maxLen])
      have HAG : Hid (Calls Tryd.prog 34 #[.int .i64 90, .int .i64 30, .int .u16 23456, .slice (some ⟨w2.heap.size + 1, 0, none⟩) 1 1] ((w2.alloc (.cells #[.int .u8 0, .int .u8 1, .int .u8 0, .int .u8 2] 5)).alloc (.cells #[.int .u8 65, .slice (some ⟨w2.heap.size, 0, none⟩) 4 4] 62)) fun e w' => e = .returned (.agg #[.int .i64 30, .int .i64 10, .bool true, .bool false, .int .u32 65538]) ∧ Kept Nothing ((w2.alloc (.cells #[.int .u8 0, .int .u8 1, .int .u8 0, .int .u8 2] 5)).alloc (.cells #[.int .u8 65, .slice (some ⟨w2.heap.size, 0, none⟩) 4 4] 62)) w') := Lib.hid (pe_agree 90 30 (by decide) (by decide) 23456 (by decide) _ [(65, [0, 1, 0, 2])] (by decide) _ hcp)
      have HG4 := Lib.hid (HG2.out.old (k3.trans k4))
      have HL4 := Lib.hid (HL.out.kept (k3.trans k4) (fun x => x))
      clear k3 k4 b3 b4 hcp HG2 HL
      go_wp2_with fail
      refine (HAG.out).mono ?_
      rintro e w5 ⟨rfl, hk5⟩
      have HG5 := Lib.hid (HG4.out.old hk5)
      have HL5 := Lib.hid (HL4.out.kept hk5 (fun x => x))
      clear hk5 HAG HG4 HL4
      have kz := (Kept.refl Nothing w5).alloc (.cells #[.int .i64 30, .int .i64 10, .bool true, .bool false, .int .u32 65538] 79)
      have HG6 := Lib.hid (HG5.out.old kz)
      have HL6 := Lib.hid (HL5.out.kept kz (fun x => x))
      have HA6 := Lib.hid (Blk.fresh w5 79 #[.int .i64 30, .int .i64 10, .bool true, .bool false, .int .u32 65538])
      clear kz HG5 HL5
      go_upto_region 12 with fail
      change Code.wp _ _ _ _ (w5.alloc (.cells #[.int .i64 30, .int .i64 10, .bool true, .bool false, .int .u32 65538] 79))
      generalize w5.alloc (.cells #[.int .i64 30, .int .i64 10, .bool true, .bool false, .int .u32 65538] 79) = v0 at *
      generalize w5.heap.size = gA at *
      have HOG : Hid (∀ u, Kept Nothing v0 u → PeO u (.slice (some ⟨gR, 0, none⟩) 2 2) oG ∧ Spans u ∧ RdC u ∧ RdN u) := Lib.hid (fun u k => ⟨⟨by decide, by decide, HG6.out.r.old k⟩, HG6.out.s.kept k, HG6.out.i.kept k, HG6.out.n.old k⟩)
      have HOL : Hid (∀ u, Kept Nothing v0 u → PeO u (.slice none 0 0) oL ∧ Spans u) := Lib.hid (fun u k => ⟨⟨by decide, by decide, As.nil u⟩, HG6.out.s.kept k⟩)
      have M1 : Hid (∀ u, Kept Nothing v0 u → Calls Tryd.prog 24 #[.agg #[.int .u32 1, .int .u32 2, .slice (some ⟨gR, 0, none⟩) 2 2, .int .u32 5]] u fun e w' => e = .returned (.bool true) ∧ Kept Nothing u w') := Lib.hid (fun u k => pe_may oG _ u (HOG.out u k).1 (HOG.out u k).2.1)
      have M2 : Hid (∀ u, Kept Nothing v0 u → Calls Tryd.prog 24 #[.agg #[.int .u32 7, .int .u32 7, .slice none 0 0, .int .u32 1]] u fun e w' => e = .returned (.bool true) ∧ Kept Nothing u w') := Lib.hid (fun u k => pe_may oL _ u (HOL.out u k).1 (HOL.out u k).2)
      have C1 : Hid (∀ u, Kept Nothing v0 u → Calls Tryd.prog 26 #[.agg #[.int .u32 1, .int .u32 2, .slice (some ⟨gR, 0, none⟩) 2 2, .int .u32 5], .int .u32 70000] u fun e w' => e = .returned (.int .i64 2) ∧ Kept Nothing u w') := Lib.hid (fun u k => pe_class oG _ 70000 (by decide) u (HOG.out u k).1 (HOG.out u k).2.1)
      have C2 : Hid (∀ u, Kept Nothing v0 u → Calls Tryd.prog 26 #[.agg #[.int .u32 7, .int .u32 7, .slice none 0 0, .int .u32 1], .int .u32 7] u fun e w' => e = .returned (.int .i64 1) ∧ Kept Nothing u w') := Lib.hid (fun u k => pe_class oL _ 7 (by decide) u (HOL.out u k).1 (HOL.out u k).2)
      have C3 : Hid (∀ u, Kept Nothing v0 u → Calls Tryd.prog 26 #[.agg #[.int .u32 7, .int .u32 7, .slice none 0 0, .int .u32 1], .int .u32 8] u fun e w' => e = .returned (.int .i64 3) ∧ Kept Nothing u w') := Lib.hid (fun u k => pe_class oL _ 8 (by decide) u (HOL.out u k).1 (HOL.out u k).2)
      have T1 : Hid (∀ u, Calls Tryd.prog 28 #[.agg #[.int .u32 1, .int .u32 2, .slice (some ⟨gR, 0, none⟩) 2 2, .int .u32 5], .int .i64 0] u fun e w' => e = .returned (.int .u32 0) ∧ Kept Nothing u w') := Lib.hid (fun u => pe_tells oG (.slice (some ⟨gR, 0, none⟩) 2 2) ⟨_, _, _, rfl⟩ 0 u)
      have T2 : Hid (∀ u, Calls Tryd.prog 28 #[.agg #[.int .u32 1, .int .u32 2, .slice (some ⟨gR, 0, none⟩) 2 2, .int .u32 5], .int .i64 4] u fun e w' => e = .returned (.int .u32 0) ∧ Kept Nothing u w') := Lib.hid (fun u => pe_tells oG (.slice (some ⟨gR, 0, none⟩) 2 2) ⟨_, _, _, rfl⟩ 4 u)
      have P1 : Hid (∀ u, Kept Nothing v0 u → Calls Tryd.prog 20 #[.agg #[.int .u32 1, .int .u32 2, .slice (some ⟨gR, 0, none⟩) 2 2, .int .u32 5], .int .i64 0] u fun e w' => ∃ A c, e = .returned (.slice A 0 c) ∧ Kept Nothing u w') := Lib.hid (fun u k => (pe_caps oG _ 0 u (HOG.out u k).1 (HOG.out u k).2.2.1).mono fun e w' ⟨rv, h1, h2, h3⟩ => by
        obtain ⟨A, c, rfl, -, -⟩ := h2.form
        exact ⟨A, c, h1, h3⟩)
      have D1 : Hid (∀ u, Kept Nothing v0 u → Calls Tryd.prog 22 #[.int .u32 0] u fun e w' => e = .returned (.bool false) ∧ Kept Nothing u w') := Lib.hid (fun u k => pe_told 0 (by decide) u (HOG.out u k).2.1)
      have D2 : Hid (∀ u, Kept Nothing v0 u → Calls Tryd.prog 22 #[.int .u32 65536] u fun e w' => e = .returned (.bool true) ∧ Kept Nothing u w') := Lib.hid (fun u k => pe_told 65536 (by decide) u (HOG.out u k).2.1)
      have X1 : Hid (∀ u, Kept Nothing v0 u → RdN u) := Lib.hid (fun u k => (HOG.out u k).2.2.2)
      have WK : Hid (∀ u, Kept Nothing v0 u → Calls Tryd.prog 33 #[] u fun e w' => e = .returned (.bool true) ∧ Kept Nothing u w') := Lib.hid (fun u k => pe_wakes u (HOG.out u k).2.1)
      have KV := Lib.hid HG6.out.k
      have HGb := Lib.hid HG6.out.b
      clear HOG HOL HG6
      simp only [List.append_eq, List.cons_append, List.nil_append]
      have K0 := Lib.hid (Kept.refl Nothing v0)
      have c0 : v0.cell? ⟨gB, 0, none⟩ = some (.int .u32 1) := (HGb.out.kept K0.out (fun x => x)).cell 0
      have c1 : v0.cell? ⟨gB, 1, none⟩ = some (.int .u32 2) := (HGb.out.kept K0.out (fun x => x)).cell 1
      have c2 : v0.cell? ⟨gB, 2, none⟩ = some (.slice (some ⟨gR, 0, none⟩) 2 2) := (HGb.out.kept K0.out (fun x => x)).cell 2
      have c3 : v0.cell? ⟨gB, 3, none⟩ = some (.int .u32 5) := (HGb.out.kept K0.out (fun x => x)).cell 3
      go_wp2_with fail
      refine (M1.out v0 K0.out).mono ?_
      rintro e v1 ⟨rfl, hk0⟩
      have K1 := Lib.hid (K0.out.trans hk0)
      clear c0 c1 c2 c3 hk0
      have c0 : v1.cell? ⟨gB, 0, none⟩ = some (.int .u32 1) := (HGb.out.kept K1.out (fun x => x)).cell 0
      have c1 : v1.cell? ⟨gB, 1, none⟩ = some (.int .u32 2) := (HGb.out.kept K1.out (fun x => x)).cell 1
      have c2 : v1.cell? ⟨gB, 2, none⟩ = some (.slice (some ⟨gR, 0, none⟩) 2 2) := (HGb.out.kept K1.out (fun x => x)).cell 2
      have c3 : v1.cell? ⟨gB, 3, none⟩ = some (.int .u32 5) := (HGb.out.kept K1.out (fun x => x)).cell 3
      go_wp2_with fail
      refine (C1.out v1 K1.out).mono ?_
      rintro e v2 ⟨rfl, hk1⟩
      have K2 := Lib.hid (K1.out.trans hk1)
      clear c0 c1 c2 c3 hk1
      have c0 : v2.cell? ⟨gL, 0, none⟩ = some (.int .u32 7) := (HL6.out.kept K2.out (fun x => x)).cell 0
      have c1 : v2.cell? ⟨gL, 1, none⟩ = some (.int .u32 7) := (HL6.out.kept K2.out (fun x => x)).cell 1
      have c2 : v2.cell? ⟨gL, 2, none⟩ = some (.slice none 0 0) := (HL6.out.kept K2.out (fun x => x)).cell 2
      have c3 : v2.cell? ⟨gL, 3, none⟩ = some (.int .u32 1) := (HL6.out.kept K2.out (fun x => x)).cell 3
      go_wp2_with fail
      refine (M2.out v2 K2.out).mono ?_
      rintro e v3 ⟨rfl, hk2⟩
      have K3 := Lib.hid (K2.out.trans hk2)
      clear c0 c1 c2 c3 hk2
      have c0 : v3.cell? ⟨gL, 0, none⟩ = some (.int .u32 7) := (HL6.out.kept K3.out (fun x => x)).cell 0
      have c1 : v3.cell? ⟨gL, 1, none⟩ = some (.int .u32 7) := (HL6.out.kept K3.out (fun x => x)).cell 1
      have c2 : v3.cell? ⟨gL, 2, none⟩ = some (.slice none 0 0) := (HL6.out.kept K3.out (fun x => x)).cell 2
      have c3 : v3.cell? ⟨gL, 3, none⟩ = some (.int .u32 1) := (HL6.out.kept K3.out (fun x => x)).cell 3
      go_wp2_with fail
      refine (C2.out v3 K3.out).mono ?_
      rintro e v4 ⟨rfl, hk3⟩
      have K4 := Lib.hid (K3.out.trans hk3)
      clear c0 c1 c2 c3 hk3
      have c0 : v4.cell? ⟨gL, 0, none⟩ = some (.int .u32 7) := (HL6.out.kept K4.out (fun x => x)).cell 0
      have c1 : v4.cell? ⟨gL, 1, none⟩ = some (.int .u32 7) := (HL6.out.kept K4.out (fun x => x)).cell 1
      have c2 : v4.cell? ⟨gL, 2, none⟩ = some (.slice none 0 0) := (HL6.out.kept K4.out (fun x => x)).cell 2
      have c3 : v4.cell? ⟨gL, 3, none⟩ = some (.int .u32 1) := (HL6.out.kept K4.out (fun x => x)).cell 3
      go_wp2_with fail
      refine (C3.out v4 K4.out).mono ?_
      rintro e v5 ⟨rfl, hk4⟩
      have K5 := Lib.hid (K4.out.trans hk4)
      clear c0 c1 c2 c3 hk4
      have c0 : v5.cell? ⟨gB, 0, none⟩ = some (.int .u32 1) := (HGb.out.kept K5.out (fun x => x)).cell 0
      have c1 : v5.cell? ⟨gB, 1, none⟩ = some (.int .u32 2) := (HGb.out.kept K5.out (fun x => x)).cell 1
      have c2 : v5.cell? ⟨gB, 2, none⟩ = some (.slice (some ⟨gR, 0, none⟩) 2 2) := (HGb.out.kept K5.out (fun x => x)).cell 2
      have c3 : v5.cell? ⟨gB, 3, none⟩ = some (.int .u32 5) := (HGb.out.kept K5.out (fun x => x)).cell 3
      go_wp2_with fail
      refine (T1.out v5).mono ?_
      rintro e v6 ⟨rfl, hk5⟩
      have K6 := Lib.hid (K5.out.trans hk5)
      clear c0 c1 c2 c3 hk5
      have c0 : v6.cell? ⟨gB, 0, none⟩ = some (.int .u32 1) := (HGb.out.kept K6.out (fun x => x)).cell 0
      have c1 : v6.cell? ⟨gB, 1, none⟩ = some (.int .u32 2) := (HGb.out.kept K6.out (fun x => x)).cell 1
      have c2 : v6.cell? ⟨gB, 2, none⟩ = some (.slice (some ⟨gR, 0, none⟩) 2 2) := (HGb.out.kept K6.out (fun x => x)).cell 2
      have c3 : v6.cell? ⟨gB, 3, none⟩ = some (.int .u32 5) := (HGb.out.kept K6.out (fun x => x)).cell 3
      go_wp2_with fail
      refine (T2.out v6).mono ?_
      rintro e v7 ⟨rfl, hk6⟩
      have K7 := Lib.hid (K6.out.trans hk6)
      clear c0 c1 c2 c3 hk6
      have c0 : v7.cell? ⟨gB, 0, none⟩ = some (.int .u32 1) := (HGb.out.kept K7.out (fun x => x)).cell 0
      have c1 : v7.cell? ⟨gB, 1, none⟩ = some (.int .u32 2) := (HGb.out.kept K7.out (fun x => x)).cell 1
      have c2 : v7.cell? ⟨gB, 2, none⟩ = some (.slice (some ⟨gR, 0, none⟩) 2 2) := (HGb.out.kept K7.out (fun x => x)).cell 2
      have c3 : v7.cell? ⟨gB, 3, none⟩ = some (.int .u32 5) := (HGb.out.kept K7.out (fun x => x)).cell 3
      go_wp2_with fail
      refine (P1.out v7 K7.out).mono ?_
      rintro e v8 ⟨A8, c8, rfl, hk7⟩
      have K8 := Lib.hid (K7.out.trans hk7)
      clear c0 c1 c2 c3 hk7
      have c0 : v8.cell? ⟨gA, 0, none⟩ = some (.int .i64 30) := (HA6.out.kept K8.out (fun x => x)).cell 0
      have c1 : v8.cell? ⟨gA, 1, none⟩ = some (.int .i64 10) := (HA6.out.kept K8.out (fun x => x)).cell 1
      have c2 : v8.cell? ⟨gA, 2, none⟩ = some (.bool true) := (HA6.out.kept K8.out (fun x => x)).cell 2
      have c3 : v8.cell? ⟨gA, 3, none⟩ = some (.bool false) := (HA6.out.kept K8.out (fun x => x)).cell 3
      have c4 : v8.cell? ⟨gA, 4, none⟩ = some (.int .u32 65538) := (HA6.out.kept K8.out (fun x => x)).cell 4
      go_wp2_with fail
      refine (pe_text2 v8 (X1.out v8 K8.out)).mono ?_
      rintro e _ ⟨rfl, rfl⟩
      have K9 := Lib.hid K8.out
      clear c0 c1 c2 c3 c4
      go_wp2_with fail
      refine (pe_text0 4 (.inl rfl) v8).mono ?_
      rintro e _ ⟨rfl, rfl⟩
      have K10 := Lib.hid K9.out
      go_wp2_with fail
      refine (pe_text0 (-1) (.inr rfl) v8).mono ?_
      rintro e _ ⟨rfl, rfl⟩
      have K11 := Lib.hid K10.out
      go_wp2_with fail
      refine (D1.out v8 K11.out).mono ?_
      rintro e v12 ⟨rfl, hk11⟩
      have K12 := Lib.hid (K11.out.trans hk11)
      clear  hk11
      go_wp2_with fail
      refine (D2.out v12 K12.out).mono ?_
      rintro e v13 ⟨rfl, hk12⟩
      have K13 := Lib.hid (K12.out.trans hk12)
      clear  hk12
      go_wp2_with fail
      refine (WK.out v13 K13.out).mono ?_
      rintro e v14 ⟨rfl, hk13⟩
      have K14 := Lib.hid (K13.out.trans hk13)
      clear  hk13
      go_wp2
      go_ret
      exact ⟨rfl, KV.out.trans K14.out⟩
end Go.Proofs.YtembdobkgpojfaaDoor
