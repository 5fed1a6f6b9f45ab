
/-
  The document's examples of chapter 5 (wakes).
-/
import Derived.Test.YtknmpadfklckkaaDoorCf
namespace Go.Proofs.YtknmpadfklckkaaDoor
open Go.RowKit

theorem made_by {w : World} {cs : Array Value} {l : List UInt8} {n : Nat} (hn : w.heap.size = n) (hl : cs.toList = bys l) (hm : l.length ≤ maxLen) : By (w.alloc (.cells cs 5)) (.slice (some ⟨n, 0, none⟩) l.length l.length) l := by
  subst hn
  exact (Bs.made (Blk.fresh w 5 cs) hl hm).by
theorem made_blk {w : World} {cs : Array Value} {t : TypeId} {n : Nat} (hn : w.heap.size = n) : Blk (w.alloc (.cells cs t)) n t cs := by
  subst hn
  exact Blk.fresh w t cs

theorem ex1 : Cp.out [] [2, 2, 2, 0] = ([(2, [])], 0, 0) := by simp [Cp.out, Cp.inn]
theorem ex2 : Cp.out [] [2, 6, 65, 4, 0, 1, 0, 0] = ([(65, [0, 1, 0, 0])], 0, 0) := by simp [Cp.out, Cp.inn]
theorem ex3 : Cp.out [] [1, 0] = ([], 2, 4) := by simp [Cp.out, Cp.bad]
theorem ex4 : Cp.out [] [2, 2, 2] = ([], 2, 0) := by simp [Cp.out, Cp.bad]
theorem ex5 : Cp.out [] [2, 1, 2] = ([], 2, 0) := by simp [Cp.out, Cp.inn, Cp.bad]

/-- Read of a closed row. -/
theorem read_at (v : Value) (b : List UInt8) (R : Cp.Res) (h : Cp.out [] b = R) (w : World) (hv : By w v b) (hb : b.length ≤ 100000) :
    Calls Tryd.prog 21 #[v] w fun e w' => ∃ A c, e = .returned (.tuple #[.slice A R.1.length c, .agg #[.int .u8 (R.2.1 : Nat), .int .u8 (R.2.2 : Nat)]]) ∧ Cps w' (.slice A R.1.length c) R.1 ∧ Kept Nothing w w' := by
  subst h
  refine (cp_read v b w hv hb).mono fun e w' ⟨rv, he, hp, hk⟩ => ?_
  obtain ⟨A, c, rfl, _, _⟩ := hp.form
  exact ⟨A, c, he, hp, hk⟩

theorem number_at (v : Value) (l : List Cp) (n : Nat) (is : Bool) (h : Cp.number l = (n, is)) (w : World) (hv : Cps w v l) (hl : l.length ≤ 1000000) :
    Calls Tryd.prog 10 #[v] w fun e w' => e = .returned (.tuple #[.int .u32 (n : Nat), .bool is]) ∧ Kept Nothing w w' := by
  have := cp_number v l w hv hl
  rwa [h] at this
theorem refreshes_at (v : Value) (l : List Cp) (is : Bool) (h : Cp.refreshes l = is) (w : World) (hv : Cps w v l) (hl : l.length ≤ 1000000) :
    Calls Tryd.prog 13 #[v] w fun e w' => e = .returned (.bool is) ∧ Kept Nothing w w' := by
  have := cp_refreshes v l w hv hl
  rwa [h] at this
theorem cells2 {w : World} {p : Nat} {t : TypeId} {a b : Value} (h : Blk w p t #[a, b]) : w.cell? ⟨p, 0, none⟩ = some a ∧ w.cell? ⟨p, 1, none⟩ = some b := ⟨h.cell 0, h.cell 1⟩

set_option maxRecDepth 20000 in
set_option maxHeartbeats 2000000 in
theorem cp_wakes (w : World) :
    Calls Tryd.prog 20 #[] w fun r w' => r = .returned (.bool true) ∧ Kept Nothing w w' := by
  go_enter Tryd.func20, Tryd.ntmps20
  go_wp2_with fail
  refine (read_at _ [2, 2, 2, 0] _ ex1 _ (made_by rfl rfl (by decide)) (by decide)).mono ?_
  rintro e w1 ⟨A1, c1, rfl, hp, hk⟩
  have K1 := Lib.hid (((Kept.refl Nothing w).alloc _).trans hk)
  have P1 := Lib.hid hp
  clear hp hk
  go_wp2_with fail
  refine (read_at _ [2, 6, 65, 4, 0, 1, 0, 0] _ ex2 _ (made_by (by simp) rfl (by decide)) (by decide)).mono ?_
  rintro e w2 ⟨A2, c2, rfl, hp, hk⟩
  have k2 := (((Kept.refl Nothing w1).alloc _).alloc _).trans hk
  have K2 := Lib.hid (K1.out.trans k2)
  have P1' := Lib.hid (P1.out.old k2)
  have E1 := Lib.hid (((Blk.fresh w1 48 #[.int .u8 0, .int .u8 0]).alloc _).kept hk (fun x => x))
  have P2 := Lib.hid hp
  clear hp hk k2 P1 K1
  go_wp2_with fail
  refine (number_at (.slice A2 1 c2) [(65, [0, 1, 0, 0])] 65536 true (by decide) _ (P2.out.old ((Kept.refl Nothing w2).alloc _)) (by decide)).mono ?_
  rintro e w3 ⟨rfl, hk⟩
  have k3 := ((Kept.refl Nothing w2).alloc _).trans hk
  have K3 := Lib.hid (K2.out.trans k3)
  have P3 := Lib.hid (P1'.out.old k3)
  have E1' := Lib.hid (E1.out.kept k3 (fun x => x))
  have E2 := Lib.hid ((Blk.fresh w2 48 #[.int .u8 0, .int .u8 0]).kept hk (fun x => x))
  clear hk k3 K2 P1' P2 E1
  go_wp2_with fail
  refine (read_at _ [1, 0] _ ex3 _ (made_by (by simp) rfl (by decide)) (by decide)).mono ?_
  rintro e w4 ⟨A3, c3, rfl, hp, hk⟩
  have k4 := ((Kept.refl Nothing w3).alloc _).trans hk
  have K4 := Lib.hid (K3.out.trans k4)
  have P4 := Lib.hid (P3.out.old k4)
  have F1 := Lib.hid (E1'.out.kept k4 (fun x => x))
  have F2 := Lib.hid (E2.out.kept k4 (fun x => x))
  clear hp hk k4 K3 P3 E1' E2
  go_wp2_with fail
  refine (read_at _ [2, 2, 2] _ ex4 _ (made_by (by simp) rfl (by decide)) (by decide)).mono ?_
  rintro e w5 ⟨A4, c4, rfl, hp, hk⟩
  have k5 := (((Kept.refl Nothing w4).alloc _).alloc _).trans hk
  have K5 := Lib.hid (K4.out.trans k5)
  have P5 := Lib.hid (P4.out.old k5)
  have G1 := Lib.hid (F1.out.kept k5 (fun x => x))
  have G2 := Lib.hid (F2.out.kept k5 (fun x => x))
  have G3 := Lib.hid (((Blk.fresh w4 48 #[.int .u8 2, .int .u8 4]).alloc _).kept hk (fun x => x))
  clear hp hk k5 K4 P4 F1 F2
  go_wp2_with fail
  refine (read_at _ [2, 1, 2] _ ex5 _ (made_by (by simp) rfl (by decide)) (by decide)).mono ?_
  rintro e w6 ⟨A5, c5, rfl, hp, hk⟩
  have k6 := (((Kept.refl Nothing w5).alloc _).alloc _).trans hk
  have K6 := Lib.hid (K5.out.trans k6)
  have P6 := Lib.hid (P5.out.old k6)
  have H1 := G1.out.kept k6 (fun x => x)
  have H2 := G2.out.kept k6 (fun x => x)
  have H3 := G3.out.kept k6 (fun x => x)
  have H4 := ((Blk.fresh w5 48 #[.int .u8 2, .int .u8 0]).alloc _).kept hk (fun x => x)
  clear hp hk k6 K5 P5 G1 G2 G3
  have kk := (Kept.refl Nothing w6).alloc (.cells #[.int .u8 2, .int .u8 0] 48)
  have L1 := H1.kept kk (fun x => x)
  have L2 := H2.kept kk (fun x => x)
  have L3 := H3.kept kk (fun x => x)
  have L4 := H4.kept kk (fun x => x)
  have R6 := Lib.hid (fun w h => refreshes_at (.slice A1 1 c1) [(2, [])] true (by decide) w h (by decide))
  have P7 := Lib.hid (P6.out.old kk)
  have K7 := Lib.hid (K6.out.trans kk)
  obtain ⟨x1, x2⟩ := cells2 L1
  obtain ⟨y1, y2⟩ := cells2 L2
  obtain ⟨z1, z2⟩ := cells2 L3
  obtain ⟨u1, u2⟩ := cells2 L4
  have M3 := Lib.hid (L3)
  have M4 := Lib.hid (L4)
  have M2 := Lib.hid (L2)
  clear L1 L2 L3 L4 H1 H2 H3 H4 kk K6 P6
  go_wp2_with (go_at_call 13; refine (R6.out _ P7.out).mono ?_; rintro e w8 ⟨rfl, hk8⟩; obtain ⟨y1', y2'⟩ := cells2 (M2.out.kept hk8 (fun x => x)); obtain ⟨z1', z2'⟩ := cells2 (M3.out.kept hk8 (fun x => x)); obtain ⟨u1', u2'⟩ := cells2 (M4.out.kept hk8 (fun x => x)); obtain ⟨v1', v2'⟩ := cells2 ((Blk.fresh w6 48 #[.int .u8 2, .int .u8 0]).kept hk8 (fun x => x)); have HK8 := Lib.hid hk8; clear hk8)
  go_ret
  exact ⟨rfl, K7.out.trans HK8.out⟩
end Go.Proofs.YtknmpadfklckkaaDoor
