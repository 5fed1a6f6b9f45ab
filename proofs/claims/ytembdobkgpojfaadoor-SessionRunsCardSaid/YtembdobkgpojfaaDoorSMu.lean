
/-
  session: the law's tells; rows of events in memory.
-/
import Derived.Test.YtembdobkgpojfaaDoorSMt
import Derived.LoopTactic
namespace Go.Proofs.YtembdobkgpojfaaDoor
open Go.RowKit

/-- Do of an event without data, its answer written out. -/
theorem se_do0 (m : Sm.M) (hm : Sm.Ok m) (kd ho : Int) (x c s : Nat) (r : Sm.M × List Sm.Act) (hr : Sm.step m ⟨kd, x, ho, c, s⟩ = r) (w : World) (hR : RdS w) :
    Calls Tryd.prog 10 #[.agg #[.int .i64 m.state, .int .i64 m.hold], .agg #[.int .i64 kd, .int .u8 x, .int .i64 ho, .int .u8 c, .int .u8 s, .slice none 0 0]] w fun e w' => Res .u8 w w' e r [] := by
  subst hr
  exact se_do m.state m.hold m hm (Nm.self m) kd ho x c s none 0 0 [] w hR (Bs.nil w).by (by simp)
def ms4 (k : Nat) : Sm.M := if k = 0 then ⟨1, 0⟩ else if k = 1 then ⟨2, 0⟩ else if k = 2 then ⟨4, 0⟩ else if k = 3 then ⟨5, 90⟩ else ⟨6, 90⟩
def as4 (k : Nat) : List Sm.Act := if k = 4 then [Sm.set 2 90, Sm.a0 7] else []
def evs4 : Array Value := #[.int .i64 1, .int .u8 0, .int .i64 0, .int .u8 0, .int .u8 0, .slice none 0 0, .int .i64 3, .int .u8 0, .int .i64 0, .int .u8 0, .int .u8 0, .slice none 0 0, .int .i64 5, .int .u8 1, .int .i64 90, .int .u8 0, .int .u8 0, .slice none 0 0, .int .i64 5, .int .u8 4, .int .i64 0, .int .u8 0, .int .u8 0, .slice none 0 0]
/-- Behind k events of the example. -/
structure T4 (w u : World) (k : Nat) (l : Value) (mB eB : Nat) : Prop where
  kk : Kept Nothing w u
  mm : Blk u mB 24 #[.int .i64 (ms4 k).state, .int .i64 (ms4 k).hold]
  ee : Blk u eB 31 evs4
  ll : k = 4 → Acs .u8 u l (as4 4) []
  hm : w.heap.size ≤ mB
  hne : eB ≠ mB
theorem T4.next {w u u' : World} {k : Nat} {l l' : Value} {mB eB : Nat} (h : T4 w u k l mB eB) (hk : Kept Nothing u u') (x y : Int) (hx : x = (ms4 (k + 1)).state) (hy : y = (ms4 (k + 1)).hold) (ha : k + 1 = 4 → Acs .u8 u' l' (as4 4) []) :
    T4 w ((u'.setCell ⟨mB, 0, none⟩ (.int .i64 x)).setCell ⟨mB, 1, none⟩ (.int .i64 y)) (k + 1) l' mB eB := by
  subst hx hy
  have hM := h.mm.kept hk (fun e => e)
  have kk := kept_two (v := u') mB (.int .i64 ((ms4 (k + 1)).state : Int)) (.int .i64 ((ms4 (k + 1)).hold : Int))
  have hh := h.hm
  exact ⟨(h.kk.trans hk).trans_new kk (fun i hi (e : i = mB) => by omega), fin_blk hM, (h.ee.kept hk (fun e => e)).kept kk h.hne, fun e => (ha e).mach hM kk, h.hm, h.hne⟩
theorem T4.cells {w u : World} {k : Nat} {l : Value} {mB eB : Nat} (h : T4 w u k l mB eB) (i : Nat) : u.cell? ⟨eB, i, none⟩ = evs4[i]? := h.ee.cell i
set_option maxRecDepth 100000 in
set_option maxHeartbeats 4000000 in
theorem s_tells (w : World) (hR : RdS w) : Calls Tryd.prog 14 #[] w fun e w' => e = .returned (.bool true) ∧ Kept Nothing w w' := by
  have HR := Lib.hid hR
  clear hR
  go_enter Tryd.func14, Tryd.ntmps14
  go_wp2_with fail
  refine (se_new _).mono ?_
  rintro e w1 ⟨rfl, hk⟩
  have h1 := (Blk.fresh w1 24 #[.int .i64 1, .int .i64 0])
  have S0 : Hid (T4 w ((w1.alloc (.cells #[.int .i64 1, .int .i64 0] 24)).alloc (.cells evs4 31)) 0 (.slice none 0 0) w1.heap.size (w1.heap.size + 1)) := Lib.hid ⟨(hk.alloc _).alloc _, h1.alloc _, (by have := Blk.fresh (w1.alloc (.cells #[.int .i64 1, .int .i64 0] 24)) 31 evs4; rwa [World.size_alloc] at this), (fun e => by cases e), hk.size, by omega⟩
  clear h1 hk
  go_wp2
  change Code.wp _ _ _ _ ((w1.alloc (.cells #[.int .i64 1, .int .i64 0] 24)).alloc (.cells evs4 31))
  generalize (w1.alloc (.cells #[.int .i64 1, .int .i64 0] 24)).alloc (.cells evs4 31) = w2 at *
  generalize w1.heap.size = mB at *
  go_loopw [2, 12] (fun l i wr => ∃ k : Nat, i = .int .i64 (k : Int) ∧ k ≤ 4 ∧ Hid (T4 w wr k l mB (mB + 1))) (fun _ i _ => 4 - (intOf i).toNat)
  case atStart => exact ⟨0, rfl, by omega, S0⟩
  case round =>
    clear S0
    obtain ⟨k, rfl, hk4, hT⟩ := hrel
    have hm := mcells hT.out.mm
    have he := hT.out.cells
    obtain rfl | rfl | rfl | rfl | rfl : k = 0 ∨ k = 1 ∨ k = 2 ∨ k = 3 ∨ k = 4 := by omega
    · have e0 : wr.cell? ⟨mB + 1, 0, none⟩ = some (.int .i64 1) := he 0
      have e1 : wr.cell? ⟨mB + 1, 1, none⟩ = some (.int .u8 0) := he 1
      have e2 : wr.cell? ⟨mB + 1, 2, none⟩ = some (.int .i64 0) := he 2
      have e3 : wr.cell? ⟨mB + 1, 3, none⟩ = some (.int .u8 0) := he 3
      have e4 : wr.cell? ⟨mB + 1, 4, none⟩ = some (.int .u8 0) := he 4
      have e5 : wr.cell? ⟨mB + 1, 5, none⟩ = some (.slice none 0 0) := he 5
      have m0 : wr.cell? ⟨mB, 0, none⟩ = some (.int .i64 1) := hm.1
      have m1 : wr.cell? ⟨mB, 1, none⟩ = some (.int .i64 0) := hm.2.1
      clear he hm
      have ka := (Kept.refl Nothing wr).alloc (.cells #[.int .i64 1, .int .u8 0, .int .i64 0, .int .u8 0, .int .u8 0, .slice none 0 0] 31)
      have hT1 : Hid (T4 w (wr.alloc (.cells #[.int .i64 1, .int .u8 0, .int .i64 0, .int .u8 0, .int .u8 0, .slice none 0 0] 31)) 0 u2 mB (mB + 1)) := Lib.hid ⟨hT.out.kk.trans ka, hT.out.mm.kept ka (fun x => x), hT.out.ee.kept ka (fun x => x), (fun e => by cases e), hT.out.hm, hT.out.hne⟩
      obtain ⟨n0, n1, -, -⟩ := mcells hT1.out.mm
      replace n0 : _ = some (Value.int .i64 1) := n0
      replace n1 : _ = some (Value.int .i64 0) := n1
      clear ka
      go_wp2_with fail
      refine (se_do0 ⟨1, 0⟩ (by unfold Sm.Ok; decide) 1 0 0 0 0 (⟨2, 0⟩, [Sm.set 1 120, Sm.a0 6]) (by rfl) _ (HR.out.old hT1.out.kk)).mono ?_
      rintro e w3 ⟨A, c, rfl, ha, hk⟩
      obtain ⟨y0, y1, y2, y3⟩ := mcells (hT1.out.mm.kept hk (fun x => x))
      have HX := Lib.hid (And.intro ha hk)
      clear ha hk m0 m1 e0 e1 e2 e3 e4 e5 n0 n1
      go_wp2
      go_roundw
      case rel => exact ⟨1, by go_num, by omega, Lib.hid (hT1.out.next HX.out.2 2 0 rfl rfl (fun e => by cases e))⟩
      case measure => simp [intOf]; try omega
    · have e0 : wr.cell? ⟨mB + 1, 6, none⟩ = some (.int .i64 3) := he 6
      have e1 : wr.cell? ⟨mB + 1, 7, none⟩ = some (.int .u8 0) := he 7
      have e2 : wr.cell? ⟨mB + 1, 8, none⟩ = some (.int .i64 0) := he 8
      have e3 : wr.cell? ⟨mB + 1, 9, none⟩ = some (.int .u8 0) := he 9
      have e4 : wr.cell? ⟨mB + 1, 10, none⟩ = some (.int .u8 0) := he 10
      have e5 : wr.cell? ⟨mB + 1, 11, none⟩ = some (.slice none 0 0) := he 11
      have m0 : wr.cell? ⟨mB, 0, none⟩ = some (.int .i64 2) := hm.1
      have m1 : wr.cell? ⟨mB, 1, none⟩ = some (.int .i64 0) := hm.2.1
      clear he hm
      have ka := (Kept.refl Nothing wr).alloc (.cells #[.int .i64 3, .int .u8 0, .int .i64 0, .int .u8 0, .int .u8 0, .slice none 0 0] 31)
      have hT1 : Hid (T4 w (wr.alloc (.cells #[.int .i64 3, .int .u8 0, .int .i64 0, .int .u8 0, .int .u8 0, .slice none 0 0] 31)) 1 u2 mB (mB + 1)) := Lib.hid ⟨hT.out.kk.trans ka, hT.out.mm.kept ka (fun x => x), hT.out.ee.kept ka (fun x => x), (fun e => by cases e), hT.out.hm, hT.out.hne⟩
      obtain ⟨n0, n1, -, -⟩ := mcells hT1.out.mm
      replace n0 : _ = some (Value.int .i64 2) := n0
      replace n1 : _ = some (Value.int .i64 0) := n1
      clear ka
      go_wp2_with fail
      refine (se_do0 ⟨2, 0⟩ (by unfold Sm.Ok; decide) 3 0 0 0 0 (⟨4, 0⟩, [Sm.unset 1, Sm.send 1, Sm.set 2 240]) (by rfl) _ (HR.out.old hT1.out.kk)).mono ?_
      rintro e w3 ⟨A, c, rfl, ha, hk⟩
      obtain ⟨y0, y1, y2, y3⟩ := mcells (hT1.out.mm.kept hk (fun x => x))
      have HX := Lib.hid (And.intro ha hk)
      clear ha hk m0 m1 e0 e1 e2 e3 e4 e5 n0 n1
      go_wp2
      go_roundw
      case rel => exact ⟨2, by go_num, by omega, Lib.hid (hT1.out.next HX.out.2 4 0 rfl rfl (fun e => by cases e))⟩
      case measure => simp [intOf]; try omega
    · have e0 : wr.cell? ⟨mB + 1, 12, none⟩ = some (.int .i64 5) := he 12
      have e1 : wr.cell? ⟨mB + 1, 13, none⟩ = some (.int .u8 1) := he 13
      have e2 : wr.cell? ⟨mB + 1, 14, none⟩ = some (.int .i64 90) := he 14
      have e3 : wr.cell? ⟨mB + 1, 15, none⟩ = some (.int .u8 0) := he 15
      have e4 : wr.cell? ⟨mB + 1, 16, none⟩ = some (.int .u8 0) := he 16
      have e5 : wr.cell? ⟨mB + 1, 17, none⟩ = some (.slice none 0 0) := he 17
      have m0 : wr.cell? ⟨mB, 0, none⟩ = some (.int .i64 4) := hm.1
      have m1 : wr.cell? ⟨mB, 1, none⟩ = some (.int .i64 0) := hm.2.1
      clear he hm
      have ka := (Kept.refl Nothing wr).alloc (.cells #[.int .i64 5, .int .u8 1, .int .i64 90, .int .u8 0, .int .u8 0, .slice none 0 0] 31)
      have hT1 : Hid (T4 w (wr.alloc (.cells #[.int .i64 5, .int .u8 1, .int .i64 90, .int .u8 0, .int .u8 0, .slice none 0 0] 31)) 2 u2 mB (mB + 1)) := Lib.hid ⟨hT.out.kk.trans ka, hT.out.mm.kept ka (fun x => x), hT.out.ee.kept ka (fun x => x), (fun e => by cases e), hT.out.hm, hT.out.hne⟩
      obtain ⟨n0, n1, -, -⟩ := mcells hT1.out.mm
      replace n0 : _ = some (Value.int .i64 4) := n0
      replace n1 : _ = some (Value.int .i64 0) := n1
      clear ka
      go_wp2_with fail
      refine (se_do0 ⟨4, 0⟩ (by unfold Sm.Ok; decide) 5 90 1 0 0 (⟨5, 90⟩, [Sm.send 4, Sm.set 2 90, Sm.set 3 30]) (by rfl) _ (HR.out.old hT1.out.kk)).mono ?_
      rintro e w3 ⟨A, c, rfl, ha, hk⟩
      obtain ⟨y0, y1, y2, y3⟩ := mcells (hT1.out.mm.kept hk (fun x => x))
      have HX := Lib.hid (And.intro ha hk)
      clear ha hk m0 m1 e0 e1 e2 e3 e4 e5 n0 n1
      go_wp2
      go_roundw
      case rel => exact ⟨3, by go_num, by omega, Lib.hid (hT1.out.next HX.out.2 5 90 rfl rfl (fun e => by cases e))⟩
      case measure => simp [intOf]; try omega
    · have e0 : wr.cell? ⟨mB + 1, 18, none⟩ = some (.int .i64 5) := he 18
      have e1 : wr.cell? ⟨mB + 1, 19, none⟩ = some (.int .u8 4) := he 19
      have e2 : wr.cell? ⟨mB + 1, 20, none⟩ = some (.int .i64 0) := he 20
      have e3 : wr.cell? ⟨mB + 1, 21, none⟩ = some (.int .u8 0) := he 21
      have e4 : wr.cell? ⟨mB + 1, 22, none⟩ = some (.int .u8 0) := he 22
      have e5 : wr.cell? ⟨mB + 1, 23, none⟩ = some (.slice none 0 0) := he 23
      have m0 : wr.cell? ⟨mB, 0, none⟩ = some (.int .i64 5) := hm.1
      have m1 : wr.cell? ⟨mB, 1, none⟩ = some (.int .i64 90) := hm.2.1
      clear he hm
      have ka := (Kept.refl Nothing wr).alloc (.cells #[.int .i64 5, .int .u8 4, .int .i64 0, .int .u8 0, .int .u8 0, .slice none 0 0] 31)
      have hT1 : Hid (T4 w (wr.alloc (.cells #[.int .i64 5, .int .u8 4, .int .i64 0, .int .u8 0, .int .u8 0, .slice none 0 0] 31)) 3 u2 mB (mB + 1)) := Lib.hid ⟨hT.out.kk.trans ka, hT.out.mm.kept ka (fun x => x), hT.out.ee.kept ka (fun x => x), (fun e => by cases e), hT.out.hm, hT.out.hne⟩
      obtain ⟨n0, n1, -, -⟩ := mcells hT1.out.mm
      replace n0 : _ = some (Value.int .i64 5) := n0
      replace n1 : _ = some (Value.int .i64 90) := n1
      clear ka
      go_wp2_with fail
      refine (se_do0 ⟨5, 90⟩ (by unfold Sm.Ok; decide) 5 0 4 0 0 (⟨6, 90⟩, [Sm.set 2 90, Sm.a0 7]) (by rfl) _ (HR.out.old hT1.out.kk)).mono ?_
      rintro e w3 ⟨A, c, rfl, ha, hk⟩
      obtain ⟨y0, y1, y2, y3⟩ := mcells (hT1.out.mm.kept hk (fun x => x))
      have HX := Lib.hid (And.intro ha hk)
      clear ha hk m0 m1 e0 e1 e2 e3 e4 e5 n0 n1
      go_wp2
      go_roundw
      case rel => exact ⟨4, by go_num, by omega, Lib.hid (hT1.out.next HX.out.2 6 90 rfl rfl (fun e => by exact HX.out.1))⟩
      case measure => simp [intOf]; try omega
    · obtain ⟨A, c, rfl, -, -⟩ := (hT.out.ll rfl).form
      obtain ⟨b, o, rfl, hc⟩ := (hT.out.ll rfl).at (by decide)
      obtain ⟨-, -, -, -, p0, p1, p2, -, -, -⟩ := hc 0 (by decide)
      obtain ⟨-, -, -, -, q0, -, -, -, -, -⟩ := hc 1 (by decide)
      clear hc he
      replace p0 : wr.cell? ⟨b, o, none⟩ = some (.int .i64 3) := p0
      replace p1 : wr.cell? ⟨b, o + 1, none⟩ = some (.int .u8 2) := p1
      replace p2 : wr.cell? ⟨b, o + 2, none⟩ = some (.int .i64 90) := p2
      replace q0 : wr.cell? ⟨b, o + 6, none⟩ = some (.int .i64 7) := q0
      obtain ⟨m0, -, -, -⟩ := hm
      replace m0 : wr.cell? ⟨mB, 0, none⟩ = some (.int .i64 6) := m0
      go_wp2
      go_ret
      exact ⟨rfl, hT.out.kk⟩
end Go.Proofs.YtembdobkgpojfaaDoor
