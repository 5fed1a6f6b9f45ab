
/-
  Regions that draw their order and whose calls only grow memory: one walk in the order of the text, in the class of all worlds that grew out of the one at hand.
-/
import Derived.Test.YteofbpdogmajoaaGreatDoorZd
import Derived.Test.YteofbpdogmajoaaGreatDoorZg
import Derived.Test.YteofbpdogmajoaaGreatDoorZa
import Derived.RegionTactic
namespace Go.Proofs.YteofbpdogmajoaaGreatDoor
open Go.RowKit

theorem Ots.get {w : World} {A : Option Addr} {n c : Nat} {l : List Ot} (h : Ots w (.slice A n c) l) {i : Nat} (hi : i < l.length) (hn : l.length = n) :
    ∃ (b o : Nat) (f t : UInt8) (v : List UInt8) (Av : Option Addr) (cv : Nat), A = some ⟨b, o, none⟩ ∧ l[i] = ⟨f, t, v⟩ ∧ w.cell? ⟨b, o + i * 3, none⟩ = some (.int .u8 (f.toNat : Int)) ∧ w.cell? ⟨b, o + i * 3 + 1, none⟩ = some (.int .u8 (t.toNat : Int)) ∧ w.cell? ⟨b, o + i * 3 + 2, none⟩ = some (.slice Av v.length cv) ∧ By w (.slice Av v.length cv) v := by
  obtain ⟨b, o, hA, hc⟩ := h.at (by omega)
  obtain ⟨h1, h2, u, h3, h4⟩ := hc i hi
  generalize hx : l[i] = x at *
  obtain ⟨f, t, v⟩ := x
  obtain ⟨Av, cv, rfl, _, _⟩ := h4.form
  exact ⟨b, o, f, t, v, Av, cv, hA, rfl, h1, h2, h3, h4⟩

set_option maxHeartbeats 1600000 in
theorem ots_equal (a b : Value) (l m : List Ot) (w : World) (ha : Ots w a l) (hb : Ots w b m) :
    Calls Tryz.prog 59 #[a, b, .func (.func 60) #[] #[]] w fun e w' => e = .returned (.bool (decide (l = m))) ∧ Kept Nothing w w' := by
  obtain ⟨A, c, rfl, hc1, hm1⟩ := ha.form
  obtain ⟨B, d, rfl, hc2, hm2⟩ := hb.form
  unfold maxLen at hm1 hm2
  have HA := Lib.hid ha
  have HB := Lib.hid hb
  clear ha hb
  by_cases hlen : l.length = m.length
  · have HLE := Lib.hid hlen
    rw [← hlen]
    rw [← hlen] at HB
    clear hlen
    go_enter Tryz.func59, Tryz.ntmps59
    go_wp2
    go_loopw [17] (fun i wr => ∃ k : Nat, i = .int .i64 (k : Int) ∧ k ≤ l.length ∧ Hid (l.take k = m.take k) ∧ Kept Nothing w wr) (fun i _ => l.length - (intOf i).toNat)
    case atStart => exact ⟨0, rfl, Nat.zero_le _, Lib.hid (by simp), Kept.refl _ _⟩
    case round =>
      obtain ⟨k, rfl, hk, HM, hkk⟩ := hrel
      have KK := Lib.hid hkk
      clear hkk
      by_cases hlt : k < l.length
      · have hlt2 : k < m.length := by have := HLE.out; omega
        obtain ⟨b1, o1, f1, t1, x1, A1, d1, rfl, E1, p0, p1, p2, hp⟩ := (HA.out.old KK.out).get hlt rfl
        obtain ⟨b2, o2, f2, t2, x2, A2, d2, rfl, E2, q0, q1, q2, hq⟩ := (HB.out.old KK.out).get hlt2 HLE.out.symm
        have i1 : (0 : Int) ≤ (k : Int) := by omega
        have i2 : (k : Int) < (l.length : Int) := by omega
        have hls : b1 < wr.heap.size := World.block_lt_of_cell? _ _ p0
        have hms : b2 < wr.heap.size := World.block_lt_of_cell? _ _ q0
        have EN : Hid (decide ((⟨f1, t1, x1⟩ : Ot) = ⟨f2, t2, x2⟩) = true → l.take (k + 1) = m.take (k + 1)) := Lib.hid (fun e => take_next HM.out hlt hlt2 (by rw [E1, E2]; simpa using e))
        have EF : Hid (decide ((⟨f1, t1, x1⟩ : Ot) = ⟨f2, t2, x2⟩) = false → decide (l = m) = false) := Lib.hid (fun e => by
          have hne : ¬ (⟨f1, t1, x1⟩ : Ot) = ⟨f2, t2, x2⟩ := by simpa using e
          simp only [decide_eq_false_iff_not]
          intro x
          subst x
          exact hne (E1.symm.trans E2))
        have HS := Lib.hid (fun w' (k' : Kept Nothing wr w') => ot_same f1 t1 _ x1 f2 t2 _ x2 w' (hp.old k') (hq.old k'))
        have kk := ((Kept.refl Nothing wr).alloc (.cells #[.int .u8 (f1.toNat : Int), .int .u8 (t1.toNat : Int), .slice A1 x1.length d1] 73)).alloc (.cells #[.int .u8 (f2.toNat : Int), .int .u8 (t2.toNat : Int), .slice A2 x2.length d2] 73)
        have KA := Lib.hid kk
        clear HM hp hq kk E1 E2
        generalize decide ((⟨f1, t1, x1⟩ : Ot) = ⟨f2, t2, x2⟩) = mb at *
        generalize f1.toNat = n1 at *
        generalize t1.toNat = n2 at *
        generalize x1.length = n3 at *
        generalize f2.toNat = n4 at *
        generalize t2.toNat = n5 at *
        generalize x2.length = n6 at *
        cases hbb : mb with
        | true =>
          have HN := Lib.hid (EN.out hbb)
          rw [hbb] at HS
          clear hbb EN EF
          go_wp2_with (refine (HS.out _ KA.out).mono ?_; rintro e w2 ⟨rfl, k2⟩)
          go_roundw
          case rel => exact ⟨k + 1, by go_num, by omega, HN, (KK.out.trans KA.out).trans k2⟩
          case measure => simp [intOf]; omega
        | false =>
          have HN := Lib.hid (EF.out hbb)
          rw [hbb] at HS
          clear hbb EN EF
          go_wp2_with (refine (HS.out _ KA.out).mono ?_; rintro e w2 ⟨rfl, k2⟩)
          go_ret
          exact ⟨by rw [HN.out]; rfl, (KK.out.trans KA.out).trans k2⟩
      · obtain rfl : k = l.length := by omega
        have HE : Hid (decide (l = m) = true) := Lib.hid (by
          have h1 := HM.out
          rw [List.take_of_length_le (Nat.le_refl _), List.take_of_length_le (by have := HLE.out; omega)] at h1
          simp [h1])
        clear HM
        go_wp2
        go_ret
        exact ⟨by rw [HE.out]; rfl, KK.out⟩
  · have hne : ((l.length : Int) == (m.length : Int)) = false := by simp; omega
    have HN : Hid (decide (l = m) = false) := Lib.hid (by
      simp only [decide_eq_false_iff_not]
      intro x
      exact hlen (by rw [x]))
    clear hlen
    go_enter Tryz.func59, Tryz.ntmps59
    go_wp2
    go_ret
    exact ⟨by rw [HN.out]; rfl, Kept.refl _ _⟩
end Go.Proofs.YteofbpdogmajoaaGreatDoor
namespace Go.Proofs.YteofbpdogmajoaaGreatDoor
open Go.RowKit

/-- A world that grew out of another: what was there is as it was. -/
structure Up (o : World) where
  w : World
  kept : Kept Nothing o w
instance (o : World) : Nonempty (Up o) := ⟨⟨o, Kept.refl _ _⟩⟩

theorem wp_region_up {P : Program} {id : Nat} {Q : Exit → Act → World → Prop} {a : Act} {w : World} {l : List Oper} (hm : P.follows .mixedOrders = true) (hB : Region.lexB .any l.toArray = true)
    (h : wpQuiet P l.toArray (fun w' => ∃ g : Up w, w' = g.w) (fun a' => ∀ w', (∃ g : Up w, w' = g.w) → Q .normal a' w') l a) : (Code.region id l.toArray true).wp P Q a w :=
  wp_region_quiet (C := fun w' => ∃ g : Up w, w' = g.w) hm hB ⟨⟨_, (Kept.refl Nothing w).drew⟩, rfl⟩ (by simpa using h)

theorem up_call {P : Program} {f : FuncId} {args : Array Value} {w : World} {g : Up w} {v : Value}
    (h : Calls P f args g.w fun e w' => e = .returned v ∧ Kept Nothing g.w w') : Calls P f args g.w fun e w'' => e = .returned v ∧ ∃ m : Up w, w'' = m.w :=
  h.mono fun _ w' ⟨he, hk⟩ => ⟨he, ⟨w', g.kept.trans hk⟩, rfl⟩
theorem up_same {P : Program} {f : FuncId} {args : Array Value} {w : World} {g : Up w} {v : Value}
    (h : Calls P f args g.w fun e w' => e = .returned v ∧ g.w = w') : Calls P f args g.w fun e w'' => e = .returned v ∧ ∃ m : Up w, w'' = m.w :=
  h.mono fun _ _ ⟨he, hk⟩ => ⟨he, g, hk.symm⟩
theorem up_cell {w : World} {a : Addr} {v : Value} (h : w.cell? a = some v) (g : Up w) : g.w.cell? a = some v := g.kept.cell_some h (fun x => x)
theorem up_size {w : World} (g : Up w) : w.heap.size ≤ g.w.heap.size := g.kept.size
theorem grows {w w' : World} (h : Below w.heap.size w w') : Kept Nothing w w' := ⟨h.os, h.tape, h.output, h.size, fun k hk _ => h.block k hk⟩
end Go.Proofs.YteofbpdogmajoaaGreatDoor
