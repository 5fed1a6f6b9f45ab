
/-
  Paths: Same, Copy, in whatever memory.
-/
import Derived.Test.YtdeblmolgmadiaaGreatDoorJb
import Derived.Deep.DeepCutAuto
import Derived.Deep.CutBlock
import Derived.Outline
namespace Go.Proofs.YtdeblmolgmadiaaGreatDoor
open Go.RowKit

theorem take_next {α : Type} {l m : List α} {k : Nat} (h : l.take k = m.take k) (h1 : k < l.length) (h2 : k < m.length) (e : l[k] = m[k]) : l.take (k + 1) = m.take (k + 1) := by
  rw [List.take_succ_eq_append_getElem h1, List.take_succ_eq_append_getElem h2, h, e]
theorem getD_get {α : Type} {l : List α} {k : Nat} (h : k < l.length) (d : α) : l.getD k d = l[k] := by
  rw [List.getD_eq_getElem?_getD, List.getElem?_eq_getElem h]; rfl

set_option maxHeartbeats 1600000 in
theorem eq_func (a b : Value) (l m : List Seg) (w : World) (ha : Pts w a l) (hb : Pts w b m) :
    Calls Tryz.prog 49 #[a, b, .func (.func 50) #[] #[]] w fun e w' => e = .returned (.bool (decide (l = m))) ∧ Kept Nothing w w' := by
  obtain ⟨A, c, rfl, hc1, hm1⟩ := ha.form
  obtain ⟨B, d, rfl, hc2, hm2⟩ := hb.form
  unfold maxLen at hm1 hm2
  have HA := Lib.hid ha
  have HB := Lib.hid hb
  clear ha hb
  by_cases hlen : l.length = m.length
  · have HLE := Lib.hid hlen
    rw [← hlen]
    rw [← hlen] at HB
    clear hlen
    go_enter Tryz.func49, Tryz.ntmps49
    go_wp2
    go_loopw [17] (fun i wr => ∃ k : Nat, i = .int .i64 (k : Int) ∧ k ≤ l.length ∧ Hid (l.take k = m.take k) ∧ Kept Nothing w wr) (fun i _ => l.length - (intOf i).toNat)
    case atStart => exact ⟨0, rfl, Nat.zero_le _, Lib.hid (by simp), Kept.refl _ _⟩
    case round =>
      obtain ⟨k, rfl, hk, HM, hkk⟩ := hrel
      have KK := Lib.hid hkk
      clear hkk
      by_cases hlt : k < l.length
      · have hlt2 : k < m.length := by have := HLE.out; omega
        obtain ⟨b1, o1, A1, d1, rfl, p0, p1, hp⟩ := (HA.out.old KK.out).at2 hlt
        obtain ⟨b2, o2, A2, d2, rfl, q0, q1, hq⟩ := (HB.out.old KK.out).at2 hlt
        have i1 : (0 : Int) ≤ (k : Int) := by omega
        have i2 : (k : Int) < (l.length : Int) := by omega
        have hls : b1 < wr.heap.size := World.block_lt_of_cell? _ _ p0
        have hms : b2 < wr.heap.size := World.block_lt_of_cell? _ _ q0
        have ES : Hid (decide (l[k] = m[k]) = (decide ((l.getD k (0, [])).1.toNat = (m.getD k (0, [])).1.toNat) && ((l.getD k (0, [])).2 == (m.getD k (0, [])).2))) := Lib.hid (by
          rw [getD_get hlt, getD_get hlt2, Bool.eq_iff_iff]
          simp only [decide_eq_true_eq, Bool.and_eq_true, beq_iff_eq]
          constructor
          · intro e; rw [e]; exact ⟨rfl, rfl⟩
          · rintro ⟨e1, e2⟩
            exact Prod.ext (UInt8.toNat_inj.1 e1) e2)
        have EN : Hid (decide (l[k] = m[k]) = true → l.take (k + 1) = m.take (k + 1)) := Lib.hid (fun e => take_next HM.out hlt hlt2 (by simpa using e))
        have EF : Hid (decide (l[k] = m[k]) = false → decide (l = m) = false) := Lib.hid (fun e => by
          have : ¬ l[k] = m[k] := by simpa using e
          simp only [decide_eq_false_iff_not]
          intro x
          subst x
          exact this rfl)
        have HS := Lib.hid (fun w' (k' : Kept Nothing wr w') => seg_same (l.getD k (0, [])).1.toNat (m.getD k (0, [])).1.toNat _ _ (l.getD k (0, [])).2 (m.getD k (0, [])).2 w' (hp.old k') (hq.old k'))
        rw [← ES.out] at HS
        have kk := ((Kept.refl Nothing wr).alloc (.cells #[.int .u8 ((l.getD k (0, [])).1.toNat : Int), .slice A1 (l.getD k (0, [])).2.length d1] 96)).alloc (.cells #[.int .u8 ((m.getD k (0, [])).1.toNat : Int), .slice A2 (m.getD k (0, [])).2.length d2] 96)
        have KA := Lib.hid kk
        clear ES HM hp hq kk
        generalize decide (l[k] = m[k]) = mb at *
        generalize (l.getD k (0, [])).1.toNat = kn at *
        generalize (l.getD k (0, [])).2.length = nn at *
        generalize (m.getD k (0, [])).1.toNat = km at *
        generalize (m.getD k (0, [])).2.length = nm at *
        cases hbb : mb with
        | true =>
          have HN := Lib.hid (EN.out hbb)
          rw [hbb] at HS
          clear hbb EN EF
          go_wp2_with (refine (HS.out _ KA.out).mono ?_; rintro e w2 ⟨rfl, k2⟩)
          go_roundw
          case rel => exact ⟨k + 1, by go_num, by omega, HN, (KK.out.trans KA.out).trans k2⟩
          case measure => simp [intOf]; omega
        | false =>
          have HN := Lib.hid (EF.out hbb)
          rw [hbb] at HS
          clear hbb EN EF
          go_wp2_with (refine (HS.out _ KA.out).mono ?_; rintro e w2 ⟨rfl, k2⟩)
          go_ret
          exact ⟨by rw [HN.out]; rfl, (KK.out.trans KA.out).trans k2⟩
      · obtain rfl : k = l.length := by omega
        have HE : Hid (decide (l = m) = true) := Lib.hid (by
          have h1 := HM.out
          rw [List.take_of_length_le (Nat.le_refl _), List.take_of_length_le (by have := HLE.out; omega)] at h1
          simp [h1])
        clear HM
        go_wp2
        go_ret
        exact ⟨by rw [HE.out]; rfl, KK.out⟩
  · have hne : ((l.length : Int) == (m.length : Int)) = false := by simp; omega
    have HN : Hid (decide (l = m) = false) := Lib.hid (by
      simp only [decide_eq_false_iff_not]
      intro x
      exact hlen (by rw [x]))
    clear hlen
    go_enter Tryz.func49, Tryz.ntmps49
    go_wp2
    go_ret
    exact ⟨by rw [HN.out]; rfl, Kept.refl _ _⟩
theorem path_same (a b : Value) (l m : List Seg) (w : World) (ha : Pts w a l) (hb : Pts w b m) :
    Calls Tryz.prog 18 #[a, b] w fun e w' => e = .returned (.bool (decide (l = m))) ∧ Kept Nothing w w' := by
  have HE := Lib.hid (eq_func a b l m w ha hb)
  go_enter Tryz.func18, Tryz.ntmps18
  go_wp2_with (refine (HE.out).mono ?_; rintro e w2 ⟨rfl, k2⟩)
  go_ret
  exact ⟨rfl, k2⟩
end Go.Proofs.YtdeblmolgmadiaaGreatDoor
