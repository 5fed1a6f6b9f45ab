
/-
  An address read of its text.
-/
import Derived.Test.YtfjhpeijlhlaeaaDoorPd
namespace Go.Proofs.YtfjhpeijlhlaeaaDoor
open Go.RowKit

theorem number_some (l : List UInt8) (hl : l.length ≤ 100000) (v : Nat) (hv : num l = some v) (w : World) :
    Calls Tryd.prog 49 #[.string ⟨l.toArray⟩] w fun e w' => e = .returned (.tuple #[.int .u64 (v : Nat), .bool true]) ∧ w = w' :=
  (number_any ⟨l.toArray⟩ (by show l.toArray.size ≤ _; simpa using hl) w).mono fun e w' ⟨he, hw⟩ => ⟨by
    rw [he]
    show Ending.returned (.tuple #[.int .u64 ((num l).getD 0 : Nat), .bool (num l).isSome]) = _
    rw [hv]; rfl, hw⟩
theorem number_none (l : List UInt8) (hl : l.length ≤ 100000) (hv : num l = none) (w : World) :
    Calls Tryd.prog 49 #[.string ⟨l.toArray⟩] w fun e w' => e = .returned (.tuple #[.int .u64 0, .bool false]) ∧ w = w' :=
  (number_any ⟨l.toArray⟩ (by show l.toArray.size ≤ _; simpa using hl) w).mono fun e w' ⟨he, hw⟩ => ⟨by
    rw [he]
    show Ending.returned (.tuple #[.int .u64 ((num l).getD 0 : Nat), .bool (num l).isSome]) = _
    rw [hv]; rfl, hw⟩

/-- Field number k of an address's text. -/
def fd (l : List UInt8) : Nat → List UInt8
  | 0 => fld l 0
  | 1 => fld l 1
  | 2 => fld l 2
  | _ => rst l 3
theorem fd_len (l : List UInt8) : ∀ k, (fd l k).length ≤ l.length
  | 0 => Nat.le_trans (cut_len 46 _).1 (rst_len l 0)
  | 1 => Nat.le_trans (cut_len 46 _).1 (rst_len l 1)
  | 2 => Nat.le_trans (cut_len 46 _).1 (rst_len l 2)
  | _ + 3 => rst_len l 3
def nv (l : List UInt8) (k : Nat) : Nat := (num (fd l k)).getD 0
def nok (l : List UInt8) (k : Nat) : Bool := (num (fd l k)).isSome
/-- The address of a text, and the error. -/
def parseIP (l : List UInt8) : Nat × Int :=
  if (nok l 0 && nok l 1 && nok l 2 && nok l 3) = true then
    if (decide (nv l 0 ≤ 255) && decide (nv l 1 ≤ 255) && decide (nv l 2 ≤ 255) && decide (nv l 3 ≤ 255)) = true then (((nv l 0 * 256 + nv l 1) * 256 + nv l 2) * 256 + nv l 3, 0) else (0, 24)
  else (0, 5)
theorem num_lt {l : List UInt8} {v : Nat} (h : num l = some v) : v < 10000000000 := by
  unfold num at h
  split at h
  · next ho =>
    injection h with h
    unfold numOk at ho
    simp only [Bool.and_eq_true, decide_eq_true_eq] at ho
    have h1 := numV_lt l ho.2
    have h2 : (10:Nat) ^ l.length ≤ 10 ^ 10 := Nat.pow_le_pow_right (by omega) ho.1.1.2
    omega
  · cases h
theorem parseIP_form (l : List UInt8) (k : Nat) (hk : k < 4) (h : num (fd l k) = none) : parseIP l = (0, 5) := by
  have h1 : nok l k = false := by unfold nok; rw [h]; rfl
  unfold parseIP
  rw [if_neg]
  obtain rfl | rfl | rfl | rfl : k = 0 ∨ k = 1 ∨ k = 2 ∨ k = 3 := by omega
  all_goals simp [h1]
theorem parseIP_range (l : List UInt8) (k : Nat) (hk : k < 4) (h : 255 < nv l k) (ha : nok l 0 = true ∧ nok l 1 = true ∧ nok l 2 = true ∧ nok l 3 = true) : parseIP l = (0, 24) := by
  unfold parseIP
  rw [if_pos (by simp [ha.1, ha.2.1, ha.2.2.1, ha.2.2.2]), if_neg]
  obtain rfl | rfl | rfl | rfl : k = 0 ∨ k = 1 ∨ k = 2 ∨ k = 3 := by omega
  all_goals (simp; omega)
theorem parseIP_ok (l : List UInt8) (ha : nok l 0 = true ∧ nok l 1 = true ∧ nok l 2 = true ∧ nok l 3 = true) (hb : nv l 0 ≤ 255 ∧ nv l 1 ≤ 255 ∧ nv l 2 ≤ 255 ∧ nv l 3 ≤ 255) :
    parseIP l = (((nv l 0 * 256 + nv l 1) * 256 + nv l 2) * 256 + nv l 3, 0) := by
  unfold parseIP
  rw [if_pos (by simp [ha.1, ha.2.1, ha.2.2.1, ha.2.2.2]), if_pos (by simp [hb.1, hb.2.1, hb.2.2.1, hb.2.2.2])]
def nms (l : List UInt8) : Nat → Array Value
  | 0 => #[.int .u64 0, .int .u64 0, .int .u64 0, .int .u64 0]
  | 1 => #[.int .u64 (nv l 0 : Nat), .int .u64 0, .int .u64 0, .int .u64 0]
  | 2 => #[.int .u64 (nv l 0 : Nat), .int .u64 (nv l 1 : Nat), .int .u64 0, .int .u64 0]
  | 3 => #[.int .u64 (nv l 0 : Nat), .int .u64 (nv l 1 : Nat), .int .u64 (nv l 2 : Nat), .int .u64 0]
  | _ => #[.int .u64 (nv l 0 : Nat), .int .u64 (nv l 1 : Nat), .int .u64 (nv l 2 : Nat), .int .u64 (nv l 3 : Nat)]
def bts (l : List UInt8) : Nat → Array Value
  | 0 => #[.int .u8 0, .int .u8 0, .int .u8 0, .int .u8 0]
  | 1 => #[.int .u8 (nv l 0 : Nat), .int .u8 0, .int .u8 0, .int .u8 0]
  | 2 => #[.int .u8 (nv l 0 : Nat), .int .u8 (nv l 1 : Nat), .int .u8 0, .int .u8 0]
  | 3 => #[.int .u8 (nv l 0 : Nat), .int .u8 (nv l 1 : Nat), .int .u8 (nv l 2 : Nat), .int .u8 0]
  | _ => #[.int .u8 (nv l 0 : Nat), .int .u8 (nv l 1 : Nat), .int .u8 (nv l 2 : Nat), .int .u8 (nv l 3 : Nat)]
/-- The first k are so. -/
def Upk (p : Nat → Prop) (k : Nat) : Prop := ∀ j, j < k → p j
theorem Upk.zero (p : Nat → Prop) : Upk p 0 := fun j h => absurd h (by omega)
theorem Upk.succ {p : Nat → Prop} {k : Nat} (h : Upk p k) (hk : p k) : Upk p (k + 1) := fun j hj => by
  by_cases e : j = k
  · subst e; exact hk
  · exact h j (by omega)
theorem Upk.four {p : Nat → Prop} (h : Upk p 4) : p 0 ∧ p 1 ∧ p 2 ∧ p 3 := ⟨h 0 (by omega), h 1 (by omega), h 2 (by omega), h 3 (by omega)⟩

set_option maxHeartbeats 1000000 in
theorem parseIP_any (l : List UInt8) (hl : l.length ≤ 100000) (w : World) :
    Calls Tryd.prog 29 #[.string ⟨l.toArray⟩] w fun e w' => e = .returned (.tuple #[.int .u32 ((parseIP l).1 : Nat), .int .i64 (parseIP l).2]) ∧ Kept Nothing w w' := by
  have i0 : ∀ w, (Instr.index 81 (.agg (fls l 4)) (.int .i64 0)).run Tryd.prog w = .ok (.string ⟨(fld l 0).toArray⟩) w := fun _ => by kernel_rfl
  have i1 : ∀ w, (Instr.index 81 (.agg (fls l 4)) (.int .i64 1)).run Tryd.prog w = .ok (.string ⟨(fld l 1).toArray⟩) w := fun _ => by kernel_rfl
  have i2 : ∀ w, (Instr.index 81 (.agg (fls l 4)) (.int .i64 2)).run Tryd.prog w = .ok (.string ⟨(fld l 2).toArray⟩) w := fun _ => by kernel_rfl
  have i3 : ∀ w, (Instr.index 81 (.agg (fls l 4)) (.int .i64 3)).run Tryd.prog w = .ok (.string ⟨(rst l 3).toArray⟩) w := fun _ => by kernel_rfl
  have m0 : ∀ w, (Instr.index 90 (.agg #[.int .u64 (nv l 0 : Nat), .int .u64 (nv l 1 : Nat), .int .u64 (nv l 2 : Nat), .int .u64 (nv l 3 : Nat)]) (.int .i64 0)).run Tryd.prog w = .ok (.int .u64 (nv l 0 : Nat)) w := fun _ => by kernel_rfl
  have m1 : ∀ w, (Instr.index 90 (.agg #[.int .u64 (nv l 0 : Nat), .int .u64 (nv l 1 : Nat), .int .u64 (nv l 2 : Nat), .int .u64 (nv l 3 : Nat)]) (.int .i64 1)).run Tryd.prog w = .ok (.int .u64 (nv l 1 : Nat)) w := fun _ => by kernel_rfl
  have m2 : ∀ w, (Instr.index 90 (.agg #[.int .u64 (nv l 0 : Nat), .int .u64 (nv l 1 : Nat), .int .u64 (nv l 2 : Nat), .int .u64 (nv l 3 : Nat)]) (.int .i64 2)).run Tryd.prog w = .ok (.int .u64 (nv l 2 : Nat)) w := fun _ => by kernel_rfl
  have m3 : ∀ w, (Instr.index 90 (.agg #[.int .u64 (nv l 0 : Nat), .int .u64 (nv l 1 : Nat), .int .u64 (nv l 2 : Nat), .int .u64 (nv l 3 : Nat)]) (.int .i64 3)).run Tryd.prog w = .ok (.int .u64 (nv l 3 : Nat)) w := fun _ => by kernel_rfl
  go_enter Tryd.func29, Tryd.ntmps29
  go_wp2_with (go_at_call 48; refine (fields_any l hl _).mono ?_; rintro e w1 ⟨rfl, hk1⟩)
  go_loopw [14] (fun i wr => ∃ k : Nat, k ≤ 4 ∧ i = .int .i64 k ∧ Blk wr w.heap.size 90 (nms l k) ∧ Kept Nothing w wr ∧ Upk (fun j => nok l j = true) k) (fun i _ => 4 - (intOf i).toNat)
  case atStart => exact ⟨0, by omega, rfl, (Blk.fresh w _ _).kept hk1 (fun x => x), ((Kept.refl _ w).alloc _).trans hk1, Upk.zero _⟩
  case round =>
    obtain ⟨k, hk4, rfl, hB, hk, HU⟩ := hrel
    clear hk1
    obtain rfl | rfl | rfl | rfl | rfl : k = 0 ∨ k = 1 ∨ k = 2 ∨ k = 3 ∨ k = 4 := by omega
    · cases hn : num (fd l 0) with
      | none =>
        have HP := Lib.hid (parseIP_form l 0 (by omega) hn)
        have HN := Lib.hid (number_none (fd l 0) (Nat.le_trans (fd_len l 0) hl) hn)
        clear hn hB
        go_wp2_with (go_at_call 49; refine (HN.out _).mono ?_; rintro e w' ⟨rfl, rfl⟩)
        go_ret2
        exact ⟨by rw [HP.out]; rfl, hk⟩
      | some v =>
        have hv := num_lt hn
        have HK : nok l 0 = true := by unfold nok; rw [hn]; rfl
        have HV := Lib.hid (show nv l 0 = v by unfold nv; rw [hn]; rfl)
        have HN := Lib.hid (number_some (fd l 0) (Nat.le_trans (fd_len l 0) hl) v hn)
        have HU1 := HU.succ HK
        have cB : wr.cell? ⟨w.heap.size, 0, none⟩ = some (.int .u64 0) := hB.cell 0
        have fB : wr.frozen? ⟨w.heap.size, 0, none⟩ = false := hB.free 0
        have HB := Lib.hid hB
        clear hn hB HK
        go_wp2_with (go_at_call 49; refine (HN.out _).mono ?_; rintro e w' ⟨rfl, rfl⟩)
        go_roundw
        case rel => exact ⟨1, by omega, by go_num, by have := HB.out.put 0 (.int .u64 (v : Nat)); rw [← HV.out] at this ⊢; exact this, hk.setCell (p := ⟨w.heap.size, 0, none⟩) (fun h => absurd h (by simp)) _, HU1⟩
        case measure => simp [intOf]
    · cases hn : num (fd l 1) with
      | none =>
        have HP := Lib.hid (parseIP_form l 1 (by omega) hn)
        have HN := Lib.hid (number_none (fd l 1) (Nat.le_trans (fd_len l 1) hl) hn)
        clear hn hB
        go_wp2_with (go_at_call 49; refine (HN.out _).mono ?_; rintro e w' ⟨rfl, rfl⟩)
        go_ret2
        exact ⟨by rw [HP.out]; rfl, hk⟩
      | some v =>
        have hv := num_lt hn
        have HK : nok l 1 = true := by unfold nok; rw [hn]; rfl
        have HV := Lib.hid (show nv l 1 = v by unfold nv; rw [hn]; rfl)
        have HN := Lib.hid (number_some (fd l 1) (Nat.le_trans (fd_len l 1) hl) v hn)
        have HU1 := HU.succ HK
        have cB : wr.cell? ⟨w.heap.size, 1, none⟩ = some (.int .u64 0) := hB.cell 1
        have fB : wr.frozen? ⟨w.heap.size, 1, none⟩ = false := hB.free 1
        have HB := Lib.hid hB
        clear hn hB HK
        go_wp2_with (go_at_call 49; refine (HN.out _).mono ?_; rintro e w' ⟨rfl, rfl⟩)
        go_roundw
        case rel => exact ⟨2, by omega, by go_num, by have := HB.out.put 1 (.int .u64 (v : Nat)); rw [← HV.out] at this ⊢; exact this, hk.setCell (p := ⟨w.heap.size, 1, none⟩) (fun h => absurd h (by simp)) _, HU1⟩
        case measure => simp [intOf]
    · cases hn : num (fd l 2) with
      | none =>
        have HP := Lib.hid (parseIP_form l 2 (by omega) hn)
        have HN := Lib.hid (number_none (fd l 2) (Nat.le_trans (fd_len l 2) hl) hn)
        clear hn hB
        go_wp2_with (go_at_call 49; refine (HN.out _).mono ?_; rintro e w' ⟨rfl, rfl⟩)
        go_ret2
        exact ⟨by rw [HP.out]; rfl, hk⟩
      | some v =>
        have hv := num_lt hn
        have HK : nok l 2 = true := by unfold nok; rw [hn]; rfl
        have HV := Lib.hid (show nv l 2 = v by unfold nv; rw [hn]; rfl)
        have HN := Lib.hid (number_some (fd l 2) (Nat.le_trans (fd_len l 2) hl) v hn)
        have HU1 := HU.succ HK
        have cB : wr.cell? ⟨w.heap.size, 2, none⟩ = some (.int .u64 0) := hB.cell 2
        have fB : wr.frozen? ⟨w.heap.size, 2, none⟩ = false := hB.free 2
        have HB := Lib.hid hB
        clear hn hB HK
        go_wp2_with (go_at_call 49; refine (HN.out _).mono ?_; rintro e w' ⟨rfl, rfl⟩)
        go_roundw
        case rel => exact ⟨3, by omega, by go_num, by have := HB.out.put 2 (.int .u64 (v : Nat)); rw [← HV.out] at this ⊢; exact this, hk.setCell (p := ⟨w.heap.size, 2, none⟩) (fun h => absurd h (by simp)) _, HU1⟩
        case measure => simp [intOf]
    · cases hn : num (fd l 3) with
      | none =>
        have HP := Lib.hid (parseIP_form l 3 (by omega) hn)
        have HN := Lib.hid (number_none (fd l 3) (Nat.le_trans (fd_len l 3) hl) hn)
        clear hn hB
        go_wp2_with (go_at_call 49; refine (HN.out _).mono ?_; rintro e w' ⟨rfl, rfl⟩)
        go_ret2
        exact ⟨by rw [HP.out]; rfl, hk⟩
      | some v =>
        have hv := num_lt hn
        have HK : nok l 3 = true := by unfold nok; rw [hn]; rfl
        have HV := Lib.hid (show nv l 3 = v by unfold nv; rw [hn]; rfl)
        have HN := Lib.hid (number_some (fd l 3) (Nat.le_trans (fd_len l 3) hl) v hn)
        have HU1 := HU.succ HK
        have cB : wr.cell? ⟨w.heap.size, 3, none⟩ = some (.int .u64 0) := hB.cell 3
        have fB : wr.frozen? ⟨w.heap.size, 3, none⟩ = false := hB.free 3
        have HB := Lib.hid hB
        clear hn hB HK
        go_wp2_with (go_at_call 49; refine (HN.out _).mono ?_; rintro e w' ⟨rfl, rfl⟩)
        go_roundw
        case rel => exact ⟨4, by omega, by go_num, by have := HB.out.put 3 (.int .u64 (v : Nat)); rw [← HV.out] at this ⊢; exact this, hk.setCell (p := ⟨w.heap.size, 3, none⟩) (fun h => absurd h (by simp)) _, HU1⟩
        case measure => simp [intOf]
    · have c0 : wr.cell? ⟨w.heap.size, 0, none⟩ = some (.int .u64 (nv l 0 : Nat)) := hB.cell 0
      have c1 : wr.cell? ⟨w.heap.size, 1, none⟩ = some (.int .u64 (nv l 1 : Nat)) := hB.cell 1
      have c2 : wr.cell? ⟨w.heap.size, 2, none⟩ = some (.int .u64 (nv l 2 : Nat)) := hB.cell 2
      have c3 : wr.cell? ⟨w.heap.size, 3, none⟩ = some (.int .u64 (nv l 3 : Nat)) := hB.cell 3
      have hlt := hB.lt
      have HA := Upk.four HU
      have HA := Lib.hid HA
      clear hB HU
      obtain ⟨wo, rfl⟩ : ∃ wo : World, wo = wr := ⟨_, rfl⟩
      have hsz := hk.size
      go_wp2
      go_loopw [30] (fun i w2 => ∃ k : Nat, k ≤ 4 ∧ i = .int .i64 k ∧ Blk w2 wo.heap.size 83 (bts l k) ∧ Kept Nothing w w2 ∧ Upk (fun j => nv l j ≤ 255) k) (fun i _ => 4 - (intOf i).toNat)
      case atStart => exact ⟨0, by omega, rfl, Blk.fresh wo _ _, hk.alloc _, Upk.zero _⟩
      case round =>
        obtain ⟨k, hk4, rfl, hB, hk, HU⟩ := hrel
        clear c0 c1 c2 c3
        obtain rfl | rfl | rfl | rfl | rfl : k = 0 ∨ k = 1 ∨ k = 2 ∨ k = 3 ∨ k = 4 := by omega
        · by_cases hc : nv l 0 ≤ 255
          · have HU1 := HU.succ hc
            have cB : wr.cell? ⟨wo.heap.size, 0, none⟩ = some (.int .u8 0) := hB.cell 0
            have fB : wr.frozen? ⟨wo.heap.size, 0, none⟩ = false := hB.free 0
            have HB := Lib.hid hB
            clear hB HU
            go_wp2
            go_roundw
            case rel => exact ⟨1, by omega, by go_num, HB.out.put 0 (.int .u8 (nv l 0 : Nat)), hk.setCell (p := ⟨wo.heap.size, 0, none⟩) (fun h => absurd h (by simp; omega)) _, HU1⟩
            case measure => simp [intOf]
          · have HP := Lib.hid (parseIP_range l 0 (by omega) (by omega) HA.out)
            have hc1 : (255 : Int) < (nv l 0 : Int) := by omega
            clear hB HU
            go_wp2
            go_ret2
            exact ⟨by rw [HP.out]; rfl, hk⟩
        · by_cases hc : nv l 1 ≤ 255
          · have HU1 := HU.succ hc
            have cB : wr.cell? ⟨wo.heap.size, 1, none⟩ = some (.int .u8 0) := hB.cell 1
            have fB : wr.frozen? ⟨wo.heap.size, 1, none⟩ = false := hB.free 1
            have HB := Lib.hid hB
            clear hB HU
            go_wp2
            go_roundw
            case rel => exact ⟨2, by omega, by go_num, HB.out.put 1 (.int .u8 (nv l 1 : Nat)), hk.setCell (p := ⟨wo.heap.size, 1, none⟩) (fun h => absurd h (by simp; omega)) _, HU1⟩
            case measure => simp [intOf]
          · have HP := Lib.hid (parseIP_range l 1 (by omega) (by omega) HA.out)
            have hc1 : (255 : Int) < (nv l 1 : Int) := by omega
            clear hB HU
            go_wp2
            go_ret2
            exact ⟨by rw [HP.out]; rfl, hk⟩
        · by_cases hc : nv l 2 ≤ 255
          · have HU1 := HU.succ hc
            have cB : wr.cell? ⟨wo.heap.size, 2, none⟩ = some (.int .u8 0) := hB.cell 2
            have fB : wr.frozen? ⟨wo.heap.size, 2, none⟩ = false := hB.free 2
            have HB := Lib.hid hB
            clear hB HU
            go_wp2
            go_roundw
            case rel => exact ⟨3, by omega, by go_num, HB.out.put 2 (.int .u8 (nv l 2 : Nat)), hk.setCell (p := ⟨wo.heap.size, 2, none⟩) (fun h => absurd h (by simp; omega)) _, HU1⟩
            case measure => simp [intOf]
          · have HP := Lib.hid (parseIP_range l 2 (by omega) (by omega) HA.out)
            have hc1 : (255 : Int) < (nv l 2 : Int) := by omega
            clear hB HU
            go_wp2
            go_ret2
            exact ⟨by rw [HP.out]; rfl, hk⟩
        · by_cases hc : nv l 3 ≤ 255
          · have HU1 := HU.succ hc
            have cB : wr.cell? ⟨wo.heap.size, 3, none⟩ = some (.int .u8 0) := hB.cell 3
            have fB : wr.frozen? ⟨wo.heap.size, 3, none⟩ = false := hB.free 3
            have HB := Lib.hid hB
            clear hB HU
            go_wp2
            go_roundw
            case rel => exact ⟨4, by omega, by go_num, HB.out.put 3 (.int .u8 (nv l 3 : Nat)), hk.setCell (p := ⟨wo.heap.size, 3, none⟩) (fun h => absurd h (by simp; omega)) _, HU1⟩
            case measure => simp [intOf]
          · have HP := Lib.hid (parseIP_range l 3 (by omega) (by omega) HA.out)
            have hc1 : (255 : Int) < (nv l 3 : Int) := by omega
            clear hB HU
            go_wp2
            go_ret2
            exact ⟨by rw [HP.out]; rfl, hk⟩
        · have hu := Upk.four HU
          have HP := Lib.hid (parseIP_ok l HA.out hu)
          have d0 : wr.cell? ⟨wo.heap.size, 0, none⟩ = some (.int .u8 (nv l 0 : Nat)) := hB.cell 0
          have d1 : wr.cell? ⟨wo.heap.size, 1, none⟩ = some (.int .u8 (nv l 1 : Nat)) := hB.cell 1
          have d2 : wr.cell? ⟨wo.heap.size, 2, none⟩ = some (.int .u8 (nv l 2 : Nat)) := hB.cell 2
          have d3 : wr.cell? ⟨wo.heap.size, 3, none⟩ = some (.int .u8 (nv l 3 : Nat)) := hB.cell 3
          clear hB HU
          go_wp2_with (go_at_call 50; refine (join_any (nv l 0) (nv l 1) (nv l 2) (nv l 3) (by omega) (by omega) (by omega) (by omega) _).mono ?_; rintro e w' ⟨rfl, hk5⟩)
          go_ret2
          exact ⟨by rw [HP.out]; rfl, hk.trans hk5⟩
end Go.Proofs.YtfjhpeijlhlaeaaDoor
