
/-
  The chapter's rows: the law's function 'tells' returns true.
-/
import Derived.Test.YtfjhpeijlhlaeaaDoorPh
namespace Go.Proofs.YtfjhpeijlhlaeaaDoor
open Go.RowKit

def ipTextD (x : Nat) : List UInt8 := Lib.join [dd (oct x 0), dd (oct x 1), dd (oct x 2), dd (oct x 3)] [46]
theorem ipText_eq (x : Nat) : ipText x = ipTextD x := by
  have h : ∀ k, oct x k < 1000 := fun k => by unfold oct; omega
  unfold ipText ipTextD
  rw [dd_eq _ (h 0), dd_eq _ (h 1), dd_eq _ (h 2), dd_eq _ (h 3)]
def textD (x : Nat) (b : Int) : List UInt8 := if may x b = true then ipTextD x ++ 47 :: dd b.toNat else []
theorem text_eq (x : Nat) (b : Int) : text x b = textD x b := by
  unfold text textD
  by_cases h : may x b = true
  · obtain ⟨n, rfl, hn, _⟩ := may_spec h
    rw [if_pos h, if_pos h, ipText_eq, Int.toNat_natCast, dd_eq n (by omega)]
  · rw [if_neg h, if_neg h]

theorem text_closed (x : Nat) (b : Int) (hx : x < 4294967296) (l : List UInt8) (h : textD x b = l) (w : World) (hr : Rdy w) :
    Calls Tryd.prog 13 #[.agg #[.int .u32 (x : Int), .int .i64 b]] w fun e w' => e = .returned (.string ⟨l.toArray⟩) ∧ Kept Nothing w w' := by
  have := text_any x b hx w hr
  rwa [text_eq, h] at this
theorem parse_closed (l : List UInt8) (hl : l.length ≤ 100000) (x b : Nat) (e : Int) (h : parse l = ((x, b), e)) (w : World) :
    Calls Tryd.prog 31 #[.string ⟨l.toArray⟩] w fun r w' => r = .returned (.tuple #[.agg #[.int .u32 (x : Nat), .int .i64 (b : Nat)], .int .i64 e]) ∧ Kept Nothing w w' := by
  have := parse_any l hl w
  rwa [h] at this

theorem pf1 : parse [49, 48, 46, 48, 46, 48, 46, 49, 47, 56] = ((0, 0), 24) := by decide
theorem pf2 : parse [49, 48, 46, 48, 46, 48, 46, 48, 47, 51, 51] = ((0, 0), 24) := by decide
theorem pf3 : parse [49, 48, 46, 48, 46, 48, 47, 56] = ((0, 0), 5) := by decide
theorem rd1 : readL [24, 10, 1, 2, 0, 9, 255, 255] = ([(167838208, 24), (0, 0), (4286578688, 9)], 0) := by decide
theorem tx1 : textD 167838208 24 = [49, 48, 46, 49, 46, 50, 46, 48, 47, 50, 52] := by decide
theorem tx2 : textD 0 0 = [48, 46, 48, 46, 48, 46, 48, 47, 48] := by decide
theorem tx3 : textD 4286578688 9 = [50, 53, 53, 46, 49, 50, 56, 46, 48, 46, 48, 47, 57] := by decide

/-- A row of the call's own with an element at least: where it lies, and its cells. -/
theorem own_at {w : World} {base : Nat} {e : TypeId} {size n : Nat} {v : Value} {xs : List Value} (h : w.ownsRow base e size v n xs) (h0 : 0 < n) : ∃ g c, v = .slice (some ⟨g, 0, none⟩) n c ∧ n ≤ c ∧ ∀ j, j < xs.length → w.cell? ⟨g, j, none⟩ = xs[j]? := by
  rcases h.2 with ⟨_, h1⟩ | ⟨g, cap, cur, rfl, _, hh, hn, _, _, ht⟩
  · omega
  · refine ⟨g, cap, rfl, hn, fun j hj => ?_⟩
    rw [cell_of_row w g j cur e (0, 0) hh, ← ht, List.getElem?_take_of_lt (by have := h.1; omega), Array.getElem?_toList]

theorem by_new (w : World) (l : List UInt8) (hm : l.length ≤ maxLen) : By (w.alloc (.cells (bys l).toArray 5)) (.slice (some ⟨w.heap.size, 0, none⟩) l.length l.length) l :=
  ⟨_, _, rfl, Nat.le_refl _, hm, by
    have := src_new w 5 (bys l).toArray 1 l.length (by simp [length_bys]) (fun u hu => by
      unfold bys at hu
      obtain ⟨b, _, rfl⟩ := List.mem_map.1 hu
      rfl)
    exact this⟩

set_option maxHeartbeats 1000000 in
theorem tells_any (w : World) (hr : Rdy w) : Calls Tryd.prog 28 #[] w fun e w' => e = .returned (.bool true) ∧ Kept Nothing w w' := by
  have HY := Lib.hid (by_new w [24, 10, 1, 2, 0, 9, 255, 255] (by simp [maxLen]))
  have k0 : Kept Nothing w (w.alloc (.cells (bys [24, 10, 1, 2, 0, 9, 255, 255]).toArray 5)) := (Kept.refl _ w).alloc _
  have q1 := Lib.hid (parse_closed _ (by simp) _ _ _ pf1)
  have q2 := Lib.hid (parse_closed _ (by simp) _ _ _ pf2)
  have q3 := Lib.hid (parse_closed _ (by simp) _ _ _ pf3)
  have t1 : Hid (∀ w, Rdy w → Calls Tryd.prog 13 #[.agg #[.int .u32 167838208, .int .i64 24]] w fun e w' => e = .returned (.string ⟨#[49, 48, 46, 49, 46, 50, 46, 48, 47, 50, 52]⟩) ∧ Kept Nothing w w') := Lib.hid (text_closed 167838208 24 (by decide) _ tx1)
  have t2 : Hid (∀ w, Rdy w → Calls Tryd.prog 13 #[.agg #[.int .u32 0, .int .i64 0]] w fun e w' => e = .returned (.string ⟨#[48, 46, 48, 46, 48, 46, 48, 47, 48]⟩) ∧ Kept Nothing w w') := Lib.hid (text_closed 0 0 (by decide) _ tx2)
  have t3 : Hid (∀ w, Rdy w → Calls Tryd.prog 13 #[.agg #[.int .u32 4286578688, .int .i64 9]] w fun e w' => e = .returned (.string ⟨#[50, 53, 53, 46, 49, 50, 56, 46, 48, 46, 48, 47, 57]⟩) ∧ Kept Nothing w w') := Lib.hid (text_closed 4286578688 9 (by decide) _ tx3)
  have HRD := Lib.hid rd1
  go_enter Tryd.func28, Tryd.ntmps28
  go_wp2_with (first
    | (go_at_call 33; refine (read_any _ [24, 10, 1, 2, 0, 9, 255, 255] (by simp) _ HY.out).mono ?_; rintro e w1 ⟨rv, he, ho, hk1⟩; rw [HRD.out] at he ho; subst he; obtain ⟨g, c, rfl, hc, hcell⟩ := own_at ho (by simp); have z0 : w1.cell? ⟨g, 0, none⟩ = some (.int .u32 167838208) := hcell 0 (by simp [pcs_len]); have z1 : w1.cell? ⟨g, 1, none⟩ = some (.int .i64 24) := hcell 1 (by simp [pcs_len]); have z2 : w1.cell? ⟨g, 2, none⟩ = some (.int .u32 0) := hcell 2 (by simp [pcs_len]); have z3 : w1.cell? ⟨g, 3, none⟩ = some (.int .i64 0) := hcell 3 (by simp [pcs_len]); have z4 : w1.cell? ⟨g, 4, none⟩ = some (.int .u32 4286578688) := hcell 4 (by simp [pcs_len]); have z5 : w1.cell? ⟨g, 5, none⟩ = some (.int .i64 9) := hcell 5 (by simp [pcs_len]); have k1 := k0.trans hk1; clear ho hcell hk1)
    | (go_at_call 31; (with_reducible refine (q1.out _).mono ?_); rintro e w2 ⟨rfl, hk2⟩)
    | (go_at_call 31; (with_reducible refine (q2.out _).mono ?_); rintro e w3 ⟨rfl, hk3⟩)
    | (go_at_call 31; (with_reducible refine (q3.out _).mono ?_); rintro e w4 ⟨rfl, hk4⟩; have kz := (((hk2.alloc _).trans hk3).alloc _).trans hk4; have y0 := kz.cell_some z0 (fun x => x); have y1 := kz.cell_some z1 (fun x => x); have hlt : g < w4.heap.size := World.block_lt_of_cell? w4 _ y0)
    | (go_at_call 13; (with_reducible refine (t1.out _ (hr.kept ((k1.trans kz).alloc _))).mono ?_); rintro e w5 ⟨rfl, hk5⟩; have ky := (kz.alloc _).trans hk5; have x2 := ky.cell_some z2 (fun x => x); have x3 := ky.cell_some z3 (fun x => x))
    | (go_at_call 13; (with_reducible refine (t2.out _ (hr.kept (k1.trans ky))).mono ?_); rintro e w6 ⟨rfl, hk6⟩; have kx := ky.trans hk6; have x4 := kx.cell_some z4 (fun x => x); have x5 := kx.cell_some z5 (fun x => x))
    | (go_at_call 13; (with_reducible refine (t3.out _ (hr.kept (k1.trans kx))).mono ?_); rintro e w7 ⟨rfl, hk7⟩))
  go_ret
  exact ⟨rfl, (k1.trans kx).trans hk7⟩
end Go.Proofs.YtfjhpeijlhlaeaaDoor
