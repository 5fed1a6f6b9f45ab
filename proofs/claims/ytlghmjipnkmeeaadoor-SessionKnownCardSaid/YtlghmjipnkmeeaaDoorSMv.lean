
/-
  session: the watch in memory; its does.
-/
import Derived.Test.YtlghmjipnkmeeaaDoorSMe
namespace Go.Proofs.YtlghmjipnkmeeaaDoor
open Go.RowKit

def Sm.Wa.wc (a : Sm.Wa) : Array Value := #[.bool a.line, .bool a.sent, .bool a.heard, .bool a.kept, .bool a.up, .bool false, .bool a.t1, .bool a.t2, .bool a.t3]
theorem wcells {v : World} {g : Nat} {a : Sm.Wa} (h : Blk v g 46 a.wc) : v.cell? ⟨g, 0, none⟩ = some (.bool a.line) ∧ v.cell? ⟨g, 1, none⟩ = some (.bool a.sent) ∧ v.cell? ⟨g, 2, none⟩ = some (.bool a.heard) ∧ v.cell? ⟨g, 3, none⟩ = some (.bool a.kept) ∧ v.cell? ⟨g, 4, none⟩ = some (.bool a.up) ∧ v.cell? ⟨g, 6, none⟩ = some (.bool a.t1) ∧ v.cell? ⟨g, 7, none⟩ = some (.bool a.t2) ∧ v.cell? ⟨g, 8, none⟩ = some (.bool a.t3) ∧ ∀ i, v.frozen? ⟨g, i, none⟩ = false :=
  ⟨h.cell 0, h.cell 1, h.cell 2, h.cell 3, h.cell 4, h.cell 6, h.cell 7, h.cell 8, fun i => h.free i⟩
theorem wfrozen {v : World} {g : Nat} {a : Sm.Wa} (h : Blk v g 46 a.wc) : v.frozen? ⟨g, 0, none⟩ = false ∧ v.frozen? ⟨g, 1, none⟩ = false ∧ v.frozen? ⟨g, 2, none⟩ = false ∧ v.frozen? ⟨g, 3, none⟩ = false ∧ v.frozen? ⟨g, 4, none⟩ = false ∧ v.frozen? ⟨g, 6, none⟩ = false ∧ v.frozen? ⟨g, 7, none⟩ = false ∧ v.frozen? ⟨g, 8, none⟩ = false :=
  ⟨h.free 0, h.free 1, h.free 2, h.free 3, h.free 4, h.free 6, h.free 7, h.free 8⟩

theorem s_does_1 (p : Nat) (heard kept up t1 t2 t3 : Bool) (ticks : Nat) (code sub : Nat) (A : Option Addr) (n c : Nat) (w : World) (hB : Blk w p 46 (Sm.Wa.wc ⟨true, true, heard, kept, up, t1, t2, t3⟩)) :
    Calls Tryd.prog 14 #[.pointer (some ⟨p, 0, none⟩), .agg #[.int .i64 1, .int .u8 1, .int .i64 ticks, .int .u8 code, .int .u8 sub, .slice A n c]] w fun e w' => e = .returned (.bool true) ∧ Blk w' p 46 (Sm.Wa.wc ⟨true, true, heard, kept, up, t1, t2, t3⟩) ∧ Kept (Only p) w w' := by
  have k0 := (Kept.refl (Only p) w).alloc (.cells #[.int .i64 1, .int .u8 1, .int .i64 ticks, .int .u8 code, .int .u8 sub, .slice A n c] 48)
  have b0 := hB.alloc (.cells #[.int .i64 1, .int .u8 1, .int .i64 ticks, .int .u8 code, .int .u8 sub, .slice A n c] 48)
  have a0 := Blk.fresh w 48 #[.int .i64 1, .int .u8 1, .int .i64 ticks, .int .u8 code, .int .u8 sub, .slice A n c]
  clear hB
  go_enter Tryd.func14, Tryd.ntmps14
  go_upto_region 1 with fail
  change Code.wp _ _ _ _ ((w.alloc (.cells #[.int .i64 1, .int .u8 1, .int .i64 ticks, .int .u8 code, .int .u8 sub, .slice A n c] 48)))
  generalize w.alloc (.cells #[.int .i64 1, .int .u8 1, .int .i64 ticks, .int .u8 code, .int .u8 sub, .slice A n c] 48) = W0 at *
  have x0 : W0.cell? ⟨w.heap.size, 0, none⟩ = some (.int .i64 1) := a0.cell 0
  have x1 : W0.cell? ⟨w.heap.size, 1, none⟩ = some (.int .u8 1) := a0.cell 1
  have x2 : W0.cell? ⟨w.heap.size, 2, none⟩ = some (.int .i64 ticks) := a0.cell 2
  have B := Lib.hid b0
  have K := Lib.hid k0
  have hsz : p < w.heap.size ∨ w.heap.size ≤ p := by omega
  clear a0 k0
  obtain ⟨f0, f1, f2, f3, f4, f5, f6, f7⟩ := wfrozen b0
  have c0 : W0.cell? ⟨p, 0, none⟩ = some (.bool true) := b0.cell 0
  have c1 : W0.cell? ⟨p, 1, none⟩ = some (.bool true) := b0.cell 1
  have c2 : W0.cell? ⟨p, 2, none⟩ = some (.bool heard) := b0.cell 2
  have c3 : W0.cell? ⟨p, 3, none⟩ = some (.bool kept) := b0.cell 3
  have c4 : W0.cell? ⟨p, 4, none⟩ = some (.bool up) := b0.cell 4
  have c6 : W0.cell? ⟨p, 6, none⟩ = some (.bool t1) := b0.cell 6
  have c7 : W0.cell? ⟨p, 7, none⟩ = some (.bool t2) := b0.cell 7
  have c8 : W0.cell? ⟨p, 8, none⟩ = some (.bool t3) := b0.cell 8
  clear b0 hsz
  go_wp2
  go_ret
  exact ⟨rfl, by first | exact (B.out.put 1 (.bool true)) | exact Blk.drew (B.out.put 1 (.bool true)), by first | exact (K.out.setCell (p := ⟨p, 1, none⟩) (fun _ => rfl) (.bool true)) | exact Kept.drew (K.out.setCell (p := ⟨p, 1, none⟩) (fun _ => rfl) (.bool true))⟩
theorem s_does_2 (p : Nat) (heard kept up t1 t2 t3 : Bool) (ticks : Nat) (code sub : Nat) (A : Option Addr) (n c : Nat) (w : World) (hB : Blk w p 46 (Sm.Wa.wc ⟨true, false, heard, kept, up, t1, t2, t3⟩)) :
    Calls Tryd.prog 14 #[.pointer (some ⟨p, 0, none⟩), .agg #[.int .i64 1, .int .u8 1, .int .i64 ticks, .int .u8 code, .int .u8 sub, .slice A n c]] w fun e w' => e = .returned (.bool true) ∧ Blk w' p 46 (Sm.Wa.wc ⟨true, true, heard, kept, up, t1, t2, t3⟩) ∧ Kept (Only p) w w' := by
  have k0 := (Kept.refl (Only p) w).alloc (.cells #[.int .i64 1, .int .u8 1, .int .i64 ticks, .int .u8 code, .int .u8 sub, .slice A n c] 48)
  have b0 := hB.alloc (.cells #[.int .i64 1, .int .u8 1, .int .i64 ticks, .int .u8 code, .int .u8 sub, .slice A n c] 48)
  have a0 := Blk.fresh w 48 #[.int .i64 1, .int .u8 1, .int .i64 ticks, .int .u8 code, .int .u8 sub, .slice A n c]
  clear hB
  go_enter Tryd.func14, Tryd.ntmps14
  go_upto_region 1 with fail
  change Code.wp _ _ _ _ ((w.alloc (.cells #[.int .i64 1, .int .u8 1, .int .i64 ticks, .int .u8 code, .int .u8 sub, .slice A n c] 48)))
  generalize w.alloc (.cells #[.int .i64 1, .int .u8 1, .int .i64 ticks, .int .u8 code, .int .u8 sub, .slice A n c] 48) = W0 at *
  have x0 : W0.cell? ⟨w.heap.size, 0, none⟩ = some (.int .i64 1) := a0.cell 0
  have x1 : W0.cell? ⟨w.heap.size, 1, none⟩ = some (.int .u8 1) := a0.cell 1
  have x2 : W0.cell? ⟨w.heap.size, 2, none⟩ = some (.int .i64 ticks) := a0.cell 2
  have B := Lib.hid b0
  have K := Lib.hid k0
  have hsz : p < w.heap.size ∨ w.heap.size ≤ p := by omega
  clear a0 k0
  obtain ⟨f0, f1, f2, f3, f4, f5, f6, f7⟩ := wfrozen b0
  have c0 : W0.cell? ⟨p, 0, none⟩ = some (.bool true) := b0.cell 0
  have c1 : W0.cell? ⟨p, 1, none⟩ = some (.bool false) := b0.cell 1
  have c2 : W0.cell? ⟨p, 2, none⟩ = some (.bool heard) := b0.cell 2
  have c3 : W0.cell? ⟨p, 3, none⟩ = some (.bool kept) := b0.cell 3
  have c4 : W0.cell? ⟨p, 4, none⟩ = some (.bool up) := b0.cell 4
  have c6 : W0.cell? ⟨p, 6, none⟩ = some (.bool t1) := b0.cell 6
  have c7 : W0.cell? ⟨p, 7, none⟩ = some (.bool t2) := b0.cell 7
  have c8 : W0.cell? ⟨p, 8, none⟩ = some (.bool t3) := b0.cell 8
  clear b0 hsz
  go_wp2
  go_ret
  exact ⟨rfl, by first | exact (B.out.put 1 (.bool true)) | exact Blk.drew (B.out.put 1 (.bool true)), by first | exact (K.out.setCell (p := ⟨p, 1, none⟩) (fun _ => rfl) (.bool true)) | exact Kept.drew (K.out.setCell (p := ⟨p, 1, none⟩) (fun _ => rfl) (.bool true))⟩
theorem s_does_3 (p : Nat) (heard kept up t1 t2 t3 : Bool) (ticks : Nat) (code sub : Nat) (A : Option Addr) (n c : Nat) (w : World) (hB : Blk w p 46 (Sm.Wa.wc ⟨true, true, heard, kept, up, t1, t2, t3⟩)) :
    Calls Tryd.prog 14 #[.pointer (some ⟨p, 0, none⟩), .agg #[.int .i64 1, .int .u8 4, .int .i64 ticks, .int .u8 code, .int .u8 sub, .slice A n c]] w fun e w' => e = .returned (.bool true) ∧ Blk w' p 46 (Sm.Wa.wc ⟨true, true, heard, kept, up, t1, t2, t3⟩) ∧ Kept (Only p) w w' := by
  have k0 := (Kept.refl (Only p) w).alloc (.cells #[.int .i64 1, .int .u8 4, .int .i64 ticks, .int .u8 code, .int .u8 sub, .slice A n c] 48)
  have b0 := hB.alloc (.cells #[.int .i64 1, .int .u8 4, .int .i64 ticks, .int .u8 code, .int .u8 sub, .slice A n c] 48)
  have a0 := Blk.fresh w 48 #[.int .i64 1, .int .u8 4, .int .i64 ticks, .int .u8 code, .int .u8 sub, .slice A n c]
  clear hB
  go_enter Tryd.func14, Tryd.ntmps14
  go_upto_region 1 with fail
  change Code.wp _ _ _ _ ((w.alloc (.cells #[.int .i64 1, .int .u8 4, .int .i64 ticks, .int .u8 code, .int .u8 sub, .slice A n c] 48)))
  generalize w.alloc (.cells #[.int .i64 1, .int .u8 4, .int .i64 ticks, .int .u8 code, .int .u8 sub, .slice A n c] 48) = W0 at *
  have x0 : W0.cell? ⟨w.heap.size, 0, none⟩ = some (.int .i64 1) := a0.cell 0
  have x1 : W0.cell? ⟨w.heap.size, 1, none⟩ = some (.int .u8 4) := a0.cell 1
  have x2 : W0.cell? ⟨w.heap.size, 2, none⟩ = some (.int .i64 ticks) := a0.cell 2
  have B := Lib.hid b0
  have K := Lib.hid k0
  have hsz : p < w.heap.size ∨ w.heap.size ≤ p := by omega
  clear a0 k0
  obtain ⟨f0, f1, f2, f3, f4, f5, f6, f7⟩ := wfrozen b0
  have c0 : W0.cell? ⟨p, 0, none⟩ = some (.bool true) := b0.cell 0
  have c1 : W0.cell? ⟨p, 1, none⟩ = some (.bool true) := b0.cell 1
  have c2 : W0.cell? ⟨p, 2, none⟩ = some (.bool heard) := b0.cell 2
  have c3 : W0.cell? ⟨p, 3, none⟩ = some (.bool kept) := b0.cell 3
  have c4 : W0.cell? ⟨p, 4, none⟩ = some (.bool up) := b0.cell 4
  have c6 : W0.cell? ⟨p, 6, none⟩ = some (.bool t1) := b0.cell 6
  have c7 : W0.cell? ⟨p, 7, none⟩ = some (.bool t2) := b0.cell 7
  have c8 : W0.cell? ⟨p, 8, none⟩ = some (.bool t3) := b0.cell 8
  clear b0 hsz
  go_wp2
  go_ret
  exact ⟨rfl, by first | exact (B.out.put 1 (.bool true)) | exact Blk.drew (B.out.put 1 (.bool true)), by first | exact (K.out.setCell (p := ⟨p, 1, none⟩) (fun _ => rfl) (.bool true)) | exact Kept.drew (K.out.setCell (p := ⟨p, 1, none⟩) (fun _ => rfl) (.bool true))⟩
theorem s_does_4 (p : Nat) (heard kept up t1 t2 t3 : Bool) (ticks : Nat) (code sub : Nat) (A : Option Addr) (n c : Nat) (w : World) (hB : Blk w p 46 (Sm.Wa.wc ⟨true, false, heard, kept, up, t1, t2, t3⟩)) :
    Calls Tryd.prog 14 #[.pointer (some ⟨p, 0, none⟩), .agg #[.int .i64 1, .int .u8 4, .int .i64 ticks, .int .u8 code, .int .u8 sub, .slice A n c]] w fun e w' => e = .returned (.bool true) ∧ Blk w' p 46 (Sm.Wa.wc ⟨true, false, heard, kept, up, t1, t2, t3⟩) ∧ Kept (Only p) w w' := by
  have k0 := (Kept.refl (Only p) w).alloc (.cells #[.int .i64 1, .int .u8 4, .int .i64 ticks, .int .u8 code, .int .u8 sub, .slice A n c] 48)
  have b0 := hB.alloc (.cells #[.int .i64 1, .int .u8 4, .int .i64 ticks, .int .u8 code, .int .u8 sub, .slice A n c] 48)
  have a0 := Blk.fresh w 48 #[.int .i64 1, .int .u8 4, .int .i64 ticks, .int .u8 code, .int .u8 sub, .slice A n c]
  clear hB
  go_enter Tryd.func14, Tryd.ntmps14
  go_upto_region 1 with fail
  change Code.wp _ _ _ _ ((w.alloc (.cells #[.int .i64 1, .int .u8 4, .int .i64 ticks, .int .u8 code, .int .u8 sub, .slice A n c] 48)))
  generalize w.alloc (.cells #[.int .i64 1, .int .u8 4, .int .i64 ticks, .int .u8 code, .int .u8 sub, .slice A n c] 48) = W0 at *
  have x0 : W0.cell? ⟨w.heap.size, 0, none⟩ = some (.int .i64 1) := a0.cell 0
  have x1 : W0.cell? ⟨w.heap.size, 1, none⟩ = some (.int .u8 4) := a0.cell 1
  have x2 : W0.cell? ⟨w.heap.size, 2, none⟩ = some (.int .i64 ticks) := a0.cell 2
  have B := Lib.hid b0
  have K := Lib.hid k0
  have hsz : p < w.heap.size ∨ w.heap.size ≤ p := by omega
  clear a0 k0
  obtain ⟨f0, f1, f2, f3, f4, f5, f6, f7⟩ := wfrozen b0
  have c0 : W0.cell? ⟨p, 0, none⟩ = some (.bool true) := b0.cell 0
  have c1 : W0.cell? ⟨p, 1, none⟩ = some (.bool false) := b0.cell 1
  have c2 : W0.cell? ⟨p, 2, none⟩ = some (.bool heard) := b0.cell 2
  have c3 : W0.cell? ⟨p, 3, none⟩ = some (.bool kept) := b0.cell 3
  have c4 : W0.cell? ⟨p, 4, none⟩ = some (.bool up) := b0.cell 4
  have c6 : W0.cell? ⟨p, 6, none⟩ = some (.bool t1) := b0.cell 6
  have c7 : W0.cell? ⟨p, 7, none⟩ = some (.bool t2) := b0.cell 7
  have c8 : W0.cell? ⟨p, 8, none⟩ = some (.bool t3) := b0.cell 8
  clear b0 hsz
  go_wp2
  go_ret
  exact ⟨rfl, by first | exact (B.out.put 1 (.bool false)) | exact Blk.drew (B.out.put 1 (.bool false)), by first | exact (K.out.setCell (p := ⟨p, 1, none⟩) (fun _ => rfl) (.bool false)) | exact Kept.drew (K.out.setCell (p := ⟨p, 1, none⟩) (fun _ => rfl) (.bool false))⟩
theorem s_does_5 (p : Nat) (heard kept up t1 t2 t3 : Bool) (what : Nat) (ticks : Nat) (code sub : Nat) (A : Option Addr) (n c : Nat) (w : World) (hB : Blk w p 46 (Sm.Wa.wc ⟨true, true, heard, kept, up, t1, t2, t3⟩)) :
    Calls Tryd.prog 14 #[.pointer (some ⟨p, 0, none⟩), .agg #[.int .i64 2, .int .u8 what, .int .i64 ticks, .int .u8 code, .int .u8 sub, .slice A n c]] w fun e w' => e = .returned (.bool true) ∧ Blk w' p 46 (Sm.Wa.wc ⟨true, true, heard, kept, up, t1, t2, t3⟩) ∧ Kept (Only p) w w' := by
  have k0 := (Kept.refl (Only p) w).alloc (.cells #[.int .i64 2, .int .u8 what, .int .i64 ticks, .int .u8 code, .int .u8 sub, .slice A n c] 48)
  have b0 := hB.alloc (.cells #[.int .i64 2, .int .u8 what, .int .i64 ticks, .int .u8 code, .int .u8 sub, .slice A n c] 48)
  have a0 := Blk.fresh w 48 #[.int .i64 2, .int .u8 what, .int .i64 ticks, .int .u8 code, .int .u8 sub, .slice A n c]
  clear hB
  go_enter Tryd.func14, Tryd.ntmps14
  go_upto_region 1 with fail
  change Code.wp _ _ _ _ ((w.alloc (.cells #[.int .i64 2, .int .u8 what, .int .i64 ticks, .int .u8 code, .int .u8 sub, .slice A n c] 48)))
  generalize w.alloc (.cells #[.int .i64 2, .int .u8 what, .int .i64 ticks, .int .u8 code, .int .u8 sub, .slice A n c] 48) = W0 at *
  have x0 : W0.cell? ⟨w.heap.size, 0, none⟩ = some (.int .i64 2) := a0.cell 0
  have x1 : W0.cell? ⟨w.heap.size, 1, none⟩ = some (.int .u8 what) := a0.cell 1
  have x2 : W0.cell? ⟨w.heap.size, 2, none⟩ = some (.int .i64 ticks) := a0.cell 2
  have B := Lib.hid b0
  have K := Lib.hid k0
  have hsz : p < w.heap.size ∨ w.heap.size ≤ p := by omega
  clear a0 k0
  obtain ⟨f0, f1, f2, f3, f4, f5, f6, f7⟩ := wfrozen b0
  have c0 : W0.cell? ⟨p, 0, none⟩ = some (.bool true) := b0.cell 0
  have c1 : W0.cell? ⟨p, 1, none⟩ = some (.bool true) := b0.cell 1
  have c2 : W0.cell? ⟨p, 2, none⟩ = some (.bool heard) := b0.cell 2
  have c3 : W0.cell? ⟨p, 3, none⟩ = some (.bool kept) := b0.cell 3
  have c4 : W0.cell? ⟨p, 4, none⟩ = some (.bool up) := b0.cell 4
  have c6 : W0.cell? ⟨p, 6, none⟩ = some (.bool t1) := b0.cell 6
  have c7 : W0.cell? ⟨p, 7, none⟩ = some (.bool t2) := b0.cell 7
  have c8 : W0.cell? ⟨p, 8, none⟩ = some (.bool t3) := b0.cell 8
  clear b0 hsz
  go_wp2
  go_ret
  exact ⟨rfl, by first | exact (B.out.put 1 (.bool true)) | exact Blk.drew (B.out.put 1 (.bool true)), by first | exact (K.out.setCell (p := ⟨p, 1, none⟩) (fun _ => rfl) (.bool true)) | exact Kept.drew (K.out.setCell (p := ⟨p, 1, none⟩) (fun _ => rfl) (.bool true))⟩
theorem s_does_6 (p : Nat) (heard kept up t1 t2 t3 : Bool) (ticks : Nat) (code sub : Nat) (A : Option Addr) (n c : Nat) (w : World) (hB : Blk w p 46 (Sm.Wa.wc ⟨true, false, heard, kept, up, t1, t2, t3⟩)) :
    Calls Tryd.prog 14 #[.pointer (some ⟨p, 0, none⟩), .agg #[.int .i64 2, .int .u8 1, .int .i64 ticks, .int .u8 code, .int .u8 sub, .slice A n c]] w fun e w' => e = .returned (.bool true) ∧ Blk w' p 46 (Sm.Wa.wc ⟨true, true, heard, kept, up, t1, t2, t3⟩) ∧ Kept (Only p) w w' := by
  have k0 := (Kept.refl (Only p) w).alloc (.cells #[.int .i64 2, .int .u8 1, .int .i64 ticks, .int .u8 code, .int .u8 sub, .slice A n c] 48)
  have b0 := hB.alloc (.cells #[.int .i64 2, .int .u8 1, .int .i64 ticks, .int .u8 code, .int .u8 sub, .slice A n c] 48)
  have a0 := Blk.fresh w 48 #[.int .i64 2, .int .u8 1, .int .i64 ticks, .int .u8 code, .int .u8 sub, .slice A n c]
  clear hB
  go_enter Tryd.func14, Tryd.ntmps14
  go_upto_region 1 with fail
  change Code.wp _ _ _ _ ((w.alloc (.cells #[.int .i64 2, .int .u8 1, .int .i64 ticks, .int .u8 code, .int .u8 sub, .slice A n c] 48)))
  generalize w.alloc (.cells #[.int .i64 2, .int .u8 1, .int .i64 ticks, .int .u8 code, .int .u8 sub, .slice A n c] 48) = W0 at *
  have x0 : W0.cell? ⟨w.heap.size, 0, none⟩ = some (.int .i64 2) := a0.cell 0
  have x1 : W0.cell? ⟨w.heap.size, 1, none⟩ = some (.int .u8 1) := a0.cell 1
  have x2 : W0.cell? ⟨w.heap.size, 2, none⟩ = some (.int .i64 ticks) := a0.cell 2
  have B := Lib.hid b0
  have K := Lib.hid k0
  have hsz : p < w.heap.size ∨ w.heap.size ≤ p := by omega
  clear a0 k0
  obtain ⟨f0, f1, f2, f3, f4, f5, f6, f7⟩ := wfrozen b0
  have c0 : W0.cell? ⟨p, 0, none⟩ = some (.bool true) := b0.cell 0
  have c1 : W0.cell? ⟨p, 1, none⟩ = some (.bool false) := b0.cell 1
  have c2 : W0.cell? ⟨p, 2, none⟩ = some (.bool heard) := b0.cell 2
  have c3 : W0.cell? ⟨p, 3, none⟩ = some (.bool kept) := b0.cell 3
  have c4 : W0.cell? ⟨p, 4, none⟩ = some (.bool up) := b0.cell 4
  have c6 : W0.cell? ⟨p, 6, none⟩ = some (.bool t1) := b0.cell 6
  have c7 : W0.cell? ⟨p, 7, none⟩ = some (.bool t2) := b0.cell 7
  have c8 : W0.cell? ⟨p, 8, none⟩ = some (.bool t3) := b0.cell 8
  clear b0 hsz
  go_wp2
  go_ret
  exact ⟨rfl, by first | exact (B.out.put 1 (.bool true)) | exact Blk.drew (B.out.put 1 (.bool true)), by first | exact (K.out.setCell (p := ⟨p, 1, none⟩) (fun _ => rfl) (.bool true)) | exact Kept.drew (K.out.setCell (p := ⟨p, 1, none⟩) (fun _ => rfl) (.bool true))⟩
theorem s_does_7 (p : Nat) (heard kept up t1 t2 t3 : Bool) (what : Nat) (ticks : Nat) (code sub : Nat) (A : Option Addr) (n c : Nat) (w : World) (hw : ¬ what = 1) (hB : Blk w p 46 (Sm.Wa.wc ⟨true, false, heard, kept, up, t1, t2, t3⟩)) :
    Calls Tryd.prog 14 #[.pointer (some ⟨p, 0, none⟩), .agg #[.int .i64 2, .int .u8 what, .int .i64 ticks, .int .u8 code, .int .u8 sub, .slice A n c]] w fun e w' => e = .returned (.bool true) ∧ Blk w' p 46 (Sm.Wa.wc ⟨true, false, heard, kept, up, t1, t2, t3⟩) ∧ Kept (Only p) w w' := by
  have h1 : ((what : Int) == 1) = false := by simp; omega
  clear hw
  have k0 := (Kept.refl (Only p) w).alloc (.cells #[.int .i64 2, .int .u8 what, .int .i64 ticks, .int .u8 code, .int .u8 sub, .slice A n c] 48)
  have b0 := hB.alloc (.cells #[.int .i64 2, .int .u8 what, .int .i64 ticks, .int .u8 code, .int .u8 sub, .slice A n c] 48)
  have a0 := Blk.fresh w 48 #[.int .i64 2, .int .u8 what, .int .i64 ticks, .int .u8 code, .int .u8 sub, .slice A n c]
  clear hB
  go_enter Tryd.func14, Tryd.ntmps14
  go_upto_region 1 with fail
  change Code.wp _ _ _ _ ((w.alloc (.cells #[.int .i64 2, .int .u8 what, .int .i64 ticks, .int .u8 code, .int .u8 sub, .slice A n c] 48)))
  generalize w.alloc (.cells #[.int .i64 2, .int .u8 what, .int .i64 ticks, .int .u8 code, .int .u8 sub, .slice A n c] 48) = W0 at *
  have x0 : W0.cell? ⟨w.heap.size, 0, none⟩ = some (.int .i64 2) := a0.cell 0
  have x1 : W0.cell? ⟨w.heap.size, 1, none⟩ = some (.int .u8 what) := a0.cell 1
  have x2 : W0.cell? ⟨w.heap.size, 2, none⟩ = some (.int .i64 ticks) := a0.cell 2
  have B := Lib.hid b0
  have K := Lib.hid k0
  have hsz : p < w.heap.size ∨ w.heap.size ≤ p := by omega
  clear a0 k0
  obtain ⟨f0, f1, f2, f3, f4, f5, f6, f7⟩ := wfrozen b0
  have c0 : W0.cell? ⟨p, 0, none⟩ = some (.bool true) := b0.cell 0
  have c1 : W0.cell? ⟨p, 1, none⟩ = some (.bool false) := b0.cell 1
  have c2 : W0.cell? ⟨p, 2, none⟩ = some (.bool heard) := b0.cell 2
  have c3 : W0.cell? ⟨p, 3, none⟩ = some (.bool kept) := b0.cell 3
  have c4 : W0.cell? ⟨p, 4, none⟩ = some (.bool up) := b0.cell 4
  have c6 : W0.cell? ⟨p, 6, none⟩ = some (.bool t1) := b0.cell 6
  have c7 : W0.cell? ⟨p, 7, none⟩ = some (.bool t2) := b0.cell 7
  have c8 : W0.cell? ⟨p, 8, none⟩ = some (.bool t3) := b0.cell 8
  clear b0 hsz
  go_wp2
  go_ret
  exact ⟨rfl, by first | exact (B.out.put 1 (.bool false)) | exact Blk.drew (B.out.put 1 (.bool false)), by first | exact (K.out.setCell (p := ⟨p, 1, none⟩) (fun _ => rfl) (.bool false)) | exact Kept.drew (K.out.setCell (p := ⟨p, 1, none⟩) (fun _ => rfl) (.bool false))⟩
theorem s_does_8 (p : Nat) (line sent heard kept up t1 t2 t3 : Bool) (ticks : Nat) (code sub : Nat) (A : Option Addr) (n c : Nat) (w : World) (ht : 1 ≤ ticks) (hB : Blk w p 46 (Sm.Wa.wc ⟨line, sent, heard, kept, up, t1, t2, t3⟩)) :
    Calls Tryd.prog 14 #[.pointer (some ⟨p, 0, none⟩), .agg #[.int .i64 3, .int .u8 1, .int .i64 ticks, .int .u8 code, .int .u8 sub, .slice A n c]] w fun e w' => e = .returned (.bool true) ∧ Blk w' p 46 (Sm.Wa.wc ⟨line, sent, heard, kept, up, true, t2, t3⟩) ∧ Kept (Only p) w w' := by
  have h1 : (1 : Int) ≤ (ticks : Int) := by omega
  clear ht
  have k0 := (Kept.refl (Only p) w).alloc (.cells #[.int .i64 3, .int .u8 1, .int .i64 ticks, .int .u8 code, .int .u8 sub, .slice A n c] 48)
  have b0 := hB.alloc (.cells #[.int .i64 3, .int .u8 1, .int .i64 ticks, .int .u8 code, .int .u8 sub, .slice A n c] 48)
  have a0 := Blk.fresh w 48 #[.int .i64 3, .int .u8 1, .int .i64 ticks, .int .u8 code, .int .u8 sub, .slice A n c]
  clear hB
  go_enter Tryd.func14, Tryd.ntmps14
  go_upto_region 1 with fail
  change Code.wp _ _ _ _ ((w.alloc (.cells #[.int .i64 3, .int .u8 1, .int .i64 ticks, .int .u8 code, .int .u8 sub, .slice A n c] 48)))
  generalize w.alloc (.cells #[.int .i64 3, .int .u8 1, .int .i64 ticks, .int .u8 code, .int .u8 sub, .slice A n c] 48) = W0 at *
  have x0 : W0.cell? ⟨w.heap.size, 0, none⟩ = some (.int .i64 3) := a0.cell 0
  have x1 : W0.cell? ⟨w.heap.size, 1, none⟩ = some (.int .u8 1) := a0.cell 1
  have x2 : W0.cell? ⟨w.heap.size, 2, none⟩ = some (.int .i64 ticks) := a0.cell 2
  have B := Lib.hid b0
  have K := Lib.hid k0
  have hsz : p < w.heap.size ∨ w.heap.size ≤ p := by omega
  clear a0 k0
  obtain ⟨f0, f1, f2, f3, f4, f5, f6, f7⟩ := wfrozen b0
  have c0 : W0.cell? ⟨p, 0, none⟩ = some (.bool line) := b0.cell 0
  have c1 : W0.cell? ⟨p, 1, none⟩ = some (.bool sent) := b0.cell 1
  have c2 : W0.cell? ⟨p, 2, none⟩ = some (.bool heard) := b0.cell 2
  have c3 : W0.cell? ⟨p, 3, none⟩ = some (.bool kept) := b0.cell 3
  have c4 : W0.cell? ⟨p, 4, none⟩ = some (.bool up) := b0.cell 4
  have c6 : W0.cell? ⟨p, 6, none⟩ = some (.bool t1) := b0.cell 6
  have c7 : W0.cell? ⟨p, 7, none⟩ = some (.bool t2) := b0.cell 7
  have c8 : W0.cell? ⟨p, 8, none⟩ = some (.bool t3) := b0.cell 8
  clear b0 hsz
  go_upto_region 10 with fail
  go_region
  all_goals
    go_wp2
    go_ret
    exact ⟨rfl, (B.out.put 6 (.bool true)), by first | exact (K.out.setCell (p := ⟨p, 6, none⟩) (fun _ => rfl) (.bool true)) | exact Kept.drew (K.out.setCell (p := ⟨p, 6, none⟩) (fun _ => rfl) (.bool true))⟩
theorem s_does_9 (p : Nat) (line sent heard kept up t1 t2 t3 : Bool) (ticks : Nat) (code sub : Nat) (A : Option Addr) (n c : Nat) (w : World) (hB : Blk w p 46 (Sm.Wa.wc ⟨line, sent, heard, kept, up, t1, t2, t3⟩)) :
    Calls Tryd.prog 14 #[.pointer (some ⟨p, 0, none⟩), .agg #[.int .i64 4, .int .u8 1, .int .i64 ticks, .int .u8 code, .int .u8 sub, .slice A n c]] w fun e w' => e = .returned (.bool true) ∧ Blk w' p 46 (Sm.Wa.wc ⟨line, sent, heard, kept, up, false, t2, t3⟩) ∧ Kept (Only p) w w' := by
  have k0 := (Kept.refl (Only p) w).alloc (.cells #[.int .i64 4, .int .u8 1, .int .i64 ticks, .int .u8 code, .int .u8 sub, .slice A n c] 48)
  have b0 := hB.alloc (.cells #[.int .i64 4, .int .u8 1, .int .i64 ticks, .int .u8 code, .int .u8 sub, .slice A n c] 48)
  have a0 := Blk.fresh w 48 #[.int .i64 4, .int .u8 1, .int .i64 ticks, .int .u8 code, .int .u8 sub, .slice A n c]
  clear hB
  go_enter Tryd.func14, Tryd.ntmps14
  go_upto_region 1 with fail
  change Code.wp _ _ _ _ ((w.alloc (.cells #[.int .i64 4, .int .u8 1, .int .i64 ticks, .int .u8 code, .int .u8 sub, .slice A n c] 48)))
  generalize w.alloc (.cells #[.int .i64 4, .int .u8 1, .int .i64 ticks, .int .u8 code, .int .u8 sub, .slice A n c] 48) = W0 at *
  have x0 : W0.cell? ⟨w.heap.size, 0, none⟩ = some (.int .i64 4) := a0.cell 0
  have x1 : W0.cell? ⟨w.heap.size, 1, none⟩ = some (.int .u8 1) := a0.cell 1
  have x2 : W0.cell? ⟨w.heap.size, 2, none⟩ = some (.int .i64 ticks) := a0.cell 2
  have B := Lib.hid b0
  have K := Lib.hid k0
  have hsz : p < w.heap.size ∨ w.heap.size ≤ p := by omega
  clear a0 k0
  obtain ⟨f0, f1, f2, f3, f4, f5, f6, f7⟩ := wfrozen b0
  have c0 : W0.cell? ⟨p, 0, none⟩ = some (.bool line) := b0.cell 0
  have c1 : W0.cell? ⟨p, 1, none⟩ = some (.bool sent) := b0.cell 1
  have c2 : W0.cell? ⟨p, 2, none⟩ = some (.bool heard) := b0.cell 2
  have c3 : W0.cell? ⟨p, 3, none⟩ = some (.bool kept) := b0.cell 3
  have c4 : W0.cell? ⟨p, 4, none⟩ = some (.bool up) := b0.cell 4
  have c6 : W0.cell? ⟨p, 6, none⟩ = some (.bool t1) := b0.cell 6
  have c7 : W0.cell? ⟨p, 7, none⟩ = some (.bool t2) := b0.cell 7
  have c8 : W0.cell? ⟨p, 8, none⟩ = some (.bool t3) := b0.cell 8
  clear b0 hsz
  go_upto_region 14 with fail
  go_region
  all_goals
    go_wp2
    go_ret
    exact ⟨rfl, (B.out.put 6 (.bool false)), by first | exact (K.out.setCell (p := ⟨p, 6, none⟩) (fun _ => rfl) (.bool false)) | exact Kept.drew (K.out.setCell (p := ⟨p, 6, none⟩) (fun _ => rfl) (.bool false))⟩
theorem s_does_10 (p : Nat) (line sent heard kept up t1 t2 t3 : Bool) (ticks : Nat) (code sub : Nat) (A : Option Addr) (n c : Nat) (w : World) (ht : 1 ≤ ticks) (hB : Blk w p 46 (Sm.Wa.wc ⟨line, sent, heard, kept, up, t1, t2, t3⟩)) :
    Calls Tryd.prog 14 #[.pointer (some ⟨p, 0, none⟩), .agg #[.int .i64 3, .int .u8 2, .int .i64 ticks, .int .u8 code, .int .u8 sub, .slice A n c]] w fun e w' => e = .returned (.bool true) ∧ Blk w' p 46 (Sm.Wa.wc ⟨line, sent, heard, kept, up, t1, true, t3⟩) ∧ Kept (Only p) w w' := by
  have h1 : (1 : Int) ≤ (ticks : Int) := by omega
  clear ht
  have k0 := (Kept.refl (Only p) w).alloc (.cells #[.int .i64 3, .int .u8 2, .int .i64 ticks, .int .u8 code, .int .u8 sub, .slice A n c] 48)
  have b0 := hB.alloc (.cells #[.int .i64 3, .int .u8 2, .int .i64 ticks, .int .u8 code, .int .u8 sub, .slice A n c] 48)
  have a0 := Blk.fresh w 48 #[.int .i64 3, .int .u8 2, .int .i64 ticks, .int .u8 code, .int .u8 sub, .slice A n c]
  clear hB
  go_enter Tryd.func14, Tryd.ntmps14
  go_upto_region 1 with fail
  change Code.wp _ _ _ _ ((w.alloc (.cells #[.int .i64 3, .int .u8 2, .int .i64 ticks, .int .u8 code, .int .u8 sub, .slice A n c] 48)))
  generalize w.alloc (.cells #[.int .i64 3, .int .u8 2, .int .i64 ticks, .int .u8 code, .int .u8 sub, .slice A n c] 48) = W0 at *
  have x0 : W0.cell? ⟨w.heap.size, 0, none⟩ = some (.int .i64 3) := a0.cell 0
  have x1 : W0.cell? ⟨w.heap.size, 1, none⟩ = some (.int .u8 2) := a0.cell 1
  have x2 : W0.cell? ⟨w.heap.size, 2, none⟩ = some (.int .i64 ticks) := a0.cell 2
  have B := Lib.hid b0
  have K := Lib.hid k0
  have hsz : p < w.heap.size ∨ w.heap.size ≤ p := by omega
  clear a0 k0
  obtain ⟨f0, f1, f2, f3, f4, f5, f6, f7⟩ := wfrozen b0
  have c0 : W0.cell? ⟨p, 0, none⟩ = some (.bool line) := b0.cell 0
  have c1 : W0.cell? ⟨p, 1, none⟩ = some (.bool sent) := b0.cell 1
  have c2 : W0.cell? ⟨p, 2, none⟩ = some (.bool heard) := b0.cell 2
  have c3 : W0.cell? ⟨p, 3, none⟩ = some (.bool kept) := b0.cell 3
  have c4 : W0.cell? ⟨p, 4, none⟩ = some (.bool up) := b0.cell 4
  have c6 : W0.cell? ⟨p, 6, none⟩ = some (.bool t1) := b0.cell 6
  have c7 : W0.cell? ⟨p, 7, none⟩ = some (.bool t2) := b0.cell 7
  have c8 : W0.cell? ⟨p, 8, none⟩ = some (.bool t3) := b0.cell 8
  clear b0 hsz
  go_upto_region 10 with fail
  go_region
  all_goals
    go_wp2
    go_ret
    exact ⟨rfl, (B.out.put 7 (.bool true)), by first | exact (K.out.setCell (p := ⟨p, 7, none⟩) (fun _ => rfl) (.bool true)) | exact Kept.drew (K.out.setCell (p := ⟨p, 7, none⟩) (fun _ => rfl) (.bool true))⟩
theorem s_does_11 (p : Nat) (line sent heard kept up t1 t2 t3 : Bool) (ticks : Nat) (code sub : Nat) (A : Option Addr) (n c : Nat) (w : World) (hB : Blk w p 46 (Sm.Wa.wc ⟨line, sent, heard, kept, up, t1, t2, t3⟩)) :
    Calls Tryd.prog 14 #[.pointer (some ⟨p, 0, none⟩), .agg #[.int .i64 4, .int .u8 2, .int .i64 ticks, .int .u8 code, .int .u8 sub, .slice A n c]] w fun e w' => e = .returned (.bool true) ∧ Blk w' p 46 (Sm.Wa.wc ⟨line, sent, heard, kept, up, t1, false, t3⟩) ∧ Kept (Only p) w w' := by
  have k0 := (Kept.refl (Only p) w).alloc (.cells #[.int .i64 4, .int .u8 2, .int .i64 ticks, .int .u8 code, .int .u8 sub, .slice A n c] 48)
  have b0 := hB.alloc (.cells #[.int .i64 4, .int .u8 2, .int .i64 ticks, .int .u8 code, .int .u8 sub, .slice A n c] 48)
  have a0 := Blk.fresh w 48 #[.int .i64 4, .int .u8 2, .int .i64 ticks, .int .u8 code, .int .u8 sub, .slice A n c]
  clear hB
  go_enter Tryd.func14, Tryd.ntmps14
  go_upto_region 1 with fail
  change Code.wp _ _ _ _ ((w.alloc (.cells #[.int .i64 4, .int .u8 2, .int .i64 ticks, .int .u8 code, .int .u8 sub, .slice A n c] 48)))
  generalize w.alloc (.cells #[.int .i64 4, .int .u8 2, .int .i64 ticks, .int .u8 code, .int .u8 sub, .slice A n c] 48) = W0 at *
  have x0 : W0.cell? ⟨w.heap.size, 0, none⟩ = some (.int .i64 4) := a0.cell 0
  have x1 : W0.cell? ⟨w.heap.size, 1, none⟩ = some (.int .u8 2) := a0.cell 1
  have x2 : W0.cell? ⟨w.heap.size, 2, none⟩ = some (.int .i64 ticks) := a0.cell 2
  have B := Lib.hid b0
  have K := Lib.hid k0
  have hsz : p < w.heap.size ∨ w.heap.size ≤ p := by omega
  clear a0 k0
  obtain ⟨f0, f1, f2, f3, f4, f5, f6, f7⟩ := wfrozen b0
  have c0 : W0.cell? ⟨p, 0, none⟩ = some (.bool line) := b0.cell 0
  have c1 : W0.cell? ⟨p, 1, none⟩ = some (.bool sent) := b0.cell 1
  have c2 : W0.cell? ⟨p, 2, none⟩ = some (.bool heard) := b0.cell 2
  have c3 : W0.cell? ⟨p, 3, none⟩ = some (.bool kept) := b0.cell 3
  have c4 : W0.cell? ⟨p, 4, none⟩ = some (.bool up) := b0.cell 4
  have c6 : W0.cell? ⟨p, 6, none⟩ = some (.bool t1) := b0.cell 6
  have c7 : W0.cell? ⟨p, 7, none⟩ = some (.bool t2) := b0.cell 7
  have c8 : W0.cell? ⟨p, 8, none⟩ = some (.bool t3) := b0.cell 8
  clear b0 hsz
  go_upto_region 14 with fail
  go_region
  all_goals
    go_wp2
    go_ret
    exact ⟨rfl, (B.out.put 7 (.bool false)), by first | exact (K.out.setCell (p := ⟨p, 7, none⟩) (fun _ => rfl) (.bool false)) | exact Kept.drew (K.out.setCell (p := ⟨p, 7, none⟩) (fun _ => rfl) (.bool false))⟩
theorem s_does_12 (p : Nat) (line sent heard kept up t1 t2 t3 : Bool) (ticks : Nat) (code sub : Nat) (A : Option Addr) (n c : Nat) (w : World) (ht : 1 ≤ ticks) (hB : Blk w p 46 (Sm.Wa.wc ⟨line, sent, heard, kept, up, t1, t2, t3⟩)) :
    Calls Tryd.prog 14 #[.pointer (some ⟨p, 0, none⟩), .agg #[.int .i64 3, .int .u8 3, .int .i64 ticks, .int .u8 code, .int .u8 sub, .slice A n c]] w fun e w' => e = .returned (.bool true) ∧ Blk w' p 46 (Sm.Wa.wc ⟨line, sent, heard, kept, up, t1, t2, true⟩) ∧ Kept (Only p) w w' := by
  have h1 : (1 : Int) ≤ (ticks : Int) := by omega
  clear ht
  have k0 := (Kept.refl (Only p) w).alloc (.cells #[.int .i64 3, .int .u8 3, .int .i64 ticks, .int .u8 code, .int .u8 sub, .slice A n c] 48)
  have b0 := hB.alloc (.cells #[.int .i64 3, .int .u8 3, .int .i64 ticks, .int .u8 code, .int .u8 sub, .slice A n c] 48)
  have a0 := Blk.fresh w 48 #[.int .i64 3, .int .u8 3, .int .i64 ticks, .int .u8 code, .int .u8 sub, .slice A n c]
  clear hB
  go_enter Tryd.func14, Tryd.ntmps14
  go_upto_region 1 with fail
  change Code.wp _ _ _ _ ((w.alloc (.cells #[.int .i64 3, .int .u8 3, .int .i64 ticks, .int .u8 code, .int .u8 sub, .slice A n c] 48)))
  generalize w.alloc (.cells #[.int .i64 3, .int .u8 3, .int .i64 ticks, .int .u8 code, .int .u8 sub, .slice A n c] 48) = W0 at *
  have x0 : W0.cell? ⟨w.heap.size, 0, none⟩ = some (.int .i64 3) := a0.cell 0
  have x1 : W0.cell? ⟨w.heap.size, 1, none⟩ = some (.int .u8 3) := a0.cell 1
  have x2 : W0.cell? ⟨w.heap.size, 2, none⟩ = some (.int .i64 ticks) := a0.cell 2
  have B := Lib.hid b0
  have K := Lib.hid k0
  have hsz : p < w.heap.size ∨ w.heap.size ≤ p := by omega
  clear a0 k0
  obtain ⟨f0, f1, f2, f3, f4, f5, f6, f7⟩ := wfrozen b0
  have c0 : W0.cell? ⟨p, 0, none⟩ = some (.bool line) := b0.cell 0
  have c1 : W0.cell? ⟨p, 1, none⟩ = some (.bool sent) := b0.cell 1
  have c2 : W0.cell? ⟨p, 2, none⟩ = some (.bool heard) := b0.cell 2
  have c3 : W0.cell? ⟨p, 3, none⟩ = some (.bool kept) := b0.cell 3
  have c4 : W0.cell? ⟨p, 4, none⟩ = some (.bool up) := b0.cell 4
  have c6 : W0.cell? ⟨p, 6, none⟩ = some (.bool t1) := b0.cell 6
  have c7 : W0.cell? ⟨p, 7, none⟩ = some (.bool t2) := b0.cell 7
  have c8 : W0.cell? ⟨p, 8, none⟩ = some (.bool t3) := b0.cell 8
  clear b0 hsz
  go_upto_region 10 with fail
  go_region
  all_goals
    go_wp2
    go_ret
    exact ⟨rfl, (B.out.put 8 (.bool true)), by first | exact (K.out.setCell (p := ⟨p, 8, none⟩) (fun _ => rfl) (.bool true)) | exact Kept.drew (K.out.setCell (p := ⟨p, 8, none⟩) (fun _ => rfl) (.bool true))⟩
theorem s_does_13 (p : Nat) (line sent heard kept up t1 t2 t3 : Bool) (ticks : Nat) (code sub : Nat) (A : Option Addr) (n c : Nat) (w : World) (hB : Blk w p 46 (Sm.Wa.wc ⟨line, sent, heard, kept, up, t1, t2, t3⟩)) :
    Calls Tryd.prog 14 #[.pointer (some ⟨p, 0, none⟩), .agg #[.int .i64 4, .int .u8 3, .int .i64 ticks, .int .u8 code, .int .u8 sub, .slice A n c]] w fun e w' => e = .returned (.bool true) ∧ Blk w' p 46 (Sm.Wa.wc ⟨line, sent, heard, kept, up, t1, t2, false⟩) ∧ Kept (Only p) w w' := by
  have k0 := (Kept.refl (Only p) w).alloc (.cells #[.int .i64 4, .int .u8 3, .int .i64 ticks, .int .u8 code, .int .u8 sub, .slice A n c] 48)
  have b0 := hB.alloc (.cells #[.int .i64 4, .int .u8 3, .int .i64 ticks, .int .u8 code, .int .u8 sub, .slice A n c] 48)
  have a0 := Blk.fresh w 48 #[.int .i64 4, .int .u8 3, .int .i64 ticks, .int .u8 code, .int .u8 sub, .slice A n c]
  clear hB
  go_enter Tryd.func14, Tryd.ntmps14
  go_upto_region 1 with fail
  change Code.wp _ _ _ _ ((w.alloc (.cells #[.int .i64 4, .int .u8 3, .int .i64 ticks, .int .u8 code, .int .u8 sub, .slice A n c] 48)))
  generalize w.alloc (.cells #[.int .i64 4, .int .u8 3, .int .i64 ticks, .int .u8 code, .int .u8 sub, .slice A n c] 48) = W0 at *
  have x0 : W0.cell? ⟨w.heap.size, 0, none⟩ = some (.int .i64 4) := a0.cell 0
  have x1 : W0.cell? ⟨w.heap.size, 1, none⟩ = some (.int .u8 3) := a0.cell 1
  have x2 : W0.cell? ⟨w.heap.size, 2, none⟩ = some (.int .i64 ticks) := a0.cell 2
  have B := Lib.hid b0
  have K := Lib.hid k0
  have hsz : p < w.heap.size ∨ w.heap.size ≤ p := by omega
  clear a0 k0
  obtain ⟨f0, f1, f2, f3, f4, f5, f6, f7⟩ := wfrozen b0
  have c0 : W0.cell? ⟨p, 0, none⟩ = some (.bool line) := b0.cell 0
  have c1 : W0.cell? ⟨p, 1, none⟩ = some (.bool sent) := b0.cell 1
  have c2 : W0.cell? ⟨p, 2, none⟩ = some (.bool heard) := b0.cell 2
  have c3 : W0.cell? ⟨p, 3, none⟩ = some (.bool kept) := b0.cell 3
  have c4 : W0.cell? ⟨p, 4, none⟩ = some (.bool up) := b0.cell 4
  have c6 : W0.cell? ⟨p, 6, none⟩ = some (.bool t1) := b0.cell 6
  have c7 : W0.cell? ⟨p, 7, none⟩ = some (.bool t2) := b0.cell 7
  have c8 : W0.cell? ⟨p, 8, none⟩ = some (.bool t3) := b0.cell 8
  clear b0 hsz
  go_upto_region 14 with fail
  go_region
  all_goals
    go_wp2
    go_ret
    exact ⟨rfl, (B.out.put 8 (.bool false)), by first | exact (K.out.setCell (p := ⟨p, 8, none⟩) (fun _ => rfl) (.bool false)) | exact Kept.drew (K.out.setCell (p := ⟨p, 8, none⟩) (fun _ => rfl) (.bool false))⟩
theorem s_does_14 (p : Nat) (line sent heard kept up t1 t2 t3 : Bool) (what : Nat) (ticks : Nat) (code sub : Nat) (A : Option Addr) (n c : Nat) (w : World) (hB : Blk w p 46 (Sm.Wa.wc ⟨line, sent, heard, kept, up, t1, t2, t3⟩)) :
    Calls Tryd.prog 14 #[.pointer (some ⟨p, 0, none⟩), .agg #[.int .i64 5, .int .u8 what, .int .i64 ticks, .int .u8 code, .int .u8 sub, .slice A n c]] w fun e w' => e = .returned (.bool true) ∧ Blk w' p 46 (Sm.Wa.wc ⟨false, false, false, false, up, t1, t2, t3⟩) ∧ Kept (Only p) w w' := by
  have k0 := (Kept.refl (Only p) w).alloc (.cells #[.int .i64 5, .int .u8 what, .int .i64 ticks, .int .u8 code, .int .u8 sub, .slice A n c] 48)
  have b0 := hB.alloc (.cells #[.int .i64 5, .int .u8 what, .int .i64 ticks, .int .u8 code, .int .u8 sub, .slice A n c] 48)
  have a0 := Blk.fresh w 48 #[.int .i64 5, .int .u8 what, .int .i64 ticks, .int .u8 code, .int .u8 sub, .slice A n c]
  clear hB
  go_enter Tryd.func14, Tryd.ntmps14
  go_upto_region 1 with fail
  change Code.wp _ _ _ _ ((w.alloc (.cells #[.int .i64 5, .int .u8 what, .int .i64 ticks, .int .u8 code, .int .u8 sub, .slice A n c] 48)))
  generalize w.alloc (.cells #[.int .i64 5, .int .u8 what, .int .i64 ticks, .int .u8 code, .int .u8 sub, .slice A n c] 48) = W0 at *
  have x0 : W0.cell? ⟨w.heap.size, 0, none⟩ = some (.int .i64 5) := a0.cell 0
  have x1 : W0.cell? ⟨w.heap.size, 1, none⟩ = some (.int .u8 what) := a0.cell 1
  have x2 : W0.cell? ⟨w.heap.size, 2, none⟩ = some (.int .i64 ticks) := a0.cell 2
  have B := Lib.hid b0
  have K := Lib.hid k0
  have hsz : p < w.heap.size ∨ w.heap.size ≤ p := by omega
  clear a0 k0
  obtain ⟨f0, f1, f2, f3, f4, f5, f6, f7⟩ := wfrozen b0
  have c0 : W0.cell? ⟨p, 0, none⟩ = some (.bool line) := b0.cell 0
  have c1 : W0.cell? ⟨p, 1, none⟩ = some (.bool sent) := b0.cell 1
  have c2 : W0.cell? ⟨p, 2, none⟩ = some (.bool heard) := b0.cell 2
  have c3 : W0.cell? ⟨p, 3, none⟩ = some (.bool kept) := b0.cell 3
  have c4 : W0.cell? ⟨p, 4, none⟩ = some (.bool up) := b0.cell 4
  have c6 : W0.cell? ⟨p, 6, none⟩ = some (.bool t1) := b0.cell 6
  have c7 : W0.cell? ⟨p, 7, none⟩ = some (.bool t2) := b0.cell 7
  have c8 : W0.cell? ⟨p, 8, none⟩ = some (.bool t3) := b0.cell 8
  clear b0 hsz
  go_wp2
  go_ret
  exact ⟨rfl, by first | exact ((((B.out.put 0 (.bool false)).put 1 (.bool false)).put 2 (.bool false)).put 3 (.bool false)) | exact Blk.drew ((((B.out.put 0 (.bool false)).put 1 (.bool false)).put 2 (.bool false)).put 3 (.bool false)), by first | exact ((((K.out.setCell (p := ⟨p, 0, none⟩) (fun _ => rfl) (.bool false)).setCell (p := ⟨p, 1, none⟩) (fun _ => rfl) (.bool false)).setCell (p := ⟨p, 2, none⟩) (fun _ => rfl) (.bool false)).setCell (p := ⟨p, 3, none⟩) (fun _ => rfl) (.bool false)) | exact Kept.drew ((((K.out.setCell (p := ⟨p, 0, none⟩) (fun _ => rfl) (.bool false)).setCell (p := ⟨p, 1, none⟩) (fun _ => rfl) (.bool false)).setCell (p := ⟨p, 2, none⟩) (fun _ => rfl) (.bool false)).setCell (p := ⟨p, 3, none⟩) (fun _ => rfl) (.bool false))⟩
theorem s_does_15 (p : Nat) (t1 t2 t3 : Bool) (what : Nat) (ticks : Nat) (code sub : Nat) (A : Option Addr) (n c : Nat) (w : World) (hB : Blk w p 46 (Sm.Wa.wc ⟨true, true, true, true, false, t1, t2, t3⟩)) :
    Calls Tryd.prog 14 #[.pointer (some ⟨p, 0, none⟩), .agg #[.int .i64 7, .int .u8 what, .int .i64 ticks, .int .u8 code, .int .u8 sub, .slice A n c]] w fun e w' => e = .returned (.bool true) ∧ Blk w' p 46 (Sm.Wa.wc ⟨true, true, true, true, true, t1, t2, t3⟩) ∧ Kept (Only p) w w' := by
  have k0 := (Kept.refl (Only p) w).alloc (.cells #[.int .i64 7, .int .u8 what, .int .i64 ticks, .int .u8 code, .int .u8 sub, .slice A n c] 48)
  have b0 := hB.alloc (.cells #[.int .i64 7, .int .u8 what, .int .i64 ticks, .int .u8 code, .int .u8 sub, .slice A n c] 48)
  have a0 := Blk.fresh w 48 #[.int .i64 7, .int .u8 what, .int .i64 ticks, .int .u8 code, .int .u8 sub, .slice A n c]
  clear hB
  go_enter Tryd.func14, Tryd.ntmps14
  go_upto_region 1 with fail
  change Code.wp _ _ _ _ ((w.alloc (.cells #[.int .i64 7, .int .u8 what, .int .i64 ticks, .int .u8 code, .int .u8 sub, .slice A n c] 48)))
  generalize w.alloc (.cells #[.int .i64 7, .int .u8 what, .int .i64 ticks, .int .u8 code, .int .u8 sub, .slice A n c] 48) = W0 at *
  have x0 : W0.cell? ⟨w.heap.size, 0, none⟩ = some (.int .i64 7) := a0.cell 0
  have x1 : W0.cell? ⟨w.heap.size, 1, none⟩ = some (.int .u8 what) := a0.cell 1
  have x2 : W0.cell? ⟨w.heap.size, 2, none⟩ = some (.int .i64 ticks) := a0.cell 2
  have B := Lib.hid b0
  have K := Lib.hid k0
  have hsz : p < w.heap.size ∨ w.heap.size ≤ p := by omega
  clear a0 k0
  obtain ⟨f0, f1, f2, f3, f4, f5, f6, f7⟩ := wfrozen b0
  have c0 : W0.cell? ⟨p, 0, none⟩ = some (.bool true) := b0.cell 0
  have c1 : W0.cell? ⟨p, 1, none⟩ = some (.bool true) := b0.cell 1
  have c2 : W0.cell? ⟨p, 2, none⟩ = some (.bool true) := b0.cell 2
  have c3 : W0.cell? ⟨p, 3, none⟩ = some (.bool true) := b0.cell 3
  have c4 : W0.cell? ⟨p, 4, none⟩ = some (.bool false) := b0.cell 4
  have c6 : W0.cell? ⟨p, 6, none⟩ = some (.bool t1) := b0.cell 6
  have c7 : W0.cell? ⟨p, 7, none⟩ = some (.bool t2) := b0.cell 7
  have c8 : W0.cell? ⟨p, 8, none⟩ = some (.bool t3) := b0.cell 8
  clear b0 hsz
  go_wp2
  go_ret
  exact ⟨rfl, by first | exact (B.out.put 4 (.bool true)) | exact Blk.drew (B.out.put 4 (.bool true)), by first | exact (K.out.setCell (p := ⟨p, 4, none⟩) (fun _ => rfl) (.bool true)) | exact Kept.drew (K.out.setCell (p := ⟨p, 4, none⟩) (fun _ => rfl) (.bool true))⟩
theorem s_does_16 (p : Nat) (line sent heard kept t1 t2 t3 : Bool) (what : Nat) (ticks : Nat) (code sub : Nat) (A : Option Addr) (n c : Nat) (w : World) (hB : Blk w p 46 (Sm.Wa.wc ⟨line, sent, heard, kept, true, t1, t2, t3⟩)) :
    Calls Tryd.prog 14 #[.pointer (some ⟨p, 0, none⟩), .agg #[.int .i64 8, .int .u8 what, .int .i64 ticks, .int .u8 code, .int .u8 sub, .slice A n c]] w fun e w' => e = .returned (.bool true) ∧ Blk w' p 46 (Sm.Wa.wc ⟨line, sent, heard, kept, false, t1, t2, t3⟩) ∧ Kept (Only p) w w' := by
  have k0 := (Kept.refl (Only p) w).alloc (.cells #[.int .i64 8, .int .u8 what, .int .i64 ticks, .int .u8 code, .int .u8 sub, .slice A n c] 48)
  have b0 := hB.alloc (.cells #[.int .i64 8, .int .u8 what, .int .i64 ticks, .int .u8 code, .int .u8 sub, .slice A n c] 48)
  have a0 := Blk.fresh w 48 #[.int .i64 8, .int .u8 what, .int .i64 ticks, .int .u8 code, .int .u8 sub, .slice A n c]
  clear hB
  go_enter Tryd.func14, Tryd.ntmps14
  go_upto_region 1 with fail
  change Code.wp _ _ _ _ ((w.alloc (.cells #[.int .i64 8, .int .u8 what, .int .i64 ticks, .int .u8 code, .int .u8 sub, .slice A n c] 48)))
  generalize w.alloc (.cells #[.int .i64 8, .int .u8 what, .int .i64 ticks, .int .u8 code, .int .u8 sub, .slice A n c] 48) = W0 at *
  have x0 : W0.cell? ⟨w.heap.size, 0, none⟩ = some (.int .i64 8) := a0.cell 0
  have x1 : W0.cell? ⟨w.heap.size, 1, none⟩ = some (.int .u8 what) := a0.cell 1
  have x2 : W0.cell? ⟨w.heap.size, 2, none⟩ = some (.int .i64 ticks) := a0.cell 2
  have B := Lib.hid b0
  have K := Lib.hid k0
  have hsz : p < w.heap.size ∨ w.heap.size ≤ p := by omega
  clear a0 k0
  obtain ⟨f0, f1, f2, f3, f4, f5, f6, f7⟩ := wfrozen b0
  have c0 : W0.cell? ⟨p, 0, none⟩ = some (.bool line) := b0.cell 0
  have c1 : W0.cell? ⟨p, 1, none⟩ = some (.bool sent) := b0.cell 1
  have c2 : W0.cell? ⟨p, 2, none⟩ = some (.bool heard) := b0.cell 2
  have c3 : W0.cell? ⟨p, 3, none⟩ = some (.bool kept) := b0.cell 3
  have c4 : W0.cell? ⟨p, 4, none⟩ = some (.bool true) := b0.cell 4
  have c6 : W0.cell? ⟨p, 6, none⟩ = some (.bool t1) := b0.cell 6
  have c7 : W0.cell? ⟨p, 7, none⟩ = some (.bool t2) := b0.cell 7
  have c8 : W0.cell? ⟨p, 8, none⟩ = some (.bool t3) := b0.cell 8
  clear b0 hsz
  go_wp2
  go_ret
  exact ⟨rfl, by first | exact (B.out.put 4 (.bool false)) | exact Blk.drew (B.out.put 4 (.bool false)), by first | exact (K.out.setCell (p := ⟨p, 4, none⟩) (fun _ => rfl) (.bool false)) | exact Kept.drew (K.out.setCell (p := ⟨p, 4, none⟩) (fun _ => rfl) (.bool false))⟩
theorem s_does_17 (p : Nat) (line sent heard kept t1 t2 t3 : Bool) (what : Nat) (ticks : Nat) (code sub : Nat) (A : Option Addr) (n c : Nat) (w : World) (hB : Blk w p 46 (Sm.Wa.wc ⟨line, sent, heard, kept, true, t1, t2, t3⟩)) :
    Calls Tryd.prog 14 #[.pointer (some ⟨p, 0, none⟩), .agg #[.int .i64 9, .int .u8 what, .int .i64 ticks, .int .u8 code, .int .u8 sub, .slice A n c]] w fun e w' => e = .returned (.bool true) ∧ Blk w' p 46 (Sm.Wa.wc ⟨line, sent, heard, kept, true, t1, t2, t3⟩) ∧ Kept (Only p) w w' := by
  have k0 := (Kept.refl (Only p) w).alloc (.cells #[.int .i64 9, .int .u8 what, .int .i64 ticks, .int .u8 code, .int .u8 sub, .slice A n c] 48)
  have b0 := hB.alloc (.cells #[.int .i64 9, .int .u8 what, .int .i64 ticks, .int .u8 code, .int .u8 sub, .slice A n c] 48)
  have a0 := Blk.fresh w 48 #[.int .i64 9, .int .u8 what, .int .i64 ticks, .int .u8 code, .int .u8 sub, .slice A n c]
  clear hB
  go_enter Tryd.func14, Tryd.ntmps14
  go_upto_region 1 with fail
  change Code.wp _ _ _ _ ((w.alloc (.cells #[.int .i64 9, .int .u8 what, .int .i64 ticks, .int .u8 code, .int .u8 sub, .slice A n c] 48)))
  generalize w.alloc (.cells #[.int .i64 9, .int .u8 what, .int .i64 ticks, .int .u8 code, .int .u8 sub, .slice A n c] 48) = W0 at *
  have x0 : W0.cell? ⟨w.heap.size, 0, none⟩ = some (.int .i64 9) := a0.cell 0
  have x1 : W0.cell? ⟨w.heap.size, 1, none⟩ = some (.int .u8 what) := a0.cell 1
  have x2 : W0.cell? ⟨w.heap.size, 2, none⟩ = some (.int .i64 ticks) := a0.cell 2
  have B := Lib.hid b0
  have K := Lib.hid k0
  have hsz : p < w.heap.size ∨ w.heap.size ≤ p := by omega
  clear a0 k0
  obtain ⟨f0, f1, f2, f3, f4, f5, f6, f7⟩ := wfrozen b0
  have c0 : W0.cell? ⟨p, 0, none⟩ = some (.bool line) := b0.cell 0
  have c1 : W0.cell? ⟨p, 1, none⟩ = some (.bool sent) := b0.cell 1
  have c2 : W0.cell? ⟨p, 2, none⟩ = some (.bool heard) := b0.cell 2
  have c3 : W0.cell? ⟨p, 3, none⟩ = some (.bool kept) := b0.cell 3
  have c4 : W0.cell? ⟨p, 4, none⟩ = some (.bool true) := b0.cell 4
  have c6 : W0.cell? ⟨p, 6, none⟩ = some (.bool t1) := b0.cell 6
  have c7 : W0.cell? ⟨p, 7, none⟩ = some (.bool t2) := b0.cell 7
  have c8 : W0.cell? ⟨p, 8, none⟩ = some (.bool t3) := b0.cell 8
  clear b0 hsz
  go_wp2
  go_ret
  exact ⟨rfl, by first | exact B.out | exact Blk.drew B.out, by first | exact K.out | exact Kept.drew K.out⟩
theorem s_does_18 (p : Nat) (line sent heard kept up t1 t2 t3 : Bool) (what : Nat) (ticks : Nat) (act : Nat) (code sub : Nat) (A : Option Addr) (n c : Nat) (w : World) (hx : act ≠ 1 ∧ act ≠ 2 ∧ act ≠ 3 ∧ act ≠ 4 ∧ act ≠ 5 ∧ act ≠ 7 ∧ act ≠ 8 ∧ act ≠ 9) (hB : Blk w p 46 (Sm.Wa.wc ⟨line, sent, heard, kept, up, t1, t2, t3⟩)) :
    Calls Tryd.prog 14 #[.pointer (some ⟨p, 0, none⟩), .agg #[.int .i64 act, .int .u8 what, .int .i64 ticks, .int .u8 code, .int .u8 sub, .slice A n c]] w fun e w' => e = .returned (.bool true) ∧ Blk w' p 46 (Sm.Wa.wc ⟨line, sent, heard, kept, up, t1, t2, t3⟩) ∧ Kept (Only p) w w' := by
  have e1 : ((act : Int) == 1) = false := by simp; omega
  have e2 : ((act : Int) == 2) = false := by simp; omega
  have e3 : ((act : Int) == 3) = false := by simp; omega
  have e4 : ((act : Int) == 4) = false := by simp; omega
  have e5 : ((act : Int) == 5) = false := by simp; omega
  have e7 : ((act : Int) == 7) = false := by simp; omega
  have e8 : ((act : Int) == 8) = false := by simp; omega
  have e9 : ((act : Int) == 9) = false := by simp; omega
  clear hx
  have k0 := (Kept.refl (Only p) w).alloc (.cells #[.int .i64 act, .int .u8 what, .int .i64 ticks, .int .u8 code, .int .u8 sub, .slice A n c] 48)
  have b0 := hB.alloc (.cells #[.int .i64 act, .int .u8 what, .int .i64 ticks, .int .u8 code, .int .u8 sub, .slice A n c] 48)
  have a0 := Blk.fresh w 48 #[.int .i64 act, .int .u8 what, .int .i64 ticks, .int .u8 code, .int .u8 sub, .slice A n c]
  clear hB
  go_enter Tryd.func14, Tryd.ntmps14
  go_upto_region 1 with fail
  change Code.wp _ _ _ _ ((w.alloc (.cells #[.int .i64 act, .int .u8 what, .int .i64 ticks, .int .u8 code, .int .u8 sub, .slice A n c] 48)))
  generalize w.alloc (.cells #[.int .i64 act, .int .u8 what, .int .i64 ticks, .int .u8 code, .int .u8 sub, .slice A n c] 48) = W0 at *
  have x0 : W0.cell? ⟨w.heap.size, 0, none⟩ = some (.int .i64 act) := a0.cell 0
  have x1 : W0.cell? ⟨w.heap.size, 1, none⟩ = some (.int .u8 what) := a0.cell 1
  have x2 : W0.cell? ⟨w.heap.size, 2, none⟩ = some (.int .i64 ticks) := a0.cell 2
  have B := Lib.hid b0
  have K := Lib.hid k0
  have hsz : p < w.heap.size ∨ w.heap.size ≤ p := by omega
  clear a0 k0
  obtain ⟨f0, f1, f2, f3, f4, f5, f6, f7⟩ := wfrozen b0
  have c0 : W0.cell? ⟨p, 0, none⟩ = some (.bool line) := b0.cell 0
  have c1 : W0.cell? ⟨p, 1, none⟩ = some (.bool sent) := b0.cell 1
  have c2 : W0.cell? ⟨p, 2, none⟩ = some (.bool heard) := b0.cell 2
  have c3 : W0.cell? ⟨p, 3, none⟩ = some (.bool kept) := b0.cell 3
  have c4 : W0.cell? ⟨p, 4, none⟩ = some (.bool up) := b0.cell 4
  have c6 : W0.cell? ⟨p, 6, none⟩ = some (.bool t1) := b0.cell 6
  have c7 : W0.cell? ⟨p, 7, none⟩ = some (.bool t2) := b0.cell 7
  have c8 : W0.cell? ⟨p, 8, none⟩ = some (.bool t3) := b0.cell 8
  clear b0 hsz
  go_wp2
  go_ret
  exact ⟨rfl, by first | exact B.out | exact Blk.drew B.out, by first | exact K.out | exact Kept.drew K.out⟩
theorem s_does (p : Nat) (wa wa' : Sm.Wa) (act what ticks code sub : Nat) (d : Bool) (h : wa.does ⟨act, what, ticks, code, sub, d⟩ = some wa') (A : Option Addr) (n c : Nat) (w : World) (hB : Blk w p 46 wa.wc) :
    Calls Tryd.prog 14 #[.pointer (some ⟨p, 0, none⟩), .agg #[.int .i64 act, .int .u8 what, .int .i64 ticks, .int .u8 code, .int .u8 sub, .slice A n c]] w fun e w' => e = .returned (.bool true) ∧ Blk w' p 46 wa'.wc ∧ Kept (Only p) w w' := by
  obtain ⟨line, sent, heard, kept, up, t1, t2, t3⟩ := wa
  unfold Sm.Wa.does at h
  simp only at h
  by_cases h1 : act = 1
  · subst h1
    cases line with
    | false => simp at h
    | true =>
      have hw : what = 1 ∨ what = 4 := by
        refine Classical.byContradiction fun hn => ?_
        have h1 : what ≠ 1 := fun e => hn (.inl e)
        have h4 : what ≠ 4 := fun e => hn (.inr e)
        simp [h1, h4] at h
      rcases hw with rfl | rfl <;> cases sent <;> simp at h <;> subst h
      · exact s_does_2 p heard kept up t1 t2 t3 ticks code sub A n c w hB
      · exact s_does_1 p heard kept up t1 t2 t3 ticks code sub A n c w hB
      · exact s_does_4 p heard kept up t1 t2 t3 ticks code sub A n c w hB
      · exact s_does_3 p heard kept up t1 t2 t3 ticks code sub A n c w hB
  by_cases h2 : act = 2
  · subst h2
    cases line with
    | false => simp at h
    | true =>
      cases sent with
      | true =>
        simp at h
        subst h
        exact s_does_5 p heard kept up t1 t2 t3 what ticks code sub A n c w hB
      | false =>
        by_cases hw : what = 1
        · subst hw
          simp at h
          subst h
          exact s_does_6 p heard kept up t1 t2 t3 ticks code sub A n c w hB
        · have e : (what == 1) = false := by simpa using hw
          simp [e] at h
          subst h
          exact s_does_7 p heard kept up t1 t2 t3 what ticks code sub A n c w hw hB
  by_cases h3 : act = 3
  · subst h3
    · simp at h
      obtain ⟨hc, rfl⟩ := h
      have ht : 1 ≤ ticks := by omega
      obtain rfl | rfl | rfl : what = 1 ∨ what = 2 ∨ what = 3 := by omega
      · exact s_does_8 p line sent heard kept up t1 t2 t3 ticks code sub A n c w ht hB
      · exact s_does_10 p line sent heard kept up t1 t2 t3 ticks code sub A n c w ht hB
      · exact s_does_12 p line sent heard kept up t1 t2 t3 ticks code sub A n c w ht hB
  by_cases h4 : act = 4
  · subst h4
    · simp at h
      obtain ⟨hc, rfl⟩ := h
      obtain rfl | rfl | rfl : what = 1 ∨ what = 2 ∨ what = 3 := by omega
      · exact s_does_9 p line sent heard kept up t1 t2 t3 ticks code sub A n c w hB
      · exact s_does_11 p line sent heard kept up t1 t2 t3 ticks code sub A n c w hB
      · exact s_does_13 p line sent heard kept up t1 t2 t3 ticks code sub A n c w hB
  by_cases h5 : act = 5
  · subst h5
    simp at h
    subst h
    exact s_does_14 p line sent heard kept up t1 t2 t3 what ticks code sub A n c w hB
  by_cases h7 : act = 7
  · subst h7
    cases up <;> cases line <;> cases sent <;> cases heard <;> cases kept <;> simp at h
    subst h
    exact s_does_15 p t1 t2 t3 what ticks code sub A n c w hB
  by_cases h8 : act = 8
  · subst h8
    cases up <;> simp at h
    subst h
    exact s_does_16 p line sent heard kept t1 t2 t3 what ticks code sub A n c w hB
  by_cases h9 : act = 9
  · subst h9
    cases up <;> simp at h
    subst h
    exact s_does_17 p line sent heard kept t1 t2 t3 what ticks code sub A n c w hB
  simp [h1, h2, h3, h4, h5, h7, h8, h9] at h
  subst h
  exact s_does_18 p line sent heard kept up t1 t2 t3 what ticks act code sub A n c w ⟨h1, h2, h3, h4, h5, h7, h8, h9⟩ hB
end Go.Proofs.YtlghmjipnkmeeaaDoor
