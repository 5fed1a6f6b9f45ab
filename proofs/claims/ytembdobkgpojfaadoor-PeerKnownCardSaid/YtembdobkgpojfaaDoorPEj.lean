
/-
  peer: the law Known's changes; ClassText.
-/
import Derived.Test.YtembdobkgpojfaaDoorPEd
namespace Go.Proofs.YtembdobkgpojfaaDoor
open Go.RowKit

theorem as_row (t : TypeId) (l : List Nat) (hl : ∀ n ∈ l, n < 4294967296) (hm : l.length ≤ 1000) (g : Nat) (u : World) (cs : Array Value) (hB : Blk u g t cs) (hc : cs.toList = ass l) : As u (.slice (some ⟨g, 0, none⟩) l.length l.length) l := by
  refine ⟨hl, _, _, rfl, Nat.le_refl _, by unfold maxLen; omega, by rw [length_ass, Nat.mul_one], (fun h => by cases h), fun a ha j v hv => ?_, fun v hv => ?_⟩
  · injection ha with ha
    subst ha
    rw [add_none, Nat.zero_add, hB.cell, ← hv, ← hc, Array.getElem?_toList]
  · unfold ass at hv
    obtain ⟨n, _, rfl⟩ := List.mem_map.1 hv
    rfl
set_option maxRecDepth 100000 in
theorem make17 (w : World) : (Instr.makeSlice 46 (.int .i64 17) (.int .i64 17)).run Tryd.prog w = .ok (.slice (some ⟨w.heap.size, 0, none⟩) 17 17) (w.alloc (.cells (madeCells #[.int .u32 0] 17) 45)) := by
  obtain ⟨i, hi, h1, h2, h3⟩ : ∃ i, Tryd.prog.info? 45 = some i ∧ i.zero = some (.int .u32 0) ∧ i.size = 1 ∧ i.bytes = 4 := ⟨_, rfl, by kernel_rfl, by kernel_rfl, by kernel_rfl⟩
  have := run_make (P := Tryd.prog) w 46 45 i (.int .u32 0) Tryd.underlying46 hi h1 .i64 .i64 17 17 (by omega) (by omega) (by rw [h3]; omega) (by omega)
  rw [h2, Nat.mul_one] at this
  exact this

set_option maxRecDepth 100000 in
theorem pk_1 (p : Nat) (A : Option Addr) (n c : Nat) (w : World) (h : Blk w p 49 #[.int .u32 1, .int .u32 2, .slice A n c, .int .u32 5]) :
    Calls Tryd.prog 44 #[.pointer (some ⟨p, 0, none⟩)] w fun e w' => e = .returned (.tuple #[]) ∧ Blk w' p 49 #[.int .u32 0, .int .u32 2, .slice A n c, .int .u32 5] ∧ Kept (Only p) w w' := by
  have HB := Lib.hid (h.put 0 (.int .u32 0))
  have hc : w.cell? ⟨p, 0, none⟩ = some (.int .u32 1) := h.cell 0
  have hf := h.free 0
  clear h
  go_enter Tryd.func44, Tryd.ntmps44
  go_wp2
  first | go_end0 | refine bodyPost_ret (results_none rfl _ _ _) rfl ?_
  exact ⟨rfl, HB.out, Kept.own w p 0 (.int .u32 0)⟩
set_option maxRecDepth 100000 in
theorem pk_2 (p : Nat) (A : Option Addr) (n c : Nat) (w : World) (h : Blk w p 49 #[.int .u32 1, .int .u32 2, .slice A n c, .int .u32 5]) :
    Calls Tryd.prog 45 #[.pointer (some ⟨p, 0, none⟩)] w fun e w' => e = .returned (.tuple #[]) ∧ Blk w' p 49 #[.int .u32 1, .int .u32 23456, .slice A n c, .int .u32 5] ∧ Kept (Only p) w w' := by
  have HB := Lib.hid (h.put 1 (.int .u32 23456))
  have hc : w.cell? ⟨p, 1, none⟩ = some (.int .u32 2) := h.cell 1
  have hf := h.free 1
  clear h
  go_enter Tryd.func45, Tryd.ntmps45
  go_wp2
  first | go_end0 | refine bodyPost_ret (results_none rfl _ _ _) rfl ?_
  exact ⟨rfl, HB.out, Kept.own w p 1 (.int .u32 23456)⟩
set_option maxRecDepth 100000 in
theorem pk_3 (p : Nat) (A : Option Addr) (n c : Nat) (w : World) (h : Blk w p 49 #[.int .u32 1, .int .u32 2, .slice A n c, .int .u32 5]) :
    Calls Tryd.prog 46 #[.pointer (some ⟨p, 0, none⟩)] w fun e w' => e = .returned (.tuple #[]) ∧ (∃ g, Blk w' p 49 #[.int .u32 1, .int .u32 2, .slice (some ⟨g, 0, none⟩) 2 2, .int .u32 5] ∧ As w' (.slice (some ⟨g, 0, none⟩) 2 2) ([3, 3])) ∧ Kept (Only p) w w' := by
  have hs : (w.setCell ⟨p, 2, none⟩ (.slice (some ⟨w.heap.size, 0, none⟩) 2 2)).heap.size = w.heap.size := by simp
  have HB := Lib.hid ((h.put 2 (.slice (some ⟨w.heap.size, 0, none⟩) 2 2)).alloc (.cells #[.int .u32 3, .int .u32 3] 45))
  have HA := Blk.fresh (w.setCell ⟨p, 2, none⟩ (.slice (some ⟨w.heap.size, 0, none⟩) 2 2)) 45 #[.int .u32 3, .int .u32 3]
  rw [hs] at HA
  have HAh := Lib.hid HA
  have HK := Lib.hid ((Kept.own w p 2 (.slice (some ⟨w.heap.size, 0, none⟩) 2 2)).alloc (.cells #[.int .u32 3, .int .u32 3] 45))
  have hlt := h.lt
  have hc : w.cell? ⟨p, 2, none⟩ = some (.slice A n c) := h.cell 2
  have hf : w.frozen? ⟨p, 2, none⟩ = false := h.free 2
  clear h hs HA
  go_enter Tryd.func46, Tryd.ntmps46
  go_wp2
  first | go_end0 | refine bodyPost_ret (results_none rfl _ _ _) rfl ?_
  refine ⟨rfl, ⟨w.heap.size, ?_, ?_⟩, ?_⟩
  · exact HB.out
  · exact as_row _ ([3, 3]) (by decide) (by decide) _ _ _ HAh.out rfl
  · exact HK.out
set_option maxRecDepth 100000 in
theorem pk_4 (p : Nat) (A : Option Addr) (n c : Nat) (w : World) (h : Blk w p 49 #[.int .u32 1, .int .u32 2, .slice A n c, .int .u32 5]) :
    Calls Tryd.prog 47 #[.pointer (some ⟨p, 0, none⟩)] w fun e w' => e = .returned (.tuple #[]) ∧ (∃ g, Blk w' p 49 #[.int .u32 1, .int .u32 2, .slice (some ⟨g, 0, none⟩) 2 2, .int .u32 5] ∧ As w' (.slice (some ⟨g, 0, none⟩) 2 2) ([4, 3])) ∧ Kept (Only p) w w' := by
  have hs : (w.setCell ⟨p, 2, none⟩ (.slice (some ⟨w.heap.size, 0, none⟩) 2 2)).heap.size = w.heap.size := by simp
  have HB := Lib.hid ((h.put 2 (.slice (some ⟨w.heap.size, 0, none⟩) 2 2)).alloc (.cells #[.int .u32 4, .int .u32 3] 45))
  have HA := Blk.fresh (w.setCell ⟨p, 2, none⟩ (.slice (some ⟨w.heap.size, 0, none⟩) 2 2)) 45 #[.int .u32 4, .int .u32 3]
  rw [hs] at HA
  have HAh := Lib.hid HA
  have HK := Lib.hid ((Kept.own w p 2 (.slice (some ⟨w.heap.size, 0, none⟩) 2 2)).alloc (.cells #[.int .u32 4, .int .u32 3] 45))
  have hlt := h.lt
  have hc : w.cell? ⟨p, 2, none⟩ = some (.slice A n c) := h.cell 2
  have hf : w.frozen? ⟨p, 2, none⟩ = false := h.free 2
  clear h hs HA
  go_enter Tryd.func47, Tryd.ntmps47
  go_wp2
  first | go_end0 | refine bodyPost_ret (results_none rfl _ _ _) rfl ?_
  refine ⟨rfl, ⟨w.heap.size, ?_, ?_⟩, ?_⟩
  · exact HB.out
  · exact as_row _ ([4, 3]) (by decide) (by decide) _ _ _ HAh.out rfl
  · exact HK.out
set_option maxRecDepth 100000 in
theorem pk_5 (p : Nat) (A : Option Addr) (n c : Nat) (w : World) (h : Blk w p 49 #[.int .u32 1, .int .u32 2, .slice A n c, .int .u32 5]) :
    Calls Tryd.prog 48 #[.pointer (some ⟨p, 0, none⟩)] w fun e w' => e = .returned (.tuple #[]) ∧ (∃ g, Blk w' p 49 #[.int .u32 1, .int .u32 2, .slice (some ⟨g, 0, none⟩) 1 1, .int .u32 5] ∧ As w' (.slice (some ⟨g, 0, none⟩) 1 1) ([1])) ∧ Kept (Only p) w w' := by
  have hs : (w.setCell ⟨p, 2, none⟩ (.slice (some ⟨w.heap.size, 0, none⟩) 1 1)).heap.size = w.heap.size := by simp
  have HB := Lib.hid ((h.put 2 (.slice (some ⟨w.heap.size, 0, none⟩) 1 1)).alloc (.cells #[.int .u32 1] 45))
  have HA := Blk.fresh (w.setCell ⟨p, 2, none⟩ (.slice (some ⟨w.heap.size, 0, none⟩) 1 1)) 45 #[.int .u32 1]
  rw [hs] at HA
  have HAh := Lib.hid HA
  have HK := Lib.hid ((Kept.own w p 2 (.slice (some ⟨w.heap.size, 0, none⟩) 1 1)).alloc (.cells #[.int .u32 1] 45))
  have hlt := h.lt
  have hc : w.cell? ⟨p, 2, none⟩ = some (.slice A n c) := h.cell 2
  have hf : w.frozen? ⟨p, 2, none⟩ = false := h.free 2
  clear h hs HA
  go_enter Tryd.func48, Tryd.ntmps48
  go_wp2
  first | go_end0 | refine bodyPost_ret (results_none rfl _ _ _) rfl ?_
  refine ⟨rfl, ⟨w.heap.size, ?_, ?_⟩, ?_⟩
  · exact HB.out
  · exact as_row _ ([1]) (by decide) (by decide) _ _ _ HAh.out rfl
  · exact HK.out
set_option maxRecDepth 100000 in
theorem pk_6 (p : Nat) (A : Option Addr) (n c : Nat) (w : World) (h : Blk w p 49 #[.int .u32 1, .int .u32 2, .slice A n c, .int .u32 5]) :
    Calls Tryd.prog 49 #[.pointer (some ⟨p, 0, none⟩)] w fun e w' => e = .returned (.tuple #[]) ∧ (∃ g, Blk w' p 49 #[.int .u32 1, .int .u32 2, .slice (some ⟨g, 0, none⟩) 1 1, .int .u32 5] ∧ As w' (.slice (some ⟨g, 0, none⟩) 1 1) ([2])) ∧ Kept (Only p) w w' := by
  have hs : (w.setCell ⟨p, 2, none⟩ (.slice (some ⟨w.heap.size, 0, none⟩) 1 1)).heap.size = w.heap.size := by simp
  have HB := Lib.hid ((h.put 2 (.slice (some ⟨w.heap.size, 0, none⟩) 1 1)).alloc (.cells #[.int .u32 2] 45))
  have HA := Blk.fresh (w.setCell ⟨p, 2, none⟩ (.slice (some ⟨w.heap.size, 0, none⟩) 1 1)) 45 #[.int .u32 2]
  rw [hs] at HA
  have HAh := Lib.hid HA
  have HK := Lib.hid ((Kept.own w p 2 (.slice (some ⟨w.heap.size, 0, none⟩) 1 1)).alloc (.cells #[.int .u32 2] 45))
  have hlt := h.lt
  have hc : w.cell? ⟨p, 2, none⟩ = some (.slice A n c) := h.cell 2
  have hf : w.frozen? ⟨p, 2, none⟩ = false := h.free 2
  clear h hs HA
  go_enter Tryd.func49, Tryd.ntmps49
  go_wp2
  first | go_end0 | refine bodyPost_ret (results_none rfl _ _ _) rfl ?_
  refine ⟨rfl, ⟨w.heap.size, ?_, ?_⟩, ?_⟩
  · exact HB.out
  · exact as_row _ ([2]) (by decide) (by decide) _ _ _ HAh.out rfl
  · exact HK.out
set_option maxRecDepth 100000 in
theorem pk_7 (p : Nat) (A : Option Addr) (n c : Nat) (w : World) (h : Blk w p 49 #[.int .u32 1, .int .u32 2, .slice A n c, .int .u32 5]) :
    Calls Tryd.prog 50 #[.pointer (some ⟨p, 0, none⟩)] w fun e w' => e = .returned (.tuple #[]) ∧ (∃ g, Blk w' p 49 #[.int .u32 1, .int .u32 2, .slice (some ⟨g, 0, none⟩) 1 1, .int .u32 5] ∧ As w' (.slice (some ⟨g, 0, none⟩) 1 1) ([65535])) ∧ Kept (Only p) w w' := by
  have hs : (w.setCell ⟨p, 2, none⟩ (.slice (some ⟨w.heap.size, 0, none⟩) 1 1)).heap.size = w.heap.size := by simp
  have HB := Lib.hid ((h.put 2 (.slice (some ⟨w.heap.size, 0, none⟩) 1 1)).alloc (.cells #[.int .u32 65535] 45))
  have HA := Blk.fresh (w.setCell ⟨p, 2, none⟩ (.slice (some ⟨w.heap.size, 0, none⟩) 1 1)) 45 #[.int .u32 65535]
  rw [hs] at HA
  have HAh := Lib.hid HA
  have HK := Lib.hid ((Kept.own w p 2 (.slice (some ⟨w.heap.size, 0, none⟩) 1 1)).alloc (.cells #[.int .u32 65535] 45))
  have hlt := h.lt
  have hc : w.cell? ⟨p, 2, none⟩ = some (.slice A n c) := h.cell 2
  have hf : w.frozen? ⟨p, 2, none⟩ = false := h.free 2
  clear h hs HA
  go_enter Tryd.func50, Tryd.ntmps50
  go_wp2
  first | go_end0 | refine bodyPost_ret (results_none rfl _ _ _) rfl ?_
  refine ⟨rfl, ⟨w.heap.size, ?_, ?_⟩, ?_⟩
  · exact HB.out
  · exact as_row _ ([65535]) (by decide) (by decide) _ _ _ HAh.out rfl
  · exact HK.out
set_option maxRecDepth 100000 in
theorem pk_8 (p : Nat) (A : Option Addr) (n c : Nat) (w : World) (h : Blk w p 49 #[.int .u32 1, .int .u32 2, .slice A n c, .int .u32 5]) :
    Calls Tryd.prog 51 #[.pointer (some ⟨p, 0, none⟩)] w fun e w' => e = .returned (.tuple #[]) ∧ Blk w' p 49 #[.int .u32 1, .int .u32 1, .slice A n c, .int .u32 5] ∧ Kept (Only p) w w' := by
  have HB := Lib.hid (h.put 1 (.int .u32 1))
  have hc : w.cell? ⟨p, 1, none⟩ = some (.int .u32 2) := h.cell 1
  have hf := h.free 1
  clear h
  go_enter Tryd.func51, Tryd.ntmps51
  go_wp2
  first | go_end0 | refine bodyPost_ret (results_none rfl _ _ _) rfl ?_
  exact ⟨rfl, HB.out, Kept.own w p 1 (.int .u32 1)⟩
set_option maxRecDepth 100000 in
theorem pk_9 (p : Nat) (A : Option Addr) (n c : Nat) (w : World) (h : Blk w p 49 #[.int .u32 1, .int .u32 2, .slice A n c, .int .u32 5]) :
    Calls Tryd.prog 52 #[.pointer (some ⟨p, 0, none⟩)] w fun e w' => e = .returned (.tuple #[]) ∧ Blk w' p 49 #[.int .u32 1, .int .u32 2, .slice A n c, .int .u32 0] ∧ Kept (Only p) w w' := by
  have HB := Lib.hid (h.put 3 (.int .u32 0))
  have hc : w.cell? ⟨p, 3, none⟩ = some (.int .u32 5) := h.cell 3
  have hf := h.free 3
  clear h
  go_enter Tryd.func52, Tryd.ntmps52
  go_wp2
  first | go_end0 | refine bodyPost_ret (results_none rfl _ _ _) rfl ?_
  exact ⟨rfl, HB.out, Kept.own w p 3 (.int .u32 0)⟩
set_option maxRecDepth 100000 in
theorem pk_10 (p : Nat) (A : Option Addr) (n c : Nat) (w : World) (h : Blk w p 49 #[.int .u32 1, .int .u32 2, .slice A n c, .int .u32 5]) :
    Calls Tryd.prog 53 #[.pointer (some ⟨p, 0, none⟩)] w fun e w' => e = .returned (.tuple #[]) ∧ Blk w' p 49 #[.int .u32 1, .int .u32 2, .slice A n c, .int .u32 3758096384] ∧ Kept (Only p) w w' := by
  have HB := Lib.hid (h.put 3 (.int .u32 3758096384))
  have hc : w.cell? ⟨p, 3, none⟩ = some (.int .u32 5) := h.cell 3
  have hf := h.free 3
  clear h
  go_enter Tryd.func53, Tryd.ntmps53
  go_wp2
  first | go_end0 | refine bodyPost_ret (results_none rfl _ _ _) rfl ?_
  exact ⟨rfl, HB.out, Kept.own w p 3 (.int .u32 3758096384)⟩
set_option maxRecDepth 100000 in
theorem pk_11 (p : Nat) (A : Option Addr) (n c : Nat) (w : World) (h : Blk w p 49 #[.int .u32 1, .int .u32 2, .slice A n c, .int .u32 5]) :
    Calls Tryd.prog 54 #[.pointer (some ⟨p, 0, none⟩)] w fun e w' => e = .returned (.tuple #[]) ∧ (∃ g, Blk w' p 49 #[.int .u32 1, .int .u32 2, .slice (some ⟨g, 0, none⟩) 17 17, .int .u32 5] ∧ As w' (.slice (some ⟨g, 0, none⟩) 17 17) (List.replicate 17 0)) ∧ Kept (Only p) w w' := by
  have hs : (w.setCell ⟨p, 2, none⟩ (.slice (some ⟨w.heap.size, 0, none⟩) 17 17)).heap.size = w.heap.size := by simp
  have HB := Lib.hid ((h.put 2 (.slice (some ⟨w.heap.size, 0, none⟩) 17 17)).alloc (.cells (madeCells #[.int .u32 0] 17) 45))
  have HA := Blk.fresh (w.setCell ⟨p, 2, none⟩ (.slice (some ⟨w.heap.size, 0, none⟩) 17 17)) 45 (madeCells #[.int .u32 0] 17)
  rw [hs] at HA
  have HAh := Lib.hid HA
  have HK := Lib.hid ((Kept.own w p 2 (.slice (some ⟨w.heap.size, 0, none⟩) 17 17)).alloc (.cells (madeCells #[.int .u32 0] 17) 45))
  have hlt := h.lt
  have hc : w.cell? ⟨p, 2, none⟩ = some (.slice A n c) := h.cell 2
  have hf : w.frozen? ⟨p, 2, none⟩ = false := h.free 2
  have hmk := make17 w
  clear h hs HA
  go_enter Tryd.func54, Tryd.ntmps54
  go_wp2
  first | go_end0 | refine bodyPost_ret (results_none rfl _ _ _) rfl ?_
  refine ⟨rfl, ⟨w.heap.size, ?_, ?_⟩, ?_⟩
  · exact HB.out
  · exact as_row _ (List.replicate 17 0) (by decide) (by decide) _ _ _ HAh.out (by rw [toList_madeCells_one]; rfl)
  · exact HK.out
set_option maxRecDepth 100000 in
theorem pk_12 (p : Nat) (A : Option Addr) (n c : Nat) (w : World) (h : Blk w p 49 #[.int .u32 1, .int .u32 2, .slice A n c, .int .u32 5]) :
    Calls Tryd.prog 55 #[.pointer (some ⟨p, 0, none⟩)] w fun e w' => e = .returned (.tuple #[]) ∧ Blk w' p 49 #[.int .u32 4294967295, .int .u32 2, .slice A n c, .int .u32 5] ∧ Kept (Only p) w w' := by
  have HB := Lib.hid (h.put 0 (.int .u32 4294967295))
  have hc : w.cell? ⟨p, 0, none⟩ = some (.int .u32 1) := h.cell 0
  have hf := h.free 0
  clear h
  go_enter Tryd.func55, Tryd.ntmps55
  go_wp2
  first | go_end0 | refine bodyPost_ret (results_none rfl _ _ _) rfl ?_
  exact ⟨rfl, HB.out, Kept.own w p 0 (.int .u32 4294967295)⟩
/-- The name of a class in its table. -/
def RdN (w : World) : Prop := w.cell? ⟨0, 2, none⟩ = some (.string ⟨#[99, 111, 110, 102, 101, 100]⟩)
theorem RdN.old {w w' : World} (h : RdN w) (k : Kept Nothing w w') : RdN w' := k.cell_some h (fun x => x)
theorem pe_text2 (w : World) (h : RdN w) : Calls Tryd.prog 31 #[.int .i64 2] w fun e w' => e = .returned (.string ⟨#[99, 111, 110, 102, 101, 100]⟩) ∧ w = w' := by
  unfold RdN at h
  go_enter Tryd.func31, Tryd.ntmps31
  go_wp2
  go_ret
  exact ⟨rfl, rfl⟩
theorem pe_text0 (k : Int) (hk : k = 4 ∨ k = -1) (w : World) : Calls Tryd.prog 31 #[.int .i64 k] w fun e w' => e = .returned (.string ⟨#[]⟩) ∧ w = w' := by
  rcases hk with rfl | rfl
  all_goals
    go_enter Tryd.func31, Tryd.ntmps31
    go_wp2
    go_ret
    exact ⟨rfl, rfl⟩
end Go.Proofs.YtembdobkgpojfaaDoor
