
/-
  The document's examples of chapter 5 (wakes).
-/
import Derived.Test.YtembdobkgpojfaaDoorCf
namespace Go.Proofs.YtembdobkgpojfaaDoor
open Go.RowKit

theorem made_by {w : World} {cs : Array Value} {l : List UInt8} {n : Nat} (hn : w.heap.size = n) (hl : cs.toList = bys l) (hm : l.length ≤ maxLen) : By (w.alloc (.cells cs 5)) (.slice (some ⟨n, 0, none⟩) l.length l.length) l := by
  subst hn
  exact (Bs.made (Blk.fresh w 5 cs) hl hm).by
theorem made_blk {w : World} {cs : Array Value} {t : TypeId} {n : Nat} (hn : w.heap.size = n) : Blk (w.alloc (.cells cs t)) n t cs := by
  subst hn
  exact Blk.fresh w t cs

theorem ex1 : Cp.out [] [2, 2, 2, 0] = ([(2, [])], 0, 0) := by simp [Cp.out, Cp.inn]
theorem ex2 : Cp.out [] [2, 6, 65, 4, 0, 1, 0, 0] = ([(65, [0, 1, 0, 0])], 0, 0) := by simp [Cp.out, Cp.inn]
theorem ex3 : Cp.out [] [1, 0] = ([], 2, 4) := by simp [Cp.out, Cp.bad]
theorem ex4 : Cp.out [] [2, 2, 2] = ([], 2, 0) := by simp [Cp.out, Cp.bad]
theorem ex5 : Cp.out [] [2, 1, 2] = ([], 2, 0) := by simp [Cp.out, Cp.inn, Cp.bad]

theorem number_at (v : Value) (l : List Cp) (n : Nat) (is : Bool) (h : Cp.number l = (n, is)) (w : World) (hv : Cps w v l) (hl : l.length ≤ 1000000) :
    Calls Tryd.prog 69 #[v] w fun e w' => e = .returned (.tuple #[.int .u32 (n : Nat), .bool is]) ∧ Kept Nothing w w' := by
  have := cp_number v l w hv hl
  rwa [h] at this
theorem refreshes_at (v : Value) (l : List Cp) (is : Bool) (h : Cp.refreshes l = is) (w : World) (hv : Cps w v l) (hl : l.length ≤ 1000000) :
    Calls Tryd.prog 70 #[v] w fun e w' => e = .returned (.bool is) ∧ Kept Nothing w w' := by
  have := cp_refreshes v l w hv hl
  rwa [h] at this
theorem cells2 {w : World} {p : Nat} {t : TypeId} {a b : Value} (h : Blk w p t #[a, b]) : w.cell? ⟨p, 0, none⟩ = some a ∧ w.cell? ⟨p, 1, none⟩ = some b := ⟨h.cell 0, h.cell 1⟩

end Go.Proofs.YtembdobkgpojfaaDoor
