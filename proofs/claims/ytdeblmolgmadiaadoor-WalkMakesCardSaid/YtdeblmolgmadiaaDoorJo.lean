
/-
  The law's check of itself: what five texts are read as.
-/
import Derived.Test.YtdeblmolgmadiaaDoorJn
import Derived.Test.YtdeblmolgmadiaaDoorJi
namespace Go.Proofs.YtdeblmolgmadiaaDoor
open Go.RowKit

theorem wk1 : Pt.parseP [49, 48, 32, 50, 48, 32, 123, 51, 48, 44, 52, 48, 125] = ([(2, [10, 20]), (1, [30, 40])], 0) := by rfl
theorem wk1b : Pt.bytes [(2, [10, 20]), (1, [30, 40])] false = ([2, 2, 0, 10, 0, 20, 1, 2, 0, 30, 0, 40], 0) := by rfl
theorem wk2 : Pt.parseP [40, 54, 53, 48, 48, 49, 32, 54, 53, 48, 48, 50, 41, 32, 49, 48] = ([(3, [65001, 65002]), (2, [10])], 0) := by rfl
theorem wk3 : Pt.parseP [49, 32, 124, 32, 50] = ([(2, [1]), (2, [2])], 0) := by rfl
theorem wk4 : Pt.parseP [91, 55, 93] = ([(4, [7])], 0) := by rfl
theorem wk5 : Pt.parseP [45] = ([], 0) := by rfl

theorem made_by {w : World} {cs : Array Value} {l : List UInt8} {n : Nat} (hn : w.heap.size = n) (hl : cs.toList = bys l) (hm : l.length ≤ maxLen) : By (w.alloc (.cells cs 5)) (.slice (some ⟨n, 0, none⟩) l.length l.length) l := by
  subst hn
  exact (Bs.made (Blk.fresh w 5 cs) hl hm).by
theorem made_blk {w : World} {cs : Array Value} {t : TypeId} {n : Nat} (hn : w.heap.size = n) : Blk (w.alloc (.cells cs t)) n t cs := by
  subst hn
  exact Blk.fresh w t cs

theorem asc_of {l : List UInt8} (h : l.all (fun b => b.toNat < 128) = true) : Asc l := fun b hb => by
  have := List.all_eq_true.1 h b hb
  simpa using this

end Go.Proofs.YtdeblmolgmadiaaDoor
