
/-
  What a message's form is, as the document has it: Bytes where it lays.
-/
import Derived.Test.YtkfhnkikddmccaaGc
namespace Go.Proofs.Ytkfhnkikddmccaa
open Go.RowKit

/-- The bytes l are gathered in a row that is new since W. -/
def Gat (W : World) (l : List UInt8) (v : Value) (w : World) : Prop := w.ownsRow W.heap.size 5 1 v l.length (bys l) ∧ Kept Nothing W w
theorem Gat.grown {W w u w2 : World} {l l' : List UInt8} {v v' : Value} (h : Gat W l v w) (ku : Kept Nothing w u) (ho : w2.ownsRow W.heap.size 5 1 v' l'.length (bys l')) (hg : u.grownBy w2 v.ownBlock) : Gat W l' v' w2 := by
  refine ⟨ho, h.2.newly (F := fun k => v.ownBlock = some k) (Kept.grown (ku.mono (fun _ x => x.elim)) hg (fun k hk _ => hk)) (fun i hi => ?_)⟩
  exact (h.1.lt i hi).1

end Go.Proofs.Ytkfhnkikddmccaa
