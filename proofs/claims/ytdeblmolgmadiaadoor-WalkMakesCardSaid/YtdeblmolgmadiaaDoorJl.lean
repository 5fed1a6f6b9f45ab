
/-
  Paths' texts, read: a segment.
-/
import Derived.Test.YtdeblmolgmadiaaDoorJk
namespace Go.Proofs.YtdeblmolgmadiaaDoor
open Go.RowKit

def rgm (p : Nat) (b : Value) (w : World) : Nat := 2 * (match w.cell? ⟨p, 0, none⟩ with | some (.string s) => s.size | _ => 0) + (match b with | .bool true => 1 | _ => 0)
end Go.Proofs.YtdeblmolgmadiaaDoor
