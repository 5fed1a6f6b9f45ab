
/-
  A number read of a text.
-/
import Derived.Test.YtdeblmolgmadiaaDoorNb
import Derived.Laws.BitsAllLaws
namespace Go.Proofs.YtdeblmolgmadiaaDoor
open Go.RowKit

/-- What two sides of a point tell. -/
def joinP (x y : List UInt8) : Nat × Nat :=
  match num x, num y with
  | some a, some b => if 65535 < max a b then (0, 24) else (a * 65536 + b, 0)
  | _, _ => (0, 5)
end Go.Proofs.YtdeblmolgmadiaaDoor
