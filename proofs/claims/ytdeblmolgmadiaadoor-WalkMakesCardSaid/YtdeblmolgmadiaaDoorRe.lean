
/-
  What the calls of package scroll's reader do: those that may note an error.
-/
import Derived.Test.YtdeblmolgmadiaaDoorRd
namespace Go.Proofs.YtdeblmolgmadiaaDoor
open Go.RowKit

theorem RS.fail_ne {s : RS} {x : Int} (hx : x ≠ 0) : ((s.fail x).e == 0) = false := by
  unfold RS.fail
  split
  · simpa using hx
  · next h => simpa using h

end Go.Proofs.YtdeblmolgmadiaaDoor
