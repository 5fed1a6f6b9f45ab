
/-
  What the calls of package scroll's reader do: Open.
-/
import Derived.Test.YtdeblmolgmadiaaDoorRe
import Derived.Deep.RegionLaw
namespace Go.Proofs.YtdeblmolgmadiaaDoor
open Go.RowKit

end Go.Proofs.YtdeblmolgmadiaaDoor
