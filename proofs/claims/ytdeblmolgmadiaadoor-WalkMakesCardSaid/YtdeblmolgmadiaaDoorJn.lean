
/-
  Paths' texts, read: Parse itself.
-/
import Derived.Test.YtdeblmolgmadiaaDoorJm
import Derived.BigQuiet
namespace Go.Proofs.YtdeblmolgmadiaaDoor
open Go.RowKit

end Go.Proofs.YtdeblmolgmadiaaDoor
