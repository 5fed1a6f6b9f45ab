
/-
  What the calls of package scroll's writer do, each in whatever memory: by walks over their text.
-/
import Derived.Test.YtdeblmolgmadiaaDoorWs
import Derived.Test.YtdeblmolgmadiaaDoorRp
namespace Go.Proofs.YtdeblmolgmadiaaDoor
open Go.RowKit

end Go.Proofs.YtdeblmolgmadiaaDoor
