
/-
  '==' and '!=' of two prefixes, the program's and the document's.
-/
import Derived.Test.YtdeblmolgmadiaaDoorMem
import Derived.Laws.StructEq
namespace Go.Proofs.YtdeblmolgmadiaaDoor
open Go.RowKit

end Go.Proofs.YtdeblmolgmadiaaDoor
