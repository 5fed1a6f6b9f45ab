
/-
  '==' and '!=' of two prefixes, the program's and the document's.
-/
import Derived.Test.YtdeblmolgmadiaaGreatDoorMem
import Derived.Laws.StructEq
namespace Go.Proofs.YtdeblmolgmadiaaGreatDoor
open Go.RowKit

end Go.Proofs.YtdeblmolgmadiaaGreatDoor
