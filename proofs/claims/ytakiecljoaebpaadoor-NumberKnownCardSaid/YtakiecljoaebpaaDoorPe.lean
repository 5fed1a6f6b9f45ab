
/-
  '==' and '!=' of two prefixes, the program's and the document's.
-/
import Derived.Test.YtakiecljoaebpaaDoorMem
import Derived.Laws.StructEq
namespace Go.Proofs.YtakiecljoaebpaaDoor
open Go.RowKit

end Go.Proofs.YtakiecljoaebpaaDoor
