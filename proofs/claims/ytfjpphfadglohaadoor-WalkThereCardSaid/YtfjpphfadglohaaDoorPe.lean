
/-
  '==' and '!=' of two prefixes, the program's and the document's.
-/
import Derived.Test.YtfjpphfadglohaaDoorMem
import Derived.Laws.StructEq
namespace Go.Proofs.YtfjpphfadglohaaDoor
open Go.RowKit

end Go.Proofs.YtfjpphfadglohaaDoor
