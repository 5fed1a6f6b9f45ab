
/-
  The law's own word few of chapter 5: the first capabilities, cut.
-/
import Derived.Test.YtgpphgnjhinklaaDoorCf
namespace Go.Proofs.YtgpphgnjhinklaaDoor
open Go.RowKit

end Go.Proofs.YtgpphgnjhinklaaDoor
