
/-
  The law's own word few of chapter 5: the first capabilities, cut.
-/
import Derived.Test.YtohgkibpcgfihaaDoorCf
namespace Go.Proofs.YtohgkibpcgfihaaDoor
open Go.RowKit

end Go.Proofs.YtohgkibpcgfihaaDoor
