
/-
  The law's own word few of chapter 5: the first capabilities, cut.
-/
import Derived.Test.YtembdobkgpojfaaDoorCf
namespace Go.Proofs.YtembdobkgpojfaaDoor
open Go.RowKit

end Go.Proofs.YtembdobkgpojfaaDoor
