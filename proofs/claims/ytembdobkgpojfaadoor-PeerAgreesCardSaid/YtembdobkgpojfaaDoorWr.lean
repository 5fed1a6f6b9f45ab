
/-
  What the calls of package scroll's writer do, each in whatever memory: by walks over their text.
-/
import Derived.Test.YtembdobkgpojfaaDoorWs
import Derived.Test.YtembdobkgpojfaaDoorRp
namespace Go.Proofs.YtembdobkgpojfaaDoor
open Go.RowKit

end Go.Proofs.YtembdobkgpojfaaDoor
