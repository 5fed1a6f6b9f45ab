
/-
  What the calls of the document's own writer (package consulateref01) do: Hold, Done.
-/
import Derived.Test.YtmaebgpppedllaaVl
import Derived.Test.YtmaebgpppedllaaWd
namespace Go.Proofs.Ytmaebgpppedllaa
open Go.RowKit

end Go.Proofs.Ytmaebgpppedllaa
