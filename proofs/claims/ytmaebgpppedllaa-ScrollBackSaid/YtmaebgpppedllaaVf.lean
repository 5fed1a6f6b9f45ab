
/-
  What the calls of the document's own writer (package consulateref01) do: Fill.
-/
import Derived.Test.YtmaebgpppedllaaVh
namespace Go.Proofs.Ytmaebgpppedllaa
open Go.RowKit

end Go.Proofs.Ytmaebgpppedllaa
