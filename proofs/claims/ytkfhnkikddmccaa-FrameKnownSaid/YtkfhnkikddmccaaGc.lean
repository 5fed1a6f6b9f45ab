
/-
  What a message's form is, as the document has it: Bytes where it tells what is wrong.
-/
import Derived.Test.YtkfhnkikddmccaaGb
namespace Go.Proofs.Ytkfhnkikddmccaa
open Go.RowKit

end Go.Proofs.Ytkfhnkikddmccaa
