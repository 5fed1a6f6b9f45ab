
/-
  What the calls of package scroll's writer do, each in whatever memory: by walks over their text.
-/
import Derived.Test.YtohkhcobljenjaaWs
import Derived.Test.YtohkhcobljenjaaRp
namespace Go.Proofs.Ytohkhcobljenjaa
open Go.RowKit

end Go.Proofs.Ytohkhcobljenjaa
