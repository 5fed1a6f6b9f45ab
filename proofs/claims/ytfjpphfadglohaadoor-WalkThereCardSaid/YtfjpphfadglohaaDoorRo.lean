
/-
  What the calls of package scroll's reader do: Open.
-/
import Derived.Test.YtfjpphfadglohaaDoorRe
import Derived.Deep.RegionLaw
namespace Go.Proofs.YtfjpphfadglohaaDoor
open Go.RowKit

end Go.Proofs.YtfjpphfadglohaaDoor
