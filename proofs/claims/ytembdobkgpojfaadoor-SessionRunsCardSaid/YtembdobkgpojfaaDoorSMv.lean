
/-
  session: the watch in memory; its does.
-/
import Derived.Test.YtembdobkgpojfaaDoorSMe
namespace Go.Proofs.YtembdobkgpojfaaDoor
open Go.RowKit

def Sm.Wa.wc (a : Sm.Wa) : Array Value := #[.bool a.line, .bool a.sent, .bool a.heard, .bool a.kept, .bool a.up, .bool false, .bool a.t1, .bool a.t2, .bool a.t3]
end Go.Proofs.YtembdobkgpojfaaDoor
