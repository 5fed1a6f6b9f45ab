
/-
  The row's joined facts, in parts (printed by wip/gen_rowj.py).
-/
import Derived.Test.YtkmmfbmomflofaaGreatDoorZuz
import Derived.JoinedOf
namespace Go.Proofs.YtkmmfbmomflofaaGreatDoor
open Go.ChangeShapes Go.WideShapes Go.ChangeAt Go.RowKit

theorem mainJ_attrsAgain : Tryz.pinned.checked.prog.mainIs = some (Rows.attrsAgainCard.stood.harness.1, Rows.attrsAgainCard.stood.harness.2.toList) := by kernel_rfl
end Go.Proofs.YtkmmfbmomflofaaGreatDoor
