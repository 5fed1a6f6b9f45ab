
/-
  The row's joined facts, in parts (printed by wip/gen_rowj.py).
-/
import Derived.Test.YtkmmfbmomflofaaGreatDoorZuz
import Derived.JoinedOf
namespace Go.Proofs.YtkmmfbmomflofaaGreatDoor
open Go.ChangeShapes Go.WideShapes Go.ChangeAt Go.RowKit

theorem goesJ_attrsAgain : false = Rows.attrsAgainRow.goesBy Tryz.pinned.checked.prog := by kernel_rfl
end Go.Proofs.YtkmmfbmomflofaaGreatDoor
