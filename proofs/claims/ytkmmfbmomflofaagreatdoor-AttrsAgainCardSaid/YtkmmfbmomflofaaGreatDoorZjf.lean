
/-
  The row's joined facts, in parts (printed by wip/gen_rowj.py).
-/
import Derived.Test.YtkmmfbmomflofaaGreatDoorZuz
import Derived.JoinedOf
namespace Go.Proofs.YtkmmfbmomflofaaGreatDoor
open Go.ChangeShapes Go.WideShapes Go.ChangeAt Go.RowKit

theorem JattrsAgain_1 : (laidOutB Tryz.pinned.checked.prog) = true := by kernel_rfl
theorem JattrsAgain_9 : ((Rows.attrsAgainRow.inPlace == Tryz.pinned.checked.prog.inPlace 5)) = true := by kernel_rfl
end Go.Proofs.YtkmmfbmomflofaaGreatDoor
