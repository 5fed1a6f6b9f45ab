
/-
  The row's joined facts, in parts (printed by wip/gen_rowj.py).
-/
import Derived.Test.YtkmmfbmomflofaaGreatDoorZuz
import Derived.JoinedOf
namespace Go.Proofs.YtkmmfbmomflofaaGreatDoor
open Go.ChangeShapes Go.WideShapes Go.ChangeAt Go.RowKit

theorem JattrsAgain_10 : ((Rows.attrsAgainRow.unfollowed == Tryz.pinned.checked.prog.unfollowed 5)) = true := by kernel_rfl
theorem JattrsAgain_11 : ((Rows.attrsAgainRow.recurses == Tryz.pinned.checked.prog.recurses 5)) = true := by kernel_rfl
theorem JattrsAgain_12 : ((Rows.attrsAgainRow.named == Tryz.pinned.checked.prog.varsNamed 5)) = true := by kernel_rfl
end Go.Proofs.YtkmmfbmomflofaaGreatDoor
