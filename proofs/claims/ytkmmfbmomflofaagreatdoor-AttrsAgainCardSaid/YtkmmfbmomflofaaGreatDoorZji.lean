
/-
  The row's joined facts, in parts (printed by wip/gen_rowj.py).
-/
import Derived.Test.YtkmmfbmomflofaaGreatDoorZuz
import Derived.JoinedOf
namespace Go.Proofs.YtkmmfbmomflofaaGreatDoor
open Go.ChangeShapes Go.WideShapes Go.ChangeAt Go.RowKit

theorem looksJ_attrsAgain : Rows.attrsAgainCard.stood.looks = Tryz.pinned.checked.prog.looks [] := by kernel_rfl
end Go.Proofs.YtkmmfbmomflofaaGreatDoor
