
/-
  The row's joined facts, in parts (printed by wip/gen_rowj.py).
-/
import Derived.Test.YtkmmfbmomflofaaGreatDoorZuz
import Derived.JoinedOf
namespace Go.Proofs.YtkmmfbmomflofaaGreatDoor
open Go.ChangeShapes Go.WideShapes Go.ChangeAt Go.RowKit

theorem JattrsAgain_24 : (Tryz.pinned.checked.prog.stopsHeard) = true := by kernel_rfl
theorem JattrsAgain_22 : ((Rows.attrsAgainRow.plainKeys == Tryz.pinned.checked.prog.plainKeys)) = true := by kernel_rfl
theorem JattrsAgain_2 : (mapsRowed Tryz.pinned.checked.prog) = true := by kernel_rfl
end Go.Proofs.YtkmmfbmomflofaaGreatDoor
