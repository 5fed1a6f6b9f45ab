
/-
  The row AttrsAgain.
-/
import Derived.Test.YtkmmfbmomflofaaGreatDoorZlift
import Derived.Test.YtkmmfbmomflofaaGreatDoorZjd
namespace Go.Proofs.YtkmmfbmomflofaaGreatDoor
open Go.ChangeShapes Go.WideShapes Go.ChangeAt Go.RowKit

theorem attrsAgain_row : Rows.AttrsAgainSaid :=
  OpenClaim.holds_of_wide 5 Tryz.f5 rfl rfl rfl rfl rfl rfl rfl ⟨rfl, rfl, rfl, rfl, rfl⟩ rfl rfl rfl rfl rfl (by kernel_rfl) Tryz.func5 closed_attrsAgain
    (of_decide_eq_true (by kernel_rfl)) (by unfold Func.isWrapper; first | (rw [if_pos (by decide +kernel)]; kernel_rfl) | (rw [if_neg (by decide +kernel)]; exact ⟨rfl, rfl⟩))
    (fun os started H enc _ => attrsAgain_lifted os started H enc)
end Go.Proofs.YtkmmfbmomflofaaGreatDoor
