
/-
  From a law of package attrs to the given card: what the listed variable gives.
-/
import Derived.Test.YtkmmfbmomflofaaGreatDoorZa
import Derived.Test.YtkmmfbmomflofaaGreatDoorZb
import Derived.Test.YtkmmfbmomflofaaGreatDoorTie
import Derived.Test.YtkmmfbmomflofaaGreatDoorCards
import Derived.LaidMore
import Derived.ChangeMaps5
import Derived.Stop.Joined
import Derived.SevenTiedAt
import Derived.Lib.LaidTab
namespace Go.Proofs.YtkmmfbmomflofaaGreatDoor
open Go.ChangeShapes Go.WideShapes Go.ChangeAt Go.RowKit

/-- What the rows list. -/
def laidU : List (String × DataW Unit) := Rows.attrsAgainRow.laid
theorem door_metU (os : Os) (args : Array Value) : laidMetH Tryz.prog laidU ((World.doorLaid Tryz.prog 38 os).forCall (fun _ _ => 0) ⟨#[], args, []⟩).memory :=
  laidMetH_of_parts3 (fuel := 8) (laidMet_of_run' 8 (by kernel_rfl) (by kernel_rfl)) (by kernel_rfl) (by kernel_rfl)
theorem wtd_of_laid {W : World} (h : laidMetH Tryz.prog laidU W) : Wtd W := by
  rw [MakeChecks.laidMetH_plain _ _ _ (by kernel_rfl)] at h
  have hl : laidU = [("consulate/attrs.wanted", Lib.tabData .u8 [0, 64, 64, 64, 128, 64, 64, 192, 192, 0, 0, 0, 0, 0, 0, 0, 0, 192, 192])] := by kernel_rfl
  rw [hl] at h
  have ht : Lib.TabIs Tryz.prog W "consulate/attrs.wanted" .u8 [0, 64, 64, 64, 128, 64, 64, 192, 192, 0, 0, 0, 0, 0, 0, 0, 0, 192, 192] := Lib.tabIs_of_head (g := 0) (t := 140) (by kernel_rfl) (by kernel_rfl) Tryz.underlying140 Tryz.underlying5 (by kernel_rfl) (by kernel_rfl) h
  have hg : Tryz.prog.globalNamed "consulate/attrs.wanted" = some 0 := by kernel_rfl
  unfold Lib.TabIs World.var? at ht
  rw [hg] at ht
  simp only [Option.bind_some] at ht
  split at ht
  next c t fr hh =>
    injection ht with ht
    subst ht
    exact ⟨t, fr, hh⟩
  next => cases ht
theorem readableU {ts : List TypeId} (h : (ts.all fun t => Tryz.prog.readableRec t && decide (t < Tryz.prog.types.size)) = true) : ∀ t ∈ ts, Tryz.prog.readableRec t = true ∧ t < Tryz.prog.types.size := fun t ht => by
  have := List.all_eq_true.1 h t ht
  simpa using this
end Go.Proofs.YtkmmfbmomflofaaGreatDoor
