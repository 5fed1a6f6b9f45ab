
/-
  The row's joined facts, in parts (printed by wip/gen_rowj.py).
-/
import Derived.Test.YtkmmfbmomflofaaGreatDoorZja
import Derived.Test.YtkmmfbmomflofaaGreatDoorZjb
import Derived.Test.YtkmmfbmomflofaaGreatDoorZjc
import Derived.Test.YtkmmfbmomflofaaGreatDoorZje
import Derived.Test.YtkmmfbmomflofaaGreatDoorZjf
import Derived.Test.YtkmmfbmomflofaaGreatDoorZjg
namespace Go.Proofs.YtkmmfbmomflofaaGreatDoor
open Go.ChangeShapes Go.WideShapes Go.ChangeAt Go.RowKit

theorem and_tJ {a b : Bool} (h : a = true) (k : b = true) : (a && b) = true := by rw [h, k]; rfl
theorem JattrsAgain_0 : (Rows.attrsAgainRow.wf (OpenSpec.ofChange Rows.attrsAgainSpec)) = true := by kernel_rfl
theorem JattrsAgain_3 : (Tryz.f5.params.all (Tryz.pinned.checked.prog.readableRec ·)) = true := by kernel_rfl
theorem JattrsAgain_4 : (namedTie Tryz.pinned.checked.prog Rows.attrsAgainRow.named Rows.attrsAgainSpec.vars) = true := by kernel_rfl
theorem JattrsAgain_5 : ((Rows.attrsAgainRow.stops == [])) = true := by kernel_rfl
theorem JattrsAgain_6 : ((Tryz.pinned.checked.prog.stops == [])) = true := by kernel_rfl
theorem JattrsAgain_7 : ((Rows.attrsAgainRow.knobs == [])) = true := by kernel_rfl
theorem JattrsAgain_8 : ((Tryz.pinned.checked.prog.stopKnobs == [])) = true := by kernel_rfl
theorem JattrsAgain_13 : ((Rows.attrsAgainRow.maps == (Tryz.f5.params.toList ++ Rows.attrsAgainSpec.plain.varTypes Tryz.pinned.checked.prog).any (Tryz.pinned.checked.prog.mapsRec ·))) = true := by kernel_rfl
theorem JattrsAgain_14 : ((Rows.attrsAgainRow.ifaces == (Tryz.f5.params.toList ++ Rows.attrsAgainSpec.plain.varTypes Tryz.pinned.checked.prog).any (Tryz.pinned.checked.prog.ifacesRec ·))) = true := by kernel_rfl
theorem JattrsAgain_15 : ((Rows.attrsAgainRow.mapsOut == Tryz.pinned.checked.prog.mapsAmong Tryz.f5.resultTypes.toList)) = true := by kernel_rfl
theorem JattrsAgain_16 : ((Rows.attrsAgainRow.loops == (Tryz.f5.params.toList ++ Rows.attrsAgainSpec.plain.varTypes Tryz.pinned.checked.prog).any (Tryz.pinned.checked.prog.loopsFrom ·))) = true := by kernel_rfl
theorem JattrsAgain_17 : ((Rows.attrsAgainRow.wideKeys == (Tryz.f5.params.toList ++ Rows.attrsAgainSpec.plain.varTypes Tryz.pinned.checked.prog ++ Tryz.f5.resultTypes.toList).any (Tryz.pinned.checked.prog.wideKeysFrom ·))) = true := by kernel_rfl
theorem JattrsAgain_18 : (Rows.attrsAgainSpec.vars.all (Tryz.pinned.checked.prog.varReadable ·)) = true := by kernel_rfl
theorem JattrsAgain_19 : (Tryz.f5.resultTypes.all (fun t => Tryz.pinned.checked.prog.readableRec t && decide (t < Tryz.pinned.checked.prog.types.size))) = true := by kernel_rfl
theorem JattrsAgain_20 : ((Rows.attrsAgainRow.ifacesOut == Tryz.f5.resultTypes.toList.any (Tryz.pinned.checked.prog.ifacesRec ·))) = true := by kernel_rfl
theorem JattrsAgain_21 : ((Rows.attrsAgainRow.loopsOut == Tryz.f5.resultTypes.toList.any (Tryz.pinned.checked.prog.loopsFrom ·))) = true := by kernel_rfl
theorem JattrsAgain_23 : (Rows.attrsAgainRow.shortTexts.isNone) = true := by kernel_rfl
theorem JattrsAgain_28 : ((Rows.attrsAgainRow.kinds == (if Rows.attrsAgainRow.domain.isEmpty then [] else Tryz.f5.params.toList.map fun t => match Tryz.pinned.checked.prog.underlying t with | some (.int k) => some k | _ => none))) = true := by kernel_rfl
theorem JattrsAgain_29 : ((Rows.attrsAgainRow.pinned == Rows.attrsAgainRow.pinnedBy)) = true := by kernel_rfl
theorem JattrsAgain_30 : ((Rows.attrsAgainRow.veiled == (Tryz.f5.params.toList ++ Rows.attrsAgainSpec.plain.varTypes Tryz.pinned.checked.prog ++ Tryz.f5.resultTypes.toList).any (Tryz.pinned.checked.prog.veiledRec ·))) = true := by kernel_rfl
theorem JattrsAgain_31 : (Rows.attrsAgainRow.veiledFits Tryz.pinned.checked.prog Tryz.f5.params.toList (Tryz.f5.params.toList ++ Rows.attrsAgainSpec.plain.varTypes Tryz.pinned.checked.prog ++ Tryz.f5.resultTypes.toList)) = true := by kernel_rfl
set_option maxRecDepth 100000 in
theorem closed_attrsAgain : joinedFacts Tryz.pinned.checked.prog 5 Tryz.f5 Rows.attrsAgainSpec Rows.attrsAgainRow = true := by
  unfold joinedFacts
  exact and_tJ (and_tJ (and_tJ (and_tJ (and_tJ (and_tJ (and_tJ (and_tJ (and_tJ (and_tJ (and_tJ (and_tJ (and_tJ (and_tJ (and_tJ (and_tJ (and_tJ (and_tJ (and_tJ (and_tJ (and_tJ (and_tJ (and_tJ (and_tJ (and_tJ (and_tJ (and_tJ (and_tJ (and_tJ (and_tJ (and_tJ (JattrsAgain_0) JattrsAgain_1) JattrsAgain_2) JattrsAgain_3) JattrsAgain_4) JattrsAgain_5) JattrsAgain_6) JattrsAgain_7) JattrsAgain_8) JattrsAgain_9) JattrsAgain_10) JattrsAgain_11) JattrsAgain_12) JattrsAgain_13) JattrsAgain_14) JattrsAgain_15) JattrsAgain_16) JattrsAgain_17) JattrsAgain_18) JattrsAgain_19) JattrsAgain_20) JattrsAgain_21) JattrsAgain_22) JattrsAgain_23) JattrsAgain_24) JattrsAgain_25) JattrsAgain_26) JattrsAgain_27) JattrsAgain_28) JattrsAgain_29) JattrsAgain_30) JattrsAgain_31
end Go.Proofs.YtkmmfbmomflofaaGreatDoor
