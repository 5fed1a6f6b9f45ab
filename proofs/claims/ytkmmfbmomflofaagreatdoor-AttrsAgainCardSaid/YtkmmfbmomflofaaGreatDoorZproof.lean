
/-
  Proved here: the law AttrsAgain returns true for every input, and each argument reads behind the call as it did before; the program's table attrs.wanted holds what the program's text lays in it (tied). No other condition.
-/
import Derived.Test.YtkmmfbmomflofaaGreatDoorZrow
import Derived.Test.YtkmmfbmomflofaaGreatDoorZjh
import Derived.Test.YtkmmfbmomflofaaGreatDoorZji
import Derived.Test.YtkmmfbmomflofaaGreatDoorZjj
namespace Go.Proofs.YtkmmfbmomflofaaGreatDoor
open Go.ChangeShapes Go.WideShapes Go.ChangeAt Go.RowKit

theorem attrsAgain_holds : Rows.AttrsAgainCardSaid :=
  Claim7.holds_tied_plain_at .later [] [.data] true Rows.attrsAgainCard.stood.harness false
    attrsAgain_row (fun _ h => by cases h) (by kernel_rfl) (fun _ h => by cases h) attrsAgain_row_tie rfl ⟨rfl, rfl⟩ mainJ_attrsAgain rfl
    (fun f fn hf hfn => by
      obtain rfl : f = 5 := Option.some.inj ((show Tryz.prog.funcNamed "consulate/consulatelaw10.AttrsAgain" = some 5 by kernel_rfl).symm.trans hf) |>.symm
      obtain rfl : fn = Tryz.f5 := (Option.some.inj (Tryz.func5.symm.trans hfn)).symm
      exact ⟨looksJ_attrsAgain, fun j t ht => by
        rw [Tryz.params5] at ht
        have hm : t ∈ [22, 4, 4] := by simpa using Array.mem_of_getElem? ht
        have hall : ([22, 4, 4].all fun u => !Tryz.prog.wantsStandIn u) = true := by kernel_rfl
        exact (show Tryz.prog.wantsStandIn t = false by simpa using List.all_eq_true.1 hall t hm)⟩)
    goesJ_attrsAgain
end Go.Proofs.YtkmmfbmomflofaaGreatDoor
