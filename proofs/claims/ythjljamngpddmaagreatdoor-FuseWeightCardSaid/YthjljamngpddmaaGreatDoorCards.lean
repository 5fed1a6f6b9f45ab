/-
  DERIVED. GIVEN WITH THE SEED: THE CARDS: each row of YthjljamngpddmaaGreatDoorRows.lean that lists a variable, with what it lists TIED to the program's text (the seventh form; the later family's looks); each row that meets fmt, with fmt's text TOLD by the authors' own Lean function (tested against real Go, not proved from fmt's source: count such statements apart). THE CARD IS WHAT COUNTS. Prove the row's statement (the work); the ties are given (YthjljamngpddmaaGreatDoorTie.lean); close each card by the builder's one call (the guide's Derived/Test/ToyasCard.lean, 'card_holds'). Laid BY PROGRAM, IN A SANDBOX (cutbox-door.mjs). By AI agents, Wed Nov 11 2026. No macro, syntax, notation, axiom, sorry.
-/
import Derived.Test.YthjljamngpddmaaGreatDoorRows
import GoSem.ClaimSeven
namespace Go.Proofs.YthjljamngpddmaaGreatDoor
namespace Rows

/-- THE TIED CARD OF 'consulatelaw07.PathTells'. -/
def pathTellsCard : Claim7 := { stood := { row := pathTellsRow, standIns := [], harness := (true, "19abc623e0a299beadd77a6290a6e4a78bc91bf6228226fe42aee71865598287"), looks := true }, kinds := [], alts := [], laidByText := true, laidKinds := [.data, .data, .data, .sentinel, .sentinel, .data], laidTests := true, laidLooks := .later }
def PathTellsCardSaid : Prop := Claim7.holds Tryz.pinned (.plain (OpenSpec.ofChange pathTellsSpec)) pathTellsCard

/-- THE TIED CARD OF 'consulatelaw07.PathBack'. -/
def pathBackCard : Claim7 := { stood := { row := pathBackRow, standIns := [], harness := (true, "19abc623e0a299beadd77a6290a6e4a78bc91bf6228226fe42aee71865598287"), looks := true }, kinds := [], alts := [], laidByText := true, laidKinds := [.data, .data, .data, .sentinel, .sentinel, .data], laidTests := true, laidLooks := .later }
def PathBackCardSaid : Prop := Claim7.holds Tryz.pinned (.plain (OpenSpec.ofChange pathBackSpec)) pathBackCard

/-- THE TIED CARD OF 'consulatelaw09.FuseWay'. -/
def fuseWayCard : Claim7 := { stood := { row := fuseWayRow, standIns := [], harness := (true, "19abc623e0a299beadd77a6290a6e4a78bc91bf6228226fe42aee71865598287"), looks := true }, kinds := [], alts := [], laidByText := true, laidKinds := [.data, .data, .data, .sentinel, .sentinel, .data], laidTests := true, laidLooks := .later }
def FuseWayCardSaid : Prop := Claim7.holds Tryz.pinned (.plain (OpenSpec.ofChange fuseWaySpec)) fuseWayCard

/-- THE TIED CARD OF 'consulatelaw09.FuseWeight'. -/
def fuseWeightCard : Claim7 := { stood := { row := fuseWeightRow, standIns := [], harness := (true, "19abc623e0a299beadd77a6290a6e4a78bc91bf6228226fe42aee71865598287"), looks := true }, kinds := [], alts := [], laidByText := true, laidKinds := [.data, .data, .data, .sentinel, .sentinel, .data], laidTests := true, laidLooks := .later }
def FuseWeightCardSaid : Prop := Claim7.holds Tryz.pinned (.plain (OpenSpec.ofChange fuseWeightSpec)) fuseWeightCard

/-- THE TIED CARD OF 'consulatelaw09.FuseNarrow'. -/
def fuseNarrowCard : Claim7 := { stood := { row := fuseNarrowRow, standIns := [], harness := (true, "19abc623e0a299beadd77a6290a6e4a78bc91bf6228226fe42aee71865598287"), looks := true }, kinds := [], alts := [], laidByText := true, laidKinds := [.data, .data, .data, .sentinel, .sentinel, .data], laidTests := true, laidLooks := .later }
def FuseNarrowCardSaid : Prop := Claim7.holds Tryz.pinned (.plain (OpenSpec.ofChange fuseNarrowSpec)) fuseNarrowCard

/-- THE TIED CARD OF 'consulatelaw09.FuseKnown'. -/
def fuseKnownCard : Claim7 := { stood := { row := fuseKnownRow, standIns := [], harness := (true, "19abc623e0a299beadd77a6290a6e4a78bc91bf6228226fe42aee71865598287"), looks := true }, kinds := [], alts := [], laidByText := true, laidKinds := [.data, .data, .data, .sentinel, .sentinel, .data], laidTests := true, laidLooks := .later }
def FuseKnownCardSaid : Prop := Claim7.holds Tryz.pinned (.plain (OpenSpec.ofChange fuseKnownSpec)) fuseKnownCard

/-- THE SECOND FORM's CARD OF 'consulatelaw07.PathTells'. -/
def pathTellsUptoCard : Claim7 := { stood := { row := pathTellsUptoRow, standIns := [], harness := (true, "19abc623e0a299beadd77a6290a6e4a78bc91bf6228226fe42aee71865598287"), looks := true }, kinds := [], alts := [], laidByText := true, laidKinds := [.data, .data, .data, .sentinel, .sentinel, .data], laidTests := true, laidLooks := .later }
def PathTellsUptoCardSaid : Prop := Claim7.holds Tryz.pinned (.plain (OpenSpec.upto pathTellsSpec)) pathTellsUptoCard

/-- THE SECOND FORM's CARD OF 'consulatelaw07.PathBack'. -/
def pathBackUptoCard : Claim7 := { stood := { row := pathBackUptoRow, standIns := [], harness := (true, "19abc623e0a299beadd77a6290a6e4a78bc91bf6228226fe42aee71865598287"), looks := true }, kinds := [], alts := [], laidByText := true, laidKinds := [.data, .data, .data, .sentinel, .sentinel, .data], laidTests := true, laidLooks := .later }
def PathBackUptoCardSaid : Prop := Claim7.holds Tryz.pinned (.plain (OpenSpec.upto pathBackSpec)) pathBackUptoCard

/-- THE SECOND FORM's CARD OF 'consulatelaw09.FuseWay'. -/
def fuseWayUptoCard : Claim7 := { stood := { row := fuseWayUptoRow, standIns := [], harness := (true, "19abc623e0a299beadd77a6290a6e4a78bc91bf6228226fe42aee71865598287"), looks := true }, kinds := [], alts := [], laidByText := true, laidKinds := [.data, .data, .data, .sentinel, .sentinel, .data], laidTests := true, laidLooks := .later }
def FuseWayUptoCardSaid : Prop := Claim7.holds Tryz.pinned (.plain (OpenSpec.upto fuseWaySpec)) fuseWayUptoCard

/-- THE SECOND FORM's CARD OF 'consulatelaw09.FuseWeight'. -/
def fuseWeightUptoCard : Claim7 := { stood := { row := fuseWeightUptoRow, standIns := [], harness := (true, "19abc623e0a299beadd77a6290a6e4a78bc91bf6228226fe42aee71865598287"), looks := true }, kinds := [], alts := [], laidByText := true, laidKinds := [.data, .data, .data, .sentinel, .sentinel, .data], laidTests := true, laidLooks := .later }
def FuseWeightUptoCardSaid : Prop := Claim7.holds Tryz.pinned (.plain (OpenSpec.upto fuseWeightSpec)) fuseWeightUptoCard

/-- THE SECOND FORM's CARD OF 'consulatelaw09.FuseNarrow'. -/
def fuseNarrowUptoCard : Claim7 := { stood := { row := fuseNarrowUptoRow, standIns := [], harness := (true, "19abc623e0a299beadd77a6290a6e4a78bc91bf6228226fe42aee71865598287"), looks := true }, kinds := [], alts := [], laidByText := true, laidKinds := [.data, .data, .data, .sentinel, .sentinel, .data], laidTests := true, laidLooks := .later }
def FuseNarrowUptoCardSaid : Prop := Claim7.holds Tryz.pinned (.plain (OpenSpec.upto fuseNarrowSpec)) fuseNarrowUptoCard

/-- THE SECOND FORM's CARD OF 'consulatelaw09.FuseKnown'. -/
def fuseKnownUptoCard : Claim7 := { stood := { row := fuseKnownUptoRow, standIns := [], harness := (true, "19abc623e0a299beadd77a6290a6e4a78bc91bf6228226fe42aee71865598287"), looks := true }, kinds := [], alts := [], laidByText := true, laidKinds := [.data, .data, .data, .sentinel, .sentinel, .data], laidTests := true, laidLooks := .later }
def FuseKnownUptoCardSaid : Prop := Claim7.holds Tryz.pinned (.plain (OpenSpec.upto fuseKnownSpec)) fuseKnownUptoCard
end Rows
end Go.Proofs.YthjljamngpddmaaGreatDoor
