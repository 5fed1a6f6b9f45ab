/-
  DERIVED. GIVEN WITH THE SEED: THE CARDS: each row of YtkmmfbmomflofaaGreatDoorRows.lean that lists a variable, with what it lists TIED to the program's text (the seventh form; the later family's looks); each row that meets fmt, with fmt's text TOLD by the authors' own Lean function (tested against real Go, not proved from fmt's source: count such statements apart). THE CARD IS WHAT COUNTS. Prove the row's statement (the work); the ties are given (YtkmmfbmomflofaaGreatDoorTie.lean); close each card by the builder's one call (the guide's Derived/Test/ToyasCard.lean, 'card_holds'). Laid BY PROGRAM, IN A SANDBOX (cutbox-door.mjs). By AI agents, Wed Nov 11 2026. No macro, syntax, notation, axiom, sorry.
-/
import Derived.Test.YtkmmfbmomflofaaGreatDoorRows
import GoSem.ClaimSeven
namespace Go.Proofs.YtkmmfbmomflofaaGreatDoor
namespace Rows

/-- THE TIED CARD OF 'consulatelaw10.AttrsGets'. -/
def attrsGetsCard : Claim7 := { stood := { row := attrsGetsRow, standIns := [], harness := (true, "8fa5727293388f7d01035296f443103a4c98288c450de8031f668eb58722a436"), looks := false }, kinds := [], alts := [], laidByText := true, laidKinds := [.data], laidTests := true, laidLooks := .later }
def AttrsGetsCardSaid : Prop := Claim7.holds Tryz.pinned (.plain (OpenSpec.ofChange attrsGetsSpec)) attrsGetsCard

/-- THE TIED CARD OF 'consulatelaw10.AttrsBack'. -/
def attrsBackCard : Claim7 := { stood := { row := attrsBackRow, standIns := [], harness := (true, "8fa5727293388f7d01035296f443103a4c98288c450de8031f668eb58722a436"), looks := false }, kinds := [], alts := [], laidByText := true, laidKinds := [.data], laidTests := true, laidLooks := .later }
def AttrsBackCardSaid : Prop := Claim7.holds Tryz.pinned (.plain (OpenSpec.ofChange attrsBackSpec)) attrsBackCard

/-- THE TIED CARD OF 'consulatelaw10.AttrsAgain'. -/
def attrsAgainCard : Claim7 := { stood := { row := attrsAgainRow, standIns := [], harness := (true, "8fa5727293388f7d01035296f443103a4c98288c450de8031f668eb58722a436"), looks := false }, kinds := [], alts := [], laidByText := true, laidKinds := [.data], laidTests := true, laidLooks := .later }
def AttrsAgainCardSaid : Prop := Claim7.holds Tryz.pinned (.plain (OpenSpec.ofChange attrsAgainSpec)) attrsAgainCard

/-- THE TIED CARD OF 'consulatelaw10.AttrsEnds'. -/
def attrsEndsCard : Claim7 := { stood := { row := attrsEndsRow, standIns := [], harness := (true, "8fa5727293388f7d01035296f443103a4c98288c450de8031f668eb58722a436"), looks := false }, kinds := [], alts := [], laidByText := true, laidKinds := [.data], laidTests := true, laidLooks := .later }
def AttrsEndsCardSaid : Prop := Claim7.holds Tryz.pinned (.plain (OpenSpec.ofChange attrsEndsSpec)) attrsEndsCard

/-- THE TIED CARD OF 'consulatelaw10.AttrsClasses'. -/
def attrsClassesCard : Claim7 := { stood := { row := attrsClassesRow, standIns := [], harness := (true, "8fa5727293388f7d01035296f443103a4c98288c450de8031f668eb58722a436"), looks := false }, kinds := [], alts := [], laidByText := true, laidKinds := [.data], laidTests := true, laidLooks := .later }
def AttrsClassesCardSaid : Prop := Claim7.holds Tryz.pinned (.plain (OpenSpec.ofChange attrsClassesSpec)) attrsClassesCard

/-- THE TIED CARD OF 'consulatelaw10.AttrsKnown'. -/
def attrsKnownCard : Claim7 := { stood := { row := attrsKnownRow, standIns := [], harness := (true, "8fa5727293388f7d01035296f443103a4c98288c450de8031f668eb58722a436"), looks := false }, kinds := [], alts := [], laidByText := true, laidKinds := [.data, .data, .data, .data, .data], laidTests := true, laidLooks := .later }
def AttrsKnownCardSaid : Prop := Claim7.holds Tryz.pinned (.plain (OpenSpec.ofChange attrsKnownSpec)) attrsKnownCard

/-- THE TIED CARD OF 'consulatelaw11.UpdateReads'. -/
def updateReadsCard : Claim7 := { stood := { row := updateReadsRow, standIns := [], harness := (true, "8fa5727293388f7d01035296f443103a4c98288c450de8031f668eb58722a436"), looks := false }, kinds := [], alts := [], laidByText := true, laidKinds := [.data], laidTests := true, laidLooks := .later }
def UpdateReadsCardSaid : Prop := Claim7.holds Tryz.pinned (.plain (OpenSpec.ofChange updateReadsSpec)) updateReadsCard

/-- THE TIED CARD OF 'consulatelaw11.UpdateBack'. -/
def updateBackCard : Claim7 := { stood := { row := updateBackRow, standIns := [], harness := (true, "8fa5727293388f7d01035296f443103a4c98288c450de8031f668eb58722a436"), looks := false }, kinds := [], alts := [], laidByText := true, laidKinds := [.data], laidTests := true, laidLooks := .later }
def UpdateBackCardSaid : Prop := Claim7.holds Tryz.pinned (.plain (OpenSpec.ofChange updateBackSpec)) updateBackCard

/-- THE TIED CARD OF 'consulatelaw11.UpdateEach'. -/
def updateEachCard : Claim7 := { stood := { row := updateEachRow, standIns := [], harness := (true, "8fa5727293388f7d01035296f443103a4c98288c450de8031f668eb58722a436"), looks := false }, kinds := [], alts := [], laidByText := true, laidKinds := [.data], laidTests := true, laidLooks := .later }
def UpdateEachCardSaid : Prop := Claim7.holds Tryz.pinned (.plain (OpenSpec.ofChange updateEachSpec)) updateEachCard

/-- THE TIED CARD OF 'consulatelaw11.UpdateBeside'. -/
def updateBesideCard : Claim7 := { stood := { row := updateBesideRow, standIns := [], harness := (true, "8fa5727293388f7d01035296f443103a4c98288c450de8031f668eb58722a436"), looks := false }, kinds := [], alts := [], laidByText := true, laidKinds := [.data], laidTests := true, laidLooks := .later }
def UpdateBesideCardSaid : Prop := Claim7.holds Tryz.pinned (.plain (OpenSpec.ofChange updateBesideSpec)) updateBesideCard

/-- THE TIED CARD OF 'consulatelaw11.UpdateKnown'. -/
def updateKnownCard : Claim7 := { stood := { row := updateKnownRow, standIns := [], harness := (true, "8fa5727293388f7d01035296f443103a4c98288c450de8031f668eb58722a436"), looks := false }, kinds := [], alts := [], laidByText := true, laidKinds := [.data, .data, .data, .data, .data], laidTests := true, laidLooks := .later }
def UpdateKnownCardSaid : Prop := Claim7.holds Tryz.pinned (.plain (OpenSpec.ofChange updateKnownSpec)) updateKnownCard

/-- THE SECOND FORM's CARD OF 'consulatelaw10.AttrsGets'. -/
def attrsGetsUptoCard : Claim7 := { stood := { row := attrsGetsUptoRow, standIns := [], harness := (true, "8fa5727293388f7d01035296f443103a4c98288c450de8031f668eb58722a436"), looks := false }, kinds := [], alts := [], laidByText := true, laidKinds := [.data], laidTests := true, laidLooks := .later }
def AttrsGetsUptoCardSaid : Prop := Claim7.holds Tryz.pinned (.plain (OpenSpec.upto attrsGetsSpec)) attrsGetsUptoCard

/-- THE SECOND FORM's CARD OF 'consulatelaw10.AttrsBack'. -/
def attrsBackUptoCard : Claim7 := { stood := { row := attrsBackUptoRow, standIns := [], harness := (true, "8fa5727293388f7d01035296f443103a4c98288c450de8031f668eb58722a436"), looks := false }, kinds := [], alts := [], laidByText := true, laidKinds := [.data], laidTests := true, laidLooks := .later }
def AttrsBackUptoCardSaid : Prop := Claim7.holds Tryz.pinned (.plain (OpenSpec.upto attrsBackSpec)) attrsBackUptoCard

/-- THE SECOND FORM's CARD OF 'consulatelaw10.AttrsAgain'. -/
def attrsAgainUptoCard : Claim7 := { stood := { row := attrsAgainUptoRow, standIns := [], harness := (true, "8fa5727293388f7d01035296f443103a4c98288c450de8031f668eb58722a436"), looks := false }, kinds := [], alts := [], laidByText := true, laidKinds := [.data], laidTests := true, laidLooks := .later }
def AttrsAgainUptoCardSaid : Prop := Claim7.holds Tryz.pinned (.plain (OpenSpec.upto attrsAgainSpec)) attrsAgainUptoCard

/-- THE SECOND FORM's CARD OF 'consulatelaw10.AttrsEnds'. -/
def attrsEndsUptoCard : Claim7 := { stood := { row := attrsEndsUptoRow, standIns := [], harness := (true, "8fa5727293388f7d01035296f443103a4c98288c450de8031f668eb58722a436"), looks := false }, kinds := [], alts := [], laidByText := true, laidKinds := [.data], laidTests := true, laidLooks := .later }
def AttrsEndsUptoCardSaid : Prop := Claim7.holds Tryz.pinned (.plain (OpenSpec.upto attrsEndsSpec)) attrsEndsUptoCard

/-- THE SECOND FORM's CARD OF 'consulatelaw10.AttrsClasses'. -/
def attrsClassesUptoCard : Claim7 := { stood := { row := attrsClassesUptoRow, standIns := [], harness := (true, "8fa5727293388f7d01035296f443103a4c98288c450de8031f668eb58722a436"), looks := false }, kinds := [], alts := [], laidByText := true, laidKinds := [.data], laidTests := true, laidLooks := .later }
def AttrsClassesUptoCardSaid : Prop := Claim7.holds Tryz.pinned (.plain (OpenSpec.upto attrsClassesSpec)) attrsClassesUptoCard

/-- THE SECOND FORM's CARD OF 'consulatelaw10.AttrsKnown'. -/
def attrsKnownUptoCard : Claim7 := { stood := { row := attrsKnownUptoRow, standIns := [], harness := (true, "8fa5727293388f7d01035296f443103a4c98288c450de8031f668eb58722a436"), looks := false }, kinds := [], alts := [], laidByText := true, laidKinds := [.data, .data, .data, .data, .data], laidTests := true, laidLooks := .later }
def AttrsKnownUptoCardSaid : Prop := Claim7.holds Tryz.pinned (.plain (OpenSpec.upto attrsKnownSpec)) attrsKnownUptoCard

/-- THE SECOND FORM's CARD OF 'consulatelaw11.UpdateReads'. -/
def updateReadsUptoCard : Claim7 := { stood := { row := updateReadsUptoRow, standIns := [], harness := (true, "8fa5727293388f7d01035296f443103a4c98288c450de8031f668eb58722a436"), looks := false }, kinds := [], alts := [], laidByText := true, laidKinds := [.data], laidTests := true, laidLooks := .later }
def UpdateReadsUptoCardSaid : Prop := Claim7.holds Tryz.pinned (.plain (OpenSpec.upto updateReadsSpec)) updateReadsUptoCard

/-- THE SECOND FORM's CARD OF 'consulatelaw11.UpdateBack'. -/
def updateBackUptoCard : Claim7 := { stood := { row := updateBackUptoRow, standIns := [], harness := (true, "8fa5727293388f7d01035296f443103a4c98288c450de8031f668eb58722a436"), looks := false }, kinds := [], alts := [], laidByText := true, laidKinds := [.data], laidTests := true, laidLooks := .later }
def UpdateBackUptoCardSaid : Prop := Claim7.holds Tryz.pinned (.plain (OpenSpec.upto updateBackSpec)) updateBackUptoCard

/-- THE SECOND FORM's CARD OF 'consulatelaw11.UpdateEach'. -/
def updateEachUptoCard : Claim7 := { stood := { row := updateEachUptoRow, standIns := [], harness := (true, "8fa5727293388f7d01035296f443103a4c98288c450de8031f668eb58722a436"), looks := false }, kinds := [], alts := [], laidByText := true, laidKinds := [.data], laidTests := true, laidLooks := .later }
def UpdateEachUptoCardSaid : Prop := Claim7.holds Tryz.pinned (.plain (OpenSpec.upto updateEachSpec)) updateEachUptoCard

/-- THE SECOND FORM's CARD OF 'consulatelaw11.UpdateBeside'. -/
def updateBesideUptoCard : Claim7 := { stood := { row := updateBesideUptoRow, standIns := [], harness := (true, "8fa5727293388f7d01035296f443103a4c98288c450de8031f668eb58722a436"), looks := false }, kinds := [], alts := [], laidByText := true, laidKinds := [.data], laidTests := true, laidLooks := .later }
def UpdateBesideUptoCardSaid : Prop := Claim7.holds Tryz.pinned (.plain (OpenSpec.upto updateBesideSpec)) updateBesideUptoCard

/-- THE SECOND FORM's CARD OF 'consulatelaw11.UpdateKnown'. -/
def updateKnownUptoCard : Claim7 := { stood := { row := updateKnownUptoRow, standIns := [], harness := (true, "8fa5727293388f7d01035296f443103a4c98288c450de8031f668eb58722a436"), looks := false }, kinds := [], alts := [], laidByText := true, laidKinds := [.data, .data, .data, .data, .data], laidTests := true, laidLooks := .later }
def UpdateKnownUptoCardSaid : Prop := Claim7.holds Tryz.pinned (.plain (OpenSpec.upto updateKnownSpec)) updateKnownUptoCard
end Rows
end Go.Proofs.YtkmmfbmomflofaaGreatDoor
