/-
  DERIVED. GIVEN WITH THE SEED: THE CARDS: each row of YtohgkibpcgfihaaDoorRows.lean that lists a variable, with what it lists TIED to the program's text (the seventh form; the later family's looks); each row that meets fmt, with fmt's text TOLD by the authors' own Lean function (tested against real Go, not proved from fmt's source: count such statements apart). THE CARD IS WHAT COUNTS. Prove the row's statement (the work); the ties are given (YtohgkibpcgfihaaDoorTie.lean); close each card by the builder's one call (the guide's Derived/Test/ToyasCard.lean, 'card_holds'). Laid BY PROGRAM, IN A SANDBOX (cutbox-door.mjs). By AI agents, Wed Nov 11 2026. No macro, syntax, notation, axiom, sorry.
-/
import Derived.Test.YtohgkibpcgfihaaDoorRows
import GoSem.ClaimSeven
namespace Go.Proofs.YtohgkibpcgfihaaDoor
namespace Rows

/-- THE TIED CARD OF 'consulatelaw06.OpenGets'. -/
def openGetsCard : Claim7 := { stood := { row := openGetsRow, standIns := [], harness := (true, "a8fa67aaf726ed6c40b91c197c2a96d26a34704acbb5b83e8a7e2885bbf06585"), looks := false }, kinds := [], alts := [], laidByText := true, laidKinds := [.data], laidTests := true, laidLooks := .later }
def OpenGetsCardSaid : Prop := Claim7.holds Tryd.pinned (.plain (OpenSpec.ofChange openGetsSpec)) openGetsCard

/-- THE TIED CARD OF 'consulatelaw06.OpenTells'. -/
def openTellsCard : Claim7 := { stood := { row := openTellsRow, standIns := [], harness := (true, "a8fa67aaf726ed6c40b91c197c2a96d26a34704acbb5b83e8a7e2885bbf06585"), looks := false }, kinds := [], alts := [], laidByText := true, laidKinds := [.data], laidTests := true, laidLooks := .later }
def OpenTellsCardSaid : Prop := Claim7.holds Tryd.pinned (.plain (OpenSpec.ofChange openTellsSpec)) openTellsCard

/-- THE TIED CARD OF 'consulatelaw06.OpenBack'. -/
def openBackCard : Claim7 := { stood := { row := openBackRow, standIns := [], harness := (true, "a8fa67aaf726ed6c40b91c197c2a96d26a34704acbb5b83e8a7e2885bbf06585"), looks := false }, kinds := [], alts := [], laidByText := true, laidKinds := [.data], laidTests := true, laidLooks := .later }
def OpenBackCardSaid : Prop := Claim7.holds Tryd.pinned (.plain (OpenSpec.ofChange openBackSpec)) openBackCard

/-- THE TIED CARD OF 'consulatelaw06.OpenOurs'. -/
def openOursCard : Claim7 := { stood := { row := openOursRow, standIns := [], harness := (true, "a8fa67aaf726ed6c40b91c197c2a96d26a34704acbb5b83e8a7e2885bbf06585"), looks := false }, kinds := [], alts := [], laidByText := true, laidKinds := [.data], laidTests := true, laidLooks := .later }
def OpenOursCardSaid : Prop := Claim7.holds Tryd.pinned (.plain (OpenSpec.ofChange openOursSpec)) openOursCard

/-- THE TIED CARD OF 'consulatelaw06.OpenNumbers'. -/
def openNumbersCard : Claim7 := { stood := { row := openNumbersRow, standIns := [], harness := (true, "a8fa67aaf726ed6c40b91c197c2a96d26a34704acbb5b83e8a7e2885bbf06585"), looks := false }, kinds := [], alts := [], laidByText := true, laidKinds := [.data], laidTests := true, laidLooks := .later }
def OpenNumbersCardSaid : Prop := Claim7.holds Tryd.pinned (.plain (OpenSpec.ofChange openNumbersSpec)) openNumbersCard

/-- THE TIED CARD OF 'consulatelaw06.OpenKnown'. -/
def openKnownCard : Claim7 := { stood := { row := openKnownRow, standIns := [], harness := (true, "a8fa67aaf726ed6c40b91c197c2a96d26a34704acbb5b83e8a7e2885bbf06585"), looks := false }, kinds := [], alts := [], laidByText := true, laidKinds := [.data], laidTests := true, laidLooks := .later }
def OpenKnownCardSaid : Prop := Claim7.holds Tryd.pinned (.plain (OpenSpec.ofChange openKnownSpec)) openKnownCard

/-- THE SECOND FORM's CARD OF 'consulatelaw06.OpenGets'. -/
def openGetsUptoCard : Claim7 := { stood := { row := openGetsUptoRow, standIns := [], harness := (true, "a8fa67aaf726ed6c40b91c197c2a96d26a34704acbb5b83e8a7e2885bbf06585"), looks := false }, kinds := [], alts := [], laidByText := true, laidKinds := [.data], laidTests := true, laidLooks := .later }
def OpenGetsUptoCardSaid : Prop := Claim7.holds Tryd.pinned (.plain (OpenSpec.upto openGetsSpec)) openGetsUptoCard

/-- THE SECOND FORM's CARD OF 'consulatelaw06.OpenTells'. -/
def openTellsUptoCard : Claim7 := { stood := { row := openTellsUptoRow, standIns := [], harness := (true, "a8fa67aaf726ed6c40b91c197c2a96d26a34704acbb5b83e8a7e2885bbf06585"), looks := false }, kinds := [], alts := [], laidByText := true, laidKinds := [.data], laidTests := true, laidLooks := .later }
def OpenTellsUptoCardSaid : Prop := Claim7.holds Tryd.pinned (.plain (OpenSpec.upto openTellsSpec)) openTellsUptoCard

/-- THE SECOND FORM's CARD OF 'consulatelaw06.OpenBack'. -/
def openBackUptoCard : Claim7 := { stood := { row := openBackUptoRow, standIns := [], harness := (true, "a8fa67aaf726ed6c40b91c197c2a96d26a34704acbb5b83e8a7e2885bbf06585"), looks := false }, kinds := [], alts := [], laidByText := true, laidKinds := [.data], laidTests := true, laidLooks := .later }
def OpenBackUptoCardSaid : Prop := Claim7.holds Tryd.pinned (.plain (OpenSpec.upto openBackSpec)) openBackUptoCard

/-- THE SECOND FORM's CARD OF 'consulatelaw06.OpenOurs'. -/
def openOursUptoCard : Claim7 := { stood := { row := openOursUptoRow, standIns := [], harness := (true, "a8fa67aaf726ed6c40b91c197c2a96d26a34704acbb5b83e8a7e2885bbf06585"), looks := false }, kinds := [], alts := [], laidByText := true, laidKinds := [.data], laidTests := true, laidLooks := .later }
def OpenOursUptoCardSaid : Prop := Claim7.holds Tryd.pinned (.plain (OpenSpec.upto openOursSpec)) openOursUptoCard

/-- THE SECOND FORM's CARD OF 'consulatelaw06.OpenNumbers'. -/
def openNumbersUptoCard : Claim7 := { stood := { row := openNumbersUptoRow, standIns := [], harness := (true, "a8fa67aaf726ed6c40b91c197c2a96d26a34704acbb5b83e8a7e2885bbf06585"), looks := false }, kinds := [], alts := [], laidByText := true, laidKinds := [.data], laidTests := true, laidLooks := .later }
def OpenNumbersUptoCardSaid : Prop := Claim7.holds Tryd.pinned (.plain (OpenSpec.upto openNumbersSpec)) openNumbersUptoCard

/-- THE SECOND FORM's CARD OF 'consulatelaw06.OpenKnown'. -/
def openKnownUptoCard : Claim7 := { stood := { row := openKnownUptoRow, standIns := [], harness := (true, "a8fa67aaf726ed6c40b91c197c2a96d26a34704acbb5b83e8a7e2885bbf06585"), looks := false }, kinds := [], alts := [], laidByText := true, laidKinds := [.data], laidTests := true, laidLooks := .later }
def OpenKnownUptoCardSaid : Prop := Claim7.holds Tryd.pinned (.plain (OpenSpec.upto openKnownSpec)) openKnownUptoCard
end Rows
end Go.Proofs.YtohgkibpcgfihaaDoor
