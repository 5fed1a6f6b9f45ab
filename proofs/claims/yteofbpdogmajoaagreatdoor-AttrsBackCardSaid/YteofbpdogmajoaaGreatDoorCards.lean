/-
  DERIVED. GIVEN WITH THE SEED: THE CARDS: each row of YteofbpdogmajoaaGreatDoorRows.lean that lists a variable, with what it lists TIED to the program's text (the seventh form; the later family's looks); each row that meets fmt, with fmt's text TOLD by the authors' own Lean function (tested against real Go, not proved from fmt's source: count such statements apart). THE CARD IS WHAT COUNTS. Prove the row's statement (the work); the ties are given (YteofbpdogmajoaaGreatDoorTie.lean); close each card by the builder's one call (the guide's Derived/Test/ToyasCard.lean, 'card_holds'). Laid BY PROGRAM, IN A SANDBOX (cutbox-door.mjs). By AI agents, Wed Nov 11 2026. No macro, syntax, notation, axiom, sorry.
-/
import Derived.Test.YteofbpdogmajoaaGreatDoorRows
import GoSem.ClaimSeven
namespace Go.Proofs.YteofbpdogmajoaaGreatDoor
namespace Rows

/-- THE TIED CARD OF 'consulatelaw10.AttrsGets'. -/
def attrsGetsCard : Claim7 := { stood := { row := attrsGetsRow, standIns := [], harness := (true, "4d545ff10b9aeba18cd3827e5eca17ac01bcce433a73ea4ca6693f19570a408c"), looks := false }, kinds := [], alts := [], laidByText := true, laidKinds := [.data], laidTests := true, laidLooks := .later }
def AttrsGetsCardSaid : Prop := Claim7.holds Tryz.pinned (.plain (OpenSpec.ofChange attrsGetsSpec)) attrsGetsCard

/-- THE TIED CARD OF 'consulatelaw10.AttrsBack'. -/
def attrsBackCard : Claim7 := { stood := { row := attrsBackRow, standIns := [], harness := (true, "4d545ff10b9aeba18cd3827e5eca17ac01bcce433a73ea4ca6693f19570a408c"), looks := false }, kinds := [], alts := [], laidByText := true, laidKinds := [.data], laidTests := true, laidLooks := .later }
def AttrsBackCardSaid : Prop := Claim7.holds Tryz.pinned (.plain (OpenSpec.ofChange attrsBackSpec)) attrsBackCard

/-- THE TIED CARD OF 'consulatelaw10.AttrsEnds'. -/
def attrsEndsCard : Claim7 := { stood := { row := attrsEndsRow, standIns := [], harness := (true, "4d545ff10b9aeba18cd3827e5eca17ac01bcce433a73ea4ca6693f19570a408c"), looks := false }, kinds := [], alts := [], laidByText := true, laidKinds := [.data], laidTests := true, laidLooks := .later }
def AttrsEndsCardSaid : Prop := Claim7.holds Tryz.pinned (.plain (OpenSpec.ofChange attrsEndsSpec)) attrsEndsCard

/-- THE TIED CARD OF 'consulatelaw10.AttrsClasses'. -/
def attrsClassesCard : Claim7 := { stood := { row := attrsClassesRow, standIns := [], harness := (true, "4d545ff10b9aeba18cd3827e5eca17ac01bcce433a73ea4ca6693f19570a408c"), looks := false }, kinds := [], alts := [], laidByText := true, laidKinds := [.data], laidTests := true, laidLooks := .later }
def AttrsClassesCardSaid : Prop := Claim7.holds Tryz.pinned (.plain (OpenSpec.ofChange attrsClassesSpec)) attrsClassesCard

/-- THE TIED CARD OF 'consulatelaw10.AttrsKnown'. -/
def attrsKnownCard : Claim7 := { stood := { row := attrsKnownRow, standIns := [], harness := (true, "4d545ff10b9aeba18cd3827e5eca17ac01bcce433a73ea4ca6693f19570a408c"), looks := false }, kinds := [], alts := [], laidByText := true, laidKinds := [.data, .data, .data, .data, .data], laidTests := true, laidLooks := .later }
def AttrsKnownCardSaid : Prop := Claim7.holds Tryz.pinned (.plain (OpenSpec.ofChange attrsKnownSpec)) attrsKnownCard

/-- THE SECOND FORM's CARD OF 'consulatelaw10.AttrsGets'. -/
def attrsGetsUptoCard : Claim7 := { stood := { row := attrsGetsUptoRow, standIns := [], harness := (true, "4d545ff10b9aeba18cd3827e5eca17ac01bcce433a73ea4ca6693f19570a408c"), looks := false }, kinds := [], alts := [], laidByText := true, laidKinds := [.data], laidTests := true, laidLooks := .later }
def AttrsGetsUptoCardSaid : Prop := Claim7.holds Tryz.pinned (.plain (OpenSpec.upto attrsGetsSpec)) attrsGetsUptoCard

/-- THE SECOND FORM's CARD OF 'consulatelaw10.AttrsBack'. -/
def attrsBackUptoCard : Claim7 := { stood := { row := attrsBackUptoRow, standIns := [], harness := (true, "4d545ff10b9aeba18cd3827e5eca17ac01bcce433a73ea4ca6693f19570a408c"), looks := false }, kinds := [], alts := [], laidByText := true, laidKinds := [.data], laidTests := true, laidLooks := .later }
def AttrsBackUptoCardSaid : Prop := Claim7.holds Tryz.pinned (.plain (OpenSpec.upto attrsBackSpec)) attrsBackUptoCard

/-- THE SECOND FORM's CARD OF 'consulatelaw10.AttrsEnds'. -/
def attrsEndsUptoCard : Claim7 := { stood := { row := attrsEndsUptoRow, standIns := [], harness := (true, "4d545ff10b9aeba18cd3827e5eca17ac01bcce433a73ea4ca6693f19570a408c"), looks := false }, kinds := [], alts := [], laidByText := true, laidKinds := [.data], laidTests := true, laidLooks := .later }
def AttrsEndsUptoCardSaid : Prop := Claim7.holds Tryz.pinned (.plain (OpenSpec.upto attrsEndsSpec)) attrsEndsUptoCard

/-- THE SECOND FORM's CARD OF 'consulatelaw10.AttrsClasses'. -/
def attrsClassesUptoCard : Claim7 := { stood := { row := attrsClassesUptoRow, standIns := [], harness := (true, "4d545ff10b9aeba18cd3827e5eca17ac01bcce433a73ea4ca6693f19570a408c"), looks := false }, kinds := [], alts := [], laidByText := true, laidKinds := [.data], laidTests := true, laidLooks := .later }
def AttrsClassesUptoCardSaid : Prop := Claim7.holds Tryz.pinned (.plain (OpenSpec.upto attrsClassesSpec)) attrsClassesUptoCard

/-- THE SECOND FORM's CARD OF 'consulatelaw10.AttrsKnown'. -/
def attrsKnownUptoCard : Claim7 := { stood := { row := attrsKnownUptoRow, standIns := [], harness := (true, "4d545ff10b9aeba18cd3827e5eca17ac01bcce433a73ea4ca6693f19570a408c"), looks := false }, kinds := [], alts := [], laidByText := true, laidKinds := [.data, .data, .data, .data, .data], laidTests := true, laidLooks := .later }
def AttrsKnownUptoCardSaid : Prop := Claim7.holds Tryz.pinned (.plain (OpenSpec.upto attrsKnownSpec)) attrsKnownUptoCard
end Rows
end Go.Proofs.YteofbpdogmajoaaGreatDoor
