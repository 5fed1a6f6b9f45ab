/-
  DERIVED. GIVEN WITH THE SEED: THE CARDS: each row of YtdeblmolgmadiaaDoorRows.lean that lists a variable, with what it lists TIED to the program's text (the seventh form; the later family's looks); each row that meets fmt, with fmt's text TOLD by the authors' own Lean function (tested against real Go, not proved from fmt's source: count such statements apart). THE CARD IS WHAT COUNTS. Prove the row's statement (the work); the ties are given (YtdeblmolgmadiaaDoorTie.lean); close each card by the builder's one call (the guide's Derived/Test/ToyasCard.lean, 'card_holds'). Laid BY PROGRAM, IN A SANDBOX (cutbox-door.mjs). By AI agents, Wed Nov 11 2026. No macro, syntax, notation, axiom, sorry.
-/
import Derived.Test.YtdeblmolgmadiaaDoorRows
import GoSem.ClaimSeven
namespace Go.Proofs.YtdeblmolgmadiaaDoor
namespace Rows

/-- THE TIED CARD OF 'consulatelaw08.WalkTells'. -/
def walkTellsCard : Claim7 := { stood := { row := walkTellsRow, standIns := [], harness := (true, "9c1347d7b77754083aaf07a735b8caf42261a2fa2a38b33231e81a440618908d"), looks := false }, kinds := [], alts := [], laidByText := true, laidKinds := [.data, .data, .data, .data], laidTests := true, laidLooks := .later }
def WalkTellsCardSaid : Prop := Claim7.holds Tryd.pinned (.plain (OpenSpec.ofChange walkTellsSpec)) walkTellsCard

/-- THE TIED CARD OF 'consulatelaw08.WalkMakes'. -/
def walkMakesCard : Claim7 := { stood := { row := walkMakesRow, standIns := [], harness := (true, "9c1347d7b77754083aaf07a735b8caf42261a2fa2a38b33231e81a440618908d"), looks := false }, kinds := [], alts := [], laidByText := true, laidKinds := [.data, .data, .data, .data], laidTests := true, laidLooks := .later }
def WalkMakesCardSaid : Prop := Claim7.holds Tryd.pinned (.plain (OpenSpec.ofChange walkMakesSpec)) walkMakesCard

/-- THE SECOND FORM's CARD OF 'consulatelaw08.WalkTells'. -/
def walkTellsUptoCard : Claim7 := { stood := { row := walkTellsUptoRow, standIns := [], harness := (true, "9c1347d7b77754083aaf07a735b8caf42261a2fa2a38b33231e81a440618908d"), looks := false }, kinds := [], alts := [], laidByText := true, laidKinds := [.data, .data, .data, .data], laidTests := true, laidLooks := .later }
def WalkTellsUptoCardSaid : Prop := Claim7.holds Tryd.pinned (.plain (OpenSpec.upto walkTellsSpec)) walkTellsUptoCard

/-- THE SECOND FORM's CARD OF 'consulatelaw08.WalkMakes'. -/
def walkMakesUptoCard : Claim7 := { stood := { row := walkMakesUptoRow, standIns := [], harness := (true, "9c1347d7b77754083aaf07a735b8caf42261a2fa2a38b33231e81a440618908d"), looks := false }, kinds := [], alts := [], laidByText := true, laidKinds := [.data, .data, .data, .data], laidTests := true, laidLooks := .later }
def WalkMakesUptoCardSaid : Prop := Claim7.holds Tryd.pinned (.plain (OpenSpec.upto walkMakesSpec)) walkMakesUptoCard
end Rows
end Go.Proofs.YtdeblmolgmadiaaDoor
