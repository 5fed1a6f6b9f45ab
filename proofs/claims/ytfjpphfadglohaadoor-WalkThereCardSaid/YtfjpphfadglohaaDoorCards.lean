/-
  DERIVED. GIVEN WITH THE SEED: THE CARDS: each row of YtfjpphfadglohaaDoorRows.lean that lists a variable, with what it lists TIED to the program's text (the seventh form; the later family's looks); each row that meets fmt, with fmt's text TOLD by the authors' own Lean function (tested against real Go, not proved from fmt's source: count such statements apart). THE CARD IS WHAT COUNTS. Prove the row's statement (the work); the ties are given (YtfjpphfadglohaaDoorTie.lean); close each card by the builder's one call (the guide's Derived/Test/ToyasCard.lean, 'card_holds'). Laid BY PROGRAM, IN A SANDBOX (cutbox-door.mjs). By AI agents, Wed Nov 11 2026. No macro, syntax, notation, axiom, sorry.
-/
import Derived.Test.YtfjpphfadglohaaDoorRows
import GoSem.ClaimSeven
namespace Go.Proofs.YtfjpphfadglohaaDoor
namespace Rows

/-- THE TIED CARD OF 'consulatelaw07.PathJoins'. -/
def pathJoinsCard : Claim7 := { stood := { row := pathJoinsRow, standIns := [], harness := (true, "5baef2f0434149d987500f3121c8c0ff920e21a2b914081d6b1024bdb1c162e7"), looks := true }, kinds := [], alts := [], laidByText := true, laidKinds := [.data, .data, .data, .sentinel, .sentinel, .data], laidTests := true, laidLooks := .later }
def PathJoinsCardSaid : Prop := Claim7.holds Tryd.pinned (.plain (OpenSpec.ofChange pathJoinsSpec)) pathJoinsCard

/-- THE TIED CARD OF 'consulatelaw08.WalkTells'. -/
def walkTellsCard : Claim7 := { stood := { row := walkTellsRow, standIns := [], harness := (true, "5baef2f0434149d987500f3121c8c0ff920e21a2b914081d6b1024bdb1c162e7"), looks := true }, kinds := [], alts := [], laidByText := true, laidKinds := [.data, .data, .data, .data], laidTests := true, laidLooks := .later }
def WalkTellsCardSaid : Prop := Claim7.holds Tryd.pinned (.plain (OpenSpec.ofChange walkTellsSpec)) walkTellsCard

/-- THE TIED CARD OF 'consulatelaw08.WalkMakes'. -/
def walkMakesCard : Claim7 := { stood := { row := walkMakesRow, standIns := [], harness := (true, "5baef2f0434149d987500f3121c8c0ff920e21a2b914081d6b1024bdb1c162e7"), looks := true }, kinds := [], alts := [], laidByText := true, laidKinds := [.data, .data, .data, .data], laidTests := true, laidLooks := .later }
def WalkMakesCardSaid : Prop := Claim7.holds Tryd.pinned (.plain (OpenSpec.ofChange walkMakesSpec)) walkMakesCard

/-- THE TIED CARD OF 'consulatelaw08.WalkThere'. -/
def walkThereCard : Claim7 := { stood := { row := walkThereRow, standIns := [], harness := (true, "5baef2f0434149d987500f3121c8c0ff920e21a2b914081d6b1024bdb1c162e7"), looks := true }, kinds := [], alts := [], laidByText := true, laidKinds := [.data, .data, .data, .data], laidTests := true, laidLooks := .later }
def WalkThereCardSaid : Prop := Claim7.holds Tryd.pinned (.plain (OpenSpec.ofChange walkThereSpec)) walkThereCard

/-- THE TIED CARD OF 'consulatelaw08.WalkLengths'. -/
def walkLengthsCard : Claim7 := { stood := { row := walkLengthsRow, standIns := [], harness := (true, "5baef2f0434149d987500f3121c8c0ff920e21a2b914081d6b1024bdb1c162e7"), looks := true }, kinds := [], alts := [], laidByText := true, laidKinds := [.data, .data, .data, .data], laidTests := true, laidLooks := .later }
def WalkLengthsCardSaid : Prop := Claim7.holds Tryd.pinned (.plain (OpenSpec.ofChange walkLengthsSpec)) walkLengthsCard

/-- THE TIED CARD OF 'consulatelaw08.WalkNext'. -/
def walkNextCard : Claim7 := { stood := { row := walkNextRow, standIns := [], harness := (true, "5baef2f0434149d987500f3121c8c0ff920e21a2b914081d6b1024bdb1c162e7"), looks := true }, kinds := [], alts := [], laidByText := true, laidKinds := [.data, .data, .data, .data], laidTests := true, laidLooks := .later }
def WalkNextCardSaid : Prop := Claim7.holds Tryd.pinned (.plain (OpenSpec.ofChange walkNextSpec)) walkNextCard

/-- THE TIED CARD OF 'consulatelaw08.WalkReplaced'. -/
def walkReplacedCard : Claim7 := { stood := { row := walkReplacedRow, standIns := [], harness := (true, "5baef2f0434149d987500f3121c8c0ff920e21a2b914081d6b1024bdb1c162e7"), looks := true }, kinds := [], alts := [], laidByText := true, laidKinds := [.data, .data, .data, .data], laidTests := true, laidLooks := .later }
def WalkReplacedCardSaid : Prop := Claim7.holds Tryd.pinned (.plain (OpenSpec.ofChange walkReplacedSpec)) walkReplacedCard

/-- THE TIED CARD OF 'consulatelaw08.WalkKnown'. -/
def walkKnownCard : Claim7 := { stood := { row := walkKnownRow, standIns := [], harness := (true, "5baef2f0434149d987500f3121c8c0ff920e21a2b914081d6b1024bdb1c162e7"), looks := true }, kinds := [], alts := [], laidByText := true, laidKinds := [.data, .data, .data, .data], laidTests := true, laidLooks := .later }
def WalkKnownCardSaid : Prop := Claim7.holds Tryd.pinned (.plain (OpenSpec.ofChange walkKnownSpec)) walkKnownCard

/-- THE SECOND FORM's CARD OF 'consulatelaw07.PathJoins'. -/
def pathJoinsUptoCard : Claim7 := { stood := { row := pathJoinsUptoRow, standIns := [], harness := (true, "5baef2f0434149d987500f3121c8c0ff920e21a2b914081d6b1024bdb1c162e7"), looks := true }, kinds := [], alts := [], laidByText := true, laidKinds := [.data, .data, .data, .sentinel, .sentinel, .data], laidTests := true, laidLooks := .later }
def PathJoinsUptoCardSaid : Prop := Claim7.holds Tryd.pinned (.plain (OpenSpec.upto pathJoinsSpec)) pathJoinsUptoCard

/-- THE SECOND FORM's CARD OF 'consulatelaw08.WalkTells'. -/
def walkTellsUptoCard : Claim7 := { stood := { row := walkTellsUptoRow, standIns := [], harness := (true, "5baef2f0434149d987500f3121c8c0ff920e21a2b914081d6b1024bdb1c162e7"), looks := true }, kinds := [], alts := [], laidByText := true, laidKinds := [.data, .data, .data, .data], laidTests := true, laidLooks := .later }
def WalkTellsUptoCardSaid : Prop := Claim7.holds Tryd.pinned (.plain (OpenSpec.upto walkTellsSpec)) walkTellsUptoCard

/-- THE SECOND FORM's CARD OF 'consulatelaw08.WalkMakes'. -/
def walkMakesUptoCard : Claim7 := { stood := { row := walkMakesUptoRow, standIns := [], harness := (true, "5baef2f0434149d987500f3121c8c0ff920e21a2b914081d6b1024bdb1c162e7"), looks := true }, kinds := [], alts := [], laidByText := true, laidKinds := [.data, .data, .data, .data], laidTests := true, laidLooks := .later }
def WalkMakesUptoCardSaid : Prop := Claim7.holds Tryd.pinned (.plain (OpenSpec.upto walkMakesSpec)) walkMakesUptoCard

/-- THE SECOND FORM's CARD OF 'consulatelaw08.WalkThere'. -/
def walkThereUptoCard : Claim7 := { stood := { row := walkThereUptoRow, standIns := [], harness := (true, "5baef2f0434149d987500f3121c8c0ff920e21a2b914081d6b1024bdb1c162e7"), looks := true }, kinds := [], alts := [], laidByText := true, laidKinds := [.data, .data, .data, .data], laidTests := true, laidLooks := .later }
def WalkThereUptoCardSaid : Prop := Claim7.holds Tryd.pinned (.plain (OpenSpec.upto walkThereSpec)) walkThereUptoCard

/-- THE SECOND FORM's CARD OF 'consulatelaw08.WalkLengths'. -/
def walkLengthsUptoCard : Claim7 := { stood := { row := walkLengthsUptoRow, standIns := [], harness := (true, "5baef2f0434149d987500f3121c8c0ff920e21a2b914081d6b1024bdb1c162e7"), looks := true }, kinds := [], alts := [], laidByText := true, laidKinds := [.data, .data, .data, .data], laidTests := true, laidLooks := .later }
def WalkLengthsUptoCardSaid : Prop := Claim7.holds Tryd.pinned (.plain (OpenSpec.upto walkLengthsSpec)) walkLengthsUptoCard

/-- THE SECOND FORM's CARD OF 'consulatelaw08.WalkNext'. -/
def walkNextUptoCard : Claim7 := { stood := { row := walkNextUptoRow, standIns := [], harness := (true, "5baef2f0434149d987500f3121c8c0ff920e21a2b914081d6b1024bdb1c162e7"), looks := true }, kinds := [], alts := [], laidByText := true, laidKinds := [.data, .data, .data, .data], laidTests := true, laidLooks := .later }
def WalkNextUptoCardSaid : Prop := Claim7.holds Tryd.pinned (.plain (OpenSpec.upto walkNextSpec)) walkNextUptoCard

/-- THE SECOND FORM's CARD OF 'consulatelaw08.WalkReplaced'. -/
def walkReplacedUptoCard : Claim7 := { stood := { row := walkReplacedUptoRow, standIns := [], harness := (true, "5baef2f0434149d987500f3121c8c0ff920e21a2b914081d6b1024bdb1c162e7"), looks := true }, kinds := [], alts := [], laidByText := true, laidKinds := [.data, .data, .data, .data], laidTests := true, laidLooks := .later }
def WalkReplacedUptoCardSaid : Prop := Claim7.holds Tryd.pinned (.plain (OpenSpec.upto walkReplacedSpec)) walkReplacedUptoCard

/-- THE SECOND FORM's CARD OF 'consulatelaw08.WalkKnown'. -/
def walkKnownUptoCard : Claim7 := { stood := { row := walkKnownUptoRow, standIns := [], harness := (true, "5baef2f0434149d987500f3121c8c0ff920e21a2b914081d6b1024bdb1c162e7"), looks := true }, kinds := [], alts := [], laidByText := true, laidKinds := [.data, .data, .data, .data], laidTests := true, laidLooks := .later }
def WalkKnownUptoCardSaid : Prop := Claim7.holds Tryd.pinned (.plain (OpenSpec.upto walkKnownSpec)) walkKnownUptoCard
end Rows
end Go.Proofs.YtfjpphfadglohaaDoor
