/-
  DERIVED. GIVEN WITH THE SEED: THE CARDS: each row of YtfjhpeijlhlaeaaDoorRows.lean that lists a variable, with what it lists TIED to the program's text (the seventh form; the later family's looks); each row that meets fmt, with fmt's text TOLD by the authors' own Lean function (tested against real Go, not proved from fmt's source: count such statements apart). THE CARD IS WHAT COUNTS. Prove the row's statement (the work); the ties are given (YtfjhpeijlhlaeaaDoorTie.lean); close each card by the builder's one call (the guide's Derived/Test/ToyasCard.lean, 'card_holds'). Laid BY PROGRAM, IN A SANDBOX (cutbox-door.mjs). By AI agents, Wed Nov 11 2026. No macro, syntax, notation, axiom, sorry.
-/
import Derived.Test.YtfjhpeijlhlaeaaDoorRows
import GoSem.ClaimSeven
namespace Go.Proofs.YtfjhpeijlhlaeaaDoor
namespace Rows

/-- THE TIED CARD OF 'consulatelaw02.PrefixTells'. -/
def prefixTellsCard : Claim7 := { stood := { row := prefixTellsRow, standIns := [], harness := (true, "6807aa5bf318358dc6a3b1dc27ea3f3843fe1bde3e4844d622bf39fcfc483c54"), looks := false }, kinds := [], alts := [], laidByText := true, laidKinds := [.data, .data, .data], laidTests := true, laidLooks := .later }
def PrefixTellsCardSaid : Prop := Claim7.holds Tryd.pinned (.plain (OpenSpec.ofChange prefixTellsSpec)) prefixTellsCard

/-- THE TIED CARD OF 'consulatelaw02.PrefixReads'. -/
def prefixReadsCard : Claim7 := { stood := { row := prefixReadsRow, standIns := [], harness := (true, "6807aa5bf318358dc6a3b1dc27ea3f3843fe1bde3e4844d622bf39fcfc483c54"), looks := false }, kinds := [], alts := [], laidByText := true, laidKinds := [.data, .data, .data], laidTests := true, laidLooks := .later }
def PrefixReadsCardSaid : Prop := Claim7.holds Tryd.pinned (.plain (OpenSpec.ofChange prefixReadsSpec)) prefixReadsCard

/-- THE TIED CARD OF 'consulatelaw02.PrefixLists'. -/
def prefixListsCard : Claim7 := { stood := { row := prefixListsRow, standIns := [], harness := (true, "6807aa5bf318358dc6a3b1dc27ea3f3843fe1bde3e4844d622bf39fcfc483c54"), looks := false }, kinds := [], alts := [], laidByText := true, laidKinds := [.data, .data, .data], laidTests := true, laidLooks := .later }
def PrefixListsCardSaid : Prop := Claim7.holds Tryd.pinned (.plain (OpenSpec.ofChange prefixListsSpec)) prefixListsCard

/-- THE TIED CARD OF 'consulatelaw02.PrefixBack'. -/
def prefixBackCard : Claim7 := { stood := { row := prefixBackRow, standIns := [], harness := (true, "6807aa5bf318358dc6a3b1dc27ea3f3843fe1bde3e4844d622bf39fcfc483c54"), looks := false }, kinds := [], alts := [], laidByText := true, laidKinds := [.data, .data, .data], laidTests := true, laidLooks := .later }
def PrefixBackCardSaid : Prop := Claim7.holds Tryd.pinned (.plain (OpenSpec.ofChange prefixBackSpec)) prefixBackCard

/-- THE TIED CARD OF 'consulatelaw02.PrefixNests'. -/
def prefixNestsCard : Claim7 := { stood := { row := prefixNestsRow, standIns := [], harness := (true, "6807aa5bf318358dc6a3b1dc27ea3f3843fe1bde3e4844d622bf39fcfc483c54"), looks := false }, kinds := [], alts := [], laidByText := true, laidKinds := [.data, .data, .data], laidTests := true, laidLooks := .later }
def PrefixNestsCardSaid : Prop := Claim7.holds Tryd.pinned (.plain (OpenSpec.ofChange prefixNestsSpec)) prefixNestsCard

/-- THE TIED CARD OF 'consulatelaw02.PrefixTexts'. -/
def prefixTextsCard : Claim7 := { stood := { row := prefixTextsRow, standIns := [], harness := (true, "6807aa5bf318358dc6a3b1dc27ea3f3843fe1bde3e4844d622bf39fcfc483c54"), looks := false }, kinds := [], alts := [], laidByText := true, laidKinds := [.data, .data, .data], laidTests := true, laidLooks := .later }
def PrefixTextsCardSaid : Prop := Claim7.holds Tryd.pinned (.plain (OpenSpec.ofChange prefixTextsSpec)) prefixTextsCard

/-- THE TIED CARD OF 'consulatelaw02.PrefixKnown'. -/
def prefixKnownCard : Claim7 := { stood := { row := prefixKnownRow, standIns := [], harness := (true, "6807aa5bf318358dc6a3b1dc27ea3f3843fe1bde3e4844d622bf39fcfc483c54"), looks := false }, kinds := [], alts := [], laidByText := true, laidKinds := [.data, .data, .data], laidTests := true, laidLooks := .later }
def PrefixKnownCardSaid : Prop := Claim7.holds Tryd.pinned (.plain (OpenSpec.ofChange prefixKnownSpec)) prefixKnownCard

/-- THE SECOND FORM's CARD OF 'consulatelaw02.PrefixTells'. -/
def prefixTellsUptoCard : Claim7 := { stood := { row := prefixTellsUptoRow, standIns := [], harness := (true, "6807aa5bf318358dc6a3b1dc27ea3f3843fe1bde3e4844d622bf39fcfc483c54"), looks := false }, kinds := [], alts := [], laidByText := true, laidKinds := [.data, .data, .data], laidTests := true, laidLooks := .later }
def PrefixTellsUptoCardSaid : Prop := Claim7.holds Tryd.pinned (.plain (OpenSpec.upto prefixTellsSpec)) prefixTellsUptoCard

/-- THE SECOND FORM's CARD OF 'consulatelaw02.PrefixReads'. -/
def prefixReadsUptoCard : Claim7 := { stood := { row := prefixReadsUptoRow, standIns := [], harness := (true, "6807aa5bf318358dc6a3b1dc27ea3f3843fe1bde3e4844d622bf39fcfc483c54"), looks := false }, kinds := [], alts := [], laidByText := true, laidKinds := [.data, .data, .data], laidTests := true, laidLooks := .later }
def PrefixReadsUptoCardSaid : Prop := Claim7.holds Tryd.pinned (.plain (OpenSpec.upto prefixReadsSpec)) prefixReadsUptoCard

/-- THE SECOND FORM's CARD OF 'consulatelaw02.PrefixLists'. -/
def prefixListsUptoCard : Claim7 := { stood := { row := prefixListsUptoRow, standIns := [], harness := (true, "6807aa5bf318358dc6a3b1dc27ea3f3843fe1bde3e4844d622bf39fcfc483c54"), looks := false }, kinds := [], alts := [], laidByText := true, laidKinds := [.data, .data, .data], laidTests := true, laidLooks := .later }
def PrefixListsUptoCardSaid : Prop := Claim7.holds Tryd.pinned (.plain (OpenSpec.upto prefixListsSpec)) prefixListsUptoCard

/-- THE SECOND FORM's CARD OF 'consulatelaw02.PrefixBack'. -/
def prefixBackUptoCard : Claim7 := { stood := { row := prefixBackUptoRow, standIns := [], harness := (true, "6807aa5bf318358dc6a3b1dc27ea3f3843fe1bde3e4844d622bf39fcfc483c54"), looks := false }, kinds := [], alts := [], laidByText := true, laidKinds := [.data, .data, .data], laidTests := true, laidLooks := .later }
def PrefixBackUptoCardSaid : Prop := Claim7.holds Tryd.pinned (.plain (OpenSpec.upto prefixBackSpec)) prefixBackUptoCard

/-- THE SECOND FORM's CARD OF 'consulatelaw02.PrefixNests'. -/
def prefixNestsUptoCard : Claim7 := { stood := { row := prefixNestsUptoRow, standIns := [], harness := (true, "6807aa5bf318358dc6a3b1dc27ea3f3843fe1bde3e4844d622bf39fcfc483c54"), looks := false }, kinds := [], alts := [], laidByText := true, laidKinds := [.data, .data, .data], laidTests := true, laidLooks := .later }
def PrefixNestsUptoCardSaid : Prop := Claim7.holds Tryd.pinned (.plain (OpenSpec.upto prefixNestsSpec)) prefixNestsUptoCard

/-- THE SECOND FORM's CARD OF 'consulatelaw02.PrefixTexts'. -/
def prefixTextsUptoCard : Claim7 := { stood := { row := prefixTextsUptoRow, standIns := [], harness := (true, "6807aa5bf318358dc6a3b1dc27ea3f3843fe1bde3e4844d622bf39fcfc483c54"), looks := false }, kinds := [], alts := [], laidByText := true, laidKinds := [.data, .data, .data], laidTests := true, laidLooks := .later }
def PrefixTextsUptoCardSaid : Prop := Claim7.holds Tryd.pinned (.plain (OpenSpec.upto prefixTextsSpec)) prefixTextsUptoCard

/-- THE SECOND FORM's CARD OF 'consulatelaw02.PrefixKnown'. -/
def prefixKnownUptoCard : Claim7 := { stood := { row := prefixKnownUptoRow, standIns := [], harness := (true, "6807aa5bf318358dc6a3b1dc27ea3f3843fe1bde3e4844d622bf39fcfc483c54"), looks := false }, kinds := [], alts := [], laidByText := true, laidKinds := [.data, .data, .data], laidTests := true, laidLooks := .later }
def PrefixKnownUptoCardSaid : Prop := Claim7.holds Tryd.pinned (.plain (OpenSpec.upto prefixKnownSpec)) prefixKnownUptoCard
end Rows
end Go.Proofs.YtfjhpeijlhlaeaaDoor
