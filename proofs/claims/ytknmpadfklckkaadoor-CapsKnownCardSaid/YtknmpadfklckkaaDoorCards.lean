/-
  DERIVED. GIVEN WITH THE SEED: THE CARDS: each row of YtknmpadfklckkaaDoorRows.lean that lists a variable, with what it lists TIED to the program's text (the seventh form; the later family's looks); each row that meets fmt, with fmt's text TOLD by the authors' own Lean function (tested against real Go, not proved from fmt's source: count such statements apart). THE CARD IS WHAT COUNTS. Prove the row's statement (the work); the ties are given (YtknmpadfklckkaaDoorTie.lean); close each card by the builder's one call (the guide's Derived/Test/ToyasCard.lean, 'card_holds'). Laid BY PROGRAM, IN A SANDBOX (cutbox-door.mjs). By AI agents, Wed Nov 11 2026. No macro, syntax, notation, axiom, sorry.
-/
import Derived.Test.YtknmpadfklckkaaDoorRows
import GoSem.ClaimSeven
namespace Go.Proofs.YtknmpadfklckkaaDoor
namespace Rows

/-- THE TIED CARD OF 'consulatelaw05.CapsTells'. -/
def capsTellsCard : Claim7 := { stood := { row := capsTellsRow, standIns := [], harness := (true, "fab362de2c3e8b5f6a490587944f592c2dad071cbab6b1bce25bf178b7dfdc81"), looks := false }, kinds := [], alts := [], laidByText := true, laidKinds := [.data], laidTests := true, laidLooks := .later }
def CapsTellsCardSaid : Prop := Claim7.holds Tryd.pinned (.plain (OpenSpec.ofChange capsTellsSpec)) capsTellsCard

/-- THE TIED CARD OF 'consulatelaw05.CapsOurs'. -/
def capsOursCard : Claim7 := { stood := { row := capsOursRow, standIns := [], harness := (true, "fab362de2c3e8b5f6a490587944f592c2dad071cbab6b1bce25bf178b7dfdc81"), looks := false }, kinds := [], alts := [], laidByText := true, laidKinds := [.data], laidTests := true, laidLooks := .later }
def CapsOursCardSaid : Prop := Claim7.holds Tryd.pinned (.plain (OpenSpec.ofChange capsOursSpec)) capsOursCard

/-- THE TIED CARD OF 'consulatelaw05.CapsKnown'. -/
def capsKnownCard : Claim7 := { stood := { row := capsKnownRow, standIns := [], harness := (true, "fab362de2c3e8b5f6a490587944f592c2dad071cbab6b1bce25bf178b7dfdc81"), looks := false }, kinds := [], alts := [], laidByText := true, laidKinds := [.data], laidTests := true, laidLooks := .later }
def CapsKnownCardSaid : Prop := Claim7.holds Tryd.pinned (.plain (OpenSpec.ofChange capsKnownSpec)) capsKnownCard

/-- THE SECOND FORM's CARD OF 'consulatelaw05.CapsTells'. -/
def capsTellsUptoCard : Claim7 := { stood := { row := capsTellsUptoRow, standIns := [], harness := (true, "fab362de2c3e8b5f6a490587944f592c2dad071cbab6b1bce25bf178b7dfdc81"), looks := false }, kinds := [], alts := [], laidByText := true, laidKinds := [.data], laidTests := true, laidLooks := .later }
def CapsTellsUptoCardSaid : Prop := Claim7.holds Tryd.pinned (.plain (OpenSpec.upto capsTellsSpec)) capsTellsUptoCard

/-- THE SECOND FORM's CARD OF 'consulatelaw05.CapsOurs'. -/
def capsOursUptoCard : Claim7 := { stood := { row := capsOursUptoRow, standIns := [], harness := (true, "fab362de2c3e8b5f6a490587944f592c2dad071cbab6b1bce25bf178b7dfdc81"), looks := false }, kinds := [], alts := [], laidByText := true, laidKinds := [.data], laidTests := true, laidLooks := .later }
def CapsOursUptoCardSaid : Prop := Claim7.holds Tryd.pinned (.plain (OpenSpec.upto capsOursSpec)) capsOursUptoCard

/-- THE SECOND FORM's CARD OF 'consulatelaw05.CapsKnown'. -/
def capsKnownUptoCard : Claim7 := { stood := { row := capsKnownUptoRow, standIns := [], harness := (true, "fab362de2c3e8b5f6a490587944f592c2dad071cbab6b1bce25bf178b7dfdc81"), looks := false }, kinds := [], alts := [], laidByText := true, laidKinds := [.data], laidTests := true, laidLooks := .later }
def CapsKnownUptoCardSaid : Prop := Claim7.holds Tryd.pinned (.plain (OpenSpec.upto capsKnownSpec)) capsKnownUptoCard
end Rows
end Go.Proofs.YtknmpadfklckkaaDoor
