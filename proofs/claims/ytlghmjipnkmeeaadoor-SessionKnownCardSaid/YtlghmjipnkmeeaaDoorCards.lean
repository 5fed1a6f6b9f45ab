/-
  DERIVED. GIVEN WITH THE SEED: THE CARDS: each row of YtlghmjipnkmeeaaDoorRows.lean that lists a variable, with what it lists TIED to the program's text (the seventh form; the later family's looks); each row that meets fmt, with fmt's text TOLD by the authors' own Lean function (tested against real Go, not proved from fmt's source: count such statements apart). THE CARD IS WHAT COUNTS. Prove the row's statement (the work); the ties are given (YtlghmjipnkmeeaaDoorTie.lean); close each card by the builder's one call (the guide's Derived/Test/ToyasCard.lean, 'card_holds'). Laid BY PROGRAM, IN A SANDBOX (cutbox-door.mjs). By AI agents, Wed Nov 11 2026. No macro, syntax, notation, axiom, sorry.
-/
import Derived.Test.YtlghmjipnkmeeaaDoorRows
import GoSem.ClaimSeven
namespace Go.Proofs.YtlghmjipnkmeeaaDoor
namespace Rows

/-- THE TIED CARD OF 'consulatelaw14.SessionRuns'. -/
def sessionRunsCard : Claim7 := { stood := { row := sessionRunsRow, standIns := [], harness := (true, "3944908beea2627e514aa3c3eb5af8afae35c83cee314d4ce84658b2743d072c"), looks := false }, kinds := [], alts := [], laidByText := true, laidKinds := [.data, .data, .data, .data], laidTests := true, laidLooks := .later }
def SessionRunsCardSaid : Prop := Claim7.holds Tryd.pinned (.plain (OpenSpec.ofChange sessionRunsSpec)) sessionRunsCard

/-- THE TIED CARD OF 'consulatelaw14.SessionUp'. -/
def sessionUpCard : Claim7 := { stood := { row := sessionUpRow, standIns := [], harness := (true, "3944908beea2627e514aa3c3eb5af8afae35c83cee314d4ce84658b2743d072c"), looks := false }, kinds := [], alts := [], laidByText := true, laidKinds := [.data, .data, .data, .data], laidTests := true, laidLooks := .later }
def SessionUpCardSaid : Prop := Claim7.holds Tryd.pinned (.plain (OpenSpec.ofChange sessionUpSpec)) sessionUpCard

/-- THE TIED CARD OF 'consulatelaw14.SessionTimers'. -/
def sessionTimersCard : Claim7 := { stood := { row := sessionTimersRow, standIns := [], harness := (true, "3944908beea2627e514aa3c3eb5af8afae35c83cee314d4ce84658b2743d072c"), looks := false }, kinds := [], alts := [], laidByText := true, laidKinds := [.data, .data, .data, .data], laidTests := true, laidLooks := .later }
def SessionTimersCardSaid : Prop := Claim7.holds Tryd.pinned (.plain (OpenSpec.ofChange sessionTimersSpec)) sessionTimersCard

/-- THE TIED CARD OF 'consulatelaw14.SessionEnds'. -/
def sessionEndsCard : Claim7 := { stood := { row := sessionEndsRow, standIns := [], harness := (true, "3944908beea2627e514aa3c3eb5af8afae35c83cee314d4ce84658b2743d072c"), looks := false }, kinds := [], alts := [], laidByText := true, laidKinds := [.data, .data, .data, .data], laidTests := true, laidLooks := .later }
def SessionEndsCardSaid : Prop := Claim7.holds Tryd.pinned (.plain (OpenSpec.ofChange sessionEndsSpec)) sessionEndsCard

/-- THE TIED CARD OF 'consulatelaw14.SessionKnown'. -/
def sessionKnownCard : Claim7 := { stood := { row := sessionKnownRow, standIns := [], harness := (true, "3944908beea2627e514aa3c3eb5af8afae35c83cee314d4ce84658b2743d072c"), looks := false }, kinds := [], alts := [], laidByText := true, laidKinds := [.data, .data, .data, .data], laidTests := true, laidLooks := .later }
def SessionKnownCardSaid : Prop := Claim7.holds Tryd.pinned (.plain (OpenSpec.ofChange sessionKnownSpec)) sessionKnownCard

/-- THE SECOND FORM's CARD OF 'consulatelaw14.SessionRuns'. -/
def sessionRunsUptoCard : Claim7 := { stood := { row := sessionRunsUptoRow, standIns := [], harness := (true, "3944908beea2627e514aa3c3eb5af8afae35c83cee314d4ce84658b2743d072c"), looks := false }, kinds := [], alts := [], laidByText := true, laidKinds := [.data, .data, .data, .data], laidTests := true, laidLooks := .later }
def SessionRunsUptoCardSaid : Prop := Claim7.holds Tryd.pinned (.plain (OpenSpec.upto sessionRunsSpec)) sessionRunsUptoCard

/-- THE SECOND FORM's CARD OF 'consulatelaw14.SessionUp'. -/
def sessionUpUptoCard : Claim7 := { stood := { row := sessionUpUptoRow, standIns := [], harness := (true, "3944908beea2627e514aa3c3eb5af8afae35c83cee314d4ce84658b2743d072c"), looks := false }, kinds := [], alts := [], laidByText := true, laidKinds := [.data, .data, .data, .data], laidTests := true, laidLooks := .later }
def SessionUpUptoCardSaid : Prop := Claim7.holds Tryd.pinned (.plain (OpenSpec.upto sessionUpSpec)) sessionUpUptoCard

/-- THE SECOND FORM's CARD OF 'consulatelaw14.SessionTimers'. -/
def sessionTimersUptoCard : Claim7 := { stood := { row := sessionTimersUptoRow, standIns := [], harness := (true, "3944908beea2627e514aa3c3eb5af8afae35c83cee314d4ce84658b2743d072c"), looks := false }, kinds := [], alts := [], laidByText := true, laidKinds := [.data, .data, .data, .data], laidTests := true, laidLooks := .later }
def SessionTimersUptoCardSaid : Prop := Claim7.holds Tryd.pinned (.plain (OpenSpec.upto sessionTimersSpec)) sessionTimersUptoCard

/-- THE SECOND FORM's CARD OF 'consulatelaw14.SessionEnds'. -/
def sessionEndsUptoCard : Claim7 := { stood := { row := sessionEndsUptoRow, standIns := [], harness := (true, "3944908beea2627e514aa3c3eb5af8afae35c83cee314d4ce84658b2743d072c"), looks := false }, kinds := [], alts := [], laidByText := true, laidKinds := [.data, .data, .data, .data], laidTests := true, laidLooks := .later }
def SessionEndsUptoCardSaid : Prop := Claim7.holds Tryd.pinned (.plain (OpenSpec.upto sessionEndsSpec)) sessionEndsUptoCard

/-- THE SECOND FORM's CARD OF 'consulatelaw14.SessionKnown'. -/
def sessionKnownUptoCard : Claim7 := { stood := { row := sessionKnownUptoRow, standIns := [], harness := (true, "3944908beea2627e514aa3c3eb5af8afae35c83cee314d4ce84658b2743d072c"), looks := false }, kinds := [], alts := [], laidByText := true, laidKinds := [.data, .data, .data, .data], laidTests := true, laidLooks := .later }
def SessionKnownUptoCardSaid : Prop := Claim7.holds Tryd.pinned (.plain (OpenSpec.upto sessionKnownSpec)) sessionKnownUptoCard
end Rows
end Go.Proofs.YtlghmjipnkmeeaaDoor
