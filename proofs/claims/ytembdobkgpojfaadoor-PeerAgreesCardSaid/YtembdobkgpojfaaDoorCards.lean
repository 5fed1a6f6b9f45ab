/-
  DERIVED. GIVEN WITH THE SEED: THE CARDS: each row of YtembdobkgpojfaaDoorRows.lean that lists a variable, with what it lists TIED to the program's text (the seventh form; the later family's looks); each row that meets fmt, with fmt's text TOLD by the authors' own Lean function (tested against real Go, not proved from fmt's source: count such statements apart). THE CARD IS WHAT COUNTS. Prove the row's statement (the work); the ties are given (YtembdobkgpojfaaDoorTie.lean); close each card by the builder's one call (the guide's Derived/Test/ToyasCard.lean, 'card_holds'). Laid BY PROGRAM, IN A SANDBOX (cutbox-door.mjs). By AI agents, Wed Nov 11 2026. No macro, syntax, notation, axiom, sorry.
-/
import Derived.Test.YtembdobkgpojfaaDoorRows
import GoSem.ClaimSeven
namespace Go.Proofs.YtembdobkgpojfaaDoor
namespace Rows

/-- THE TIED CARD OF 'consulatelaw14.SessionRuns'. -/
def sessionRunsCard : Claim7 := { stood := { row := sessionRunsRow, standIns := [], harness := (true, "6bcddc1ea9fa8fa62696e0164b9f5853799e43b8d486fa7580c300ab97c911fa"), looks := false }, kinds := [], alts := [], laidByText := true, laidKinds := [.data, .data, .data, .data], laidTests := true, laidLooks := .later }
def SessionRunsCardSaid : Prop := Claim7.holds Tryd.pinned (.plain (OpenSpec.ofChange sessionRunsSpec)) sessionRunsCard

/-- THE TIED CARD OF 'consulatelaw15.PeerTells'. -/
def peerTellsCard : Claim7 := { stood := { row := peerTellsRow, standIns := [], harness := (true, "6bcddc1ea9fa8fa62696e0164b9f5853799e43b8d486fa7580c300ab97c911fa"), looks := false }, kinds := [], alts := [], laidByText := true, laidKinds := [.data, .data, .data], laidTests := true, laidLooks := .later }
def PeerTellsCardSaid : Prop := Claim7.holds Tryd.pinned (.plain (OpenSpec.ofChange peerTellsSpec)) peerTellsCard

/-- THE TIED CARD OF 'consulatelaw15.PeerAgrees'. -/
def peerAgreesCard : Claim7 := { stood := { row := peerAgreesRow, standIns := [], harness := (true, "6bcddc1ea9fa8fa62696e0164b9f5853799e43b8d486fa7580c300ab97c911fa"), looks := false }, kinds := [], alts := [], laidByText := true, laidKinds := [.data], laidTests := true, laidLooks := .later }
def PeerAgreesCardSaid : Prop := Claim7.holds Tryd.pinned (.plain (OpenSpec.ofChange peerAgreesSpec)) peerAgreesCard

/-- THE TIED CARD OF 'consulatelaw15.PeerClass'. -/
def peerClassCard : Claim7 := { stood := { row := peerClassRow, standIns := [], harness := (true, "6bcddc1ea9fa8fa62696e0164b9f5853799e43b8d486fa7580c300ab97c911fa"), looks := false }, kinds := [], alts := [], laidByText := true, laidKinds := [.data], laidTests := true, laidLooks := .later }
def PeerClassCardSaid : Prop := Claim7.holds Tryd.pinned (.plain (OpenSpec.ofChange peerClassSpec)) peerClassCard

/-- THE TIED CARD OF 'consulatelaw15.PeerSides'. -/
def peerSidesCard : Claim7 := { stood := { row := peerSidesRow, standIns := [], harness := (true, "6bcddc1ea9fa8fa62696e0164b9f5853799e43b8d486fa7580c300ab97c911fa"), looks := false }, kinds := [], alts := [], laidByText := true, laidKinds := [.data, .data], laidTests := true, laidLooks := .later }
def PeerSidesCardSaid : Prop := Claim7.holds Tryd.pinned (.plain (OpenSpec.ofChange peerSidesSpec)) peerSidesCard

/-- THE TIED CARD OF 'consulatelaw15.PeerKnown'. -/
def peerKnownCard : Claim7 := { stood := { row := peerKnownRow, standIns := [], harness := (true, "6bcddc1ea9fa8fa62696e0164b9f5853799e43b8d486fa7580c300ab97c911fa"), looks := false }, kinds := [], alts := [], laidByText := true, laidKinds := [.data, .data, .data], laidTests := true, laidLooks := .later }
def PeerKnownCardSaid : Prop := Claim7.holds Tryd.pinned (.plain (OpenSpec.ofChange peerKnownSpec)) peerKnownCard

/-- THE SECOND FORM's CARD OF 'consulatelaw14.SessionRuns'. -/
def sessionRunsUptoCard : Claim7 := { stood := { row := sessionRunsUptoRow, standIns := [], harness := (true, "6bcddc1ea9fa8fa62696e0164b9f5853799e43b8d486fa7580c300ab97c911fa"), looks := false }, kinds := [], alts := [], laidByText := true, laidKinds := [.data, .data, .data, .data], laidTests := true, laidLooks := .later }
def SessionRunsUptoCardSaid : Prop := Claim7.holds Tryd.pinned (.plain (OpenSpec.upto sessionRunsSpec)) sessionRunsUptoCard

/-- THE SECOND FORM's CARD OF 'consulatelaw15.PeerTells'. -/
def peerTellsUptoCard : Claim7 := { stood := { row := peerTellsUptoRow, standIns := [], harness := (true, "6bcddc1ea9fa8fa62696e0164b9f5853799e43b8d486fa7580c300ab97c911fa"), looks := false }, kinds := [], alts := [], laidByText := true, laidKinds := [.data, .data, .data], laidTests := true, laidLooks := .later }
def PeerTellsUptoCardSaid : Prop := Claim7.holds Tryd.pinned (.plain (OpenSpec.upto peerTellsSpec)) peerTellsUptoCard

/-- THE SECOND FORM's CARD OF 'consulatelaw15.PeerAgrees'. -/
def peerAgreesUptoCard : Claim7 := { stood := { row := peerAgreesUptoRow, standIns := [], harness := (true, "6bcddc1ea9fa8fa62696e0164b9f5853799e43b8d486fa7580c300ab97c911fa"), looks := false }, kinds := [], alts := [], laidByText := true, laidKinds := [.data], laidTests := true, laidLooks := .later }
def PeerAgreesUptoCardSaid : Prop := Claim7.holds Tryd.pinned (.plain (OpenSpec.upto peerAgreesSpec)) peerAgreesUptoCard

/-- THE SECOND FORM's CARD OF 'consulatelaw15.PeerClass'. -/
def peerClassUptoCard : Claim7 := { stood := { row := peerClassUptoRow, standIns := [], harness := (true, "6bcddc1ea9fa8fa62696e0164b9f5853799e43b8d486fa7580c300ab97c911fa"), looks := false }, kinds := [], alts := [], laidByText := true, laidKinds := [.data], laidTests := true, laidLooks := .later }
def PeerClassUptoCardSaid : Prop := Claim7.holds Tryd.pinned (.plain (OpenSpec.upto peerClassSpec)) peerClassUptoCard

/-- THE SECOND FORM's CARD OF 'consulatelaw15.PeerSides'. -/
def peerSidesUptoCard : Claim7 := { stood := { row := peerSidesUptoRow, standIns := [], harness := (true, "6bcddc1ea9fa8fa62696e0164b9f5853799e43b8d486fa7580c300ab97c911fa"), looks := false }, kinds := [], alts := [], laidByText := true, laidKinds := [.data, .data], laidTests := true, laidLooks := .later }
def PeerSidesUptoCardSaid : Prop := Claim7.holds Tryd.pinned (.plain (OpenSpec.upto peerSidesSpec)) peerSidesUptoCard

/-- THE SECOND FORM's CARD OF 'consulatelaw15.PeerKnown'. -/
def peerKnownUptoCard : Claim7 := { stood := { row := peerKnownUptoRow, standIns := [], harness := (true, "6bcddc1ea9fa8fa62696e0164b9f5853799e43b8d486fa7580c300ab97c911fa"), looks := false }, kinds := [], alts := [], laidByText := true, laidKinds := [.data, .data, .data], laidTests := true, laidLooks := .later }
def PeerKnownUptoCardSaid : Prop := Claim7.holds Tryd.pinned (.plain (OpenSpec.upto peerKnownSpec)) peerKnownUptoCard
end Rows
end Go.Proofs.YtembdobkgpojfaaDoor
