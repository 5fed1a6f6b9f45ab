/-
  DERIVED. GIVEN WITH THE SEED: THE PROGRAM's TIES (one call each: nine closed facts by the kernel) AND EACH ROW's TIE, after the 31st guide's Derived/Test/Toyas{Tie, Card}.lean. No idea stands in it: it is a product of the set-up. Laid BY PROGRAM, IN A SANDBOX (cutbox-door.mjs). By AI agents, Wed Nov 11 2026. No macro, syntax, notation, axiom, sorry.
-/
import Derived.Test.YtembdobkgpojfaaDoorRows
import Derived.LaidByTextLater
import Derived.SevenTiedAt
import Derived.LaidSub
import Derived.LaidOnce
namespace Go.Proofs.YtembdobkgpojfaaDoor
open Go
set_option maxRecDepth 100000
theorem seatTie1 : Tryd.prog.laidByTextLater [("consulate/caps.ipv4", Rows.laid_consulate_caps_ipv4), ("consulate/session.badType", Rows.laid_consulate_session_badType), ("consulate/session.badHold", Rows.laid_consulate_session_badHold), ("consulate/session.expired", Rows.laid_consulate_session_expired), ("consulate/session.shutdown", Rows.laid_consulate_session_shutdown), ("consulate/number.spans", Rows.laid_consulate_number_spans), ("consulate/peer.names", Rows.laid_consulate_peer_names)] [.data, .data, .data, .data, .data, .data, .data] true :=
  Program.laidByTextLater_by_one 52 8 25 (by kernel_rfl) (by kernel_rfl) (by kernel_rfl) (by kernel_rfl) (by kernel_rfl) (by kernel_rfl) (fun _ _ => by kernel_rfl)
theorem noOwnUnsafe : Tryd.pinned.checked.prog.headLifts.contains "ownunsafe" = false := by kernel_rfl
theorem tie : Tryd.prog.laidByTextLater [("consulate/session.badType", Rows.laid_consulate_session_badType), ("consulate/session.badHold", Rows.laid_consulate_session_badHold), ("consulate/session.expired", Rows.laid_consulate_session_expired), ("consulate/session.shutdown", Rows.laid_consulate_session_shutdown)] [.data, .data, .data, .data] true :=
  Program.laidByTextLater.sub seatTie1 ["consulate/session.badType", "consulate/session.badHold", "consulate/session.expired", "consulate/session.shutdown"] (by kernel_rfl) (by kernel_rfl)
theorem sessionRuns_row_tie : Rows.sessionRunsRow.laidByTextAt .later Tryd.pinned [.data, .data, .data, .data] true :=
  OpenClaim.laidByTextAt_later rfl rfl tie noOwnUnsafe
theorem tie2 : Tryd.prog.laidByTextLater [("consulate/caps.ipv4", Rows.laid_consulate_caps_ipv4), ("consulate/number.spans", Rows.laid_consulate_number_spans), ("consulate/peer.names", Rows.laid_consulate_peer_names)] [.data, .data, .data] true :=
  Program.laidByTextLater.sub seatTie1 ["consulate/caps.ipv4", "consulate/number.spans", "consulate/peer.names"] (by kernel_rfl) (by kernel_rfl)
theorem peerTells_row_tie : Rows.peerTellsRow.laidByTextAt .later Tryd.pinned [.data, .data, .data] true :=
  OpenClaim.laidByTextAt_later rfl rfl tie2 noOwnUnsafe
theorem peerKnown_row_tie : Rows.peerKnownRow.laidByTextAt .later Tryd.pinned [.data, .data, .data] true :=
  OpenClaim.laidByTextAt_later rfl rfl tie2 noOwnUnsafe
theorem tie3 : Tryd.prog.laidByTextLater [("consulate/number.spans", Rows.laid_consulate_number_spans)] [.data] true :=
  Program.laidByTextLater.sub seatTie1 ["consulate/number.spans"] (by kernel_rfl) (by kernel_rfl)
theorem peerAgrees_row_tie : Rows.peerAgreesRow.laidByTextAt .later Tryd.pinned [.data] true :=
  OpenClaim.laidByTextAt_later rfl rfl tie3 noOwnUnsafe
theorem peerClass_row_tie : Rows.peerClassRow.laidByTextAt .later Tryd.pinned [.data] true :=
  OpenClaim.laidByTextAt_later rfl rfl tie3 noOwnUnsafe
theorem tie4 : Tryd.prog.laidByTextLater [("consulate/caps.ipv4", Rows.laid_consulate_caps_ipv4), ("consulate/number.spans", Rows.laid_consulate_number_spans)] [.data, .data] true :=
  Program.laidByTextLater.sub seatTie1 ["consulate/caps.ipv4", "consulate/number.spans"] (by kernel_rfl) (by kernel_rfl)
theorem peerSides_row_tie : Rows.peerSidesRow.laidByTextAt .later Tryd.pinned [.data, .data] true :=
  OpenClaim.laidByTextAt_later rfl rfl tie4 noOwnUnsafe
theorem sessionRunsUpto_row_tie : Rows.sessionRunsUptoRow.laidByTextAt .later Tryd.pinned [.data, .data, .data, .data] true :=
  OpenClaim.laidByTextAt_later rfl rfl tie noOwnUnsafe
theorem peerTellsUpto_row_tie : Rows.peerTellsUptoRow.laidByTextAt .later Tryd.pinned [.data, .data, .data] true :=
  OpenClaim.laidByTextAt_later rfl rfl tie2 noOwnUnsafe
theorem peerAgreesUpto_row_tie : Rows.peerAgreesUptoRow.laidByTextAt .later Tryd.pinned [.data] true :=
  OpenClaim.laidByTextAt_later rfl rfl tie3 noOwnUnsafe
theorem peerClassUpto_row_tie : Rows.peerClassUptoRow.laidByTextAt .later Tryd.pinned [.data] true :=
  OpenClaim.laidByTextAt_later rfl rfl tie3 noOwnUnsafe
theorem peerSidesUpto_row_tie : Rows.peerSidesUptoRow.laidByTextAt .later Tryd.pinned [.data, .data] true :=
  OpenClaim.laidByTextAt_later rfl rfl tie4 noOwnUnsafe
theorem peerKnownUpto_row_tie : Rows.peerKnownUptoRow.laidByTextAt .later Tryd.pinned [.data, .data, .data] true :=
  OpenClaim.laidByTextAt_later rfl rfl tie2 noOwnUnsafe
end Go.Proofs.YtembdobkgpojfaaDoor
