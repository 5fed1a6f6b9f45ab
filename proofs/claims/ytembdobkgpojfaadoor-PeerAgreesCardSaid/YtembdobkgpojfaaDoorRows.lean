/-
  NARROWER THAN 'FOR EVERY INPUT', by the rows' own cells (each row's printed sentence says how): SessionRuns: laid · PeerTells: laid · PeerAgrees: laid · PeerClass: laid · PeerSides: laid · PeerKnown: laid.
  DERIVED. THE GIVEN ROWS OF THIS SEAT. 6 by the template 'for every input the law returns true; each argument reads behind the call as it read before'; 0 by the template 'total and deterministic' (their statements: YtembdobkgpojfaaDoorTotals.lean).
  GIVEN WITH THE SEED: the statements are not yours to turn. If you find one false, say at which input.
  Laid BY PROGRAM, IN A SANDBOX (cutbox-rows.mjs): the forced cells as the released guide's own fill.sh prints them over the translation 956a31496cded1de… (all of the seat's roots in one cut). By AI agents, Wed Nov 11 2026. No macro, syntax, notation, axiom, sorry.
-/
import Derived.Test.YtembdobkgpojfaaDoorChecked
import GoSem.Claim
import GoSem.ClaimJoined
import GoSem.ClaimMapViews
import Derived.JoinedTies
import Derived.KernelRfl
namespace Go.Proofs.YtembdobkgpojfaaDoor
/- THE CELL 'sum', in the pinned program and in every row, IS THE sha256 OF THE DUMP (.gsa) THAT YtembdobkgpojfaaDoorProg.lean LOADS. Nothing in Lean hashes anything: it is a label: what it is worth is what the hold of that sum in a sandbox is worth. -/
noncomputable def Tryd.pinned : Pinned := { name := "ytembdobkgpojfaadoor", sum := "956a31496cded1de812e113355f714718904bffa0b2539ddb28b70746347e5ac", checked := Tryd.checked }
namespace Rows
def none {H : Type} : Left H := { results := [], args := [] }

/- WHAT THE LISTED PACKAGE-LEVEL VARIABLES READ AS WHEN THE CALL BEGINS. Each datum BY PROGRAM (the guide's laid-datum.mjs) off the statement by which the dump's own 'gosem.cut.vars' lays the variable. In a bare row this is a premise. The card (YtembdobkgpojfaaDoorCards.lean) ties it to the program's text. -/
def laid_consulate_session_badType {H : Type} : DataW H := .agg [.lit (.int .u8 1), .lit (.int .u8 3)]
def laid_consulate_session_badHold {H : Type} : DataW H := .agg [.lit (.int .u8 2), .lit (.int .u8 6)]
def laid_consulate_session_expired {H : Type} : DataW H := .agg [.lit (.int .u8 4), .lit (.int .u8 0)]
def laid_consulate_session_shutdown {H : Type} : DataW H := .agg [.lit (.int .u8 6), .lit (.int .u8 2)]
def laid_consulate_caps_ipv4 {H : Type} : DataW H := .agg [.lit (.int .u8 0), .lit (.int .u8 1), .lit (.int .u8 0), .lit (.int .u8 1)]
def laid_consulate_number_spans {H : Type} : DataW H := .agg [.agg [.lit (.int .u32 0), .lit (.int .u32 0), .lit (.int .i64 1)], .agg [.lit (.int .u32 23456), .lit (.int .u32 23456), .lit (.int .i64 2)], .agg [.lit (.int .u32 64496), .lit (.int .u32 64511), .lit (.int .i64 4)], .agg [.lit (.int .u32 64512), .lit (.int .u32 65534), .lit (.int .i64 3)], .agg [.lit (.int .u32 65535), .lit (.int .u32 65535), .lit (.int .i64 4)], .agg [.lit (.int .u32 65536), .lit (.int .u32 65551), .lit (.int .i64 4)], .agg [.lit (.int .u32 4200000000), .lit (.int .u32 4294967294), .lit (.int .i64 3)], .agg [.lit (.int .u32 4294967295), .lit (.int .u32 4294967295), .lit (.int .i64 4)]]
def laid_consulate_peer_names {H : Type} : DataW H := .agg [.lit (.string [110, 111, 110, 101]), .lit (.string [105, 110, 115, 105, 100, 101]), .lit (.string [99, 111, 110, 102, 101, 100]), .lit (.string [111, 117, 116, 115, 105, 100, 101])]

/-- 'consulatelaw14.SessionRuns': WHATEVER THE INPUT: true; the input reads as it did. -/
def sessionRunsSpec : ChangeSpec := { name := "sessionRuns", fn := fun _ => fun
  | [d] => { results := [.lit (.bool true)], args := [d] }
  | _ => none }
def sessionRunsRow : OpenClaim := { program := "ytembdobkgpojfaadoor", sum := "956a31496cded1de812e113355f714718904bffa0b2539ddb28b70746347e5ac", func := "consulate/consulatelaw14.SessionRuns", spec := "sessionRuns", unfollowed := true, recurses := true, named := ["consulate/session.shutdown", "consulate/session.expired", "consulate/session.badType", "consulate/session.badHold"], apart := false, laid := [("consulate/session.badType", laid_consulate_session_badType), ("consulate/session.badHold", laid_consulate_session_badHold), ("consulate/session.expired", laid_consulate_session_expired), ("consulate/session.shutdown", laid_consulate_session_shutdown)] }
def SessionRunsSaid : Prop := sessionRunsRow.holds Tryd.pinned (OpenSpec.ofChange sessionRunsSpec)

/-- ITS FALSE NEIGHBOUR: 'it returns false'. Refute it at one input. -/
def sessionRunsWrong : ChangeSpec := { name := "sessionRuns", fn := fun _ => fun
  | [d] => { results := [.lit (.bool false)], args := [d] }
  | _ => none }
def SessionRunsWrongFalsely : Prop := sessionRunsRow.holds Tryd.pinned (OpenSpec.ofChange sessionRunsWrong)

/-- 'consulatelaw15.PeerTells': WHATEVER THE INPUT: true; the input reads as it did. -/
def peerTellsSpec : ChangeSpec := { name := "peerTells", fn := fun _ => fun
  | [d1, d2, d3] => { results := [.lit (.bool true)], args := [d1, d2, d3] }
  | _ => none }
def peerTellsRow : OpenClaim := { program := "ytembdobkgpojfaadoor", sum := "956a31496cded1de812e113355f714718904bffa0b2539ddb28b70746347e5ac", func := "consulate/consulatelaw15.PeerTells", spec := "peerTells", unfollowed := true, recurses := true, named := ["consulate/caps.ipv4", "consulate/number.spans", "consulate/peer.names"], apart := false, laid := [("consulate/caps.ipv4", laid_consulate_caps_ipv4), ("consulate/number.spans", laid_consulate_number_spans), ("consulate/peer.names", laid_consulate_peer_names)] }
def PeerTellsSaid : Prop := peerTellsRow.holds Tryd.pinned (OpenSpec.ofChange peerTellsSpec)

/-- ITS FALSE NEIGHBOUR: 'it returns false'. Refute it at one input. -/
def peerTellsWrong : ChangeSpec := { name := "peerTells", fn := fun _ => fun
  | [d1, d2, d3] => { results := [.lit (.bool false)], args := [d1, d2, d3] }
  | _ => none }
def PeerTellsWrongFalsely : Prop := peerTellsRow.holds Tryd.pinned (OpenSpec.ofChange peerTellsWrong)

/-- 'consulatelaw15.PeerAgrees': WHATEVER THE INPUT: true; the input reads as it did. -/
def peerAgreesSpec : ChangeSpec := { name := "peerAgrees", fn := fun _ => fun
  | [d1, d2] => { results := [.lit (.bool true)], args := [d1, d2] }
  | _ => none }
def peerAgreesRow : OpenClaim := { program := "ytembdobkgpojfaadoor", sum := "956a31496cded1de812e113355f714718904bffa0b2539ddb28b70746347e5ac", func := "consulate/consulatelaw15.PeerAgrees", spec := "peerAgrees", unfollowed := true, recurses := true, named := ["consulate/number.spans"], apart := false, laid := [("consulate/number.spans", laid_consulate_number_spans)] }
def PeerAgreesSaid : Prop := peerAgreesRow.holds Tryd.pinned (OpenSpec.ofChange peerAgreesSpec)

/-- ITS FALSE NEIGHBOUR: 'it returns false'. Refute it at one input. -/
def peerAgreesWrong : ChangeSpec := { name := "peerAgrees", fn := fun _ => fun
  | [d1, d2] => { results := [.lit (.bool false)], args := [d1, d2] }
  | _ => none }
def PeerAgreesWrongFalsely : Prop := peerAgreesRow.holds Tryd.pinned (OpenSpec.ofChange peerAgreesWrong)

/-- 'consulatelaw15.PeerClass': WHATEVER THE INPUT: true; the input reads as it did. -/
def peerClassSpec : ChangeSpec := { name := "peerClass", fn := fun _ => fun
  | [d1, d2] => { results := [.lit (.bool true)], args := [d1, d2] }
  | _ => none }
def peerClassRow : OpenClaim := { program := "ytembdobkgpojfaadoor", sum := "956a31496cded1de812e113355f714718904bffa0b2539ddb28b70746347e5ac", func := "consulate/consulatelaw15.PeerClass", spec := "peerClass", unfollowed := true, recurses := true, named := ["consulate/number.spans"], apart := false, laid := [("consulate/number.spans", laid_consulate_number_spans)] }
def PeerClassSaid : Prop := peerClassRow.holds Tryd.pinned (OpenSpec.ofChange peerClassSpec)

/-- ITS FALSE NEIGHBOUR: 'it returns false'. Refute it at one input. -/
def peerClassWrong : ChangeSpec := { name := "peerClass", fn := fun _ => fun
  | [d1, d2] => { results := [.lit (.bool false)], args := [d1, d2] }
  | _ => none }
def PeerClassWrongFalsely : Prop := peerClassRow.holds Tryd.pinned (OpenSpec.ofChange peerClassWrong)

/-- 'consulatelaw15.PeerSides': WHATEVER THE INPUT: true; the input reads as it did. -/
def peerSidesSpec : ChangeSpec := { name := "peerSides", fn := fun _ => fun
  | [d1, d2, d3] => { results := [.lit (.bool true)], args := [d1, d2, d3] }
  | _ => none }
def peerSidesRow : OpenClaim := { program := "ytembdobkgpojfaadoor", sum := "956a31496cded1de812e113355f714718904bffa0b2539ddb28b70746347e5ac", func := "consulate/consulatelaw15.PeerSides", spec := "peerSides", unfollowed := true, recurses := true, named := ["consulate/number.spans", "consulate/caps.ipv4"], apart := false, laid := [("consulate/caps.ipv4", laid_consulate_caps_ipv4), ("consulate/number.spans", laid_consulate_number_spans)] }
def PeerSidesSaid : Prop := peerSidesRow.holds Tryd.pinned (OpenSpec.ofChange peerSidesSpec)

/-- ITS FALSE NEIGHBOUR: 'it returns false'. Refute it at one input. -/
def peerSidesWrong : ChangeSpec := { name := "peerSides", fn := fun _ => fun
  | [d1, d2, d3] => { results := [.lit (.bool false)], args := [d1, d2, d3] }
  | _ => none }
def PeerSidesWrongFalsely : Prop := peerSidesRow.holds Tryd.pinned (OpenSpec.ofChange peerSidesWrong)

/-- 'consulatelaw15.PeerKnown': WHATEVER THE INPUT: true; the input reads as it did. -/
def peerKnownSpec : ChangeSpec := { name := "peerKnown", fn := fun _ => fun
  | [] => { results := [.lit (.bool true)], args := [] }
  | _ => none }
def peerKnownRow : OpenClaim := { program := "ytembdobkgpojfaadoor", sum := "956a31496cded1de812e113355f714718904bffa0b2539ddb28b70746347e5ac", func := "consulate/consulatelaw15.PeerKnown", spec := "peerKnown", unfollowed := true, recurses := true, named := ["consulate/number.spans", "consulate/caps.ipv4", "consulate/peer.names"], apart := false, laid := [("consulate/caps.ipv4", laid_consulate_caps_ipv4), ("consulate/number.spans", laid_consulate_number_spans), ("consulate/peer.names", laid_consulate_peer_names)] }
def PeerKnownSaid : Prop := peerKnownRow.holds Tryd.pinned (OpenSpec.ofChange peerKnownSpec)

/-- ITS FALSE NEIGHBOUR: 'it returns false'. Refute it at one input. -/
def peerKnownWrong : ChangeSpec := { name := "peerKnown", fn := fun _ => fun
  | [] => { results := [.lit (.bool false)], args := [] }
  | _ => none }
def PeerKnownWrongFalsely : Prop := peerKnownRow.holds Tryd.pinned (OpenSpec.ofChange peerKnownWrong)

/- THE SECOND FORM. 'bulk': how many values and letters a reading holds, each counted each time it is reached (what is shared counts as often as it is met; a slice's spare places count too). A statement '..UptoSaid' is the law's where the arguments, and the package variables that the reading takes, are together of bulk at most 1048576: NARROWER than '..Said'. Prove '..Said' where nothing that the law and all that it calls make is longer than what came in: it says more and counts as full. Else prove '..UptoSaid'. A law counts once. -/
mutual
def uptoBulk {H : Type} : DataW H → Nat
  | .lit (.string bytes) => bytes.length + 1
  | .lit _ => 1
  | .nil => 1
  | .ptr d => uptoBulk d + 1
  | .slice elems spare => uptoBulkAll elems + uptoBulkAll spare + 1
  | .agg parts => uptoBulkAll parts + 1
  | .iface _ d => uptoBulk d + 1
  | .map entries => uptoBulkEntries entries + 1
  | .held _ => 1
def uptoBulkAll {H : Type} : List (DataW H) → Nat
  | [] => 0
  | d :: r => uptoBulk d + uptoBulkAll r
def uptoBulkEntries {H : Type} : List (Lit × DataW H) → Nat
  | [] => 0
  | x :: r => uptoBulkEntry x + uptoBulkEntries r
def uptoBulkEntry {H : Type} : Lit × DataW H → Nat
  | (.string bytes, d) => bytes.length + uptoBulk d + 1
  | (_, d) => uptoBulk d + 1
 end
def uptoSmall : (H : Type) → List (DataW H) → Bool := fun _ ds => decide (uptoBulkAll ds ≤ 1048576)
def OpenSpec.upto (s : _root_.Go.ChangeSpec) : _root_.Go.OpenSpec := { _root_.Go.OpenSpec.ofChange s with cond := some uptoSmall }

/-- 'consulatelaw14.SessionRuns', WHERE WHAT IT READS IS OF BULK AT MOST 1048576: true; the input reads as it did. -/
def sessionRunsUptoRow : OpenClaim := { program := "ytembdobkgpojfaadoor", sum := "956a31496cded1de812e113355f714718904bffa0b2539ddb28b70746347e5ac", func := "consulate/consulatelaw14.SessionRuns", spec := "sessionRuns", unfollowed := true, recurses := true, named := ["consulate/session.shutdown", "consulate/session.expired", "consulate/session.badType", "consulate/session.badHold"], apart := false, laid := [("consulate/session.badType", laid_consulate_session_badType), ("consulate/session.badHold", laid_consulate_session_badHold), ("consulate/session.expired", laid_consulate_session_expired), ("consulate/session.shutdown", laid_consulate_session_shutdown)], narrowed := true }
def SessionRunsUptoSaid : Prop := sessionRunsUptoRow.holds Tryd.pinned (OpenSpec.upto sessionRunsSpec)

/-- 'consulatelaw15.PeerTells', WHERE WHAT IT READS IS OF BULK AT MOST 1048576: true; the input reads as it did. -/
def peerTellsUptoRow : OpenClaim := { program := "ytembdobkgpojfaadoor", sum := "956a31496cded1de812e113355f714718904bffa0b2539ddb28b70746347e5ac", func := "consulate/consulatelaw15.PeerTells", spec := "peerTells", unfollowed := true, recurses := true, named := ["consulate/caps.ipv4", "consulate/number.spans", "consulate/peer.names"], apart := false, laid := [("consulate/caps.ipv4", laid_consulate_caps_ipv4), ("consulate/number.spans", laid_consulate_number_spans), ("consulate/peer.names", laid_consulate_peer_names)], narrowed := true }
def PeerTellsUptoSaid : Prop := peerTellsUptoRow.holds Tryd.pinned (OpenSpec.upto peerTellsSpec)

/-- 'consulatelaw15.PeerAgrees', WHERE WHAT IT READS IS OF BULK AT MOST 1048576: true; the input reads as it did. -/
def peerAgreesUptoRow : OpenClaim := { program := "ytembdobkgpojfaadoor", sum := "956a31496cded1de812e113355f714718904bffa0b2539ddb28b70746347e5ac", func := "consulate/consulatelaw15.PeerAgrees", spec := "peerAgrees", unfollowed := true, recurses := true, named := ["consulate/number.spans"], apart := false, laid := [("consulate/number.spans", laid_consulate_number_spans)], narrowed := true }
def PeerAgreesUptoSaid : Prop := peerAgreesUptoRow.holds Tryd.pinned (OpenSpec.upto peerAgreesSpec)

/-- 'consulatelaw15.PeerClass', WHERE WHAT IT READS IS OF BULK AT MOST 1048576: true; the input reads as it did. -/
def peerClassUptoRow : OpenClaim := { program := "ytembdobkgpojfaadoor", sum := "956a31496cded1de812e113355f714718904bffa0b2539ddb28b70746347e5ac", func := "consulate/consulatelaw15.PeerClass", spec := "peerClass", unfollowed := true, recurses := true, named := ["consulate/number.spans"], apart := false, laid := [("consulate/number.spans", laid_consulate_number_spans)], narrowed := true }
def PeerClassUptoSaid : Prop := peerClassUptoRow.holds Tryd.pinned (OpenSpec.upto peerClassSpec)

/-- 'consulatelaw15.PeerSides', WHERE WHAT IT READS IS OF BULK AT MOST 1048576: true; the input reads as it did. -/
def peerSidesUptoRow : OpenClaim := { program := "ytembdobkgpojfaadoor", sum := "956a31496cded1de812e113355f714718904bffa0b2539ddb28b70746347e5ac", func := "consulate/consulatelaw15.PeerSides", spec := "peerSides", unfollowed := true, recurses := true, named := ["consulate/number.spans", "consulate/caps.ipv4"], apart := false, laid := [("consulate/caps.ipv4", laid_consulate_caps_ipv4), ("consulate/number.spans", laid_consulate_number_spans)], narrowed := true }
def PeerSidesUptoSaid : Prop := peerSidesUptoRow.holds Tryd.pinned (OpenSpec.upto peerSidesSpec)

/-- 'consulatelaw15.PeerKnown', WHERE WHAT IT READS IS OF BULK AT MOST 1048576: true; the input reads as it did. -/
def peerKnownUptoRow : OpenClaim := { program := "ytembdobkgpojfaadoor", sum := "956a31496cded1de812e113355f714718904bffa0b2539ddb28b70746347e5ac", func := "consulate/consulatelaw15.PeerKnown", spec := "peerKnown", unfollowed := true, recurses := true, named := ["consulate/number.spans", "consulate/caps.ipv4", "consulate/peer.names"], apart := false, laid := [("consulate/caps.ipv4", laid_consulate_caps_ipv4), ("consulate/number.spans", laid_consulate_number_spans), ("consulate/peer.names", laid_consulate_peer_names)], narrowed := true }
def PeerKnownUptoSaid : Prop := peerKnownUptoRow.holds Tryd.pinned (OpenSpec.upto peerKnownSpec)

end Rows
end Go.Proofs.YtembdobkgpojfaaDoor
