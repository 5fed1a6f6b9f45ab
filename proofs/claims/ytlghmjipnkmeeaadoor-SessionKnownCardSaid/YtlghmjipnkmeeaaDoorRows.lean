/-
  NARROWER THAN 'FOR EVERY INPUT', by the rows' own cells (each row's printed sentence says how): SessionRuns: laid · SessionUp: laid · SessionTimers: laid · SessionEnds: laid · SessionKnown: laid.
  DERIVED. THE GIVEN ROWS OF THIS SEAT. 5 by the template 'for every input the law returns true; each argument reads behind the call as it read before'; 0 by the template 'total and deterministic' (their statements: YtlghmjipnkmeeaaDoorTotals.lean).
  GIVEN WITH THE SEED: the statements are not yours to turn. If you find one false, say at which input.
  Laid BY PROGRAM, IN A SANDBOX (cutbox-rows.mjs): the forced cells as the released guide's own fill.sh prints them over the translation 30d7c0e4bf48811d… (all of the seat's roots in one cut). By AI agents, Wed Nov 11 2026. No macro, syntax, notation, axiom, sorry.
-/
import Derived.Test.YtlghmjipnkmeeaaDoorChecked
import GoSem.Claim
import GoSem.ClaimJoined
import GoSem.ClaimMapViews
import Derived.JoinedTies
import Derived.KernelRfl
namespace Go.Proofs.YtlghmjipnkmeeaaDoor
/- THE CELL 'sum', in the pinned program and in every row, IS THE sha256 OF THE DUMP (.gsa) THAT YtlghmjipnkmeeaaDoorProg.lean LOADS. Nothing in Lean hashes anything: it is a label: what it is worth is what the hold of that sum in a sandbox is worth. -/
noncomputable def Tryd.pinned : Pinned := { name := "ytlghmjipnkmeeaadoor", sum := "30d7c0e4bf48811d8ddc0cdbd801367caf9befe9093f234dd2fa8366775fe9b7", checked := Tryd.checked }
namespace Rows
def none {H : Type} : Left H := { results := [], args := [] }

/- WHAT THE LISTED PACKAGE-LEVEL VARIABLES READ AS WHEN THE CALL BEGINS. Each datum BY PROGRAM (the guide's laid-datum.mjs) off the statement by which the dump's own 'gosem.cut.vars' lays the variable. In a bare row this is a premise. The card (YtlghmjipnkmeeaaDoorCards.lean) ties it to the program's text. -/
def laid_consulate_session_badType {H : Type} : DataW H := .agg [.lit (.int .u8 1), .lit (.int .u8 3)]
def laid_consulate_session_badHold {H : Type} : DataW H := .agg [.lit (.int .u8 2), .lit (.int .u8 6)]
def laid_consulate_session_expired {H : Type} : DataW H := .agg [.lit (.int .u8 4), .lit (.int .u8 0)]
def laid_consulate_session_shutdown {H : Type} : DataW H := .agg [.lit (.int .u8 6), .lit (.int .u8 2)]

/-- 'consulatelaw14.SessionRuns': WHATEVER THE INPUT: true; the input reads as it did. -/
def sessionRunsSpec : ChangeSpec := { name := "sessionRuns", fn := fun _ => fun
  | [d] => { results := [.lit (.bool true)], args := [d] }
  | _ => none }
def sessionRunsRow : OpenClaim := { program := "ytlghmjipnkmeeaadoor", sum := "30d7c0e4bf48811d8ddc0cdbd801367caf9befe9093f234dd2fa8366775fe9b7", func := "consulate/consulatelaw14.SessionRuns", spec := "sessionRuns", unfollowed := true, recurses := true, named := ["consulate/session.shutdown", "consulate/session.expired", "consulate/session.badType", "consulate/session.badHold"], apart := false, laid := [("consulate/session.badType", laid_consulate_session_badType), ("consulate/session.badHold", laid_consulate_session_badHold), ("consulate/session.expired", laid_consulate_session_expired), ("consulate/session.shutdown", laid_consulate_session_shutdown)] }
def SessionRunsSaid : Prop := sessionRunsRow.holds Tryd.pinned (OpenSpec.ofChange sessionRunsSpec)

/-- ITS FALSE NEIGHBOUR: 'it returns false'. Refute it at one input. -/
def sessionRunsWrong : ChangeSpec := { name := "sessionRuns", fn := fun _ => fun
  | [d] => { results := [.lit (.bool false)], args := [d] }
  | _ => none }
def SessionRunsWrongFalsely : Prop := sessionRunsRow.holds Tryd.pinned (OpenSpec.ofChange sessionRunsWrong)

/-- 'consulatelaw14.SessionUp': WHATEVER THE INPUT: true; the input reads as it did. -/
def sessionUpSpec : ChangeSpec := { name := "sessionUp", fn := fun _ => fun
  | [d] => { results := [.lit (.bool true)], args := [d] }
  | _ => none }
def sessionUpRow : OpenClaim := { program := "ytlghmjipnkmeeaadoor", sum := "30d7c0e4bf48811d8ddc0cdbd801367caf9befe9093f234dd2fa8366775fe9b7", func := "consulate/consulatelaw14.SessionUp", spec := "sessionUp", unfollowed := true, recurses := true, named := ["consulate/session.shutdown", "consulate/session.expired", "consulate/session.badType", "consulate/session.badHold"], apart := false, laid := [("consulate/session.badType", laid_consulate_session_badType), ("consulate/session.badHold", laid_consulate_session_badHold), ("consulate/session.expired", laid_consulate_session_expired), ("consulate/session.shutdown", laid_consulate_session_shutdown)] }
def SessionUpSaid : Prop := sessionUpRow.holds Tryd.pinned (OpenSpec.ofChange sessionUpSpec)

/-- ITS FALSE NEIGHBOUR: 'it returns false'. Refute it at one input. -/
def sessionUpWrong : ChangeSpec := { name := "sessionUp", fn := fun _ => fun
  | [d] => { results := [.lit (.bool false)], args := [d] }
  | _ => none }
def SessionUpWrongFalsely : Prop := sessionUpRow.holds Tryd.pinned (OpenSpec.ofChange sessionUpWrong)

/-- 'consulatelaw14.SessionTimers': WHATEVER THE INPUT: true; the input reads as it did. -/
def sessionTimersSpec : ChangeSpec := { name := "sessionTimers", fn := fun _ => fun
  | [d] => { results := [.lit (.bool true)], args := [d] }
  | _ => none }
def sessionTimersRow : OpenClaim := { program := "ytlghmjipnkmeeaadoor", sum := "30d7c0e4bf48811d8ddc0cdbd801367caf9befe9093f234dd2fa8366775fe9b7", func := "consulate/consulatelaw14.SessionTimers", spec := "sessionTimers", unfollowed := true, recurses := true, named := ["consulate/session.shutdown", "consulate/session.expired", "consulate/session.badType", "consulate/session.badHold"], apart := false, laid := [("consulate/session.badType", laid_consulate_session_badType), ("consulate/session.badHold", laid_consulate_session_badHold), ("consulate/session.expired", laid_consulate_session_expired), ("consulate/session.shutdown", laid_consulate_session_shutdown)] }
def SessionTimersSaid : Prop := sessionTimersRow.holds Tryd.pinned (OpenSpec.ofChange sessionTimersSpec)

/-- ITS FALSE NEIGHBOUR: 'it returns false'. Refute it at one input. -/
def sessionTimersWrong : ChangeSpec := { name := "sessionTimers", fn := fun _ => fun
  | [d] => { results := [.lit (.bool false)], args := [d] }
  | _ => none }
def SessionTimersWrongFalsely : Prop := sessionTimersRow.holds Tryd.pinned (OpenSpec.ofChange sessionTimersWrong)

/-- 'consulatelaw14.SessionEnds': WHATEVER THE INPUT: true; the input reads as it did. -/
def sessionEndsSpec : ChangeSpec := { name := "sessionEnds", fn := fun _ => fun
  | [d1, d2, d3] => { results := [.lit (.bool true)], args := [d1, d2, d3] }
  | _ => none }
def sessionEndsRow : OpenClaim := { program := "ytlghmjipnkmeeaadoor", sum := "30d7c0e4bf48811d8ddc0cdbd801367caf9befe9093f234dd2fa8366775fe9b7", func := "consulate/consulatelaw14.SessionEnds", spec := "sessionEnds", unfollowed := true, recurses := true, named := ["consulate/session.shutdown", "consulate/session.expired", "consulate/session.badType", "consulate/session.badHold"], apart := false, laid := [("consulate/session.badType", laid_consulate_session_badType), ("consulate/session.badHold", laid_consulate_session_badHold), ("consulate/session.expired", laid_consulate_session_expired), ("consulate/session.shutdown", laid_consulate_session_shutdown)] }
def SessionEndsSaid : Prop := sessionEndsRow.holds Tryd.pinned (OpenSpec.ofChange sessionEndsSpec)

/-- ITS FALSE NEIGHBOUR: 'it returns false'. Refute it at one input. -/
def sessionEndsWrong : ChangeSpec := { name := "sessionEnds", fn := fun _ => fun
  | [d1, d2, d3] => { results := [.lit (.bool false)], args := [d1, d2, d3] }
  | _ => none }
def SessionEndsWrongFalsely : Prop := sessionEndsRow.holds Tryd.pinned (OpenSpec.ofChange sessionEndsWrong)

/-- 'consulatelaw14.SessionKnown': WHATEVER THE INPUT: true; the input reads as it did. -/
def sessionKnownSpec : ChangeSpec := { name := "sessionKnown", fn := fun _ => fun
  | [] => { results := [.lit (.bool true)], args := [] }
  | _ => none }
def sessionKnownRow : OpenClaim := { program := "ytlghmjipnkmeeaadoor", sum := "30d7c0e4bf48811d8ddc0cdbd801367caf9befe9093f234dd2fa8366775fe9b7", func := "consulate/consulatelaw14.SessionKnown", spec := "sessionKnown", unfollowed := true, recurses := true, named := ["consulate/session.shutdown", "consulate/session.expired", "consulate/session.badType", "consulate/session.badHold"], apart := false, laid := [("consulate/session.badType", laid_consulate_session_badType), ("consulate/session.badHold", laid_consulate_session_badHold), ("consulate/session.expired", laid_consulate_session_expired), ("consulate/session.shutdown", laid_consulate_session_shutdown)] }
def SessionKnownSaid : Prop := sessionKnownRow.holds Tryd.pinned (OpenSpec.ofChange sessionKnownSpec)

/-- ITS FALSE NEIGHBOUR: 'it returns false'. Refute it at one input. -/
def sessionKnownWrong : ChangeSpec := { name := "sessionKnown", fn := fun _ => fun
  | [] => { results := [.lit (.bool false)], args := [] }
  | _ => none }
def SessionKnownWrongFalsely : Prop := sessionKnownRow.holds Tryd.pinned (OpenSpec.ofChange sessionKnownWrong)

/- THE SECOND FORM. 'bulk': how many values and letters a reading holds, each counted each time it is reached (what is shared counts as often as it is met; a slice's spare places count too). A statement '..UptoSaid' is the law's where the arguments, and the package variables that the reading takes, are together of bulk at most 1048576: NARROWER than '..Said'. Prove '..Said' where nothing that the law and all that it calls make is longer than what came in: it says more and counts as full. Else prove '..UptoSaid'. A law counts once. -/
mutual
def uptoBulk {H : Type} : DataW H → Nat
  | .lit (.string bytes) => bytes.length + 1
  | .lit _ => 1
  | .nil => 1
  | .ptr d => uptoBulk d + 1
  | .slice elems spare => uptoBulkAll elems + uptoBulkAll spare + 1
  | .agg parts => uptoBulkAll parts + 1
  | .iface _ d => uptoBulk d + 1
  | .map entries => uptoBulkEntries entries + 1
  | .held _ => 1
def uptoBulkAll {H : Type} : List (DataW H) → Nat
  | [] => 0
  | d :: r => uptoBulk d + uptoBulkAll r
def uptoBulkEntries {H : Type} : List (Lit × DataW H) → Nat
  | [] => 0
  | x :: r => uptoBulkEntry x + uptoBulkEntries r
def uptoBulkEntry {H : Type} : Lit × DataW H → Nat
  | (.string bytes, d) => bytes.length + uptoBulk d + 1
  | (_, d) => uptoBulk d + 1
 end
def uptoSmall : (H : Type) → List (DataW H) → Bool := fun _ ds => decide (uptoBulkAll ds ≤ 1048576)
def OpenSpec.upto (s : _root_.Go.ChangeSpec) : _root_.Go.OpenSpec := { _root_.Go.OpenSpec.ofChange s with cond := some uptoSmall }

/-- 'consulatelaw14.SessionRuns', WHERE WHAT IT READS IS OF BULK AT MOST 1048576: true; the input reads as it did. -/
def sessionRunsUptoRow : OpenClaim := { program := "ytlghmjipnkmeeaadoor", sum := "30d7c0e4bf48811d8ddc0cdbd801367caf9befe9093f234dd2fa8366775fe9b7", func := "consulate/consulatelaw14.SessionRuns", spec := "sessionRuns", unfollowed := true, recurses := true, named := ["consulate/session.shutdown", "consulate/session.expired", "consulate/session.badType", "consulate/session.badHold"], apart := false, laid := [("consulate/session.badType", laid_consulate_session_badType), ("consulate/session.badHold", laid_consulate_session_badHold), ("consulate/session.expired", laid_consulate_session_expired), ("consulate/session.shutdown", laid_consulate_session_shutdown)], narrowed := true }
def SessionRunsUptoSaid : Prop := sessionRunsUptoRow.holds Tryd.pinned (OpenSpec.upto sessionRunsSpec)

/-- 'consulatelaw14.SessionUp', WHERE WHAT IT READS IS OF BULK AT MOST 1048576: true; the input reads as it did. -/
def sessionUpUptoRow : OpenClaim := { program := "ytlghmjipnkmeeaadoor", sum := "30d7c0e4bf48811d8ddc0cdbd801367caf9befe9093f234dd2fa8366775fe9b7", func := "consulate/consulatelaw14.SessionUp", spec := "sessionUp", unfollowed := true, recurses := true, named := ["consulate/session.shutdown", "consulate/session.expired", "consulate/session.badType", "consulate/session.badHold"], apart := false, laid := [("consulate/session.badType", laid_consulate_session_badType), ("consulate/session.badHold", laid_consulate_session_badHold), ("consulate/session.expired", laid_consulate_session_expired), ("consulate/session.shutdown", laid_consulate_session_shutdown)], narrowed := true }
def SessionUpUptoSaid : Prop := sessionUpUptoRow.holds Tryd.pinned (OpenSpec.upto sessionUpSpec)

/-- 'consulatelaw14.SessionTimers', WHERE WHAT IT READS IS OF BULK AT MOST 1048576: true; the input reads as it did. -/
def sessionTimersUptoRow : OpenClaim := { program := "ytlghmjipnkmeeaadoor", sum := "30d7c0e4bf48811d8ddc0cdbd801367caf9befe9093f234dd2fa8366775fe9b7", func := "consulate/consulatelaw14.SessionTimers", spec := "sessionTimers", unfollowed := true, recurses := true, named := ["consulate/session.shutdown", "consulate/session.expired", "consulate/session.badType", "consulate/session.badHold"], apart := false, laid := [("consulate/session.badType", laid_consulate_session_badType), ("consulate/session.badHold", laid_consulate_session_badHold), ("consulate/session.expired", laid_consulate_session_expired), ("consulate/session.shutdown", laid_consulate_session_shutdown)], narrowed := true }
def SessionTimersUptoSaid : Prop := sessionTimersUptoRow.holds Tryd.pinned (OpenSpec.upto sessionTimersSpec)

/-- 'consulatelaw14.SessionEnds', WHERE WHAT IT READS IS OF BULK AT MOST 1048576: true; the input reads as it did. -/
def sessionEndsUptoRow : OpenClaim := { program := "ytlghmjipnkmeeaadoor", sum := "30d7c0e4bf48811d8ddc0cdbd801367caf9befe9093f234dd2fa8366775fe9b7", func := "consulate/consulatelaw14.SessionEnds", spec := "sessionEnds", unfollowed := true, recurses := true, named := ["consulate/session.shutdown", "consulate/session.expired", "consulate/session.badType", "consulate/session.badHold"], apart := false, laid := [("consulate/session.badType", laid_consulate_session_badType), ("consulate/session.badHold", laid_consulate_session_badHold), ("consulate/session.expired", laid_consulate_session_expired), ("consulate/session.shutdown", laid_consulate_session_shutdown)], narrowed := true }
def SessionEndsUptoSaid : Prop := sessionEndsUptoRow.holds Tryd.pinned (OpenSpec.upto sessionEndsSpec)

/-- 'consulatelaw14.SessionKnown', WHERE WHAT IT READS IS OF BULK AT MOST 1048576: true; the input reads as it did. -/
def sessionKnownUptoRow : OpenClaim := { program := "ytlghmjipnkmeeaadoor", sum := "30d7c0e4bf48811d8ddc0cdbd801367caf9befe9093f234dd2fa8366775fe9b7", func := "consulate/consulatelaw14.SessionKnown", spec := "sessionKnown", unfollowed := true, recurses := true, named := ["consulate/session.shutdown", "consulate/session.expired", "consulate/session.badType", "consulate/session.badHold"], apart := false, laid := [("consulate/session.badType", laid_consulate_session_badType), ("consulate/session.badHold", laid_consulate_session_badHold), ("consulate/session.expired", laid_consulate_session_expired), ("consulate/session.shutdown", laid_consulate_session_shutdown)], narrowed := true }
def SessionKnownUptoSaid : Prop := sessionKnownUptoRow.holds Tryd.pinned (OpenSpec.upto sessionKnownSpec)

end Rows
end Go.Proofs.YtlghmjipnkmeeaaDoor
