/-
  NARROWER THAN 'FOR EVERY INPUT', by the rows' own cells (each row's printed sentence says how): CapsTells: laid · CapsOurs: laid · CapsKnown: laid.
  DERIVED. THE GIVEN ROWS OF THIS SEAT. 3 by the template 'for every input the law returns true; each argument reads behind the call as it read before'; 0 by the template 'total and deterministic' (their statements: YtknmpadfklckkaaDoorTotals.lean).
  GIVEN WITH THE SEED: the statements are not yours to turn. If you find one false, say at which input.
  Laid BY PROGRAM, IN A SANDBOX (cutbox-rows.mjs): the forced cells as the released guide's own fill.sh prints them over the translation 7a867913cbd9e10b… (all of the seat's roots in one cut). By AI agents, Wed Nov 11 2026. No macro, syntax, notation, axiom, sorry.
-/
import Derived.Test.YtknmpadfklckkaaDoorChecked
import GoSem.Claim
import GoSem.ClaimJoined
import GoSem.ClaimMapViews
import Derived.JoinedTies
import Derived.KernelRfl
namespace Go.Proofs.YtknmpadfklckkaaDoor
/- THE CELL 'sum', in the pinned program and in every row, IS THE sha256 OF THE DUMP (.gsa) THAT YtknmpadfklckkaaDoorProg.lean LOADS. Nothing in Lean hashes anything: it is a label: what it is worth is what the hold of that sum in a sandbox is worth. -/
noncomputable def Tryd.pinned : Pinned := { name := "ytknmpadfklckkaadoor", sum := "7a867913cbd9e10b563626c1d11615b985860c907a821816593d6164d368ab6b", checked := Tryd.checked }
namespace Rows
def none {H : Type} : Left H := { results := [], args := [] }

/- WHAT THE LISTED PACKAGE-LEVEL VARIABLES READ AS WHEN THE CALL BEGINS. Each datum BY PROGRAM (the guide's laid-datum.mjs) off the statement by which the dump's own 'gosem.cut.vars' lays the variable. In a bare row this is a premise. The card (YtknmpadfklckkaaDoorCards.lean) ties it to the program's text. -/
def laid_consulate_caps_ipv4 {H : Type} : DataW H := .agg [.lit (.int .u8 0), .lit (.int .u8 1), .lit (.int .u8 0), .lit (.int .u8 1)]

/-- 'consulatelaw05.CapsTells': WHATEVER THE INPUT: true; the input reads as it did. -/
def capsTellsSpec : ChangeSpec := { name := "capsTells", fn := fun _ => fun
  | [d1, d2] => { results := [.lit (.bool true)], args := [d1, d2] }
  | _ => none }
def capsTellsRow : OpenClaim := { program := "ytknmpadfklckkaadoor", sum := "7a867913cbd9e10b563626c1d11615b985860c907a821816593d6164d368ab6b", func := "consulate/consulatelaw05.CapsTells", spec := "capsTells", unfollowed := true, recurses := true, named := ["consulate/caps.ipv4"], apart := false, laid := [("consulate/caps.ipv4", laid_consulate_caps_ipv4)] }
def CapsTellsSaid : Prop := capsTellsRow.holds Tryd.pinned (OpenSpec.ofChange capsTellsSpec)

/-- ITS FALSE NEIGHBOUR: 'it returns false'. Refute it at one input. -/
def capsTellsWrong : ChangeSpec := { name := "capsTells", fn := fun _ => fun
  | [d1, d2] => { results := [.lit (.bool false)], args := [d1, d2] }
  | _ => none }
def CapsTellsWrongFalsely : Prop := capsTellsRow.holds Tryd.pinned (OpenSpec.ofChange capsTellsWrong)

/-- 'consulatelaw05.CapsOurs': WHATEVER THE INPUT: true; the input reads as it did. -/
def capsOursSpec : ChangeSpec := { name := "capsOurs", fn := fun _ => fun
  | [d1, d2] => { results := [.lit (.bool true)], args := [d1, d2] }
  | _ => none }
def capsOursRow : OpenClaim := { program := "ytknmpadfklckkaadoor", sum := "7a867913cbd9e10b563626c1d11615b985860c907a821816593d6164d368ab6b", func := "consulate/consulatelaw05.CapsOurs", spec := "capsOurs", unfollowed := true, recurses := true, named := ["consulate/caps.ipv4"], apart := false, laid := [("consulate/caps.ipv4", laid_consulate_caps_ipv4)] }
def CapsOursSaid : Prop := capsOursRow.holds Tryd.pinned (OpenSpec.ofChange capsOursSpec)

/-- ITS FALSE NEIGHBOUR: 'it returns false'. Refute it at one input. -/
def capsOursWrong : ChangeSpec := { name := "capsOurs", fn := fun _ => fun
  | [d1, d2] => { results := [.lit (.bool false)], args := [d1, d2] }
  | _ => none }
def CapsOursWrongFalsely : Prop := capsOursRow.holds Tryd.pinned (OpenSpec.ofChange capsOursWrong)

/-- 'consulatelaw05.CapsKnown': WHATEVER THE INPUT: true; the input reads as it did. -/
def capsKnownSpec : ChangeSpec := { name := "capsKnown", fn := fun _ => fun
  | [] => { results := [.lit (.bool true)], args := [] }
  | _ => none }
def capsKnownRow : OpenClaim := { program := "ytknmpadfklckkaadoor", sum := "7a867913cbd9e10b563626c1d11615b985860c907a821816593d6164d368ab6b", func := "consulate/consulatelaw05.CapsKnown", spec := "capsKnown", unfollowed := true, recurses := true, named := ["consulate/caps.ipv4"], apart := false, laid := [("consulate/caps.ipv4", laid_consulate_caps_ipv4)] }
def CapsKnownSaid : Prop := capsKnownRow.holds Tryd.pinned (OpenSpec.ofChange capsKnownSpec)

/-- ITS FALSE NEIGHBOUR: 'it returns false'. Refute it at one input. -/
def capsKnownWrong : ChangeSpec := { name := "capsKnown", fn := fun _ => fun
  | [] => { results := [.lit (.bool false)], args := [] }
  | _ => none }
def CapsKnownWrongFalsely : Prop := capsKnownRow.holds Tryd.pinned (OpenSpec.ofChange capsKnownWrong)

/- THE SECOND FORM. 'bulk': how many values and letters a reading holds, each counted each time it is reached (what is shared counts as often as it is met; a slice's spare places count too). A statement '..UptoSaid' is the law's where the arguments, and the package variables that the reading takes, are together of bulk at most 1048576: NARROWER than '..Said'. Prove '..Said' where nothing that the law and all that it calls make is longer than what came in: it says more and counts as full. Else prove '..UptoSaid'. A law counts once. -/
mutual
def uptoBulk {H : Type} : DataW H → Nat
  | .lit (.string bytes) => bytes.length + 1
  | .lit _ => 1
  | .nil => 1
  | .ptr d => uptoBulk d + 1
  | .slice elems spare => uptoBulkAll elems + uptoBulkAll spare + 1
  | .agg parts => uptoBulkAll parts + 1
  | .iface _ d => uptoBulk d + 1
  | .map entries => uptoBulkEntries entries + 1
  | .held _ => 1
def uptoBulkAll {H : Type} : List (DataW H) → Nat
  | [] => 0
  | d :: r => uptoBulk d + uptoBulkAll r
def uptoBulkEntries {H : Type} : List (Lit × DataW H) → Nat
  | [] => 0
  | x :: r => uptoBulkEntry x + uptoBulkEntries r
def uptoBulkEntry {H : Type} : Lit × DataW H → Nat
  | (.string bytes, d) => bytes.length + uptoBulk d + 1
  | (_, d) => uptoBulk d + 1
 end
def uptoSmall : (H : Type) → List (DataW H) → Bool := fun _ ds => decide (uptoBulkAll ds ≤ 1048576)
def OpenSpec.upto (s : _root_.Go.ChangeSpec) : _root_.Go.OpenSpec := { _root_.Go.OpenSpec.ofChange s with cond := some uptoSmall }

/-- 'consulatelaw05.CapsTells', WHERE WHAT IT READS IS OF BULK AT MOST 1048576: true; the input reads as it did. -/
def capsTellsUptoRow : OpenClaim := { program := "ytknmpadfklckkaadoor", sum := "7a867913cbd9e10b563626c1d11615b985860c907a821816593d6164d368ab6b", func := "consulate/consulatelaw05.CapsTells", spec := "capsTells", unfollowed := true, recurses := true, named := ["consulate/caps.ipv4"], apart := false, laid := [("consulate/caps.ipv4", laid_consulate_caps_ipv4)], narrowed := true }
def CapsTellsUptoSaid : Prop := capsTellsUptoRow.holds Tryd.pinned (OpenSpec.upto capsTellsSpec)

/-- 'consulatelaw05.CapsOurs', WHERE WHAT IT READS IS OF BULK AT MOST 1048576: true; the input reads as it did. -/
def capsOursUptoRow : OpenClaim := { program := "ytknmpadfklckkaadoor", sum := "7a867913cbd9e10b563626c1d11615b985860c907a821816593d6164d368ab6b", func := "consulate/consulatelaw05.CapsOurs", spec := "capsOurs", unfollowed := true, recurses := true, named := ["consulate/caps.ipv4"], apart := false, laid := [("consulate/caps.ipv4", laid_consulate_caps_ipv4)], narrowed := true }
def CapsOursUptoSaid : Prop := capsOursUptoRow.holds Tryd.pinned (OpenSpec.upto capsOursSpec)

/-- 'consulatelaw05.CapsKnown', WHERE WHAT IT READS IS OF BULK AT MOST 1048576: true; the input reads as it did. -/
def capsKnownUptoRow : OpenClaim := { program := "ytknmpadfklckkaadoor", sum := "7a867913cbd9e10b563626c1d11615b985860c907a821816593d6164d368ab6b", func := "consulate/consulatelaw05.CapsKnown", spec := "capsKnown", unfollowed := true, recurses := true, named := ["consulate/caps.ipv4"], apart := false, laid := [("consulate/caps.ipv4", laid_consulate_caps_ipv4)], narrowed := true }
def CapsKnownUptoSaid : Prop := capsKnownUptoRow.holds Tryd.pinned (OpenSpec.upto capsKnownSpec)

end Rows
end Go.Proofs.YtknmpadfklckkaaDoor
