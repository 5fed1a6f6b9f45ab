/-
  NARROWER THAN 'FOR EVERY INPUT', by the rows' own cells (each row's printed sentence says how): OpenGets: laid · OpenTells: laid · OpenBack: laid · OpenOurs: laid · OpenNumbers: laid · OpenKnown: laid.
  DERIVED. THE GIVEN ROWS OF THIS SEAT. 6 by the template 'for every input the law returns true; each argument reads behind the call as it read before'; 0 by the template 'total and deterministic' (their statements: YtohgkibpcgfihaaDoorTotals.lean).
  GIVEN WITH THE SEED: the statements are not yours to turn. If you find one false, say at which input.
  Laid BY PROGRAM, IN A SANDBOX (cutbox-rows.mjs): the forced cells as the released guide's own fill.sh prints them over the translation aaa187833a023729… (all of the seat's roots in one cut). By AI agents, Wed Nov 11 2026. No macro, syntax, notation, axiom, sorry.
-/
import Derived.Test.YtohgkibpcgfihaaDoorChecked
import GoSem.Claim
import GoSem.ClaimJoined
import GoSem.ClaimMapViews
import Derived.JoinedTies
import Derived.KernelRfl
namespace Go.Proofs.YtohgkibpcgfihaaDoor
/- THE CELL 'sum', in the pinned program and in every row, IS THE sha256 OF THE DUMP (.gsa) THAT YtohgkibpcgfihaaDoorProg.lean LOADS. Nothing in Lean hashes anything: it is a label: what it is worth is what the hold of that sum in a sandbox is worth. -/
noncomputable def Tryd.pinned : Pinned := { name := "ytohgkibpcgfihaadoor", sum := "aaa187833a023729b3df28a026d4abce143b049043aa731f403b65f980c06144", checked := Tryd.checked }
namespace Rows
def none {H : Type} : Left H := { results := [], args := [] }

/- WHAT THE LISTED PACKAGE-LEVEL VARIABLES READ AS WHEN THE CALL BEGINS. Each datum BY PROGRAM (the guide's laid-datum.mjs) off the statement by which the dump's own 'gosem.cut.vars' lays the variable. In a bare row this is a premise. The card (YtohgkibpcgfihaaDoorCards.lean) ties it to the program's text. -/
def laid_consulate_caps_ipv4 {H : Type} : DataW H := .agg [.lit (.int .u8 0), .lit (.int .u8 1), .lit (.int .u8 0), .lit (.int .u8 1)]

/-- 'consulatelaw06.OpenGets': WHATEVER THE INPUT: true; the input reads as it did. -/
def openGetsSpec : ChangeSpec := { name := "openGets", fn := fun _ => fun
  | [d] => { results := [.lit (.bool true)], args := [d] }
  | _ => none }
def openGetsRow : OpenClaim := { program := "ytohgkibpcgfihaadoor", sum := "aaa187833a023729b3df28a026d4abce143b049043aa731f403b65f980c06144", func := "consulate/consulatelaw06.OpenGets", spec := "openGets", unfollowed := true, recurses := true, named := ["consulate/caps.ipv4"], apart := false, laid := [("consulate/caps.ipv4", laid_consulate_caps_ipv4)] }
def OpenGetsSaid : Prop := openGetsRow.holds Tryd.pinned (OpenSpec.ofChange openGetsSpec)

/-- ITS FALSE NEIGHBOUR: 'it returns false'. Refute it at one input. -/
def openGetsWrong : ChangeSpec := { name := "openGets", fn := fun _ => fun
  | [d] => { results := [.lit (.bool false)], args := [d] }
  | _ => none }
def OpenGetsWrongFalsely : Prop := openGetsRow.holds Tryd.pinned (OpenSpec.ofChange openGetsWrong)

/-- 'consulatelaw06.OpenTells': WHATEVER THE INPUT: true; the input reads as it did. -/
def openTellsSpec : ChangeSpec := { name := "openTells", fn := fun _ => fun
  | [d1, d2, d3, d4] => { results := [.lit (.bool true)], args := [d1, d2, d3, d4] }
  | _ => none }
def openTellsRow : OpenClaim := { program := "ytohgkibpcgfihaadoor", sum := "aaa187833a023729b3df28a026d4abce143b049043aa731f403b65f980c06144", func := "consulate/consulatelaw06.OpenTells", spec := "openTells", unfollowed := true, recurses := true, named := ["consulate/caps.ipv4"], apart := false, laid := [("consulate/caps.ipv4", laid_consulate_caps_ipv4)] }
def OpenTellsSaid : Prop := openTellsRow.holds Tryd.pinned (OpenSpec.ofChange openTellsSpec)

/-- ITS FALSE NEIGHBOUR: 'it returns false'. Refute it at one input. -/
def openTellsWrong : ChangeSpec := { name := "openTells", fn := fun _ => fun
  | [d1, d2, d3, d4] => { results := [.lit (.bool false)], args := [d1, d2, d3, d4] }
  | _ => none }
def OpenTellsWrongFalsely : Prop := openTellsRow.holds Tryd.pinned (OpenSpec.ofChange openTellsWrong)

/-- 'consulatelaw06.OpenBack': WHATEVER THE INPUT: true; the input reads as it did. -/
def openBackSpec : ChangeSpec := { name := "openBack", fn := fun _ => fun
  | [d1, d2, d3] => { results := [.lit (.bool true)], args := [d1, d2, d3] }
  | _ => none }
def openBackRow : OpenClaim := { program := "ytohgkibpcgfihaadoor", sum := "aaa187833a023729b3df28a026d4abce143b049043aa731f403b65f980c06144", func := "consulate/consulatelaw06.OpenBack", spec := "openBack", unfollowed := true, recurses := true, named := ["consulate/caps.ipv4"], apart := false, laid := [("consulate/caps.ipv4", laid_consulate_caps_ipv4)] }
def OpenBackSaid : Prop := openBackRow.holds Tryd.pinned (OpenSpec.ofChange openBackSpec)

/-- ITS FALSE NEIGHBOUR: 'it returns false'. Refute it at one input. -/
def openBackWrong : ChangeSpec := { name := "openBack", fn := fun _ => fun
  | [d1, d2, d3] => { results := [.lit (.bool false)], args := [d1, d2, d3] }
  | _ => none }
def OpenBackWrongFalsely : Prop := openBackRow.holds Tryd.pinned (OpenSpec.ofChange openBackWrong)

/-- 'consulatelaw06.OpenOurs': WHATEVER THE INPUT: true; the input reads as it did. -/
def openOursSpec : ChangeSpec := { name := "openOurs", fn := fun _ => fun
  | [d1, d2, d3, d4, d5] => { results := [.lit (.bool true)], args := [d1, d2, d3, d4, d5] }
  | _ => none }
def openOursRow : OpenClaim := { program := "ytohgkibpcgfihaadoor", sum := "aaa187833a023729b3df28a026d4abce143b049043aa731f403b65f980c06144", func := "consulate/consulatelaw06.OpenOurs", spec := "openOurs", unfollowed := true, recurses := true, named := ["consulate/caps.ipv4"], apart := false, laid := [("consulate/caps.ipv4", laid_consulate_caps_ipv4)] }
def OpenOursSaid : Prop := openOursRow.holds Tryd.pinned (OpenSpec.ofChange openOursSpec)

/-- ITS FALSE NEIGHBOUR: 'it returns false'. Refute it at one input. -/
def openOursWrong : ChangeSpec := { name := "openOurs", fn := fun _ => fun
  | [d1, d2, d3, d4, d5] => { results := [.lit (.bool false)], args := [d1, d2, d3, d4, d5] }
  | _ => none }
def OpenOursWrongFalsely : Prop := openOursRow.holds Tryd.pinned (OpenSpec.ofChange openOursWrong)

/-- 'consulatelaw06.OpenNumbers': WHATEVER THE INPUT: true; the input reads as it did. -/
def openNumbersSpec : ChangeSpec := { name := "openNumbers", fn := fun _ => fun
  | [d1, d2] => { results := [.lit (.bool true)], args := [d1, d2] }
  | _ => none }
def openNumbersRow : OpenClaim := { program := "ytohgkibpcgfihaadoor", sum := "aaa187833a023729b3df28a026d4abce143b049043aa731f403b65f980c06144", func := "consulate/consulatelaw06.OpenNumbers", spec := "openNumbers", unfollowed := true, recurses := true, named := ["consulate/caps.ipv4"], apart := false, laid := [("consulate/caps.ipv4", laid_consulate_caps_ipv4)] }
def OpenNumbersSaid : Prop := openNumbersRow.holds Tryd.pinned (OpenSpec.ofChange openNumbersSpec)

/-- ITS FALSE NEIGHBOUR: 'it returns false'. Refute it at one input. -/
def openNumbersWrong : ChangeSpec := { name := "openNumbers", fn := fun _ => fun
  | [d1, d2] => { results := [.lit (.bool false)], args := [d1, d2] }
  | _ => none }
def OpenNumbersWrongFalsely : Prop := openNumbersRow.holds Tryd.pinned (OpenSpec.ofChange openNumbersWrong)

/-- 'consulatelaw06.OpenKnown': WHATEVER THE INPUT: true; the input reads as it did. -/
def openKnownSpec : ChangeSpec := { name := "openKnown", fn := fun _ => fun
  | [] => { results := [.lit (.bool true)], args := [] }
  | _ => none }
def openKnownRow : OpenClaim := { program := "ytohgkibpcgfihaadoor", sum := "aaa187833a023729b3df28a026d4abce143b049043aa731f403b65f980c06144", func := "consulate/consulatelaw06.OpenKnown", spec := "openKnown", unfollowed := true, recurses := true, named := ["consulate/caps.ipv4"], apart := false, laid := [("consulate/caps.ipv4", laid_consulate_caps_ipv4)] }
def OpenKnownSaid : Prop := openKnownRow.holds Tryd.pinned (OpenSpec.ofChange openKnownSpec)

/-- ITS FALSE NEIGHBOUR: 'it returns false'. Refute it at one input. -/
def openKnownWrong : ChangeSpec := { name := "openKnown", fn := fun _ => fun
  | [] => { results := [.lit (.bool false)], args := [] }
  | _ => none }
def OpenKnownWrongFalsely : Prop := openKnownRow.holds Tryd.pinned (OpenSpec.ofChange openKnownWrong)

/- THE SECOND FORM. 'bulk': how many values and letters a reading holds, each counted each time it is reached (what is shared counts as often as it is met; a slice's spare places count too). A statement '..UptoSaid' is the law's where the arguments, and the package variables that the reading takes, are together of bulk at most 1048576: NARROWER than '..Said'. Prove '..Said' where nothing that the law and all that it calls make is longer than what came in: it says more and counts as full. Else prove '..UptoSaid'. A law counts once. -/
mutual
def uptoBulk {H : Type} : DataW H → Nat
  | .lit (.string bytes) => bytes.length + 1
  | .lit _ => 1
  | .nil => 1
  | .ptr d => uptoBulk d + 1
  | .slice elems spare => uptoBulkAll elems + uptoBulkAll spare + 1
  | .agg parts => uptoBulkAll parts + 1
  | .iface _ d => uptoBulk d + 1
  | .map entries => uptoBulkEntries entries + 1
  | .held _ => 1
def uptoBulkAll {H : Type} : List (DataW H) → Nat
  | [] => 0
  | d :: r => uptoBulk d + uptoBulkAll r
def uptoBulkEntries {H : Type} : List (Lit × DataW H) → Nat
  | [] => 0
  | x :: r => uptoBulkEntry x + uptoBulkEntries r
def uptoBulkEntry {H : Type} : Lit × DataW H → Nat
  | (.string bytes, d) => bytes.length + uptoBulk d + 1
  | (_, d) => uptoBulk d + 1
 end
def uptoSmall : (H : Type) → List (DataW H) → Bool := fun _ ds => decide (uptoBulkAll ds ≤ 1048576)
def OpenSpec.upto (s : _root_.Go.ChangeSpec) : _root_.Go.OpenSpec := { _root_.Go.OpenSpec.ofChange s with cond := some uptoSmall }

/-- 'consulatelaw06.OpenGets', WHERE WHAT IT READS IS OF BULK AT MOST 1048576: true; the input reads as it did. -/
def openGetsUptoRow : OpenClaim := { program := "ytohgkibpcgfihaadoor", sum := "aaa187833a023729b3df28a026d4abce143b049043aa731f403b65f980c06144", func := "consulate/consulatelaw06.OpenGets", spec := "openGets", unfollowed := true, recurses := true, named := ["consulate/caps.ipv4"], apart := false, laid := [("consulate/caps.ipv4", laid_consulate_caps_ipv4)], narrowed := true }
def OpenGetsUptoSaid : Prop := openGetsUptoRow.holds Tryd.pinned (OpenSpec.upto openGetsSpec)

/-- 'consulatelaw06.OpenTells', WHERE WHAT IT READS IS OF BULK AT MOST 1048576: true; the input reads as it did. -/
def openTellsUptoRow : OpenClaim := { program := "ytohgkibpcgfihaadoor", sum := "aaa187833a023729b3df28a026d4abce143b049043aa731f403b65f980c06144", func := "consulate/consulatelaw06.OpenTells", spec := "openTells", unfollowed := true, recurses := true, named := ["consulate/caps.ipv4"], apart := false, laid := [("consulate/caps.ipv4", laid_consulate_caps_ipv4)], narrowed := true }
def OpenTellsUptoSaid : Prop := openTellsUptoRow.holds Tryd.pinned (OpenSpec.upto openTellsSpec)

/-- 'consulatelaw06.OpenBack', WHERE WHAT IT READS IS OF BULK AT MOST 1048576: true; the input reads as it did. -/
def openBackUptoRow : OpenClaim := { program := "ytohgkibpcgfihaadoor", sum := "aaa187833a023729b3df28a026d4abce143b049043aa731f403b65f980c06144", func := "consulate/consulatelaw06.OpenBack", spec := "openBack", unfollowed := true, recurses := true, named := ["consulate/caps.ipv4"], apart := false, laid := [("consulate/caps.ipv4", laid_consulate_caps_ipv4)], narrowed := true }
def OpenBackUptoSaid : Prop := openBackUptoRow.holds Tryd.pinned (OpenSpec.upto openBackSpec)

/-- 'consulatelaw06.OpenOurs', WHERE WHAT IT READS IS OF BULK AT MOST 1048576: true; the input reads as it did. -/
def openOursUptoRow : OpenClaim := { program := "ytohgkibpcgfihaadoor", sum := "aaa187833a023729b3df28a026d4abce143b049043aa731f403b65f980c06144", func := "consulate/consulatelaw06.OpenOurs", spec := "openOurs", unfollowed := true, recurses := true, named := ["consulate/caps.ipv4"], apart := false, laid := [("consulate/caps.ipv4", laid_consulate_caps_ipv4)], narrowed := true }
def OpenOursUptoSaid : Prop := openOursUptoRow.holds Tryd.pinned (OpenSpec.upto openOursSpec)

/-- 'consulatelaw06.OpenNumbers', WHERE WHAT IT READS IS OF BULK AT MOST 1048576: true; the input reads as it did. -/
def openNumbersUptoRow : OpenClaim := { program := "ytohgkibpcgfihaadoor", sum := "aaa187833a023729b3df28a026d4abce143b049043aa731f403b65f980c06144", func := "consulate/consulatelaw06.OpenNumbers", spec := "openNumbers", unfollowed := true, recurses := true, named := ["consulate/caps.ipv4"], apart := false, laid := [("consulate/caps.ipv4", laid_consulate_caps_ipv4)], narrowed := true }
def OpenNumbersUptoSaid : Prop := openNumbersUptoRow.holds Tryd.pinned (OpenSpec.upto openNumbersSpec)

/-- 'consulatelaw06.OpenKnown', WHERE WHAT IT READS IS OF BULK AT MOST 1048576: true; the input reads as it did. -/
def openKnownUptoRow : OpenClaim := { program := "ytohgkibpcgfihaadoor", sum := "aaa187833a023729b3df28a026d4abce143b049043aa731f403b65f980c06144", func := "consulate/consulatelaw06.OpenKnown", spec := "openKnown", unfollowed := true, recurses := true, named := ["consulate/caps.ipv4"], apart := false, laid := [("consulate/caps.ipv4", laid_consulate_caps_ipv4)], narrowed := true }
def OpenKnownUptoSaid : Prop := openKnownUptoRow.holds Tryd.pinned (OpenSpec.upto openKnownSpec)

end Rows
end Go.Proofs.YtohgkibpcgfihaaDoor
