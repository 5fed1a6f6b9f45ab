/-
  NARROWER THAN 'FOR EVERY INPUT', by the rows' own cells (each row's printed sentence says how): AttrsGets: laid · AttrsBack: laid · AttrsEnds: laid · AttrsClasses: laid · AttrsKnown: laid.
  DERIVED. THE GIVEN ROWS OF THIS SEAT. 5 by the template 'for every input the law returns true; each argument reads behind the call as it read before'; 0 by the template 'total and deterministic' (their statements: YteofbpdogmajoaaGreatDoorTotals.lean).
  GIVEN WITH THE SEED: the statements are not yours to turn. If you find one false, say at which input.
  Laid BY PROGRAM, IN A SANDBOX (cutbox-rows.mjs): the forced cells as the released guide's own fill.sh prints them over the translation 382adf5792463005… (all of the seat's roots in one cut). By AI agents, Wed Nov 11 2026. No macro, syntax, notation, axiom, sorry.
-/
import Derived.Test.YteofbpdogmajoaaGreatDoorChecked
import GoSem.Claim
import GoSem.ClaimJoined
import GoSem.ClaimMapViews
import Derived.JoinedTies
import Derived.KernelRfl
namespace Go.Proofs.YteofbpdogmajoaaGreatDoor
/- THE CELL 'sum', in the pinned program and in every row, IS THE sha256 OF THE DUMP (.gsa) THAT YteofbpdogmajoaaGreatDoorProg.lean LOADS. Nothing in Lean hashes anything: it is a label: what it is worth is what the hold of that sum in a sandbox is worth. -/
noncomputable def Tryz.pinned : Pinned := { name := "yteofbpdogmajoaagreatdoor", sum := "382adf5792463005ae3d86ab51a84e0641dbe83068249327b0e8a36e9549b2bd", checked := Tryz.checked }
namespace Rows
def none {H : Type} : Left H := { results := [], args := [] }

/- WHAT THE LISTED PACKAGE-LEVEL VARIABLES READ AS WHEN THE CALL BEGINS. Each datum BY PROGRAM (the guide's laid-datum.mjs) off the statement by which the dump's own 'gosem.cut.vars' lays the variable. In a bare row this is a premise. The card (YteofbpdogmajoaaGreatDoorCards.lean) ties it to the program's text. -/
def laid_consulate_attrs_wanted {H : Type} : DataW H := .agg [.lit (.int .u8 0), .lit (.int .u8 64), .lit (.int .u8 64), .lit (.int .u8 64), .lit (.int .u8 128), .lit (.int .u8 64), .lit (.int .u8 64), .lit (.int .u8 192), .lit (.int .u8 192), .lit (.int .u8 0), .lit (.int .u8 0), .lit (.int .u8 0), .lit (.int .u8 0), .lit (.int .u8 0), .lit (.int .u8 0), .lit (.int .u8 0), .lit (.int .u8 0), .lit (.int .u8 192), .lit (.int .u8 192)]
def laid_math_bits_deBruijn32tab {H : Type} : DataW H := .agg [.lit (.int .u8 0), .lit (.int .u8 1), .lit (.int .u8 28), .lit (.int .u8 2), .lit (.int .u8 29), .lit (.int .u8 14), .lit (.int .u8 24), .lit (.int .u8 3), .lit (.int .u8 30), .lit (.int .u8 22), .lit (.int .u8 20), .lit (.int .u8 15), .lit (.int .u8 25), .lit (.int .u8 17), .lit (.int .u8 4), .lit (.int .u8 8), .lit (.int .u8 31), .lit (.int .u8 27), .lit (.int .u8 13), .lit (.int .u8 23), .lit (.int .u8 21), .lit (.int .u8 19), .lit (.int .u8 16), .lit (.int .u8 7), .lit (.int .u8 26), .lit (.int .u8 12), .lit (.int .u8 18), .lit (.int .u8 6), .lit (.int .u8 11), .lit (.int .u8 5), .lit (.int .u8 10), .lit (.int .u8 9)]
def laid_math_bits_deBruijn64tab {H : Type} : DataW H := .agg [.lit (.int .u8 0), .lit (.int .u8 1), .lit (.int .u8 56), .lit (.int .u8 2), .lit (.int .u8 57), .lit (.int .u8 49), .lit (.int .u8 28), .lit (.int .u8 3), .lit (.int .u8 61), .lit (.int .u8 58), .lit (.int .u8 42), .lit (.int .u8 50), .lit (.int .u8 38), .lit (.int .u8 29), .lit (.int .u8 17), .lit (.int .u8 4), .lit (.int .u8 62), .lit (.int .u8 47), .lit (.int .u8 59), .lit (.int .u8 36), .lit (.int .u8 45), .lit (.int .u8 43), .lit (.int .u8 51), .lit (.int .u8 22), .lit (.int .u8 53), .lit (.int .u8 39), .lit (.int .u8 33), .lit (.int .u8 30), .lit (.int .u8 24), .lit (.int .u8 18), .lit (.int .u8 12), .lit (.int .u8 5), .lit (.int .u8 63), .lit (.int .u8 55), .lit (.int .u8 48), .lit (.int .u8 27), .lit (.int .u8 60), .lit (.int .u8 41), .lit (.int .u8 37), .lit (.int .u8 16), .lit (.int .u8 46), .lit (.int .u8 35), .lit (.int .u8 44), .lit (.int .u8 21), .lit (.int .u8 52), .lit (.int .u8 32), .lit (.int .u8 23), .lit (.int .u8 11), .lit (.int .u8 54), .lit (.int .u8 26), .lit (.int .u8 40), .lit (.int .u8 15), .lit (.int .u8 34), .lit (.int .u8 20), .lit (.int .u8 31), .lit (.int .u8 10), .lit (.int .u8 25), .lit (.int .u8 14), .lit (.int .u8 19), .lit (.int .u8 9), .lit (.int .u8 13), .lit (.int .u8 8), .lit (.int .u8 7), .lit (.int .u8 6)]
def laid_internal_strconv_uint64pow10 {H : Type} : DataW H := .agg [.lit (.int .u64 1), .lit (.int .u64 10), .lit (.int .u64 100), .lit (.int .u64 1000), .lit (.int .u64 10000), .lit (.int .u64 100000), .lit (.int .u64 1000000), .lit (.int .u64 10000000), .lit (.int .u64 100000000), .lit (.int .u64 1000000000), .lit (.int .u64 10000000000), .lit (.int .u64 100000000000), .lit (.int .u64 1000000000000), .lit (.int .u64 10000000000000), .lit (.int .u64 100000000000000), .lit (.int .u64 1000000000000000), .lit (.int .u64 10000000000000000), .lit (.int .u64 100000000000000000), .lit (.int .u64 1000000000000000000), .lit (.int .u64 10000000000000000000)]
def laid_consulate_path_brackets {H : Type} : DataW H := .agg [.agg [.lit (.string []), .lit (.string []), .lit (.string [])], .agg [.lit (.string [123]), .lit (.string [44]), .lit (.string [125])], .agg [.lit (.string []), .lit (.string [32]), .lit (.string [])], .agg [.lit (.string [40]), .lit (.string [32]), .lit (.string [41])], .agg [.lit (.string [91]), .lit (.string [44]), .lit (.string [93])]]

/-- 'consulatelaw10.AttrsGets': WHATEVER THE INPUT: true; the input reads as it did. -/
def attrsGetsSpec : ChangeSpec := { name := "attrsGets", fn := fun _ => fun
  | [d1, d2, d3] => { results := [.lit (.bool true)], args := [d1, d2, d3] }
  | _ => none }
def attrsGetsRow : OpenClaim := { program := "yteofbpdogmajoaagreatdoor", sum := "382adf5792463005ae3d86ab51a84e0641dbe83068249327b0e8a36e9549b2bd", func := "consulate/consulatelaw10.AttrsGets", spec := "attrsGets", unfollowed := true, recurses := true, named := ["consulate/attrs.wanted"], apart := false, laid := [("consulate/attrs.wanted", laid_consulate_attrs_wanted)] }
def AttrsGetsSaid : Prop := attrsGetsRow.holds Tryz.pinned (OpenSpec.ofChange attrsGetsSpec)

/-- ITS FALSE NEIGHBOUR: 'it returns false'. Refute it at one input. -/
def attrsGetsWrong : ChangeSpec := { name := "attrsGets", fn := fun _ => fun
  | [d1, d2, d3] => { results := [.lit (.bool false)], args := [d1, d2, d3] }
  | _ => none }
def AttrsGetsWrongFalsely : Prop := attrsGetsRow.holds Tryz.pinned (OpenSpec.ofChange attrsGetsWrong)

/-- 'consulatelaw10.AttrsBack': WHATEVER THE INPUT: true; the input reads as it did. -/
def attrsBackSpec : ChangeSpec := { name := "attrsBack", fn := fun _ => fun
  | [d1, d2, d3] => { results := [.lit (.bool true)], args := [d1, d2, d3] }
  | _ => none }
def attrsBackRow : OpenClaim := { program := "yteofbpdogmajoaagreatdoor", sum := "382adf5792463005ae3d86ab51a84e0641dbe83068249327b0e8a36e9549b2bd", func := "consulate/consulatelaw10.AttrsBack", spec := "attrsBack", unfollowed := true, recurses := true, named := ["consulate/attrs.wanted"], apart := false, laid := [("consulate/attrs.wanted", laid_consulate_attrs_wanted)] }
def AttrsBackSaid : Prop := attrsBackRow.holds Tryz.pinned (OpenSpec.ofChange attrsBackSpec)

/-- ITS FALSE NEIGHBOUR: 'it returns false'. Refute it at one input. -/
def attrsBackWrong : ChangeSpec := { name := "attrsBack", fn := fun _ => fun
  | [d1, d2, d3] => { results := [.lit (.bool false)], args := [d1, d2, d3] }
  | _ => none }
def AttrsBackWrongFalsely : Prop := attrsBackRow.holds Tryz.pinned (OpenSpec.ofChange attrsBackWrong)

/-- 'consulatelaw10.AttrsEnds': WHATEVER THE INPUT: true; the input reads as it did. -/
def attrsEndsSpec : ChangeSpec := { name := "attrsEnds", fn := fun _ => fun
  | [d1, d2, d3, d4] => { results := [.lit (.bool true)], args := [d1, d2, d3, d4] }
  | _ => none }
def attrsEndsRow : OpenClaim := { program := "yteofbpdogmajoaagreatdoor", sum := "382adf5792463005ae3d86ab51a84e0641dbe83068249327b0e8a36e9549b2bd", func := "consulate/consulatelaw10.AttrsEnds", spec := "attrsEnds", unfollowed := true, recurses := true, named := ["consulate/attrs.wanted"], apart := false, laid := [("consulate/attrs.wanted", laid_consulate_attrs_wanted)] }
def AttrsEndsSaid : Prop := attrsEndsRow.holds Tryz.pinned (OpenSpec.ofChange attrsEndsSpec)

/-- ITS FALSE NEIGHBOUR: 'it returns false'. Refute it at one input. -/
def attrsEndsWrong : ChangeSpec := { name := "attrsEnds", fn := fun _ => fun
  | [d1, d2, d3, d4] => { results := [.lit (.bool false)], args := [d1, d2, d3, d4] }
  | _ => none }
def AttrsEndsWrongFalsely : Prop := attrsEndsRow.holds Tryz.pinned (OpenSpec.ofChange attrsEndsWrong)

/-- 'consulatelaw10.AttrsClasses': WHATEVER THE INPUT: true; the input reads as it did. -/
def attrsClassesSpec : ChangeSpec := { name := "attrsClasses", fn := fun _ => fun
  | [d1, d2, d3] => { results := [.lit (.bool true)], args := [d1, d2, d3] }
  | _ => none }
def attrsClassesRow : OpenClaim := { program := "yteofbpdogmajoaagreatdoor", sum := "382adf5792463005ae3d86ab51a84e0641dbe83068249327b0e8a36e9549b2bd", func := "consulate/consulatelaw10.AttrsClasses", spec := "attrsClasses", unfollowed := true, recurses := true, named := ["consulate/attrs.wanted"], apart := false, laid := [("consulate/attrs.wanted", laid_consulate_attrs_wanted)] }
def AttrsClassesSaid : Prop := attrsClassesRow.holds Tryz.pinned (OpenSpec.ofChange attrsClassesSpec)

/-- ITS FALSE NEIGHBOUR: 'it returns false'. Refute it at one input. -/
def attrsClassesWrong : ChangeSpec := { name := "attrsClasses", fn := fun _ => fun
  | [d1, d2, d3] => { results := [.lit (.bool false)], args := [d1, d2, d3] }
  | _ => none }
def AttrsClassesWrongFalsely : Prop := attrsClassesRow.holds Tryz.pinned (OpenSpec.ofChange attrsClassesWrong)

/-- 'consulatelaw10.AttrsKnown': WHATEVER THE INPUT: true; the input reads as it did. -/
def attrsKnownSpec : ChangeSpec := { name := "attrsKnown", fn := fun _ => fun
  | [] => { results := [.lit (.bool true)], args := [] }
  | _ => none }
def attrsKnownRow : OpenClaim := { program := "yteofbpdogmajoaagreatdoor", sum := "382adf5792463005ae3d86ab51a84e0641dbe83068249327b0e8a36e9549b2bd", func := "consulate/consulatelaw10.AttrsKnown", spec := "attrsKnown", inPlace := ["internal/abi.NoEscape", "internal/bytealg.MakeNoZero"], unfollowed := true, recurses := true, named := ["consulate/attrs.wanted", "consulate/path.brackets", "internal/strconv.uint64pow10", "math/bits.deBruijn32tab", "math/bits.deBruijn64tab"], apart := false, laid := [("math/bits.deBruijn32tab", laid_math_bits_deBruijn32tab), ("math/bits.deBruijn64tab", laid_math_bits_deBruijn64tab), ("internal/strconv.uint64pow10", laid_internal_strconv_uint64pow10), ("consulate/path.brackets", laid_consulate_path_brackets), ("consulate/attrs.wanted", laid_consulate_attrs_wanted)] }
def AttrsKnownSaid : Prop := attrsKnownRow.holds Tryz.pinned (OpenSpec.ofChange attrsKnownSpec)

/-- ITS FALSE NEIGHBOUR: 'it returns false'. Refute it at one input. -/
def attrsKnownWrong : ChangeSpec := { name := "attrsKnown", fn := fun _ => fun
  | [] => { results := [.lit (.bool false)], args := [] }
  | _ => none }
def AttrsKnownWrongFalsely : Prop := attrsKnownRow.holds Tryz.pinned (OpenSpec.ofChange attrsKnownWrong)

/- THE SECOND FORM. 'bulk': how many values and letters a reading holds, each counted each time it is reached (what is shared counts as often as it is met; a slice's spare places count too). A statement '..UptoSaid' is the law's where the arguments, and the package variables that the reading takes, are together of bulk at most 1048576: NARROWER than '..Said'. Prove '..Said' where nothing that the law and all that it calls make is longer than what came in: it says more and counts as full. Else prove '..UptoSaid'. A law counts once. -/
mutual
def uptoBulk {H : Type} : DataW H → Nat
  | .lit (.string bytes) => bytes.length + 1
  | .lit _ => 1
  | .nil => 1
  | .ptr d => uptoBulk d + 1
  | .slice elems spare => uptoBulkAll elems + uptoBulkAll spare + 1
  | .agg parts => uptoBulkAll parts + 1
  | .iface _ d => uptoBulk d + 1
  | .map entries => uptoBulkEntries entries + 1
  | .held _ => 1
def uptoBulkAll {H : Type} : List (DataW H) → Nat
  | [] => 0
  | d :: r => uptoBulk d + uptoBulkAll r
def uptoBulkEntries {H : Type} : List (Lit × DataW H) → Nat
  | [] => 0
  | x :: r => uptoBulkEntry x + uptoBulkEntries r
def uptoBulkEntry {H : Type} : Lit × DataW H → Nat
  | (.string bytes, d) => bytes.length + uptoBulk d + 1
  | (_, d) => uptoBulk d + 1
 end
def uptoSmall : (H : Type) → List (DataW H) → Bool := fun _ ds => decide (uptoBulkAll ds ≤ 1048576)
def OpenSpec.upto (s : _root_.Go.ChangeSpec) : _root_.Go.OpenSpec := { _root_.Go.OpenSpec.ofChange s with cond := some uptoSmall }

/-- 'consulatelaw10.AttrsGets', WHERE WHAT IT READS IS OF BULK AT MOST 1048576: true; the input reads as it did. -/
def attrsGetsUptoRow : OpenClaim := { program := "yteofbpdogmajoaagreatdoor", sum := "382adf5792463005ae3d86ab51a84e0641dbe83068249327b0e8a36e9549b2bd", func := "consulate/consulatelaw10.AttrsGets", spec := "attrsGets", unfollowed := true, recurses := true, named := ["consulate/attrs.wanted"], apart := false, laid := [("consulate/attrs.wanted", laid_consulate_attrs_wanted)], narrowed := true }
def AttrsGetsUptoSaid : Prop := attrsGetsUptoRow.holds Tryz.pinned (OpenSpec.upto attrsGetsSpec)

/-- 'consulatelaw10.AttrsBack', WHERE WHAT IT READS IS OF BULK AT MOST 1048576: true; the input reads as it did. -/
def attrsBackUptoRow : OpenClaim := { program := "yteofbpdogmajoaagreatdoor", sum := "382adf5792463005ae3d86ab51a84e0641dbe83068249327b0e8a36e9549b2bd", func := "consulate/consulatelaw10.AttrsBack", spec := "attrsBack", unfollowed := true, recurses := true, named := ["consulate/attrs.wanted"], apart := false, laid := [("consulate/attrs.wanted", laid_consulate_attrs_wanted)], narrowed := true }
def AttrsBackUptoSaid : Prop := attrsBackUptoRow.holds Tryz.pinned (OpenSpec.upto attrsBackSpec)

/-- 'consulatelaw10.AttrsEnds', WHERE WHAT IT READS IS OF BULK AT MOST 1048576: true; the input reads as it did. -/
def attrsEndsUptoRow : OpenClaim := { program := "yteofbpdogmajoaagreatdoor", sum := "382adf5792463005ae3d86ab51a84e0641dbe83068249327b0e8a36e9549b2bd", func := "consulate/consulatelaw10.AttrsEnds", spec := "attrsEnds", unfollowed := true, recurses := true, named := ["consulate/attrs.wanted"], apart := false, laid := [("consulate/attrs.wanted", laid_consulate_attrs_wanted)], narrowed := true }
def AttrsEndsUptoSaid : Prop := attrsEndsUptoRow.holds Tryz.pinned (OpenSpec.upto attrsEndsSpec)

/-- 'consulatelaw10.AttrsClasses', WHERE WHAT IT READS IS OF BULK AT MOST 1048576: true; the input reads as it did. -/
def attrsClassesUptoRow : OpenClaim := { program := "yteofbpdogmajoaagreatdoor", sum := "382adf5792463005ae3d86ab51a84e0641dbe83068249327b0e8a36e9549b2bd", func := "consulate/consulatelaw10.AttrsClasses", spec := "attrsClasses", unfollowed := true, recurses := true, named := ["consulate/attrs.wanted"], apart := false, laid := [("consulate/attrs.wanted", laid_consulate_attrs_wanted)], narrowed := true }
def AttrsClassesUptoSaid : Prop := attrsClassesUptoRow.holds Tryz.pinned (OpenSpec.upto attrsClassesSpec)

/-- 'consulatelaw10.AttrsKnown', WHERE WHAT IT READS IS OF BULK AT MOST 1048576: true; the input reads as it did. -/
def attrsKnownUptoRow : OpenClaim := { program := "yteofbpdogmajoaagreatdoor", sum := "382adf5792463005ae3d86ab51a84e0641dbe83068249327b0e8a36e9549b2bd", func := "consulate/consulatelaw10.AttrsKnown", spec := "attrsKnown", inPlace := ["internal/abi.NoEscape", "internal/bytealg.MakeNoZero"], unfollowed := true, recurses := true, named := ["consulate/attrs.wanted", "consulate/path.brackets", "internal/strconv.uint64pow10", "math/bits.deBruijn32tab", "math/bits.deBruijn64tab"], apart := false, laid := [("math/bits.deBruijn32tab", laid_math_bits_deBruijn32tab), ("math/bits.deBruijn64tab", laid_math_bits_deBruijn64tab), ("internal/strconv.uint64pow10", laid_internal_strconv_uint64pow10), ("consulate/path.brackets", laid_consulate_path_brackets), ("consulate/attrs.wanted", laid_consulate_attrs_wanted)], narrowed := true }
def AttrsKnownUptoSaid : Prop := attrsKnownUptoRow.holds Tryz.pinned (OpenSpec.upto attrsKnownSpec)

end Rows
end Go.Proofs.YteofbpdogmajoaaGreatDoor
