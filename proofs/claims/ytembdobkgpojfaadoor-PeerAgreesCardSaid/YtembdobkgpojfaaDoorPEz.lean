
/-
  From a law of package peer to the given card: what the listed variables give, arguments opened.
-/
import Derived.Test.YtembdobkgpojfaaDoorLaw
import Derived.Test.YtembdobkgpojfaaDoorPEd
import Derived.Test.YtembdobkgpojfaaDoorTie
import Derived.Test.YtembdobkgpojfaaDoorCards
import Derived.LaidMore
import Derived.ChangeMaps5
import Derived.Stop.Joined
import Derived.Stop.LaidErr
import Derived.SevenTiedAt
import Derived.Lib.LaidTab
import Derived.Deep.Slices
import Derived.Deep.Strs
namespace Go.Proofs.YtembdobkgpojfaaDoor
open Go.ChangeShapes Go.WideShapes Go.ChangeAt Go.RowKit

/-- What the rows list. -/
def laidPa : List (String × DataW Unit) := Rows.peerAgreesRow.laid
def laidPs : List (String × DataW Unit) := Rows.peerSidesRow.laid
def laidPk : List (String × DataW Unit) := Rows.peerKnownRow.laid
theorem door_metPa (os : Os) (args : Array Value) : laidMetH Tryd.prog laidPa ((World.doorLaid Tryd.prog 52 os).forCall (fun _ _ => 0) ⟨#[], args, []⟩).memory :=
  laidMetH_of_parts3 (fuel := 8) (laidMet_of_run' 8 (by kernel_rfl) (by kernel_rfl)) (by kernel_rfl) (by kernel_rfl)
theorem door_metPs (os : Os) (args : Array Value) : laidMetH Tryd.prog laidPs ((World.doorLaid Tryd.prog 52 os).forCall (fun _ _ => 0) ⟨#[], args, []⟩).memory :=
  laidMetH_of_parts3 (fuel := 8) (laidMet_of_run' 8 (by kernel_rfl) (by kernel_rfl)) (by kernel_rfl) (by kernel_rfl)
theorem door_metPk (os : Os) (args : Array Value) : laidMetH Tryd.prog laidPk ((World.doorLaid Tryd.prog 52 os).forCall (fun _ _ => 0) ⟨#[], args, []⟩).memory :=
  laidMetH_of_parts3 (fuel := 8) (laidMet_of_run' 8 (by kernel_rfl) (by kernel_rfl)) (by kernel_rfl) (by kernel_rfl)
theorem readableP {ts : List TypeId} (h : (ts.all fun t => Tryd.prog.readableRec t && decide (t < Tryd.prog.types.size)) = true) : ∀ t ∈ ts, Tryd.prog.readableRec t = true ∧ t < Tryd.prog.types.size := fun t ht => by
  have := List.all_eq_true.1 h t ht
  simpa using this
def spD {H : Type} (i : Nat) : DataW H := .agg [.lit (.int .u32 (spF i : Nat)), .lit (.int .u32 (spL i : Nat)), .lit (.int .i64 (spK i : Nat))]
theorem spans_data {H : Type} : Rows.laid_consulate_number_spans (H := H) = .agg ((List.range 8).map spD) := by rfl
theorem cells_of_spans {H : Type} {enc : TypeId × Value → H} {w : World} {base : Nat} {sp : Nat → Bool} {held : Bool} {fuel : Nat} {cs : List Value} {p : List MemPlace}
    (h : DataW.trod enc Tryd.prog w base sp held fuel 138 cs = some (Rows.laid_consulate_number_spans, p)) : cs = spc.toList := by
  rw [spans_data] at h
  have hce : Tryd.prog.cellsOf 137 = 3 := by kernel_rfl
  have hct : Tryd.prog.cellsOf 138 = 24 := by kernel_rfl
  have hc1 : Tryd.prog.cellsOf 45 = 1 := by kernel_rfl
  have hc2 : Tryd.prog.cellsOf 3 = 1 := by kernel_rfl
  cases fuel with
  | zero => simp [DataW.trod] at h
  | succ fuel =>
    simp only [DataW.trod, Tryd.underlying138, hce, hct] at h
    split at h
    case isFalse => cases h
    next hl =>
    obtain ⟨xs, hm, hx⟩ := Option.map_eq_some_iff.1 h
    have hxs : xs.map (·.1) = (List.range 8).map (spD (H := H)) := by
      have := congrArg Prod.fst hx
      simpa using this
    have key : ∀ i, i < 8 → cs[i * 3]? = some (.int .u32 (spF i : Nat)) ∧ cs[i * 3 + 1]? = some (.int .u32 (spL i : Nat)) ∧ cs[i * 3 + 2]? = some (.int .i64 (spK i : Nat)) := fun i hi => by
      obtain ⟨b, hb, hf⟩ := Lib.mapM_at hm i i (by simp [hi])
      have h2 : (xs.map (·.1))[i]? = some b.1 := by simp [hb]
      rw [hxs] at h2
      have h3 : b.1 = spD i := by simpa [hi] using h2.symm
      obtain ⟨y0, y1, y2, n, rfl, _, e0, e1, e2⟩ := Go.Deep.trod_struct3 Tryd.underlying137 hf
      obtain ⟨z0, q0, rfl, _⟩ := DataW.trod_int Tryd.underlying45 e0
      obtain ⟨z1, q1, rfl, _⟩ := DataW.trod_int Tryd.underlying45 e1
      obtain ⟨z2, q2, rfl, _⟩ := DataW.trod_int Tryd.underlying3 e2
      simp only [spD, DataW.agg.injEq, List.cons.injEq, DataW.lit.injEq, Lit.int.injEq, true_and, and_true] at h3
      obtain ⟨rfl, rfl, rfl⟩ := h3
      simp only [hc1, hc2] at q0 q1 q2
      refine ⟨?_, ?_, ?_⟩
      · have := congrArg (·[0]?) q0
        simpa [List.getElem?_take, List.getElem?_drop] using this
      · have := congrArg (·[0]?) q1
        simpa [List.getElem?_take, List.getElem?_drop] using this
      · have := congrArg (·[0]?) q2
        simpa [List.getElem?_take, List.getElem?_drop] using this
    apply List.ext_getElem?
    intro j
    by_cases hj : j < 24
    · have k := key (j / 3) (by omega)
      have s := spc_at (j / 3) (by omega)
      obtain e | e | e : j = j / 3 * 3 ∨ j = j / 3 * 3 + 1 ∨ j = j / 3 * 3 + 2 := by omega
      · rw [e, k.1, s.1]
      · rw [e, k.2.1, s.2.1]
      · rw [e, k.2.2, s.2.2]
    · rw [List.getElem?_eq_none (by omega), List.getElem?_eq_none (by have : spc.toList.length = 24 := rfl; omega)]
theorem spans_of {W : World} {r : List (String × DataW Unit)} (h : laidMet Tryd.prog (("consulate/number.spans", Rows.laid_consulate_number_spans) :: r) W) : Spans W := by
  obtain ⟨ps, ⟨g', t', cs, fuel, p, q, hg', ht', hvar, hd, _, _⟩, _⟩ := h
  obtain rfl := Option.some.inj ((show Tryd.prog.globalNamed "consulate/number.spans" = some 4 by kernel_rfl).symm.trans hg')
  obtain rfl := Option.some.inj ((show (Tryd.prog.globals[4]?).map (·.type) = some 138 by kernel_rfl).symm.trans ht')
  have hcs := cells_of_spans hd
  have e : cs = spc := by cases cs; simp only at hcs; rw [hcs]
  subst e
  unfold World.var? at hvar
  rw [hg'] at hvar
  simp only [Option.bind_some] at hvar
  split at hvar
  next c t fr hh =>
    injection hvar with hvar
    subst hvar
    exact ⟨t, fr, hh⟩
  next => cases hvar
theorem rdc_of {W : World} {r : List (String × DataW Unit)} (h : laidMet Tryd.prog (("consulate/caps.ipv4", Rows.laid_consulate_caps_ipv4) :: r) W) : RdC W := by
  have hl : (Rows.laid_consulate_caps_ipv4 : DataW Unit) = Lib.tabData .u8 [0, 1, 0, 1] := by rfl
  rw [hl] at h
  have ht : Lib.TabIs Tryd.prog W "consulate/caps.ipv4" .u8 [0, 1, 0, 1] := Lib.tabIs_of_head (g := 3) (t := 134) (by kernel_rfl) (by kernel_rfl) Tryd.underlying134 Tryd.underlying5 (by kernel_rfl) (by kernel_rfl) h
  have hg : Tryd.prog.globalNamed "consulate/caps.ipv4" = some 3 := by kernel_rfl
  exact ⟨ht.cell hg 0 (by decide), ht.cell hg 1 (by decide), ht.cell hg 2 (by decide), ht.cell hg 3 (by decide)⟩
theorem of_laidPa {W : World} (h : laidMetH Tryd.prog laidPa W) : Spans W := by
  rw [MakeChecks.laidMetH_plain _ _ _ (by kernel_rfl)] at h
  exact spans_of h
theorem of_laidPs {W : World} (h : laidMetH Tryd.prog laidPs W) : RdC W ∧ Spans W := by
  rw [MakeChecks.laidMetH_plain _ _ _ (by kernel_rfl)] at h
  exact ⟨rdc_of h, spans_of (laidMet.tail h)⟩
theorem of_laidPk {W : World} (h : laidMetH Tryd.prog laidPk W) : RdC W ∧ Spans W := by
  rw [MakeChecks.laidMetH_plain _ _ _ (by kernel_rfl)] at h
  exact ⟨rdc_of h, spans_of (laidMet.tail h)⟩
theorem array2P {α : Type} {cs : Array α} (h : cs.size = 2) : ∃ c0 c1, cs = #[c0, c1] := by
  obtain ⟨l⟩ := cs
  match l, h with
  | [c0, c1], _ => exact ⟨c0, c1, rfl⟩
set_option maxRecDepth 100000 in
theorem open_a2u8 {H : Type} {enc : TypeId × Value → H} {W : World} {base : Nat} {v : Value} {d : DataW H} {p : List MemPlace} (hv : Value.okWide Tryd.prog W .any base 93 v)
    (h : DataW.Trod enc Tryd.prog W 0 (fun _ => true) true 93 v d p) : ∃ a b : Nat, v = .agg #[.int .u8 (a : Int), .int .u8 (b : Int)] ∧ a < 256 ∧ b < 256 := by
  simp only [Value.okWide, Tryd.underlying93] at hv
  obtain ⟨cs, rfl, hsz, -⟩ := hv
  have hc : Tryd.prog.cellsOf 93 = 2 := by kernel_rfl
  have hc1 : Tryd.prog.cellsOf 5 = 1 := by kernel_rfl
  obtain ⟨fuel, hf⟩ := h
  obtain ⟨xs, m, _, _, hl, hx, hi⟩ := DataW.trod_array Tryd.underlying93 hf
  rw [hc] at hl
  have hl' : cs.size = 2 := by simpa [Value.cells] using hl
  obtain ⟨c0, c1, rfl⟩ := array2P hl'
  have num : ∀ i (h : i < 2), ∃ z : Nat, (#[c0, c1] : Array Value)[i]? = some (.int .u8 (z : Int)) ∧ z < 256 := fun i h4 => by
    have ht := hi i h4
    rw [hc1, Nat.mul_one] at ht
    have hxi : xs[i]? = some (xs[i]'(by omega)) := List.getElem?_eq_getElem (by omega)
    have hlt : i < (#[c0, c1] : Array Value).toList.length := by simpa using h4
    have hone : ((Value.agg #[c0, c1]).cells.toList.drop i).take 1 = [(#[c0, c1] : Array Value).toList[i]] := by
      show ((#[c0, c1] : Array Value).toList.drop i).take 1 = _
      rw [List.drop_eq_getElem_cons hlt]; rfl
    rw [hone, hxi] at ht
    obtain ⟨z, e0, _, w0⟩ := DataW.trod_int Tryd.underlying5 ht
    injection e0 with e0
    have hr : 0 ≤ z ∧ z ≤ 255 := by simpa [Lit.wf, IntKind.min, IntKind.max, IntKind.signed, IntKind.bits] using w0
    refine ⟨z.toNat, ?_, by omega⟩
    rw [show ((z.toNat : Nat) : Int) = z by omega, ← e0, ← Array.getElem?_toList, List.getElem?_eq_getElem hlt]
  obtain ⟨z0, h0, b0⟩ := num 0 (by omega)
  obtain ⟨z1, h1, b1⟩ := num 1 (by omega)
  simp at h0 h1
  subst h0 h1
  exact ⟨z0, z1, rfl, b0, b1⟩

set_option maxRecDepth 100000 in
theorem open_a2u16 {H : Type} {enc : TypeId × Value → H} {W : World} {base : Nat} {v : Value} {d : DataW H} {p : List MemPlace} (hv : Value.okWide Tryd.prog W .any base 94 v)
    (h : DataW.Trod enc Tryd.prog W 0 (fun _ => true) true 94 v d p) : ∃ a b : Nat, v = .agg #[.int .u16 (a : Int), .int .u16 (b : Int)] ∧ a < 65536 ∧ b < 65536 := by
  simp only [Value.okWide, Tryd.underlying94] at hv
  obtain ⟨cs, rfl, hsz, -⟩ := hv
  have hc : Tryd.prog.cellsOf 94 = 2 := by kernel_rfl
  have hc1 : Tryd.prog.cellsOf 75 = 1 := by kernel_rfl
  obtain ⟨fuel, hf⟩ := h
  obtain ⟨xs, m, _, _, hl, hx, hi⟩ := DataW.trod_array Tryd.underlying94 hf
  rw [hc] at hl
  have hl' : cs.size = 2 := by simpa [Value.cells] using hl
  obtain ⟨c0, c1, rfl⟩ := array2P hl'
  have num : ∀ i (h : i < 2), ∃ z : Nat, (#[c0, c1] : Array Value)[i]? = some (.int .u16 (z : Int)) ∧ z < 65536 := fun i h4 => by
    have ht := hi i h4
    rw [hc1, Nat.mul_one] at ht
    have hxi : xs[i]? = some (xs[i]'(by omega)) := List.getElem?_eq_getElem (by omega)
    have hlt : i < (#[c0, c1] : Array Value).toList.length := by simpa using h4
    have hone : ((Value.agg #[c0, c1]).cells.toList.drop i).take 1 = [(#[c0, c1] : Array Value).toList[i]] := by
      show ((#[c0, c1] : Array Value).toList.drop i).take 1 = _
      rw [List.drop_eq_getElem_cons hlt]; rfl
    rw [hone, hxi] at ht
    obtain ⟨z, e0, _, w0⟩ := DataW.trod_int Tryd.underlying75 ht
    injection e0 with e0
    have hr : 0 ≤ z ∧ z ≤ 65535 := by simpa [Lit.wf, IntKind.min, IntKind.max, IntKind.signed, IntKind.bits] using w0
    refine ⟨z.toNat, ?_, by omega⟩
    rw [show ((z.toNat : Nat) : Int) = z by omega, ← e0, ← Array.getElem?_toList, List.getElem?_eq_getElem hlt]
  obtain ⟨z0, h0, b0⟩ := num 0 (by omega)
  obtain ⟨z1, h1, b1⟩ := num 1 (by omega)
  simp at h0 h1
  subst h0 h1
  exact ⟨z0, z1, rfl, b0, b1⟩

end Go.Proofs.YtembdobkgpojfaaDoor
