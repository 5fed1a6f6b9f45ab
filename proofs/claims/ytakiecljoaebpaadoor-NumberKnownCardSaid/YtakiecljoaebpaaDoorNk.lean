
/-
  What the listed table of kinds gives.
-/
import Derived.Test.YtakiecljoaebpaaDoorNz
import Derived.Test.YtakiecljoaebpaaDoorNi
import Derived.Deep.Strs
namespace Go.Proofs.YtakiecljoaebpaaDoor
open Go.ChangeShapes Go.WideShapes Go.ChangeAt Go.RowKit

def spD {H : Type} (i : Nat) : DataW H := .agg [.lit (.int .u32 (spF i : Nat)), .lit (.int .u32 (spL i : Nat)), .lit (.int .i64 (spK i : Nat))]
theorem spans_data {H : Type} : Rows.laid_consulate_number_spans (H := H) = .agg ((List.range 8).map spD) := by rfl
theorem cells_of_spans {H : Type} {enc : TypeId × Value → H} {w : World} {base : Nat} {sp : Nat → Bool} {held : Bool} {fuel : Nat} {cs : List Value} {p : List MemPlace}
    (h : DataW.trod enc Tryd.prog w base sp held fuel 47 cs = some (Rows.laid_consulate_number_spans, p)) : cs = spc.toList := by
  rw [spans_data] at h
  have hce : Tryd.prog.cellsOf 46 = 3 := by kernel_rfl
  have hct : Tryd.prog.cellsOf 47 = 24 := by kernel_rfl
  have hc1 : Tryd.prog.cellsOf 23 = 1 := by kernel_rfl
  have hc2 : Tryd.prog.cellsOf 3 = 1 := by kernel_rfl
  cases fuel with
  | zero => simp [DataW.trod] at h
  | succ fuel =>
    simp only [DataW.trod, Tryd.underlying47, hce, hct] at h
    split at h
    case isFalse => cases h
    next hl =>
    obtain ⟨xs, hm, hx⟩ := Option.map_eq_some_iff.1 h
    have hxs : xs.map (·.1) = (List.range 8).map (spD (H := H)) := by
      have := congrArg Prod.fst hx
      simpa using this
    have key : ∀ i, i < 8 → cs[i * 3]? = some (.int .u32 (spF i : Nat)) ∧ cs[i * 3 + 1]? = some (.int .u32 (spL i : Nat)) ∧ cs[i * 3 + 2]? = some (.int .i64 (spK i : Nat)) := fun i hi => by
      obtain ⟨b, hb, hf⟩ := Lib.mapM_at hm i i (by simp [hi])
      have h2 : (xs.map (·.1))[i]? = some b.1 := by simp [hb]
      rw [hxs] at h2
      have h3 : b.1 = spD i := by simpa [hi] using h2.symm
      obtain ⟨y0, y1, y2, n, rfl, _, e0, e1, e2⟩ := Go.Deep.trod_struct3 Tryd.underlying46 hf
      obtain ⟨z0, q0, rfl, _⟩ := DataW.trod_int Tryd.underlying23 e0
      obtain ⟨z1, q1, rfl, _⟩ := DataW.trod_int Tryd.underlying23 e1
      obtain ⟨z2, q2, rfl, _⟩ := DataW.trod_int Tryd.underlying3 e2
      simp only [spD, DataW.agg.injEq, List.cons.injEq, DataW.lit.injEq, Lit.int.injEq, true_and, and_true] at h3
      obtain ⟨rfl, rfl, rfl⟩ := h3
      simp only [hc1, hc2] at q0 q1 q2
      refine ⟨?_, ?_, ?_⟩
      · have := congrArg (·[0]?) q0
        simpa [List.getElem?_take, List.getElem?_drop] using this
      · have := congrArg (·[0]?) q1
        simpa [List.getElem?_take, List.getElem?_drop] using this
      · have := congrArg (·[0]?) q2
        simpa [List.getElem?_take, List.getElem?_drop] using this
    apply List.ext_getElem?
    intro j
    by_cases hj : j < 24
    · have k := key (j / 3) (by omega)
      have s := spc_at (j / 3) (by omega)
      obtain e | e | e : j = j / 3 * 3 ∨ j = j / 3 * 3 + 1 ∨ j = j / 3 * 3 + 2 := by omega
      · rw [e, k.1, s.1]
      · rw [e, k.2.1, s.2.1]
      · rw [e, k.2.2, s.2.2]
    · rw [List.getElem?_eq_none (by omega), List.getElem?_eq_none (by have : spc.toList.length = 24 := rfl; omega)]
theorem spans6 {W : World} (h : laidMetH Tryd.prog laid6 W) : Spans W := by
  rw [MakeChecks.laidMetH_plain _ _ _ (by kernel_rfl)] at h
  have h := laidMet.tail (laidMet.tail (laidMet.tail (laidMet.tail (laidMet.tail h))))
  obtain ⟨ps, ⟨g', t', cs, fuel, p, q, hg', ht', hvar, hd, _, _⟩, _⟩ := h
  obtain rfl := Option.some.inj ((show Tryd.prog.globalNamed "consulate/number.spans" = some 0 by kernel_rfl).symm.trans hg')
  obtain rfl := Option.some.inj ((show (Tryd.prog.globals[0]?).map (·.type) = some 47 by kernel_rfl).symm.trans ht')
  have hcs := cells_of_spans hd
  have e : cs = spc := by cases cs; simp only at hcs; rw [hcs]
  subst e
  unfold World.var? at hvar
  rw [hg'] at hvar
  simp only [Option.bind_some] at hvar
  split at hvar
  next c t fr hh =>
    injection hvar with hvar
    subst hvar
    exact ⟨t, fr, hh⟩
  next => cases hvar
end Go.Proofs.YtakiecljoaebpaaDoor
