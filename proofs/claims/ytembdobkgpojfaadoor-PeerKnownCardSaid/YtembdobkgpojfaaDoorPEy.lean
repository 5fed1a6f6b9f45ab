
/-
  The frame of PeerKnown's card: the table of names, too.
-/
import Derived.Test.YtembdobkgpojfaaDoorPEz
import Derived.Test.YtembdobkgpojfaaDoorPEj
namespace Go.Proofs.YtembdobkgpojfaaDoor
open Go.ChangeShapes Go.WideShapes Go.ChangeAt Go.RowKit

def nmL (i : Nat) : List UInt8 := ([[110, 111, 110, 101], [105, 110, 115, 105, 100, 101], [99, 111, 110, 102, 101, 100], [111, 117, 116, 115, 105, 100, 101]] : List (List UInt8)).getD i []
theorem names_data {H : Type} : Rows.laid_consulate_peer_names (H := H) = .agg ((List.range 4).map fun i => .lit (.string (nmL i))) := by rfl
theorem cells_of_names {H : Type} {enc : TypeId × Value → H} {w : World} {base : Nat} {sp : Nat → Bool} {held : Bool} {fuel : Nat} {cs : List Value} {p : List MemPlace}
    (h : DataW.trod enc Tryd.prog w base sp held fuel 114 cs = some (Rows.laid_consulate_peer_names, p)) : ∀ i, i < 4 → cs[i]? = some (.string ⟨(nmL i).toArray⟩) := by
  rw [names_data] at h
  have hce : Tryd.prog.cellsOf 9 = 1 := by kernel_rfl
  have hct : Tryd.prog.cellsOf 114 = 4 := by kernel_rfl
  cases fuel with
  | zero => simp [DataW.trod] at h
  | succ fuel =>
    simp only [DataW.trod, Tryd.underlying114, hce, hct] at h
    split at h
    case isFalse => cases h
    next hl =>
    obtain ⟨xs, hm, hx⟩ := Option.map_eq_some_iff.1 h
    have hxs : xs.map (·.1) = (List.range 4).map (fun i => (.lit (.string (nmL i)) : DataW H)) := by
      have := congrArg Prod.fst hx
      simpa using this
    intro i hi
    obtain ⟨b, hb, hf⟩ := Lib.mapM_at hm i i (by simp [hi])
    have h2 : (xs.map (·.1))[i]? = some b.1 := by simp [hb]
    rw [hxs] at h2
    have h3 : b.1 = .lit (.string (nmL i)) := by simpa [hi] using h2.symm
    obtain ⟨z, q, r, _⟩ := DataW.trod_string Tryd.underlying9 hf
    rw [r] at h3
    simp only [DataW.lit.injEq, Lit.string.injEq] at h3
    have hz : z = ⟨(nmL i).toArray⟩ := by
      obtain ⟨d⟩ := z
      rw [← h3]
    have := congrArg (·[0]?) q
    rw [← hz]
    simpa [List.getElem?_take, List.getElem?_drop] using this
theorem rdn_of {W : World} {r : List (String × DataW Unit)} (h : laidMet Tryd.prog (("consulate/peer.names", Rows.laid_consulate_peer_names) :: r) W) : RdN W := by
  obtain ⟨ps, ⟨g', t', cs, fuel, p, q, hg', ht', hvar, hd, _, _⟩, _⟩ := h
  obtain rfl := Option.some.inj ((show Tryd.prog.globalNamed "consulate/peer.names" = some 0 by kernel_rfl).symm.trans hg')
  obtain rfl := Option.some.inj ((show (Tryd.prog.globals[0]?).map (·.type) = some 114 by kernel_rfl).symm.trans ht')
  have hcs := cells_of_names hd 2 (by decide)
  unfold World.var? at hvar
  rw [hg'] at hvar
  simp only [Option.bind_some] at hvar
  split at hvar
  next c t fr hh =>
    injection hvar with hvar
    subst hvar
    unfold RdN
    rw [cell_of_row W _ 2 _ t fr hh, ← Array.getElem?_toList, hcs]
    rfl
  next => cases hvar
theorem of_laidPk3 {W : World} (h : laidMetH Tryd.prog laidPk W) : RdC W ∧ Spans W ∧ RdN W := by
  rw [MakeChecks.laidMetH_plain _ _ _ (by kernel_rfl)] at h
  exact ⟨rdc_of h, spans_of (laidMet.tail h), rdn_of (laidMet.tail (laidMet.tail h))⟩
end Go.Proofs.YtembdobkgpojfaaDoor
