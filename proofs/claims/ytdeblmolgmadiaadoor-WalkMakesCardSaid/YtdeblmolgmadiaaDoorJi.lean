
/-
  Paths: Bytes.
-/
import Derived.Test.YtdeblmolgmadiaaDoorJh
namespace Go.Proofs.YtdeblmolgmadiaaDoor
open Go.RowKit

theorem Pt.may_len {l : List Seg} (h : Pt.may l = true) : l.length ≤ 32 ∧ ∀ s ∈ l, s.2.length ≤ 255 := by
  unfold Pt.may at h
  rw [Bool.and_eq_true, List.all_eq_true] at h
  refine ⟨by simpa using h.2, fun s hs => ?_⟩
  have := h.1 s hs
  unfold Pt.may1 at this
  simp only [Bool.and_eq_true, decide_eq_true_eq] at this
  exact this.2
theorem Pt.not_wide {l : List Seg} (h : Pt.hasW l = false) : ∀ s ∈ l, ∀ n ∈ s.2, n < 65536 := by
  intro s hs n hn
  unfold Pt.hasW at h
  rw [List.any_eq_false] at h
  have := h (s.1, n) (by unfold Pt.all; exact List.mem_flatMap.2 ⟨s, hs, List.mem_map.2 ⟨n, hn, rfl⟩⟩)
  simp at this
  omega

end Go.Proofs.YtdeblmolgmadiaaDoor
