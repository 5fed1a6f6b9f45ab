
/-
  The law CapsReads: it returns true, whatever it is given, and leaves what was there as it was.
-/
import Derived.Test.YtembdobkgpojfaaDoorCg
import Derived.Test.YtembdobkgpojfaaDoorLaw
namespace Go.Proofs.YtembdobkgpojfaaDoor
open Go.RowKit

theorem Cp.forms_ge : ∀ (m : List Cp), m.length ≤ (Cp.forms m).length
  | [] => Nat.zero_le _
  | c :: m => by
    have := Cp.forms_ge m
    rw [Cp.forms_cons, List.length_append, Cp.form_len, List.length_cons]
    omega
theorem Cp.out_small : ∀ (x : List UInt8) (acc : List Cp), (Cp.out acc x).1.length ≤ acc.length + x.length ∧ (Cp.out acc x).2.1 ≤ 2 ∧ (Cp.out acc x).2.2 ≤ 4 := by
  intro x acc
  by_cases h : (Cp.out acc x).2.1 = 0
  · have h2 := Cp.out_none x acc h
    obtain ⟨m, h3, _, h5⟩ := Cp.out_len x acc (Cp.out acc x).1 (Prod.ext rfl (Prod.ext h h2))
    refine ⟨?_, by omega, by omega⟩
    rw [h3, List.length_append]
    by_cases hm : m = []
    · subst hm; simp
    · have := h5 hm
      have : m.length ≤ (Cp.forms m).length := by
        exact Cp.forms_ge m
      omega
  · obtain ⟨h1, h2, h3⟩ := Cp.out_fault x acc h
    rw [h1]
    refine ⟨by simp, by omega, by omega⟩

end Go.Proofs.YtembdobkgpojfaaDoor
