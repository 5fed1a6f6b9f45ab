
/-
  What the program's Bytes of chapter 5 does: the call itself.
-/
import Derived.Test.YtembdobkgpojfaaDoorCi
namespace Go.Proofs.YtembdobkgpojfaaDoor
open Go.RowKit

theorem Cp.forms_le : ∀ (m : List Cp), (∀ c ∈ m, c.2.length ≤ 253) → (Cp.forms m).length ≤ 255 * m.length
  | [], _ => Nat.le_refl _
  | c :: m, h => by
    have h1 := h c (List.mem_cons_self ..)
    have h2 := Cp.forms_le m (fun d hd => h d (List.mem_cons_of_mem _ hd))
    rw [Cp.forms_cons, List.length_append, Cp.form_len, List.length_cons]
    omega
theorem Cp.forms_snoc (m : List Cp) (c : Cp) : Cp.forms (m ++ [c]) = Cp.forms m ++ Cp.form c := by
  rw [Cp.forms_append]
  show _ ++ (Cp.form c ++ []) = _
  rw [List.append_nil]
theorem Cp.long_none {l : List Cp} (h : l.any longC = false) : ∀ c ∈ l, c.2.length ≤ 253 := fun c hc => by
  by_cases hx : c.2.length ≤ 253
  · exact hx
  · have : l.any longC = true := List.any_eq_true.2 ⟨c, hc, by unfold longC; simpa using hx⟩
    rw [h] at this
    cases this
theorem WS.fill_last {F : List UInt8} (hF : F.length < 256) : (WS.mk ([2, 0] ++ F) [(1, 2)] 0).fill = WS.mk (2 :: UInt8.ofNat F.length :: F) [] 0 := by
  unfold WS.fill
  rw [if_pos rfl]
  simp only [List.getLast?_singleton, List.dropLast_singleton]
  rw [if_neg (by simp; omega)]
  simp [WS.tell]

end Go.Proofs.YtembdobkgpojfaaDoor
