
/-
  What the calls of package scroll's writer do: Done; Two, Four; bytes.Equal.
-/
import Derived.Test.YtdeblmolgmadiaaDoorWf
import Derived.Laws.IdiomStrings
import Derived.Laws.BytesString
namespace Go.Proofs.YtdeblmolgmadiaaDoor
open Go.RowKit

theorem run_conv {w : World} {v : Value} {l : List UInt8} (h : By w v l) : (convert 80 9 v).run Tryd.prog w = .ok (.string ⟨l.toArray⟩) w := by
  obtain ⟨A, c, rfl, _, _⟩ := h.form
  have hs := h.src
  rw [run_convert_bytes_string w _ _ 5 A l.length c Tryd.underlying80 Tryd.underlying5 Tryd.underlying9]
  cases A with
  | none =>
    obtain rfl : l = [] := List.eq_nil_of_length_eq_zero (hs.2.1 rfl)
    rfl
  | some a =>
    have hl := run_loadCells_list (P := Tryd.prog) w a (bys l) (fun j u hu => hs.2.2.1 a rfl j u hu)
    rw [length_bys] at hl
    rw [run_bytesToString w a l.length c (l.map fun b => (b.toNat : Int)) (by rw [hl]; simp [bys, by8, Function.comp_def]), foldl_push_byteCells]
    simp

end Go.Proofs.YtdeblmolgmadiaaDoor
