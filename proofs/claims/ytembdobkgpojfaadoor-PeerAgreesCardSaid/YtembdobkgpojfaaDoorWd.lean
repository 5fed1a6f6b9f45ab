
/-
  What the calls of package scroll's writer do: Done; Two, Four; bytes.Equal.
-/
import Derived.Test.YtembdobkgpojfaaDoorWf
import Derived.Laws.IdiomStrings
import Derived.Laws.BytesString
namespace Go.Proofs.YtembdobkgpojfaaDoor
open Go.RowKit

theorem run_conv {w : World} {v : Value} {l : List UInt8} (h : By w v l) : (convert 29 9 v).run Tryd.prog w = .ok (.string ⟨l.toArray⟩) w := by
  obtain ⟨A, c, rfl, _, _⟩ := h.form
  have hs := h.src
  rw [run_convert_bytes_string w _ _ 5 A l.length c Tryd.underlying29 Tryd.underlying5 Tryd.underlying9]
  cases A with
  | none =>
    obtain rfl : l = [] := List.eq_nil_of_length_eq_zero (hs.2.1 rfl)
    rfl
  | some a =>
    have hl := run_loadCells_list (P := Tryd.prog) w a (bys l) (fun j u hu => hs.2.2.1 a rfl j u hu)
    rw [length_bys] at hl
    rw [run_bytesToString w a l.length c (l.map fun b => (b.toNat : Int)) (by rw [hl]; simp [bys, by8, Function.comp_def]), foldl_push_byteCells]
    simp

theorem by_equal (a b : Value) (l m : List UInt8) (w : World) (ha : By w a l) (hb : By w b m) :
    Calls Tryd.prog 21 #[a, b] w fun r w' => r = .returned (.bool (l == m)) ∧ w = w' := by
  have h1 := run_conv ha
  have h2 := run_conv hb
  clear ha hb
  go_enter Tryd.func21, Tryd.ntmps21
  go_wp2
  go_ret
  exact ⟨rfl, rfl⟩
end Go.Proofs.YtembdobkgpojfaaDoor
