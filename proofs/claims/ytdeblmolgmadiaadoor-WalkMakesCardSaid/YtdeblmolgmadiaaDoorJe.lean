
/-
  Paths: their form.
-/
import Derived.Test.YtdeblmolgmadiaaDoorJd
import Derived.Test.YtdeblmolgmadiaaDoorWt
import Derived.Test.YtdeblmolgmadiaaDoorWd
namespace Go.Proofs.YtdeblmolgmadiaaDoor
open Go.RowKit

namespace Pt
def nums (wide : Bool) (l : List Nat) : List UInt8 := if wide then fours l else twos l
def seg (wide : Bool) (s : Seg) : List UInt8 := [s.1, UInt8.ofNat s.2.length] ++ nums wide s.2
def form (wide : Bool) (p : List Seg) : List UInt8 := p.flatMap (seg wide)
/-- Is a number wide? -/
def hasW (p : List Seg) : Bool := (all p).any fun x => decide (65535 < x.2)
def bytes (p : List Seg) (wide : Bool) : List UInt8 × Nat := if may p = false then ([], 1) else if (!wide && hasW p) = true then ([], 24) else (form wide p, 0)
theorem nums_nil (wide : Bool) : nums wide [] = [] := by unfold nums; split <;> rfl
theorem nums_snoc (wide : Bool) (l : List Nat) (n : Nat) : nums wide (l ++ [n]) = nums wide l ++ nums wide [n] := by
  unfold nums
  split
  · rw [fours_snoc]; simp [fours]
  · rw [twos_snoc]; simp [twos]
theorem length_nums (wide : Bool) (l : List Nat) : (nums wide l).length ≤ 4 * l.length := by
  unfold nums
  split
  · rw [length_fours]; omega
  · rw [length_twos]; omega
theorem length_seg (wide : Bool) (s : Seg) : (seg wide s).length ≤ 2 + 4 * s.2.length := by
  unfold seg
  have := length_nums wide s.2
  simp
  omega
theorem form_append (wide : Bool) (a b : List Seg) : form wide (a ++ b) = form wide a ++ form wide b := List.flatMap_append
theorem form_nil (wide : Bool) : form wide [] = [] := rfl
theorem form_snoc (wide : Bool) (a : List Seg) (s : Seg) : form wide (a ++ [s]) = form wide a ++ seg wide s := by rw [form_append]; simp [form]
theorem length_form (wide : Bool) (p : List Seg) (h : ∀ s ∈ p, s.2.length ≤ 1000) : (form wide p).length ≤ 5000 * p.length := by
  induction p with
  | nil => simp [form]
  | cons s p ih =>
    have h1 := ih (fun x hx => h x (List.mem_cons_of_mem _ hx))
    have h2 := length_seg wide s
    have h3 := h s (List.mem_cons_self ..)
    show (seg wide s ++ form wide p).length ≤ _
    rw [List.length_append, List.length_cons]
    omega
end Pt

end Go.Proofs.YtdeblmolgmadiaaDoor
