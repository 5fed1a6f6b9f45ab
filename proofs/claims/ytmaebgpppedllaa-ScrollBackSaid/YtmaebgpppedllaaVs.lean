
/-
  The document's own writer (package consulateref01) in memory; its Lay, Hold, Done.
-/
import Derived.Test.YtmaebgpppedllaaWt
namespace Go.Proofs.Ytmaebgpppedllaa
open Go.RowKit

/-- The cells of the document's holds: the place, how wide. -/
def rcs (l : List (Nat × Nat)) : List Value := l.flatMap fun h => [.int .i64 ((h.2 - h.1 : Nat) : Int), .int .i64 (h.1 : Int)]
theorem length_rcs (l : List (Nat × Nat)) : (rcs l).length = l.length * 2 := by
  induction l with
  | nil => rfl
  | cons a r ih => simp only [rcs, List.flatMap_cons, List.length_append, List.length_cons, List.length_nil] at ih ⊢; omega
theorem rcs_append (a b : List (Nat × Nat)) : rcs (a ++ b) = rcs a ++ rcs b := List.flatMap_append

/-- It is not too long. -/
def WS.small (s : WS) : Prop := s.l.length ≤ 1099511627776 ∧ s.hs.length ≤ 1099511627776
theorem WS.ok.small {s : WS} (h : s.ok) : s.small := ⟨h.2.1, h.2.2⟩

section
variable {w w' : World} {F : Nat → Prop} {q : Nat} {s : WS}
end
theorem v_cells {w : World} {p : Nat} {t : TypeId} {a b c : Value} (h : Blk w p t #[a, b, c]) :
    (w.cell? ⟨p, 0, none⟩ = some a ∧ w.cell? ⟨p, 1, none⟩ = some b ∧ w.cell? ⟨p, 2, none⟩ = some c) ∧ (w.frozen? ⟨p, 0, none⟩ = false ∧ w.frozen? ⟨p, 1, none⟩ = false ∧ w.frozen? ⟨p, 2, none⟩ = false) :=
  ⟨⟨h.cell 0, h.cell 1, h.cell 2⟩, h.free 0, h.free 1, h.free 2⟩

/-- The bytes of n, so many, the highest first. -/
def be (n wide : Nat) : List UInt8 := (List.range wide).map fun i => UInt8.ofNat (n / 256 ^ (wide - 1 - i))
theorem be_one (n : Nat) : be n 1 = [UInt8.ofNat n] := by simp [be, List.range_succ]
theorem be_two (n : Nat) : be n 2 = two n := by simp [be, List.range_succ, two]
theorem ofNat_mod (a b : Nat) (h : a % 256 = b % 256) : UInt8.ofNat a = UInt8.ofNat b := by
  apply UInt8.toNat_inj.1
  rw [UInt8.toNat_ofNat', UInt8.toNat_ofNat']
  exact h
theorem be_four (n : Nat) : be n 4 = fours [n] := by
  simp only [be, List.range_succ, List.range_zero, List.nil_append, List.map_cons, List.map_nil, fours, List.flatMap_cons, List.flatMap_nil, twos, two, List.append_nil, List.cons_append]
  refine congr (congrArg _ (ofNat_mod _ _ ?_)) (congr (congrArg _ (ofNat_mod _ _ ?_)) (congr (congrArg _ (ofNat_mod _ _ ?_)) (congrArg (fun x => [x]) (ofNat_mod _ _ ?_)))) <;> omega
end Go.Proofs.Ytmaebgpppedllaa
