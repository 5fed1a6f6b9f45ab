
/-
  Paths' texts, read: Parse.
-/
import Derived.Test.YtdeblmolgmadiaaDoorJl
namespace Go.Proofs.YtdeblmolgmadiaaDoor
open Go.RowKit

namespace Pt
theorem segL_suffix (b : List UInt8) : ∀ (f : Nat) (rest : List UInt8) (acc : List Nat) (err : Nat), (segL f b rest acc err).1 <:+ rest
  | 0, rest, acc, err => by unfold segL; exact List.suffix_refl _
  | f + 1, rest, acc, err => by
    unfold segL
    split
    · exact List.suffix_refl _
    · split
      · exact (segL_suffix b f _ _ _).trans ((List.drop_suffix _ _).trans (List.drop_suffix _ _))
      · exact List.drop_suffix _ _
theorem segM_suffix (k : Nat) (s : PS) : (segM k s).1.rest <:+ s.rest := by
  have h := (segL_suffix (betw k) (s.rest.length + 1) (s.rest.drop (opens k).length) [] s.err).trans (List.drop_suffix _ _)
  unfold segM
  simp only
  split
  · exact h
  · refine List.IsSuffix.trans ?_ h
    show Lib.trimPrefix _ _ <:+ _
    unfold Lib.trimPrefix
    split
    · exact List.drop_suffix _ _
    · exact List.suffix_refl _
theorem segM_read (k : Nat) (s : PS) : (segM k s).1.read.length ≤ s.read.length + 1 := by
  unfold segM
  simp only
  split
  · exact Nat.le_succ _
  · simp
theorem gap_len (k m : Nat) : 1 ≤ (gap k m).length := by unfold gap; split <;> simp
theorem gap_open (k : Nat) (r : List UInt8) : Lib.hasPrefix (r.drop (gap k (kindOf (r.drop 1))).length) (opens (kindOf (r.drop 1))) = true := by
  by_cases h : k = 2 ∧ kindOf (r.drop 1) = 2
  · rw [h.2]
    simp [opens, Lib.hasPrefix]
  · have : gap k (kindOf (r.drop 1)) = [32] := if_neg h
    rw [this]
    exact (kind_open (r.drop 1)).1
end Pt
theorem Asc.suffix {l m : List UInt8} (h : Asc l) (hs : m <:+ l) : Asc m := fun b hb => h b (hs.subset hb)

end Go.Proofs.YtdeblmolgmadiaaDoor
