
/-
  Paths' texts: as plain data; a segment's text.
-/
import Derived.Test.YtdeblmolgmadiaaGreatDoorJk
import Derived.Test.YtdeblmolgmadiaaGreatDoorNp
namespace Go.Proofs.YtdeblmolgmadiaaGreatDoor
open Go.RowKit

namespace Pt
/-- A segment's text. -/
def segT (s : Seg) : List UInt8 := opens s.1.toNat ++ Lib.join (s.2.map Lib.decDigits) (betw s.1.toNat) ++ ends s.1.toNat
/-- What stands ahead of the k-th segment. -/
def ahead (l : List Seg) (k : Nat) : List UInt8 := if k = 0 then [] else gap (l.getD (k - 1) (0, [])).1.toNat (l.getD k (0, [])).1.toNat
/-- The text of the first k segments. -/
def tx (l : List Seg) : Nat → List UInt8
  | 0 => []
  | k + 1 => tx l k ++ (ahead l k ++ segT (l.getD k (0, [])))
/-- A path's text. -/
def text (l : List Seg) : List UInt8 := if may l then (if l = [] then [45] else tx l l.length) else []
theorem lens_dec (l : List Nat) (h : ∀ n ∈ l, n < 4294967296) : Lib.lens (l.map Lib.decDigits) ≤ 10 * l.length := by
  induction l with
  | nil => simp [Lib.lens]
  | cons n l ih =>
    have h1 := ih (fun m hm => h m (List.mem_cons_of_mem _ hm))
    have h2 := dec_len32 n (h n (List.mem_cons_self ..))
    unfold Lib.lens at h1 ⊢
    rw [List.map_cons, List.map_cons, List.sum_cons, List.length_cons]
    omega
theorem betw_len (k : Nat) : (betw k).length ≤ 1 := by unfold betw; split <;> simp
theorem opens_len (k : Nat) : (opens k).length ≤ 1 := by unfold opens; split <;> simp
theorem ends_len (k : Nat) : (ends k).length ≤ 1 := by unfold ends; split <;> simp
theorem join_len (k : Nat) (l : List Nat) (h : ∀ n ∈ l, n < 4294967296) : (Lib.join (l.map Lib.decDigits) (betw k)).length ≤ 11 * l.length := by
  cases l with
  | nil => simp [Lib.join_nil]
  | cons n l =>
    rw [List.map_cons, Lib.join_cons, List.length_append, Lib.joinTail_length, List.length_map]
    have h1 := lens_dec l (fun m hm => h m (List.mem_cons_of_mem _ hm))
    have h2 := dec_len32 n (h n (List.mem_cons_self ..))
    have h3 := betw_len k
    rw [List.length_cons]
    have h4 : (betw k).length * l.length ≤ 1 * l.length := Nat.mul_le_mul_right _ h3
    omega
theorem segT_len (s : Seg) (h : ∀ n ∈ s.2, n < 4294967296) : (segT s).length ≤ 11 * s.2.length + 2 := by
  unfold segT
  rw [List.length_append, List.length_append]
  have := join_len s.1.toNat s.2 h
  have := opens_len s.1.toNat
  have := ends_len s.1.toNat
  omega
end Pt
end Go.Proofs.YtdeblmolgmadiaaGreatDoor
