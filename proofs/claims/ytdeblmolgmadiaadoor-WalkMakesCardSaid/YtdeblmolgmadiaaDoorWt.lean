
/-
  What the calls of package scroll's writer do: Two, Four.
-/
import Derived.Test.YtdeblmolgmadiaaDoorWf
namespace Go.Proofs.YtdeblmolgmadiaaDoor
open Go.RowKit

/-- The slice value v reads as the numbers l of the kind k, in a row of the type ty. -/
def Us (w : World) (ty : TypeId) (k : IntKind) (v : Value) (l : List Nat) : Prop :=
  ∃ A c, v = .slice A l.length c ∧ l.length ≤ c ∧ c ≤ maxLen ∧ (0 < l.length → ∃ b o cs f, A = some ⟨b, o, none⟩ ∧ w.heap[b]? = some (.cells cs ty f) ∧ ∀ i (_ : i < l.length), cs[o + i]? = some (.int k ((l.getD i 0 : Nat) : Int)))
theorem Us.kept {S : Nat → Prop} {w w' : World} {ty : TypeId} {k : IntKind} {v : Value} {l : List Nat} (h : Us w ty k v l) (kp : Kept S w w') (hs : ∀ q, S q → ∀ cs f, w.heap[q]? ≠ some (.cells cs ty f)) : Us w' ty k v l := by
  obtain ⟨A, c, hv, hc, hm, hr⟩ := h
  refine ⟨A, c, hv, hc, hm, fun h0 => ?_⟩
  obtain ⟨b, o, cs, f, hA, hb, hi⟩ := hr h0
  exact ⟨b, o, cs, f, hA, (kp.block b (Array.getElem?_eq_some_iff.1 hb).1 (fun x => hs b x cs f hb)).trans hb, hi⟩
theorem Us.cell {w : World} {ty : TypeId} {k : IntKind} {A : Option Addr} {n c : Nat} {l : List Nat} (h : Us w ty k (.slice A n c) l) {i : Nat} (hi : i < l.length) : ∃ b o, A = some ⟨b, o, none⟩ ∧ w.cell? ⟨b, o + i, none⟩ = some (.int k ((l.getD i 0 : Nat) : Int)) := by
  obtain ⟨A', c', hv, hc, hm, hr⟩ := h
  injection hv with h1 h2 h3
  subst h1
  obtain ⟨b, o, cs, f, hA, hb, hcs⟩ := hr (by omega)
  exact ⟨b, o, hA, by rw [cell_of_row w b _ cs _ f hb]; exact hcs i hi⟩
theorem Us.form {w : World} {ty : TypeId} {k : IntKind} {v : Value} {l : List Nat} (h : Us w ty k v l) : ∃ A c, v = .slice A l.length c ∧ l.length ≤ c ∧ c ≤ maxLen := by
  obtain ⟨A, c, hv, hc, hm, _⟩ := h; exact ⟨A, c, hv, hc, hm⟩
theorem Us.made {w : World} {b : Nat} {ty : TypeId} {k : IntKind} {l : List Nat} {cs : Array Value} (h : Blk w b ty cs) (hl : cs.toList = l.map fun (n : Nat) => Value.int k (n : Int)) (hm : l.length ≤ maxLen) : Us w ty k (.slice (some ⟨b, 0, none⟩) l.length l.length) l :=
  ⟨_, _, rfl, Nat.le_refl _, hm, fun _ => ⟨b, 0, cs, _, rfl, h, fun i hi => by
    rw [Nat.zero_add, ← Array.getElem?_toList, hl, List.getElem?_map, List.getElem?_eq_getElem hi, List.getD_eq_getElem?_getD, List.getElem?_eq_getElem hi]; rfl⟩⟩

def two (n : Nat) : List UInt8 := [UInt8.ofNat (n / 256), UInt8.ofNat n]
def twos (l : List Nat) : List UInt8 := l.flatMap two
def fours (l : List Nat) : List UInt8 := l.flatMap fun n => twos [n / 65536, n % 65536]
theorem length_twos (l : List Nat) : (twos l).length = 2 * l.length := by
  induction l with
  | nil => rfl
  | cons a r ih => simp only [twos, List.flatMap_cons, List.length_append, List.length_cons] at ih ⊢; simp only [two, List.length_cons, List.length_nil]; omega
theorem length_fours (l : List Nat) : (fours l).length = 4 * l.length := by
  induction l with
  | nil => rfl
  | cons a r ih => simp only [fours, List.flatMap_cons, List.length_append, List.length_cons] at ih ⊢; rw [length_twos]; simp only [List.length_cons, List.length_nil]; omega
theorem twos_snoc (l : List Nat) (n : Nat) : twos (l ++ [n]) = twos l ++ two n := by unfold twos; rw [List.flatMap_append]; simp
theorem fours_snoc (l : List Nat) (n : Nat) : fours (l ++ [n]) = fours l ++ twos [n / 65536, n % 65536] := by unfold fours; rw [List.flatMap_append]; simp
theorem WS.lay_lay (s : WS) (a b : List UInt8) : (s.lay a).lay b = s.lay (a ++ b) := by
  unfold WS.lay
  by_cases h : s.e = 0
  · simp [h]
  · simp [h]
theorem WS.lay_nil (s : WS) : s.lay [] = s := by
  unfold WS.lay
  split
  · simp
  · rfl
theorem WS.lay_len (s : WS) (a : List UInt8) : (s.lay a).l.length ≤ s.l.length + a.length := by
  unfold WS.lay
  split
  · simp
  · omega
end Go.Proofs.YtdeblmolgmadiaaDoor
