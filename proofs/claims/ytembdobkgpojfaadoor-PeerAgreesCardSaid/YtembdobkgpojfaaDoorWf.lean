
/-
  What the calls of package scroll's writer do: Fill.
-/
import Derived.Test.YtembdobkgpojfaaDoorWh
import Derived.Deep.LoopGhost
namespace Go.Proofs.YtembdobkgpojfaaDoor
open Go.RowKit

theorem own_open {w : World} {base e size : Nat} {v : Value} {n : Nat} {xs : List Value} (h : w.ownsRow base e size v n xs) (h0 : 0 < n) :
    ∃ g cap cur, v = .slice (some ⟨g, 0, none⟩) n cap ∧ Blk w g e cur ∧ n ≤ cap ∧ cap ≤ maxLen ∧ cur.size = cap * size ∧ cur.toList.take (n * size) = xs := by
  rcases h.2 with ⟨rfl, h2⟩ | ⟨g, cap, cur, rfl, _, hh, hn, hm, hs, ht⟩
  · omega
  · exact ⟨g, cap, cur, rfl, hh, hn, hm, hs, ht⟩
theorem own_set {w : World} {e : TypeId} {g n c : Nat} {l : List UInt8} (h : w.ownsRow 0 e 1 (.slice (some ⟨g, 0, none⟩) n c) n (bys l)) {j : Nat} (hj : j < n) (b : UInt8) :
    (w.setCell ⟨g, j, none⟩ (by8 b)).ownsRow 0 e 1 (.slice (some ⟨g, 0, none⟩) n c) n (bys (l.set j b)) := by
  obtain ⟨g', cap, cur, hv, hb, hn, hm, hs, ht⟩ := own_open h (by omega)
  injection hv with h1 h2 h3
  injection h1 with h1
  injection h1 with h1
  subst h1 h3
  have hlen := h.1
  rw [length_bys] at hlen
  refine ⟨by rw [length_bys, List.length_set]; exact hlen, .inr ⟨g, c, _, rfl, Nat.zero_le _, hb.put j _, hn, hm, by simpa using hs, ?_⟩⟩
  unfold bys at ht ⊢
  rw [List.map_set, ← ht, Array.toList_setIfInBounds, List.take_set]

theorem by8_of {x : Int} {m : Nat} (h : x = ((m % 256 : Nat) : Int)) : (.int .u8 x : Value) = by8 (UInt8.ofNat m) := by
  unfold by8
  rw [h, UInt8.toNat_ofNat']

theorem own_shrink {w : World} {base e size g n c : Nat} {xs : List Value} (h : w.ownsRow base e size (.slice (some ⟨g, 0, none⟩) n c) n xs) {m : Nat} (hm : m ≤ n) :
    w.ownsRow base e size (.slice (some ⟨g, 0, none⟩) m c) m (xs.take (m * size)) := by
  rcases h.2 with ⟨h1, _⟩ | ⟨g', cap, cur, hv, hb, hh, hn, hx, hs, ht⟩
  · cases h1
  · injection hv with h1 h2 h3
    injection h1 with h1
    injection h1 with h1
    subst h1 h3
    have hle : m * size ≤ n * size := Nat.mul_le_mul_right _ hm
    refine ⟨by rw [List.length_take, h.1]; omega, .inr ⟨g, c, cur, rfl, hb, hh, by omega, hx, hs, ?_⟩⟩
    rw [← ht, List.take_take, Nat.min_eq_left hle]

end Go.Proofs.YtembdobkgpojfaaDoor
