
/-
  What the calls of package scroll's reader do: Open.
-/
import Derived.Test.YtembdobkgpojfaaDoorRe
import Derived.Deep.RegionLaw
namespace Go.Proofs.YtembdobkgpojfaaDoor
open Go.RowKit

/-- Behind the box and the store of Open. -/
theorem Rd.put_open {w : World} {p : Nat} {l : List UInt8} {k : Nat} {es : List Nat} {e : Int} (h : Rd w p ⟨l, k, es, e⟩) (a : Nat) (ha : RS.ok ⟨l, k, a :: es, e⟩) :
    ∃ inn, w.cell? ⟨p, 3, none⟩ = some inn ∧ (∃ A, inn = .pointer A) ∧
      Rd ((w.setCell ⟨p, 3, none⟩ (.pointer (some ⟨w.heap.size, 0, none⟩))).alloc (.cells #[.int .i64 (a : Int), .int .i64 ((es.length : Int) + 1), inn] 184)) p ⟨l, k, a :: es, e⟩ := by
  obtain ⟨bs, inn, hb, hs, hc, hk⟩ := h
  obtain ⟨⟨-, -, -, h3, -⟩, -⟩ := cells5 hb
  refine ⟨inn, h3, ?_, ?_⟩
  · cases es with
    | nil => exact ⟨none, hc⟩
    | cons b r => obtain ⟨q', _, e, _⟩ := hc; exact ⟨_, e⟩
  · have hc1 : Chain (w.setCell ⟨p, 3, none⟩ (.pointer (some ⟨w.heap.size, 0, none⟩))) inn es := hc.own hb
    have hs1 : Bs (w.setCell ⟨p, 3, none⟩ (.pointer (some ⟨w.heap.size, 0, none⟩))) bs l := hs.own hb
    have hb1 := hb.put 3 (.pointer (some ⟨w.heap.size, 0, none⟩))
    have hz : (w.setCell ⟨p, 3, none⟩ (.pointer (some ⟨w.heap.size, 0, none⟩))).heap.size = w.heap.size := World.size_setCell _ _ _
    generalize w.setCell ⟨p, 3, none⟩ (.pointer (some ⟨w.heap.size, 0, none⟩)) = w1 at *
    have kal := (Kept.refl Nothing w1).alloc (.cells #[.int .i64 (a : Int), .int .i64 ((es.length : Int) + 1), inn] 184)
    refine ⟨bs, _, hb1.kept kal (fun x => x), hs1.kept kal (NoBytes.nothing w1), ⟨w.heap.size, inn, rfl, ?_, Chain.kept kal (fun q x => x.elim) hc1⟩, ha⟩
    rw [← hz]
    exact Blk.fresh w1 _ _

end Go.Proofs.YtembdobkgpojfaaDoor
