
/-
  An array changed at some places.
-/
import Derived.Test.YtembdobkgpojfaaDoorIs
namespace Go.Proofs.YtembdobkgpojfaaDoor
open Go.RowKit
theorem arr_put (b : Array Value) : ∀ (ds : List Nat) (a : Array Value), b.size = a.size → (∀ t, t ∉ ds → b.getD t undef = a.getD t undef) → b = ds.foldl (fun t d => t.setIfInBounds d (b.getD d undef)) a
  | [], a, hsz, hfar => by
    refine Array.ext hsz (fun i h1 (h2 : i < a.size) => ?_)
    have h := hfar i (by simp)
    rw [Array.getD_eq_getD_getElem?, Array.getD_eq_getD_getElem?, Array.getElem?_eq_getElem h1, Array.getElem?_eq_getElem h2] at h
    simpa using h
  | d :: ds, a, hsz, hfar => by
    refine arr_put b ds (a.setIfInBounds d (b.getD d undef)) (by simpa using hsz) (fun t ht => ?_)
    by_cases e : t = d
    · subst e
      by_cases hlt : t < a.size
      · rw [Array.getD_eq_getD_getElem? (xs := a.setIfInBounds t _), Array.getElem?_setIfInBounds_self_of_lt hlt]
        rfl
      · rw [Array.getD_eq_getD_getElem?, Array.getD_eq_getD_getElem?, Array.getElem?_eq_none (by omega), Array.getElem?_eq_none (by simp; omega)]
    · rw [hfar t (by simp [e, ht]), Array.getD_eq_getD_getElem?, Array.getD_eq_getD_getElem?, Array.getElem?_setIfInBounds_ne (by omega)]
end Go.Proofs.YtembdobkgpojfaaDoor
