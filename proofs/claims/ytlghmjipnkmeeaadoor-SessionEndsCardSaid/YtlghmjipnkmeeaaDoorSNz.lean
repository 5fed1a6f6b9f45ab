
/-
  session: a fault handed in, opened.
-/
import Derived.Test.YtlghmjipnkmeeaaDoorSMz
import Derived.Lib.SmallJoins
namespace Go.Proofs.YtlghmjipnkmeeaaDoor
open Go.ChangeShapes Go.WideShapes Go.ChangeAt Go.RowKit

set_option maxRecDepth 100000 in
theorem open_fltS {H : Type} {enc : TypeId × Value → H} {W : World} {base : Nat} {v : Value} {d : DataW H} {p : List MemPlace} (hv : Value.okWide Tryd.prog W .any base 28 v)
    (h : DataW.Trod enc Tryd.prog W 0 (fun _ => true) true 28 v d p) : ∃ c s : Nat, v = .agg #[.int .u8 (c : Int), .int .u8 (s : Int)] := by
  obtain ⟨v0, v1, y0, y1, n, rfl, _, _, h0, h1⟩ := Joins.open_agg2 Tryd.underlying28 (by kernel_rfl) (by kernel_rfl) hv h
  obtain ⟨z0, e0, _, w0⟩ := DataW.trod_int Tryd.underlying5 h0
  obtain ⟨z1, e1, _, w1⟩ := DataW.trod_int Tryd.underlying5 h1
  injection e0 with e0
  injection e1 with e1
  subst e0 e1
  obtain ⟨c, rfl, -⟩ := u8_natS w0
  obtain ⟨s, rfl, -⟩ := u8_natS w1
  exact ⟨c, s, rfl⟩
end Go.Proofs.YtlghmjipnkmeeaaDoor
