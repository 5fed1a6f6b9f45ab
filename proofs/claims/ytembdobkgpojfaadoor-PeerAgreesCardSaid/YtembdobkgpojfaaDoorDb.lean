
/-
  What IPv4 of chapter 5 does.
-/
import Derived.Test.YtembdobkgpojfaaDoorDa
import Derived.Stop.BytesEq
namespace Go.Proofs.YtembdobkgpojfaaDoor
open Go.RowKit

theorem guard_word : Tryd.prog.eqGuardType Tryd.prog.depth 134 = false := by kernel_rfl
theorem eq_word (y0 y1 y2 y3 : UInt8) (w : World) :
    (Op.equalIn 10000 134 (.agg #[.int .u8 (y0.toNat : Int), .int .u8 (y1.toNat : Int), .int .u8 (y2.toNat : Int), .int .u8 (y3.toNat : Int)]) (.agg #[.int .u8 0, .int .u8 1, .int .u8 0, .int .u8 1])).run Tryd.prog w = .ok ([y0, y1, y2, y3] == [0, 1, 0, 1]) w :=
  run_equalIn_bytes w 9998 134 5 4 Tryd.underlying134 Tryd.underlying5 Tryd.sizeOf5 [y0, y1, y2, y3] [0, 1, 0, 1] rfl rfl

end Go.Proofs.YtembdobkgpojfaaDoor
