
/-
  '==' and '!=' of two prefixes, the program's and the document's.
-/
import Derived.Test.YtdhbfhjlholnlaaGreatDoorMem
import Derived.Laws.StructEq
namespace Go.Proofs.YtdhbfhjlholnlaaGreatDoor
open Go.RowKit

theorem eq_pfx (x y b c : Int) (w : World) : (Op.equalIn 10000 171 (.agg #[.int .u32 x, .int .i64 b]) (.agg #[.int .u32 y, .int .i64 c])).run Tryz.prog w = .ok (decide (x = y) && decide (b = c)) w := by
  have hS : Tryz.prog.underlying 171 = some (.struct (Tryz.prog.fieldsOf 171)) := by kernel_rfl
  have hp : Tryz.prog.stoodInHeld 171 = false := by kernel_rfl
  rw [run_equalIn_agg _ _ _ _ _ hS hp]
  simp only [Program.fieldsOf, Tryz.underlying171]
  by_cases h1 : x = y <;> by_cases h2 : b = c <;> simp [go_sem, h1, h2]
theorem guard_pfx : Tryz.prog.eqGuardType Tryz.prog.depth 171 = false := by kernel_rfl
end Go.Proofs.YtdhbfhjlholnlaaGreatDoor
