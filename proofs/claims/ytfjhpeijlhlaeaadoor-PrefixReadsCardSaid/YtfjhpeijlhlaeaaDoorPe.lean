
/-
  '==' and '!=' of two prefixes, the program's and the document's.
-/
import Derived.Test.YtfjhpeijlhlaeaaDoorMem
import Derived.Laws.StructEq
namespace Go.Proofs.YtfjhpeijlhlaeaaDoor
open Go.RowKit

theorem eq_pfx (x y b c : Int) (w : World) : (Op.equalIn 10000 25 (.agg #[.int .u32 x, .int .i64 b]) (.agg #[.int .u32 y, .int .i64 c])).run Tryd.prog w = .ok (decide (x = y) && decide (b = c)) w := by
  have hS : Tryd.prog.underlying 25 = some (.struct (Tryd.prog.fieldsOf 25)) := by kernel_rfl
  have hp : Tryd.prog.stoodInHeld 25 = false := by kernel_rfl
  rw [run_equalIn_agg _ _ _ _ _ hS hp]
  simp only [Program.fieldsOf, Tryd.underlying25]
  by_cases h1 : x = y <;> by_cases h2 : b = c <;> simp [go_sem, h1, h2]
theorem guard_pfx : Tryd.prog.eqGuardType Tryd.prog.depth 25 = false := by kernel_rfl
theorem eq_ref (x y b c : Int) (w : World) : (Op.equalIn 10000 27 (.agg #[.int .u32 x, .int .i64 b]) (.agg #[.int .u32 y, .int .i64 c])).run Tryd.prog w = .ok (decide (x = y) && decide (b = c)) w := by
  have hS : Tryd.prog.underlying 27 = some (.struct (Tryd.prog.fieldsOf 27)) := by kernel_rfl
  have hp : Tryd.prog.stoodInHeld 27 = false := by kernel_rfl
  rw [run_equalIn_agg _ _ _ _ _ hS hp]
  simp only [Program.fieldsOf, Tryd.underlying27]
  by_cases h1 : x = y <;> by_cases h2 : b = c <;> simp [go_sem, h1, h2]
theorem guard_ref : Tryd.prog.eqGuardType Tryd.prog.depth 27 = false := by kernel_rfl
end Go.Proofs.YtfjhpeijlhlaeaaDoor
