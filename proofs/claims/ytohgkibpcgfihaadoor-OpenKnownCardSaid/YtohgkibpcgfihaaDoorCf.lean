
/-
  The law's own words of chapter 5: same, of, few.
-/
import Derived.Test.YtohgkibpcgfihaaDoorCe
import Derived.Test.YtohgkibpcgfihaaDoorWd
namespace Go.Proofs.YtohgkibpcgfihaaDoor
open Go.RowKit

theorem slice_to (A : Option Addr) (n c k : Nat) (hk : k ≤ c) (w : World) :
    (Instr.slice 22 (.slice A n c) none (some (.int .i64 (k : Int))) none).run Tryd.prog w = .ok (.slice A k c) w := by
  have hz := Tryd.sizeOf5
  have he : Tryd.prog.elem 22 = 5 := by kernel_rfl
  rw [run_slice_h w 22 A n c (by kernel_rfl) .i64 k (by omega) (by omega), he, hz]
  cases A <;> simp [sliced, Addr.add]

def cutC (c : Cp) : Cp := (c.1, c.2.take 260)
def fewL (l : List Cp) : List Cp := (l.take 20).map cutC
end Go.Proofs.YtohgkibpcgfihaaDoor
