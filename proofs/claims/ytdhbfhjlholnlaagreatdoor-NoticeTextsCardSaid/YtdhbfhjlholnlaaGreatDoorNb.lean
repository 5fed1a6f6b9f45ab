
/-
  Numbers told: strconv.FormatUint at base 10, Text, Dotted, Wide, Short.
-/
import Derived.Test.YtdhbfhjlholnlaaGreatDoorNp
import Derived.Test.YtdhbfhjlholnlaaGreatDoorUp
import Derived.Laws.Concat
namespace Go.Proofs.YtdhbfhjlholnlaaGreatDoor
open Go.RowKit Go.Sort

def wide (n : Nat) : Bool := decide (65535 < n)
def short (n : Nat) : Nat := if 65535 < n then 23456 else n
theorem add_run (x y : List UInt8) (hx : x.length ≤ 100000) (hy : y.length ≤ 100000) (w : World) : (Op.stringOp .add ⟨x.toArray⟩ ⟨y.toArray⟩).run Tryz.prog w = .ok (.string ⟨(x ++ y).toArray⟩) w := by
  rw [run_string_add_sum _ _ _ (by show x.toArray.size + y.toArray.size ≤ _; simp; omega)]
  congr 2
theorem dot_len (n : Nat) (h : n < 4294967296) : (dot n).length ≤ 100 := by
  unfold dot
  split
  · have := dec_len32 (n / 65536) (by omega)
    have := dec_len32 (n % 65536) (by omega)
    simp
    omega
  · have := dec_len32 n h
    omega
end Go.Proofs.YtdhbfhjlholnlaaGreatDoor
