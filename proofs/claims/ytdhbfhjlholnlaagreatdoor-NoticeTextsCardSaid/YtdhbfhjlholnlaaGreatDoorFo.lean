
/-
  What the calls of package frame do: a head judged.
-/
import Derived.Test.YtdhbfhjlholnlaaGreatDoorFn
import Derived.Test.YtdhbfhjlholnlaaGreatDoorWh
namespace Go.Proofs.YtdhbfhjlholnlaaGreatDoor
open Go.RowKit

/-- A slice that lies in new memory. -/
def New (w : World) (v : Value) : Prop := ∀ a n c, v = .slice (some a) n c → w.heap.size ≤ a.block
theorem New.nil (w : World) : New w (.slice none 0 0) := fun a n c e => by cases e

def judge3 (m : Bool) (n k : Nat) : Nat × List UInt8 :=
  if m = false then (1, [])
  else if n < 19 ∨ 4096 < n then (2, [UInt8.ofNat (n / 256), UInt8.ofNat n])
  else if k < 1 ∨ 5 < k then (3, [UInt8.ofNat k])
  else if Fr.fits k n = false then (2, [UInt8.ofNat (n / 256), UInt8.ofNat n])
  else (0, [])
theorem judge_eq (l : List UInt8) : Fr.judge l = judge3 (Fr.marked l) (Fr.len l) (Fr.kind l).toNat := by
  have u1 : UInt8.ofNat (Fr.len l / 256) = l.getD 16 0 := Fr.u8_eq (by
    rw [UInt8.toNat_ofNat']
    have a1 := (l.getD 17 0).toNat_lt
    have a2 := (l.getD 16 0).toNat_lt
    unfold Fr.len; omega)
  have u2 : UInt8.ofNat (Fr.len l) = l.getD 17 0 := Fr.u8_eq (by
    rw [UInt8.toNat_ofNat']
    have a1 := (l.getD 17 0).toNat_lt
    unfold Fr.len; omega)
  unfold Fr.judge judge3
  rw [u1, u2, UInt8.ofNat_toNat]

theorem three_kept (w : World) (a b c : Obj) : Kept Nothing w (((w.alloc a).alloc b).alloc c) := (((Kept.refl Nothing w).alloc a).alloc b).alloc c
theorem made2 (W : World) (k : Nat) (hk : W.heap.size = k) (x y : Int) (a b : UInt8) (hx : x = (a.toNat : Int)) (hy : y = (b.toNat : Int)) : Bs (W.alloc (.cells #[.int .u8 x, .int .u8 y] 5)) (.slice (some ⟨k, 0, none⟩) 2 2) [a, b] := by
  subst hk hx hy
  exact Bs.made (l := [a, b]) (Blk.fresh W _ _) rfl (by simp [maxLen])
theorem made1 (W : World) (k : Nat) (hk : W.heap.size = k) (x : Int) (a : UInt8) (hx : x = (a.toNat : Int)) : Bs (W.alloc (.cells #[.int .u8 x] 5)) (.slice (some ⟨k, 0, none⟩) 1 1) [a] := by
  subst hk hx
  exact Bs.made (l := [a]) (Blk.fresh W _ _) rfl (by simp [maxLen])
theorem lo8 (n : Nat) : ((n : Int) % 256) = ((UInt8.ofNat n).toNat : Int) := by rw [UInt8.toNat_ofNat']; omega
theorem hi8 (n : Nat) (h : n < 65536) : ((n : Int) / 256) = ((UInt8.ofNat (n / 256)).toNat : Int) := by rw [UInt8.toNat_ofNat']; omega
theorem lo8' (n : Nat) (h : n < 256) : (n : Int) = ((UInt8.ofNat n).toNat : Int) := by rw [UInt8.toNat_ofNat']; omega
theorem new_at (w : World) (k n c : Nat) (h : w.heap.size ≤ k) : New w (.slice (some ⟨k, 0, none⟩) n c) := fun a n' c' e => by
  injection e with e1 e2 e3
  injection e1 with e1
  subst e1
  exact h

end Go.Proofs.YtdhbfhjlholnlaaGreatDoor
