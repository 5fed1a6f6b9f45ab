
/-
  Addresses: their four bytes there and back, their texts.
-/
import Derived.Test.YtdhbfhjlholnlaaGreatDoorPa
import Derived.Test.YtdhbfhjlholnlaaGreatDoorShelf
import Derived.Lib.SmallJoins
namespace Go.Proofs.YtdhbfhjlholnlaaGreatDoor
open Go.RowKit

/-- What the calls of Go's library need of the world: strconv's table. -/
def Rdy (w : World) : Prop := Lib.TabIs Tryz.prog w "internal/strconv.uint64pow10" .u64 Lib.pow10Tab

/-- The byte of an address. -/
def oct (x k : Nat) : Nat := x / 2 ^ (8 * (3 - k)) % 256
/-- Joined so far. -/
def jn (a b c d : Nat) : Nat → Nat
  | 0 => 0
  | 1 => a
  | 2 => a * 256 + b
  | 3 => (a * 256 + b) * 256 + c
  | _ => ((a * 256 + b) * 256 + c) * 256 + d
theorem or_byteP (p b : Nat) (hp : p < 16777216) (hb : b < 256) : bits .or .u32 ((p : Int) * 256 % 4294967296) (b : Int) = ((p * 256 + b : Nat) : Int) := by
  have e : (p : Int) * 256 % 4294967296 = ((p * 256 : Nat) : Int) := by omega
  rw [e, u32_or_nat _ _ (by omega) (by omega), nat_join 8 _ _ (by omega) (by omega)]
theorem join_any (a b c d : Nat) (ha : a < 256) (hb : b < 256) (hc : c < 256) (hd : d < 256) (w : World) :
    Calls Tryz.prog 92 #[.agg #[.int .u8 (a : Int), .int .u8 (b : Int), .int .u8 (c : Int), .int .u8 (d : Int)]] w fun e w' => e = .returned (.int .u32 ((((a * 256 + b) * 256 + c) * 256 + d : Nat) : Int)) ∧ Kept Nothing w w' := by
  have i0 : ∀ w, (Instr.index 169 (.agg #[.int .u8 (a : Int), .int .u8 (b : Int), .int .u8 (c : Int), .int .u8 (d : Int)]) (.int .i64 0)).run Tryz.prog w = .ok (.int .u8 (a : Int)) w := fun _ => by kernel_rfl
  have i1 : ∀ w, (Instr.index 169 (.agg #[.int .u8 (a : Int), .int .u8 (b : Int), .int .u8 (c : Int), .int .u8 (d : Int)]) (.int .i64 1)).run Tryz.prog w = .ok (.int .u8 (b : Int)) w := fun _ => by kernel_rfl
  have i2 : ∀ w, (Instr.index 169 (.agg #[.int .u8 (a : Int), .int .u8 (b : Int), .int .u8 (c : Int), .int .u8 (d : Int)]) (.int .i64 2)).run Tryz.prog w = .ok (.int .u8 (c : Int)) w := fun _ => by kernel_rfl
  have i3 : ∀ w, (Instr.index 169 (.agg #[.int .u8 (a : Int), .int .u8 (b : Int), .int .u8 (c : Int), .int .u8 (d : Int)]) (.int .i64 3)).run Tryz.prog w = .ok (.int .u8 (d : Int)) w := fun _ => by kernel_rfl
  go_enter Tryz.func92, Tryz.ntmps92
  go_wp2
  go_loop [3, 7] (fun p i => ∃ k : Nat, k ≤ 4 ∧ i = .int .i64 k ∧ p = .int .u32 (jn a b c d k : Nat)) (fun _ i => 4 - (intOf i).toNat)
  case atStart => exact ⟨0, by omega, rfl, rfl⟩
  case round =>
    obtain ⟨k, hk, rfl, rfl⟩ := hrel
    obtain rfl | rfl | rfl | rfl | rfl : k = 0 ∨ k = 1 ∨ k = 2 ∨ k = 3 ∨ k = 4 := by omega
    · go_wp2
      go_round
      case rel => exact ⟨1, by omega, by go_num, congrArg (Value.int .u32) ((or_byteP (jn a b c d 0) a (by simp [jn]) ha).trans (by simp [jn]))⟩
      case measure => simp [intOf]
    · go_wp2
      go_round
      case rel => exact ⟨2, by omega, by go_num, congrArg (Value.int .u32) ((or_byteP (jn a b c d 1) b (by simp [jn]; omega) hb).trans (by simp [jn]))⟩
      case measure => simp [intOf]
    · go_wp2
      go_round
      case rel => exact ⟨3, by omega, by go_num, congrArg (Value.int .u32) ((or_byteP (jn a b c d 2) c (by simp [jn]; omega) hc).trans (by simp [jn]))⟩
      case measure => simp [intOf]
    · go_wp2
      go_round
      case rel => exact ⟨4, by omega, by go_num, congrArg (Value.int .u32) ((or_byteP (jn a b c d 3) d (by simp [jn]; omega) hd).trans (by simp [jn]))⟩
      case measure => simp [intOf]
    · go_wp2
      go_ret
      exact ⟨rfl, (Kept.refl _ w).alloc _⟩

theorem Rdy.kept {w w' : World} (h : Rdy w) (k : Kept Nothing w w') : Rdy w' :=
  Joins.tab_stays (g := 5) (by kernel_rfl) h (B := w.heap.size) ⟨k.os, k.tape, k.output, k.size, fun i hi => k.block i hi (fun x => x)⟩ (Nat.le_refl _)
theorem kept_grow (w : World) (k : Nat) (os : Array Obj) : Kept Nothing w (Go.Sort.grow (w.drewN k) os) :=
  ⟨rfl, rfl, rfl, by simp [Go.Sort.grow, World.drewN], fun i hi _ => by simp [Go.Sort.grow, World.drewN, Array.getElem?_append_left hi]⟩
theorem itoa_any (n : Nat) (hn : n < 4294967296) (w : World) (h : Rdy w) :
    Calls Tryz.prog 11 #[.int .i64 (n : Int)] w fun e w' => e = .returned (.string ⟨(Lib.decDigits n).toArray⟩) ∧ Kept Nothing w w' :=
  (Tryz.strconv_Itoa (n : Int) (by omega) (by omega) w h).mono fun e w' ⟨he, k, os, hw⟩ => by
    refine ⟨?_, by rw [hw]; exact kept_grow w k os⟩
    rw [he]
    unfold Lib.itoa
    rw [if_neg (by omega), Int.toNat_natCast]

/-- The digits of a number below 1000. -/
def dd (n : Nat) : List UInt8 := if n < 10 then [UInt8.ofNat (48 + n)] else if n < 100 then [UInt8.ofNat (48 + n / 10), UInt8.ofNat (48 + n % 10)] else [UInt8.ofNat (48 + n / 100), UInt8.ofNat (48 + n / 10 % 10), UInt8.ofNat (48 + n % 10)]
theorem dd_eq (n : Nat) (h : n < 1000) : Lib.decDigits n = dd n := by
  unfold dd
  by_cases h1 : n < 10
  · rw [if_pos h1, Lib.decDigits_one h1]
  · by_cases h2 : n < 100
    · rw [if_neg h1, if_pos h2, Lib.decDigits_two h1 h2]
    · rw [if_neg h1, if_neg h2, Lib.decDigits, dif_neg h1, Lib.decDigits_two (by omega) (by omega), Nat.div_div_eq_div_mul]
      rfl
theorem dd_len (n : Nat) : (dd n).length ≤ 3 := by unfold dd; split; simp; split; simp; simp
def bstr (l : List UInt8) : Value := .string ⟨l.toArray⟩
/-- The first k texts. -/
def txs (x : Nat) : Nat → Array Value
  | 0 => #[bstr [], bstr [], bstr [], bstr []]
  | 1 => #[bstr (Lib.decDigits (oct x 0)), bstr [], bstr [], bstr []]
  | 2 => #[bstr (Lib.decDigits (oct x 0)), bstr (Lib.decDigits (oct x 1)), bstr [], bstr []]
  | 3 => #[bstr (Lib.decDigits (oct x 0)), bstr (Lib.decDigits (oct x 1)), bstr (Lib.decDigits (oct x 2)), bstr []]
  | _ => #[bstr (Lib.decDigits (oct x 0)), bstr (Lib.decDigits (oct x 1)), bstr (Lib.decDigits (oct x 2)), bstr (Lib.decDigits (oct x 3))]
theorem oct_lt (x k : Nat) : oct x k < 256 := by unfold oct; omega
end Go.Proofs.YtdhbfhjlholnlaaGreatDoor
