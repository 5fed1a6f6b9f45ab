
/-
  Addresses: their four bytes there and back, their texts.
-/
import Derived.Test.YtdeblmolgmadiaaGreatDoorPa
import Derived.Test.YtdeblmolgmadiaaGreatDoorShelf
import Derived.Lib.SmallJoins
namespace Go.Proofs.YtdeblmolgmadiaaGreatDoor
open Go.RowKit

/-- What the calls of Go's library need of the world: strconv's table. -/
def Rdy (w : World) : Prop := Lib.TabIs Tryz.prog w "internal/strconv.uint64pow10" .u64 Lib.pow10Tab

/-- The byte of an address. -/
def oct (x k : Nat) : Nat := x / 2 ^ (8 * (3 - k)) % 256
/-- Joined so far. -/
def jn (a b c d : Nat) : Nat → Nat
  | 0 => 0
  | 1 => a
  | 2 => a * 256 + b
  | 3 => (a * 256 + b) * 256 + c
  | _ => ((a * 256 + b) * 256 + c) * 256 + d
theorem or_byteP (p b : Nat) (hp : p < 16777216) (hb : b < 256) : bits .or .u32 ((p : Int) * 256 % 4294967296) (b : Int) = ((p * 256 + b : Nat) : Int) := by
  have e : (p : Int) * 256 % 4294967296 = ((p * 256 : Nat) : Int) := by omega
  rw [e, u32_or_nat _ _ (by omega) (by omega), nat_join 8 _ _ (by omega) (by omega)]
theorem Rdy.kept {w w' : World} (h : Rdy w) (k : Kept Nothing w w') : Rdy w' :=
  Joins.tab_stays (g := 2) (by kernel_rfl) h (B := w.heap.size) ⟨k.os, k.tape, k.output, k.size, fun i hi => k.block i hi (fun x => x)⟩ (Nat.le_refl _)
theorem kept_grow (w : World) (k : Nat) (os : Array Obj) : Kept Nothing w (Go.Sort.grow (w.drewN k) os) :=
  ⟨rfl, rfl, rfl, by simp [Go.Sort.grow, World.drewN], fun i hi _ => by simp [Go.Sort.grow, World.drewN, Array.getElem?_append_left hi]⟩
theorem itoa_any (n : Nat) (hn : n < 4294967296) (w : World) (h : Rdy w) :
    Calls Tryz.prog 228 #[.int .i64 (n : Int)] w fun e w' => e = .returned (.string ⟨(Lib.decDigits n).toArray⟩) ∧ Kept Nothing w w' :=
  (Tryz.strconv_Itoa (n : Int) (by omega) (by omega) w h).mono fun e w' ⟨he, k, os, hw⟩ => by
    refine ⟨?_, by rw [hw]; exact kept_grow w k os⟩
    rw [he]
    unfold Lib.itoa
    rw [if_neg (by omega), Int.toNat_natCast]

/-- The digits of a number below 1000. -/
def dd (n : Nat) : List UInt8 := if n < 10 then [UInt8.ofNat (48 + n)] else if n < 100 then [UInt8.ofNat (48 + n / 10), UInt8.ofNat (48 + n % 10)] else [UInt8.ofNat (48 + n / 100), UInt8.ofNat (48 + n / 10 % 10), UInt8.ofNat (48 + n % 10)]
theorem dd_eq (n : Nat) (h : n < 1000) : Lib.decDigits n = dd n := by
  unfold dd
  by_cases h1 : n < 10
  · rw [if_pos h1, Lib.decDigits_one h1]
  · by_cases h2 : n < 100
    · rw [if_neg h1, if_pos h2, Lib.decDigits_two h1 h2]
    · rw [if_neg h1, if_neg h2, Lib.decDigits, dif_neg h1, Lib.decDigits_two (by omega) (by omega), Nat.div_div_eq_div_mul]
      rfl
theorem dd_len (n : Nat) : (dd n).length ≤ 3 := by unfold dd; split; simp; split; simp; simp
/-- An address's text (call 107). -/
def ipText (x : Nat) : List UInt8 := Lib.join [Lib.decDigits (oct x 0), Lib.decDigits (oct x 1), Lib.decDigits (oct x 2), Lib.decDigits (oct x 3)] [46]
theorem ipText_len (x : Nat) : (ipText x).length ≤ 15 := by
  have e0 := dd_len (oct x 0)
  have e1 := dd_len (oct x 1)
  have e2 := dd_len (oct x 2)
  have e3 := dd_len (oct x 3)
  have h : ∀ k, oct x k < 1000 := fun k => by unfold oct; omega
  unfold ipText
  rw [dd_eq _ (h 0), dd_eq _ (h 1), dd_eq _ (h 2), dd_eq _ (h 3)]
  simp [Lib.join, List.intercalate]
  omega
def bstr (l : List UInt8) : Value := .string ⟨l.toArray⟩
/-- The first k texts. -/
def txs (x : Nat) : Nat → Array Value
  | 0 => #[bstr [], bstr [], bstr [], bstr []]
  | 1 => #[bstr (Lib.decDigits (oct x 0)), bstr [], bstr [], bstr []]
  | 2 => #[bstr (Lib.decDigits (oct x 0)), bstr (Lib.decDigits (oct x 1)), bstr [], bstr []]
  | 3 => #[bstr (Lib.decDigits (oct x 0)), bstr (Lib.decDigits (oct x 1)), bstr (Lib.decDigits (oct x 2)), bstr []]
  | _ => #[bstr (Lib.decDigits (oct x 0)), bstr (Lib.decDigits (oct x 1)), bstr (Lib.decDigits (oct x 2)), bstr (Lib.decDigits (oct x 3))]
theorem oct_lt (x k : Nat) : oct x k < 256 := by unfold oct; omega
end Go.Proofs.YtdeblmolgmadiaaGreatDoor
