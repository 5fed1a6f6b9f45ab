
/-
  Addresses: their four bytes there and back, their texts.
-/
import Derived.Test.YtfjhpeijlhlaeaaDoorPa
import Derived.Test.YtfjhpeijlhlaeaaDoorShelf
import Derived.Lib.SmallJoins
namespace Go.Proofs.YtfjhpeijlhlaeaaDoor
open Go.RowKit

/-- What the calls of Go's library need of the world: strconv's table. -/
def Rdy (w : World) : Prop := Lib.TabIs Tryd.prog w "internal/strconv.uint64pow10" .u64 Lib.pow10Tab

/-- The byte of an address. -/
def oct (x k : Nat) : Nat := x / 2 ^ (8 * (3 - k)) % 256
theorem part_any (x : Nat) (hx : x < 4294967296) (w : World) :
    Calls Tryd.prog 44 #[.int .u32 (x : Int)] w fun e w' => e = .returned (.agg #[.int .u8 (oct x 0 : Nat), .int .u8 (oct x 1 : Nat), .int .u8 (oct x 2 : Nat), .int .u8 (oct x 3 : Nat)]) ∧ Kept Nothing w w' := by
  go_enter Tryd.func44, Tryd.ntmps44
  go_wp2
  have o0 : (x : Int) / 16777216 = ((oct x 0 : Nat) : Int) := by unfold oct; omega
  have o1 : (x : Int) / 65536 % 256 = ((oct x 1 : Nat) : Int) := by unfold oct; omega
  have o2 : (x : Int) / 256 % 256 = ((oct x 2 : Nat) : Int) := by unfold oct; omega
  have o3 : (x : Int) % 256 = ((oct x 3 : Nat) : Int) := by unfold oct; omega
  rw [o0, o1, o2, o3]
  exact bodyPost_ret (v := .agg #[.int .u8 (oct x 0 : Nat), .int .u8 (oct x 1 : Nat), .int .u8 (oct x 2 : Nat), .int .u8 (oct x 3 : Nat)]) (by simp [results, Tryd.results44, go_sem]) rfl ⟨rfl, (Kept.refl _ w).alloc _⟩
/-- Joined so far. -/
def jn (a b c d : Nat) : Nat → Nat
  | 0 => 0
  | 1 => a
  | 2 => a * 256 + b
  | 3 => (a * 256 + b) * 256 + c
  | _ => ((a * 256 + b) * 256 + c) * 256 + d
theorem or_byte (p b : Nat) (hp : p < 16777216) (hb : b < 256) : bits .or .u32 ((p : Int) * 256 % 4294967296) (b : Int) = ((p * 256 + b : Nat) : Int) := by
  have e : (p : Int) * 256 % 4294967296 = ((p * 256 : Nat) : Int) := by omega
  rw [e, u32_or_nat _ _ (by omega) (by omega), nat_join 8 _ _ (by omega) (by omega)]
theorem join_any (a b c d : Nat) (ha : a < 256) (hb : b < 256) (hc : c < 256) (hd : d < 256) (w : World) :
    Calls Tryd.prog 50 #[.agg #[.int .u8 (a : Int), .int .u8 (b : Int), .int .u8 (c : Int), .int .u8 (d : Int)]] w fun e w' => e = .returned (.int .u32 ((((a * 256 + b) * 256 + c) * 256 + d : Nat) : Int)) ∧ Kept Nothing w w' := by
  have i0 : ∀ w, (Instr.index 83 (.agg #[.int .u8 (a : Int), .int .u8 (b : Int), .int .u8 (c : Int), .int .u8 (d : Int)]) (.int .i64 0)).run Tryd.prog w = .ok (.int .u8 (a : Int)) w := fun _ => by kernel_rfl
  have i1 : ∀ w, (Instr.index 83 (.agg #[.int .u8 (a : Int), .int .u8 (b : Int), .int .u8 (c : Int), .int .u8 (d : Int)]) (.int .i64 1)).run Tryd.prog w = .ok (.int .u8 (b : Int)) w := fun _ => by kernel_rfl
  have i2 : ∀ w, (Instr.index 83 (.agg #[.int .u8 (a : Int), .int .u8 (b : Int), .int .u8 (c : Int), .int .u8 (d : Int)]) (.int .i64 2)).run Tryd.prog w = .ok (.int .u8 (c : Int)) w := fun _ => by kernel_rfl
  have i3 : ∀ w, (Instr.index 83 (.agg #[.int .u8 (a : Int), .int .u8 (b : Int), .int .u8 (c : Int), .int .u8 (d : Int)]) (.int .i64 3)).run Tryd.prog w = .ok (.int .u8 (d : Int)) w := fun _ => by kernel_rfl
  go_enter Tryd.func50, Tryd.ntmps50
  go_wp2
  go_loop [3, 7] (fun p i => ∃ k : Nat, k ≤ 4 ∧ i = .int .i64 k ∧ p = .int .u32 (jn a b c d k : Nat)) (fun _ i => 4 - (intOf i).toNat)
  case atStart => exact ⟨0, by omega, rfl, rfl⟩
  case round =>
    obtain ⟨k, hk, rfl, rfl⟩ := hrel
    obtain rfl | rfl | rfl | rfl | rfl : k = 0 ∨ k = 1 ∨ k = 2 ∨ k = 3 ∨ k = 4 := by omega
    · go_wp2
      go_round
      case rel => exact ⟨1, by omega, by go_num, congrArg (Value.int .u32) ((or_byte (jn a b c d 0) a (by simp [jn]) ha).trans (by simp [jn]))⟩
      case measure => simp [intOf]
    · go_wp2
      go_round
      case rel => exact ⟨2, by omega, by go_num, congrArg (Value.int .u32) ((or_byte (jn a b c d 1) b (by simp [jn]; omega) hb).trans (by simp [jn]))⟩
      case measure => simp [intOf]
    · go_wp2
      go_round
      case rel => exact ⟨3, by omega, by go_num, congrArg (Value.int .u32) ((or_byte (jn a b c d 2) c (by simp [jn]; omega) hc).trans (by simp [jn]))⟩
      case measure => simp [intOf]
    · go_wp2
      go_round
      case rel => exact ⟨4, by omega, by go_num, congrArg (Value.int .u32) ((or_byte (jn a b c d 3) d (by simp [jn]; omega) hd).trans (by simp [jn]))⟩
      case measure => simp [intOf]
    · go_wp2
      go_ret
      exact ⟨rfl, (Kept.refl _ w).alloc _⟩

theorem Rdy.kept {w w' : World} (h : Rdy w) (k : Kept Nothing w w') : Rdy w' :=
  Joins.tab_stays (g := 1) (by kernel_rfl) h (B := w.heap.size) ⟨k.os, k.tape, k.output, k.size, fun i hi => k.block i hi (fun x => x)⟩ (Nat.le_refl _)
theorem kept_grow (w : World) (k : Nat) (os : Array Obj) : Kept Nothing w (Go.Sort.grow (w.drewN k) os) :=
  ⟨rfl, rfl, rfl, by simp [Go.Sort.grow, World.drewN], fun i hi _ => by simp [Go.Sort.grow, World.drewN, Array.getElem?_append_left hi]⟩
theorem itoa_any (n : Nat) (hn : n < 4294967296) (w : World) (h : Rdy w) :
    Calls Tryd.prog 39 #[.int .i64 (n : Int)] w fun e w' => e = .returned (.string ⟨(Lib.decDigits n).toArray⟩) ∧ Kept Nothing w w' :=
  (Tryd.strconv_Itoa (n : Int) (by omega) (by omega) w h).mono fun e w' ⟨he, k, os, hw⟩ => by
    refine ⟨?_, by rw [hw]; exact kept_grow w k os⟩
    rw [he]
    unfold Lib.itoa
    rw [if_neg (by omega), Int.toNat_natCast]

/-- The digits of a number below 1000. -/
def dd (n : Nat) : List UInt8 := if n < 10 then [UInt8.ofNat (48 + n)] else if n < 100 then [UInt8.ofNat (48 + n / 10), UInt8.ofNat (48 + n % 10)] else [UInt8.ofNat (48 + n / 100), UInt8.ofNat (48 + n / 10 % 10), UInt8.ofNat (48 + n % 10)]
theorem dd_eq (n : Nat) (h : n < 1000) : Lib.decDigits n = dd n := by
  unfold dd
  by_cases h1 : n < 10
  · rw [if_pos h1, Lib.decDigits_one h1]
  · by_cases h2 : n < 100
    · rw [if_neg h1, if_pos h2, Lib.decDigits_two h1 h2]
    · rw [if_neg h1, if_neg h2, Lib.decDigits, dif_neg h1, Lib.decDigits_two (by omega) (by omega), Nat.div_div_eq_div_mul]
      rfl
theorem dd_len (n : Nat) : (dd n).length ≤ 3 := by unfold dd; split; simp; split; simp; simp
/-- An address's text (call 45). -/
def ipText (x : Nat) : List UInt8 := Lib.join [Lib.decDigits (oct x 0), Lib.decDigits (oct x 1), Lib.decDigits (oct x 2), Lib.decDigits (oct x 3)] [46]
theorem ipText_len (x : Nat) : (ipText x).length ≤ 15 := by
  have e0 := dd_len (oct x 0)
  have e1 := dd_len (oct x 1)
  have e2 := dd_len (oct x 2)
  have e3 := dd_len (oct x 3)
  have h : ∀ k, oct x k < 1000 := fun k => by unfold oct; omega
  unfold ipText
  rw [dd_eq _ (h 0), dd_eq _ (h 1), dd_eq _ (h 2), dd_eq _ (h 3)]
  simp [Lib.join, List.intercalate]
  omega
def bstr (l : List UInt8) : Value := .string ⟨l.toArray⟩
/-- The first k texts. -/
def txs (x : Nat) : Nat → Array Value
  | 0 => #[bstr [], bstr [], bstr [], bstr []]
  | 1 => #[bstr (Lib.decDigits (oct x 0)), bstr [], bstr [], bstr []]
  | 2 => #[bstr (Lib.decDigits (oct x 0)), bstr (Lib.decDigits (oct x 1)), bstr [], bstr []]
  | 3 => #[bstr (Lib.decDigits (oct x 0)), bstr (Lib.decDigits (oct x 1)), bstr (Lib.decDigits (oct x 2)), bstr []]
  | _ => #[bstr (Lib.decDigits (oct x 0)), bstr (Lib.decDigits (oct x 1)), bstr (Lib.decDigits (oct x 2)), bstr (Lib.decDigits (oct x 3))]
theorem oct_lt (x k : Nat) : oct x k < 256 := by unfold oct; omega
theorem ipText_any (x : Nat) (hx : x < 4294967296) (w : World) (hr : Rdy w) :
    Calls Tryd.prog 22 #[.int .u32 (x : Int)] w fun e w' => e = .returned (.string ⟨(ipText x).toArray⟩) ∧ Kept Nothing w w' := by
  have i0 : ∀ w, (Instr.index 83 (.agg #[.int .u8 (oct x 0 : Nat), .int .u8 (oct x 1 : Nat), .int .u8 (oct x 2 : Nat), .int .u8 (oct x 3 : Nat)]) (.int .i64 0)).run Tryd.prog w = .ok (.int .u8 (oct x 0 : Nat)) w := fun _ => by kernel_rfl
  have i1 : ∀ w, (Instr.index 83 (.agg #[.int .u8 (oct x 0 : Nat), .int .u8 (oct x 1 : Nat), .int .u8 (oct x 2 : Nat), .int .u8 (oct x 3 : Nat)]) (.int .i64 1)).run Tryd.prog w = .ok (.int .u8 (oct x 1 : Nat)) w := fun _ => by kernel_rfl
  have i2 : ∀ w, (Instr.index 83 (.agg #[.int .u8 (oct x 0 : Nat), .int .u8 (oct x 1 : Nat), .int .u8 (oct x 2 : Nat), .int .u8 (oct x 3 : Nat)]) (.int .i64 2)).run Tryd.prog w = .ok (.int .u8 (oct x 2 : Nat)) w := fun _ => by kernel_rfl
  have i3 : ∀ w, (Instr.index 83 (.agg #[.int .u8 (oct x 0 : Nat), .int .u8 (oct x 1 : Nat), .int .u8 (oct x 2 : Nat), .int .u8 (oct x 3 : Nat)]) (.int .i64 3)).run Tryd.prog w = .ok (.int .u8 (oct x 3 : Nat)) w := fun _ => by kernel_rfl
  go_enter Tryd.func22, Tryd.ntmps22
  go_wp2_with (go_at_call 44; refine (part_any x hx _).mono ?_; rintro e w1 ⟨rfl, hk1⟩)
  go_loopw [8] (fun i wr => ∃ k : Nat, k ≤ 4 ∧ i = .int .i64 k ∧ Blk wr w.heap.size 81 (txs x k) ∧ Kept Nothing w wr) (fun i _ => 4 - (intOf i).toNat)
  case atStart => exact ⟨0, by omega, rfl, (Blk.fresh w _ _).kept hk1 (fun x => x), ((Kept.refl _ w).alloc _).trans hk1⟩
  case round =>
    obtain ⟨k, hk4, rfl, hB, hk⟩ := hrel
    clear hk1
    obtain rfl | rfl | rfl | rfl | rfl : k = 0 ∨ k = 1 ∨ k = 2 ∨ k = 3 ∨ k = 4 := by omega
    · have HB := Lib.hid hB
      have ho := oct_lt x 0
      clear hB
      go_wp2_with (go_at_call 39; refine (itoa_any (oct x 0) (by omega) _ (hr.kept hk)).mono ?_; rintro e w2 ⟨rfl, hk2⟩; have hB2 := HB.out.kept hk2 (fun x => x); have cB : w2.cell? ⟨w.heap.size, 0, none⟩ = some (bstr []) := hB2.cell 0; have fB : w2.frozen? ⟨w.heap.size, 0, none⟩ = false := hB2.free 0)
      go_roundw
      case rel => exact ⟨1, by omega, by go_num, hB2.put 0 _, (hk.trans hk2).setCell (p := ⟨w.heap.size, 0, none⟩) (fun h => absurd h (by simp)) _⟩
      case measure => simp [intOf]
    · have HB := Lib.hid hB
      have ho := oct_lt x 1
      clear hB
      go_wp2_with (go_at_call 39; refine (itoa_any (oct x 1) (by omega) _ (hr.kept hk)).mono ?_; rintro e w2 ⟨rfl, hk2⟩; have hB2 := HB.out.kept hk2 (fun x => x); have cB : w2.cell? ⟨w.heap.size, 1, none⟩ = some (bstr []) := hB2.cell 1; have fB : w2.frozen? ⟨w.heap.size, 1, none⟩ = false := hB2.free 1)
      go_roundw
      case rel => exact ⟨2, by omega, by go_num, hB2.put 1 _, (hk.trans hk2).setCell (p := ⟨w.heap.size, 1, none⟩) (fun h => absurd h (by simp)) _⟩
      case measure => simp [intOf]
    · have HB := Lib.hid hB
      have ho := oct_lt x 2
      clear hB
      go_wp2_with (go_at_call 39; refine (itoa_any (oct x 2) (by omega) _ (hr.kept hk)).mono ?_; rintro e w2 ⟨rfl, hk2⟩; have hB2 := HB.out.kept hk2 (fun x => x); have cB : w2.cell? ⟨w.heap.size, 2, none⟩ = some (bstr []) := hB2.cell 2; have fB : w2.frozen? ⟨w.heap.size, 2, none⟩ = false := hB2.free 2)
      go_roundw
      case rel => exact ⟨3, by omega, by go_num, hB2.put 2 _, (hk.trans hk2).setCell (p := ⟨w.heap.size, 2, none⟩) (fun h => absurd h (by simp)) _⟩
      case measure => simp [intOf]
    · have HB := Lib.hid hB
      have ho := oct_lt x 3
      clear hB
      go_wp2_with (go_at_call 39; refine (itoa_any (oct x 3) (by omega) _ (hr.kept hk)).mono ?_; rintro e w2 ⟨rfl, hk2⟩; have hB2 := HB.out.kept hk2 (fun x => x); have cB : w2.cell? ⟨w.heap.size, 3, none⟩ = some (bstr []) := hB2.cell 3; have fB : w2.frozen? ⟨w.heap.size, 3, none⟩ = false := hB2.free 3)
      go_roundw
      case rel => exact ⟨4, by omega, by go_num, hB2.put 3 _, (hk.trans hk2).setCell (p := ⟨w.heap.size, 3, none⟩) (fun h => absurd h (by simp)) _⟩
      case measure => simp [intOf]
    · have HB := Lib.hid hB
      have HJ := Lib.hid (Tryd.strings_Join w.heap.size 0 4 [⟨(Lib.decDigits (oct x 0)).toArray⟩, ⟨(Lib.decDigits (oct x 1)).toArray⟩, ⟨(Lib.decDigits (oct x 2)).toArray⟩, ⟨(Lib.decDigits (oct x 3)).toArray⟩] ⟨#[46]⟩ wr
        (fun j y hy => by
          obtain rfl | rfl | rfl | rfl | h4 : j = 0 ∨ j = 1 ∨ j = 2 ∨ j = 3 ∨ 4 ≤ j := by omega
          · rw [hB.cell]; simp at hy; rw [← hy]; rfl
          · rw [hB.cell]; simp at hy; rw [← hy]; rfl
          · rw [hB.cell]; simp at hy; rw [← hy]; rfl
          · rw [hB.cell]; simp at hy; rw [← hy]; rfl
          · rw [List.getElem?_eq_none (by simpa using h4)] at hy; cases hy)
        hB.lt (by simp) (by simp) (Nat.le_trans (ipText_len x) (by omega)))
      clear hB
      go_wp2_with (go_at_call 45; refine (HJ.out).mono ?_; rintro e w2 ⟨rfl, hb2⟩)
      go_ret
      exact ⟨rfl, hk.trans (grows hb2)⟩
end Go.Proofs.YtfjhpeijlhlaeaaDoor
