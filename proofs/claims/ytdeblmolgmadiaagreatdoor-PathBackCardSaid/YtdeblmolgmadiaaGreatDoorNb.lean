
/-
  Numbers told: strconv.FormatUint at base 10, Text, Dotted, Wide, Short.
-/
import Derived.Test.YtdeblmolgmadiaaGreatDoorNp
import Derived.Test.YtdeblmolgmadiaaGreatDoorUp
import Derived.Laws.Concat
namespace Go.Proofs.YtdeblmolgmadiaaGreatDoor
open Go.RowKit Go.Sort

theorem fmtu_in (u : Nat) (hu : u < 4294967296) (w : World) (hr : Rdy2 w) :
    Calls Tryz.prog 175 #[.int .u64 (u : Int), .int .i64 10] w fun e w' => e = .returned (.string ⟨(Lib.decDigits u).toArray⟩) ∧ Kept Nothing w w' := by
  by_cases hi : u < 100
  · have hi2 : (u : Int) < 100 := by omega
    go_enter Tryz.func175, Tryz.ntmps175
    go_wp2_with (go_at_call 187; refine (Tryz.internal_strconv_small u hi _).mono ?_; rintro e w' ⟨rfl, rfl⟩)
    go_ret
    exact ⟨rfl, Kept.refl _ _⟩
  · have hi2 : (100 : Int) ≤ (u : Int) := by omega
    have hu1 : 1 ≤ u := by omega
    have hu64 : u < 18446744073709551616 := by omega
    have hnd20 : Lib.nDigits u ≤ 20 := by have := Lib.numDigits_eq u hu1 hu64; split at this <;> omega
    have hal : Tryz.prog.arrayLen 250 = 24 := by kernel_rfl
    have hsl : ∀ W, (Instr.sliceAt 250 (.pointer (some ⟨w.heap.size, 0, none⟩)) none (some (.int .i64 (Lib.nDigits u : Int))) none).run Tryz.prog W = .ok (.slice (some ⟨w.heap.size, 0, none⟩) (Lib.nDigits u) 24) W := fun W => by
      rw [run_sliceAt_array_h W 250 ⟨w.heap.size, 0, none⟩ (by kernel_rfl) .i64 (Lib.nDigits u : Int) (by omega) (by rw [hal]; omega)]
      go_simp
    have hH0 := Lib.holds_zero0 w 250 (Lib.nDigits u) (by omega)
    have hfmt := Tryz.internal_strconv_formatBase10 w.heap.size 0 24 u (Array.replicate (Lib.nDigits u) 0) (w.alloc (.cells Lib.zeros24 250)) hH0 (by rw [Array.size_replicate]; exact Lib.lt_pow_nDigits u) hu64 (by rw [Array.size_replicate]; omega)
    rw [Array.size_replicate] at hfmt
    have HH0 := Lib.hid hH0
    have HF := Lib.hid hfmt
    have htab := Lib.hid hr.1
    clear hH0 hal hfmt hr
    go_enter Tryz.func175, Tryz.ntmps175
    go_wp2_with (first
      | (go_at_call 188; refine (Tryz.internal_strconv_numDigits u hu1 hu64 _ (Lib.tabIs_alloc htab.out _)).mono ?_; rintro e w' ⟨rfl, rfl⟩))
    go_at_call 189
    refine (HF.out).mono ?_
    rintro e w' ⟨rfl, k, v', dk, rfl, hF⟩
    have hcv : (convert 28 9 (.slice (some ⟨w.heap.size, 0, none⟩) (Lib.nDigits u) 24)).run Tryz.prog ((putRow (fun (b : UInt8) => Value.int .u8 (b.toNat : Int)) (w.alloc (.cells Lib.zeros24 250)) w.heap.size 0 dk).drewN k) = .ok (.string ⟨(Lib.decDigits u).toArray⟩) ((putRow (fun (b : UInt8) => Value.int .u8 (b.toNat : Int)) (w.alloc (.cells Lib.zeros24 250)) w.heap.size 0 dk).drewN k) := by
      have h := run_convert_bytes_back (P := Tryz.prog) ((putRow (fun (b : UInt8) => Value.int .u8 (b.toNat : Int)) (w.alloc (.cells Lib.zeros24 250)) w.heap.size 0 dk).drewN k) 28 9 5 ⟨w.heap.size, 0, none⟩ 24 (Lib.decDigits u) Tryz.underlying28 Tryz.underlying5 Tryz.underlying9 (fun j hj => by
        rw [Lib.row_is_numeral hF j hj, Lib.add_plain, World.cell?_drewN]
        exact cell?_putRow (fun (b : UInt8) => Value.int .u8 (b.toNat : Int)) _ w.heap.size 0 _ dk HH0.out (by rw [hF.size, Array.size_replicate]) j (by rw [hF.size]; rw [Lib.decDigits_length] at hj; exact hj))
      rw [Lib.decDigits_length] at h
      exact h
    go_wp2
    go_ret
    obtain ⟨os, eo⟩ := Lib.fin_at w (.cells Lib.zeros24 250) dk k 0
    exact ⟨rfl, by rw [eo]; exact kept_grow w k os⟩
theorem fmtu_any (u : Nat) (hu : u < 4294967296) (w : World) (hr : Rdy2 w) :
    Calls Tryz.prog 148 #[.int .u64 (u : Int), .int .i64 10] w fun e w' => e = .returned (.string ⟨(Lib.decDigits u).toArray⟩) ∧ Kept Nothing w w' := by
  go_enter Tryz.func148, Tryz.ntmps148
  go_wp2_with (go_at_call 175; refine (fmtu_in u hu _ hr).mono ?_; rintro e w1 ⟨rfl, hk⟩)
  go_ret
  exact ⟨rfl, hk⟩
theorem text_any (u : Nat) (hu : u < 4294967296) (w : World) (hr : Rdy2 w) :
    Calls Tryz.prog 106 #[.int .u32 (u : Int)] w fun e w' => e = .returned (.string ⟨(Lib.decDigits u).toArray⟩) ∧ Kept Nothing w w' := by
  go_enter Tryz.func106, Tryz.ntmps106
  go_wp2_with (go_at_call 148; refine (fmtu_any u hu _ hr).mono ?_; rintro e w1 ⟨rfl, hk⟩)
  go_ret
  exact ⟨rfl, hk⟩
def wide (n : Nat) : Bool := decide (65535 < n)
theorem wide_any (n : Nat) (w : World) :
    Calls Tryz.prog 97 #[.int .u32 (n : Int)] w fun e w' => e = .returned (.bool (wide n)) ∧ w = w' := by
  go_enter Tryz.func97, Tryz.ntmps97
  go_wp2
  go_ret
  exact ⟨ret_bool (by unfold wide; simp; omega), rfl⟩
def short (n : Nat) : Nat := if 65535 < n then 23456 else n
theorem short_any (n : Nat) (hn : n < 4294967296) (w : World) :
    Calls Tryz.prog 101 #[.int .u32 (n : Int)] w fun e w' => e = .returned (.int .u16 (short n : Nat)) ∧ w = w' := by
  by_cases h : 65535 < n
  · have hW : wide n = true := by simp [wide, h]
    have hS := Lib.hid (show short n = 23456 from if_pos h)
    go_enter Tryz.func101, Tryz.ntmps101
    go_wp2_with (go_at_call 97; refine (wide_any n _).mono ?_; rintro e w1 ⟨rfl, rfl⟩)
    go_ret
    exact ⟨by rw [hS.out]; rfl, rfl⟩
  · have hW : wide n = false := by simp [wide]; omega
    have hS := Lib.hid (show short n = n from if_neg h)
    go_enter Tryz.func101, Tryz.ntmps101
    go_wp2_with (go_at_call 97; refine (wide_any n _).mono ?_; rintro e w1 ⟨rfl, rfl⟩)
    go_ret
    exact ⟨by rw [hS.out]; exact ret_int (by omega), rfl⟩
theorem add_run (x y : List UInt8) (hx : x.length ≤ 100000) (hy : y.length ≤ 100000) (w : World) : (Op.stringOp .add ⟨x.toArray⟩ ⟨y.toArray⟩).run Tryz.prog w = .ok (.string ⟨(x ++ y).toArray⟩) w := by
  rw [run_string_add_sum _ _ _ (by show x.toArray.size + y.toArray.size ≤ _; simp; omega)]
  congr 2
theorem dot_len (n : Nat) (h : n < 4294967296) : (dot n).length ≤ 100 := by
  unfold dot
  split
  · have := dec_len32 (n / 65536) (by omega)
    have := dec_len32 (n % 65536) (by omega)
    simp
    omega
  · have := dec_len32 n h
    omega
end Go.Proofs.YtdeblmolgmadiaaGreatDoor
