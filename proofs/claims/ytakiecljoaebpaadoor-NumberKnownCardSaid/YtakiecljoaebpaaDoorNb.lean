
/-
  Numbers told: strconv.FormatUint at base 10, Text, Dotted, Wide, Short.
-/
import Derived.Test.YtakiecljoaebpaaDoorNp
import Derived.Test.YtakiecljoaebpaaDoorUp
import Derived.Laws.Concat
namespace Go.Proofs.YtakiecljoaebpaaDoor
open Go.RowKit Go.Sort

theorem fmtu_in (u : Nat) (hu : u < 4294967296) (w : World) (hr : Rdy2 w) :
    Calls Tryd.prog 27 #[.int .u64 (u : Int), .int .i64 10] w fun e w' => e = .returned (.string ⟨(Lib.decDigits u).toArray⟩) ∧ Kept Nothing w w' := by
  by_cases hi : u < 100
  · have hi2 : (u : Int) < 100 := by omega
    go_enter Tryd.func27, Tryd.ntmps27
    go_wp2_with (go_at_call 30; refine (Tryd.internal_strconv_small u hi _).mono ?_; rintro e w' ⟨rfl, rfl⟩)
    go_ret
    exact ⟨rfl, Kept.refl _ _⟩
  · have hi2 : (100 : Int) ≤ (u : Int) := by omega
    have hu1 : 1 ≤ u := by omega
    have hu64 : u < 18446744073709551616 := by omega
    have hnd20 : Lib.nDigits u ≤ 20 := by have := Lib.numDigits_eq u hu1 hu64; split at this <;> omega
    have hal : Tryd.prog.arrayLen 64 = 24 := by kernel_rfl
    have hsl : ∀ W, (Instr.sliceAt 64 (.pointer (some ⟨w.heap.size, 0, none⟩)) none (some (.int .i64 (Lib.nDigits u : Int))) none).run Tryd.prog W = .ok (.slice (some ⟨w.heap.size, 0, none⟩) (Lib.nDigits u) 24) W := fun W => by
      rw [run_sliceAt_array_h W 64 ⟨w.heap.size, 0, none⟩ (by kernel_rfl) .i64 (Lib.nDigits u : Int) (by omega) (by rw [hal]; omega)]
      go_simp
    have hH0 := Lib.holds_zero0 w 64 (Lib.nDigits u) (by omega)
    have hfmt := Tryd.internal_strconv_formatBase10 w.heap.size 0 24 u (Array.replicate (Lib.nDigits u) 0) (w.alloc (.cells Lib.zeros24 64)) hH0 (by rw [Array.size_replicate]; exact Lib.lt_pow_nDigits u) hu64 (by rw [Array.size_replicate]; omega)
    rw [Array.size_replicate] at hfmt
    have HH0 := Lib.hid hH0
    have HF := Lib.hid hfmt
    have htab := Lib.hid hr.1
    clear hH0 hal hfmt hr
    go_enter Tryd.func27, Tryd.ntmps27
    go_wp2_with (first
      | (go_at_call 31; refine (Tryd.internal_strconv_numDigits u hu1 hu64 _ (Lib.tabIs_alloc htab.out _)).mono ?_; rintro e w' ⟨rfl, rfl⟩))
    go_at_call 32
    refine (HF.out).mono ?_
    rintro e w' ⟨rfl, k, v', dk, rfl, hF⟩
    have hcv : (convert 50 9 (.slice (some ⟨w.heap.size, 0, none⟩) (Lib.nDigits u) 24)).run Tryd.prog ((putRow (fun (b : UInt8) => Value.int .u8 (b.toNat : Int)) (w.alloc (.cells Lib.zeros24 64)) w.heap.size 0 dk).drewN k) = .ok (.string ⟨(Lib.decDigits u).toArray⟩) ((putRow (fun (b : UInt8) => Value.int .u8 (b.toNat : Int)) (w.alloc (.cells Lib.zeros24 64)) w.heap.size 0 dk).drewN k) := by
      have h := run_convert_bytes_back (P := Tryd.prog) ((putRow (fun (b : UInt8) => Value.int .u8 (b.toNat : Int)) (w.alloc (.cells Lib.zeros24 64)) w.heap.size 0 dk).drewN k) 50 9 5 ⟨w.heap.size, 0, none⟩ 24 (Lib.decDigits u) Tryd.underlying50 Tryd.underlying5 Tryd.underlying9 (fun j hj => by
        rw [Lib.row_is_numeral hF j hj, Lib.add_plain, World.cell?_drewN]
        exact cell?_putRow (fun (b : UInt8) => Value.int .u8 (b.toNat : Int)) _ w.heap.size 0 _ dk HH0.out (by rw [hF.size, Array.size_replicate]) j (by rw [hF.size]; rw [Lib.decDigits_length] at hj; exact hj))
      rw [Lib.decDigits_length] at h
      exact h
    go_wp2
    go_ret
    obtain ⟨os, eo⟩ := Lib.fin_at w (.cells Lib.zeros24 64) dk k 0
    exact ⟨rfl, by rw [eo]; exact kept_grow w k os⟩
theorem fmtu_any (u : Nat) (hu : u < 4294967296) (w : World) (hr : Rdy2 w) :
    Calls Tryd.prog 21 #[.int .u64 (u : Int), .int .i64 10] w fun e w' => e = .returned (.string ⟨(Lib.decDigits u).toArray⟩) ∧ Kept Nothing w w' := by
  go_enter Tryd.func21, Tryd.ntmps21
  go_wp2_with (go_at_call 27; refine (fmtu_in u hu _ hr).mono ?_; rintro e w1 ⟨rfl, hk⟩)
  go_ret
  exact ⟨rfl, hk⟩
theorem text_any (u : Nat) (hu : u < 4294967296) (w : World) (hr : Rdy2 w) :
    Calls Tryd.prog 13 #[.int .u32 (u : Int)] w fun e w' => e = .returned (.string ⟨(Lib.decDigits u).toArray⟩) ∧ Kept Nothing w w' := by
  go_enter Tryd.func13, Tryd.ntmps13
  go_wp2_with (go_at_call 21; refine (fmtu_any u hu _ hr).mono ?_; rintro e w1 ⟨rfl, hk⟩)
  go_ret
  exact ⟨rfl, hk⟩
def wide (n : Nat) : Bool := decide (65535 < n)
theorem wide_any (n : Nat) (w : World) :
    Calls Tryd.prog 8 #[.int .u32 (n : Int)] w fun e w' => e = .returned (.bool (wide n)) ∧ w = w' := by
  go_enter Tryd.func8, Tryd.ntmps8
  go_wp2
  go_ret
  exact ⟨ret_bool (by unfold wide; simp; omega), rfl⟩
def short (n : Nat) : Nat := if 65535 < n then 23456 else n
theorem short_any (n : Nat) (hn : n < 4294967296) (w : World) :
    Calls Tryd.prog 9 #[.int .u32 (n : Int)] w fun e w' => e = .returned (.int .u16 (short n : Nat)) ∧ w = w' := by
  by_cases h : 65535 < n
  · have hW : wide n = true := by simp [wide, h]
    have hS := Lib.hid (show short n = 23456 from if_pos h)
    go_enter Tryd.func9, Tryd.ntmps9
    go_wp2_with (go_at_call 8; refine (wide_any n _).mono ?_; rintro e w1 ⟨rfl, rfl⟩)
    go_ret
    exact ⟨by rw [hS.out]; rfl, rfl⟩
  · have hW : wide n = false := by simp [wide]; omega
    have hS := Lib.hid (show short n = n from if_neg h)
    go_enter Tryd.func9, Tryd.ntmps9
    go_wp2_with (go_at_call 8; refine (wide_any n _).mono ?_; rintro e w1 ⟨rfl, rfl⟩)
    go_ret
    exact ⟨by rw [hS.out]; exact ret_int (by omega), rfl⟩
theorem add_run (x y : List UInt8) (hx : x.length ≤ 100000) (hy : y.length ≤ 100000) (w : World) : (Op.stringOp .add ⟨x.toArray⟩ ⟨y.toArray⟩).run Tryd.prog w = .ok (.string ⟨(x ++ y).toArray⟩) w := by
  rw [run_string_add_sum _ _ _ (by show x.toArray.size + y.toArray.size ≤ _; simp; omega)]
  congr 2
theorem dot_len (n : Nat) (h : n < 4294967296) : (dot n).length ≤ 100 := by
  unfold dot
  split
  · have := dec_len32 (n / 65536) (by omega)
    have := dec_len32 (n % 65536) (by omega)
    simp
    omega
  · have := dec_len32 n h
    omega
theorem dotted_any (n : Nat) (hn : n < 4294967296) (w : World) (hr : Rdy2 w) :
    Calls Tryd.prog 15 #[.int .u32 (n : Int)] w fun e w' => e = .returned (.string ⟨(dot n).toArray⟩) ∧ Kept Nothing w w' := by
  by_cases h : 65535 < n
  · have hW : wide n = true := by simp [wide, h]
    have hS := Lib.hid (show dot n = Lib.decDigits (n / 65536) ++ 46 :: Lib.decDigits (n % 65536) from if_pos h)
    have ha : n / 65536 < 4294967296 := by omega
    have hb : n % 65536 < 4294967296 := by omega
    have ea : (n : Int) / 65536 = ((n / 65536 : Nat) : Int) := by omega
    have eb : bits .and .u32 (n : Int) 65535 = ((n % 65536 : Nat) : Int) := by
      have := u32_and_nat n 65535 hn (by omega)
      rw [Nat.and_two_pow_sub_one_eq_mod n 16] at this
      exact this
    generalize n / 65536 = a at hS ha ea
    generalize n % 65536 = b at hS hb eb
    have s1 := add_run (Lib.decDigits a) [46] (by have := dec_len32 a ha; omega) (by simp)
    have s2 := add_run (Lib.decDigits a ++ [46]) (Lib.decDigits b) (by have := dec_len32 a ha; simp; omega) (by have := dec_len32 b hb; omega)
    go_enter Tryd.func15, Tryd.ntmps15
    go_wp2_with (first | (go_at_call 8; refine (wide_any n _).mono ?_; rintro e w1 ⟨rfl, rfl⟩) | (go_at_call 13; refine (text_any a ha _ hr).mono ?_; rintro e w1 ⟨rfl, hk1⟩) | (go_at_call 13; refine (text_any b hb _ (hr.kept hk1)).mono ?_; rintro e w2 ⟨rfl, hk2⟩))
    go_ret
    exact ⟨by rw [hS.out]; simp, hk1.trans hk2⟩
  · have hW : wide n = false := by simp [wide]; omega
    have hS := Lib.hid (show dot n = Lib.decDigits n from if_neg h)
    go_enter Tryd.func15, Tryd.ntmps15
    go_wp2_with (first | (go_at_call 8; refine (wide_any n _).mono ?_; rintro e w1 ⟨rfl, rfl⟩) | (go_at_call 13; refine (text_any n hn _ hr).mono ?_; rintro e w1 ⟨rfl, hk⟩))
    go_ret
    exact ⟨by rw [hS.out]; rfl, hk⟩
end Go.Proofs.YtakiecljoaebpaaDoor
