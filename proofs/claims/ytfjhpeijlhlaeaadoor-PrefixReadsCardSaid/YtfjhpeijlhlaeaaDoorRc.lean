
/-
  The document's May; the law's Of.
-/
import Derived.Test.YtfjhpeijlhlaeaaDoorRb
namespace Go.Proofs.YtfjhpeijlhlaeaaDoor
open Go.RowKit

theorem may_out (x : Nat) (b : Int) (h : b < 0 ∨ 32 < b) : may x b = false := by
  have hc := cl_le b
  unfold may
  have : decide (b = (cl b : Nat)) = false := by simp; omega
  rw [this, Bool.and_false]
theorem may_swap (x : Nat) (b : Int) : (decide (((low x (cl b) : Nat) : Int) = (x : Int)) && decide (((cl b : Nat) : Int) = b)) = may x b := by
  unfold may
  rw [Bool.eq_iff_iff]
  simp only [Bool.and_eq_true, decide_eq_true_eq]
  constructor <;> (rintro ⟨h1, h2⟩; exact ⟨h1.symm, h2.symm⟩)

theorem rmay_any (x : Nat) (b : Int) (hx : x < 4294967296) (w : World) :
    Calls Tryd.prog 12 #[.agg #[.int .u32 (x : Int), .int .i64 b]] w fun e w' => e = .returned (.bool (may x b)) ∧ Kept Nothing w w' := by
  have he := eq_ref
  have hg := guard_ref
  by_cases h0 : 0 ≤ b
  · by_cases h1 : b ≤ 32
    · rw [← may_swap]
      go_enter Tryd.func12, Tryd.ntmps12
      go_wp2_with fail
      have hk := (Kept.refl Nothing w).alloc (.cells #[.int .u32 (x : Int), .int .i64 b] 27)
      have hb := Blk.fresh w 27 #[.int .u32 (x : Int), .int .i64 b]
      generalize w.alloc _ = w0 at hk hb ⊢
      have d0 := up_cell (v := .int .u32 (x : Int)) (hb.cell 0)
      have d1 := up_cell (v := .int .i64 b) (hb.cell 1)
      clear hb
      refine wp_region_up (by kernel_rfl) (by kernel_rfl) ?_
      repeat (go_big_quiet_step ((go_at_call 25; exact up_call (rof_any x b hx _))))
      refine wpQuiet_nil ?_
      rintro _ ⟨⟨w1, hk1⟩, rfl⟩
      clear d0 d1 he hg
      go_wp2
      go_ret
      exact ⟨rfl, hk.trans hk1⟩
    · have HR := Lib.hid (may_out x b (.inr (by omega)))
      rw [HR.out]
      have hd : decide (b ≤ 32) = false := by simpa using h1
      go_enter Tryd.func12, Tryd.ntmps12
      go_wp2_with fail
      have hk := (Kept.refl Nothing w).alloc (.cells #[.int .u32 (x : Int), .int .i64 b] 27)
      have hb := Blk.fresh w 27 #[.int .u32 (x : Int), .int .i64 b]
      generalize w.alloc _ = w0 at hk hb ⊢
      have d0 := up_cell (v := .int .u32 (x : Int)) (hb.cell 0)
      have d1 := up_cell (v := .int .i64 b) (hb.cell 1)
      clear hb
      refine wp_region_up (by kernel_rfl) (by kernel_rfl) ?_
      repeat (go_big_quiet_step (fail))
      refine wpQuiet_nil ?_
      rintro _ ⟨⟨w1, hk1⟩, rfl⟩
      clear d0 d1 he hg
      go_wp2
      go_ret
      exact ⟨rfl, hk.trans hk1⟩
  · have HR := Lib.hid (may_out x b (.inl (by omega)))
    rw [HR.out]
    have hd : decide (0 ≤ b) = false := by simpa using h0
    go_enter Tryd.func12, Tryd.ntmps12
    go_wp2_with fail
    have hk := (Kept.refl Nothing w).alloc (.cells #[.int .u32 (x : Int), .int .i64 b] 27)
    have hb := Blk.fresh w 27 #[.int .u32 (x : Int), .int .i64 b]
    generalize w.alloc _ = w0 at hk hb ⊢
    have d0 := up_cell (v := .int .u32 (x : Int)) (hb.cell 0)
    have d1 := up_cell (v := .int .i64 b) (hb.cell 1)
    clear hb
    refine wp_region_up (by kernel_rfl) (by kernel_rfl) ?_
    repeat (go_big_quiet_step (fail))
    refine wpQuiet_nil ?_
    rintro _ ⟨⟨w1, hk1⟩, rfl⟩
    clear d0 d1 he hg
    go_wp2
    go_ret
    exact ⟨rfl, hk.trans hk1⟩

theorem lof_any (x b : Int) (w : World) :
    Calls Tryd.prog 10 #[.agg #[.int .u32 x, .int .i64 b]] w fun e w' => e = .returned (.agg #[.int .u32 x, .int .i64 b]) ∧ Kept Nothing w w' := by
  go_enter Tryd.func10, Tryd.ntmps10
  go_wp2
  exact bodyPost_ret (v := .agg #[.int .u32 x, .int .i64 b]) (by simp [results, Tryd.results10, go_sem]) rfl ⟨rfl, ((Kept.refl _ w).alloc _).alloc _⟩
end Go.Proofs.YtfjhpeijlhlaeaaDoor
