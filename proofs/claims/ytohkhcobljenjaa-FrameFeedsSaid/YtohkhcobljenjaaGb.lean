
/-
  What a message's form is, as the document has it: Least, wrong, Bytes.
-/
import Derived.Test.YtohkhcobljenjaaGa
namespace Go.Proofs.Ytohkhcobljenjaa
open Go.RowKit

theorem r3_least1 (w : World) : Calls Try.prog 30 #[.int .u8 1] w fun r w' => r = .returned (.tuple #[.int .i64 29, .bool false]) ∧ w = w' := by
  go_enter Try.func30, Try.ntmps30
  go_wp2
  go_ret2
  exact ⟨rfl, rfl⟩
theorem r3_least2 (w : World) : Calls Try.prog 30 #[.int .u8 2] w fun r w' => r = .returned (.tuple #[.int .i64 23, .bool false]) ∧ w = w' := by
  go_enter Try.func30, Try.ntmps30
  go_wp2
  go_ret2
  exact ⟨rfl, rfl⟩
theorem r3_least3 (w : World) : Calls Try.prog 30 #[.int .u8 3] w fun r w' => r = .returned (.tuple #[.int .i64 21, .bool false]) ∧ w = w' := by
  go_enter Try.func30, Try.ntmps30
  go_wp2
  go_ret2
  exact ⟨rfl, rfl⟩
theorem r3_least4 (w : World) : Calls Try.prog 30 #[.int .u8 4] w fun r w' => r = .returned (.tuple #[.int .i64 19, .bool true]) ∧ w = w' := by
  go_enter Try.func30, Try.ntmps30
  go_wp2
  go_ret2
  exact ⟨rfl, rfl⟩
theorem r3_least5 (w : World) : Calls Try.prog 30 #[.int .u8 5] w fun r w' => r = .returned (.tuple #[.int .i64 23, .bool true]) ∧ w = w' := by
  go_enter Try.func30, Try.ntmps30
  go_wp2
  go_ret2
  exact ⟨rfl, rfl⟩

theorem r3_wrong (t n : Nat) (ht : 1 ≤ t ∧ t ≤ 5) (w : World) : Calls Try.prog 20 #[.int .u8 (t : Int), .int .i64 (n : Int)] w fun r w' => r = .returned (.bool (!Fr.fits t n)) ∧ w = w' := by
  obtain ⟨ha, hb⟩ := ht
  have hcase : t = 1 ∨ t = 2 ∨ t = 3 ∨ t = 4 ∨ t = 5 := by omega
  clear ha hb
  rcases hcase with rfl | rfl | rfl | rfl | rfl
  · have HL := Lib.hid (fun w => r3_least1 w)
    go_enter Try.func20, Try.ntmps20
    go_wp2_with fail
    refine (HL.out _).mono ?_
    rintro e w' ⟨rfl, rfl⟩
    go_wp2
    all_goals go_ret
    all_goals exact ⟨ret_bool (by rw [Bool.eq_iff_iff]; simp [Fr.fits]; try omega), rfl⟩
  · have HL := Lib.hid (fun w => r3_least2 w)
    go_enter Try.func20, Try.ntmps20
    go_wp2_with fail
    refine (HL.out _).mono ?_
    rintro e w' ⟨rfl, rfl⟩
    go_wp2
    all_goals go_ret
    all_goals exact ⟨ret_bool (by rw [Bool.eq_iff_iff]; simp [Fr.fits]; try omega), rfl⟩
  · have HL := Lib.hid (fun w => r3_least3 w)
    go_enter Try.func20, Try.ntmps20
    go_wp2_with fail
    refine (HL.out _).mono ?_
    rintro e w' ⟨rfl, rfl⟩
    go_wp2
    all_goals go_ret
    all_goals exact ⟨ret_bool (by rw [Bool.eq_iff_iff]; simp [Fr.fits]; try omega), rfl⟩
  · have HL := Lib.hid (fun w => r3_least4 w)
    go_enter Try.func20, Try.ntmps20
    go_wp2_with fail
    refine (HL.out _).mono ?_
    rintro e w' ⟨rfl, rfl⟩
    go_wp2
    all_goals go_ret
    all_goals exact ⟨ret_bool (by rw [Bool.eq_iff_iff]; simp [Fr.fits]; try omega), rfl⟩
  · have HL := Lib.hid (fun w => r3_least5 w)
    go_enter Try.func20, Try.ntmps20
    go_wp2_with fail
    refine (HL.out _).mono ?_
    rintro e w' ⟨rfl, rfl⟩
    go_wp2
    all_goals go_ret
    all_goals exact ⟨ret_bool (by rw [Bool.eq_iff_iff]; simp [Fr.fits]; try omega), rfl⟩
end Go.Proofs.Ytohkhcobljenjaa
