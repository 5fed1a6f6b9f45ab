
/-
  A number read of a text.
-/
import Derived.Test.YtdeblmolgmadiaaGreatDoorNb
import Derived.Laws.BitsAllLaws
namespace Go.Proofs.YtdeblmolgmadiaaGreatDoor
open Go.RowKit

theorem row_l (l : List UInt8) (hl : l.length ≤ 100000) (w : World) (hr : Rdy2 w) :
    Calls Tryz.prog 195 #[.string ⟨l.toArray⟩] w fun e w' => e = .returned (.tuple #[.int .u64 ((num l).getD 0 : Nat), .bool (num l).isSome]) ∧ Kept Nothing w w' :=
  row_any ⟨l.toArray⟩ hl w hr
/-- What two sides of a point tell. -/
def joinP (x y : List UInt8) : Nat × Nat :=
  match num x, num y with
  | some a, some b => if 65535 < max a b then (0, 24) else (a * 65536 + b, 0)
  | _, _ => (0, 5)
theorem njoin_any (x y : List UInt8) (hx : x.length ≤ 100000) (hy : y.length ≤ 100000) (w : World) (hr : Rdy2 w) :
    Calls Tryz.prog 194 #[.string ⟨x.toArray⟩, .string ⟨y.toArray⟩] w fun e w' => e = .returned (.tuple #[.int .u32 ((joinP x y).1 : Nat), .int .i64 ((joinP x y).2 : Nat)]) ∧ Kept Nothing w w' := by
  have tok : True := trivial
  have HX := fun w => row_l x hx w
  have HY := fun w => row_l y hy w
  have HJ : joinP x y = match num x, num y with | some a, some b => if 65535 < max a b then (0, 24) else (a * 65536 + b, 0) | _, _ => (0, 5) := rfl
  cases h1 : num x with
  | none =>
    rw [h1] at HX HJ
    have HX := Lib.hid HX
    have HY := Lib.hid HY
    have HJ := Lib.hid HJ
    go_enter Tryz.func194, Tryz.ntmps194
    go_wp2_with (first | (go_at_call 195; have _t := tok; refine (HX.out _ hr).mono ?_; rintro e w1 ⟨rfl, hk1⟩; clear tok) | (go_at_call 195; refine (HY.out _ (hr.kept hk1)).mono ?_; rintro e w2 ⟨rfl, hk2⟩))
    go_ret2
    exact ⟨by rw [HJ.out]; rfl, hk1.trans hk2⟩
  | some a =>
    cases h2 : num y with
    | none =>
      rw [h1] at HX
      rw [h2] at HY
      rw [h1, h2] at HJ
      have HX := Lib.hid HX
      have HY := Lib.hid HY
      have HJ := Lib.hid HJ
      go_enter Tryz.func194, Tryz.ntmps194
      go_wp2_with (first | (go_at_call 195; have _t := tok; refine (HX.out _ hr).mono ?_; rintro e w1 ⟨rfl, hk1⟩; clear tok) | (go_at_call 195; refine (HY.out _ (hr.kept hk1)).mono ?_; rintro e w2 ⟨rfl, hk2⟩))
      go_ret2
      exact ⟨by rw [HJ.out]; rfl, hk1.trans hk2⟩
    | some b =>
      have ba := (num_some h1).2
      have bb := (num_some h2).2
      rw [h1] at HX
      rw [h2] at HY
      rw [h1, h2] at HJ
      clear h1 h2
      have HX := Lib.hid HX
      have HY := Lib.hid HY
      by_cases hm : 65535 < max a b
      · have HJ := Lib.hid (HJ.trans (if_pos hm))
        have hm2 : (65535 : Int) < max (a : Int) (b : Int) := by omega
        clear hm
        go_enter Tryz.func194, Tryz.ntmps194
        go_wp2_with (first | (go_at_call 195; have _t := tok; refine (HX.out _ hr).mono ?_; rintro e w1 ⟨rfl, hk1⟩; clear tok) | (go_at_call 195; refine (HY.out _ (hr.kept hk1)).mono ?_; rintro e w2 ⟨rfl, hk2⟩))
        go_ret2
        exact ⟨by rw [HJ.out]; rfl, hk1.trans hk2⟩
      · have HJ := Lib.hid (HJ.trans (if_neg hm))
        have hm2 : max (a : Int) (b : Int) ≤ 65535 := by omega
        have ef : bits .or .u64 ((a : Int) * 65536) (b : Int) % 4294967296 = ((a * 65536 + b : Nat) : Int) := by
          have e : (a : Int) * 65536 = ((a * 65536 : Nat) : Int) := by omega
          rw [e, u64_or_nat _ _ (by omega) (by omega), nat_join 16 _ _ (by omega) (by omega)]
          omega
        have EF := Lib.hid ef
        clear hm ef
        go_enter Tryz.func194, Tryz.ntmps194
        go_wp2_with (first | (go_at_call 195; have _t := tok; refine (HX.out _ hr).mono ?_; rintro e w1 ⟨rfl, hk1⟩; clear tok) | (go_at_call 195; refine (HY.out _ (hr.kept hk1)).mono ?_; rintro e w2 ⟨rfl, hk2⟩))
        go_ret2
        exact ⟨by rw [HJ.out]; exact congrArg (fun z => Ending.returned (.tuple #[.int .u32 z, .int .i64 0])) EF.out, hk1.trans hk2⟩
theorem parse_any (l : List UInt8) (hl : l.length ≤ 100000) (w : World) (hr : Rdy2 w) :
    Calls Tryz.prog 179 #[.string ⟨l.toArray⟩] w fun e w' => e = .returned (.tuple #[.int .u32 ((parse l).1 : Nat), .int .i64 ((parse l).2 : Nat)]) ∧ Kept Nothing w w' := by
  have HC := cut_any 46 l hl
  cases hc : cutB 46 l with
  | true =>
    have HP : parse l = joinP (cutAt 46 l).1 (cutAt 46 l).2 := by unfold parse; rw [if_pos hc]; rfl
    have hn := cut_len 46 l
    have HJ := fun w => njoin_any (cutAt 46 l).1 (cutAt 46 l).2 (by omega) (by omega) w
    rw [← HP] at HJ
    rw [hc] at HC
    clear hc HP hn
    have HC := Lib.hid HC
    have HJ := Lib.hid HJ
    go_enter Tryz.func179, Tryz.ntmps179
    go_wp2_with (first | (go_at_call 193; refine (HC.out _).mono ?_; rintro e w1 ⟨rfl, hk1⟩) | (go_at_call 194; refine (HJ.out _ (hr.kept hk1)).mono ?_; rintro e w2 ⟨rfl, hk2⟩))
    go_ret2
    exact ⟨rfl, hk1.trans hk2⟩
  | false =>
    have HR := fun w => row_l l hl w
    have HP : parse l = match num l with | some n => if 4294967295 < n then (0, 24) else (n, 0) | none => (0, 5) := by unfold parse; rw [if_neg (by rw [hc]; simp)]; rfl
    rw [hc] at HC
    clear hc
    have HC := Lib.hid HC
    cases h1 : num l with
    | none =>
      rw [h1] at HR HP
      have HR := Lib.hid HR
      have HP := Lib.hid HP
      go_enter Tryz.func179, Tryz.ntmps179
      go_wp2_with (first | (go_at_call 193; refine (HC.out _).mono ?_; rintro e w1 ⟨rfl, hk1⟩) | (go_at_call 195; refine (HR.out _ (hr.kept hk1)).mono ?_; rintro e w2 ⟨rfl, hk2⟩))
      go_ret2
      exact ⟨by rw [HP.out]; rfl, hk1.trans hk2⟩
    | some n =>
      rw [h1] at HR HP
      clear h1
      have HR := Lib.hid HR
      by_cases hm : 4294967295 < n
      · have HP := Lib.hid (HP.trans (if_pos hm))
        have hm2 : (4294967295 : Int) < (n : Int) := by omega
        clear hm
        go_enter Tryz.func179, Tryz.ntmps179
        go_wp2_with (first | (go_at_call 193; refine (HC.out _).mono ?_; rintro e w1 ⟨rfl, hk1⟩) | (go_at_call 195; refine (HR.out _ (hr.kept hk1)).mono ?_; rintro e w2 ⟨rfl, hk2⟩))
        go_ret2
        exact ⟨by rw [HP.out]; rfl, hk1.trans hk2⟩
      · have HP := Lib.hid (HP.trans (if_neg hm))
        have hm2 : (n : Int) ≤ 4294967295 := by omega
        clear hm
        go_enter Tryz.func179, Tryz.ntmps179
        go_wp2_with (first | (go_at_call 193; refine (HC.out _).mono ?_; rintro e w1 ⟨rfl, hk1⟩) | (go_at_call 195; refine (HR.out _ (hr.kept hk1)).mono ?_; rintro e w2 ⟨rfl, hk2⟩))
        go_ret2
        exact ⟨by rw [HP.out]; go_num, hk1.trans hk2⟩
end Go.Proofs.YtdeblmolgmadiaaGreatDoor
