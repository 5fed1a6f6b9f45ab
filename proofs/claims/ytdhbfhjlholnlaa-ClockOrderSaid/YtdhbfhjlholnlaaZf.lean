
/-
  The document's clock: Next.
-/
import Derived.Test.YtdhbfhjlholnlaaZe
namespace Go.Proofs.Ytdhbfhjlholnlaa
open Go.RowKit

def Ck.bi (b : Option (Nat × Int)) : Int := match b with | none => -1 | some (k, _) => (k : Int)
set_option maxHeartbeats 2000000 in
theorem rc_next (p : Nat) (c : Ck.C) (hg : Ck.Good c) (w : World) (h : Rcp w p c) :
    Calls Try.prog 23 #[.pointer (some ⟨p, 0, none⟩)] w fun r w' =>
      r = .returned (.tuple #[.int .i64 (Ck.bt (Ck.next c)), .int .i64 (Ck.ba (Ck.next c)), .bool (Ck.next c).isSome]) ∧ Kept Nothing w w' := by
  have HR := Lib.hid h
  have HG := Lib.hid hg
  clear h hg
  unfold Ck.next
  go_enter Try.func23, Try.ntmps23
  go_wp2
  go_loopw [5, 6] (fun b n wr => ∃ k : Nat, n = .int .i64 (k : Int) ∧ k ≤ 4 ∧ b = .int .i64 (Ck.bi (Ck.bestN c.t k)) ∧ Kept Nothing w wr) (fun _ n _ => 4 - (intOf n).toNat)
  case atStart => exact ⟨0, rfl, by omega, rfl, Kept.refl _ w⟩
  case round =>
    obtain ⟨k, rfl, hk, rfl, hkw⟩ := hrel
    have HRr := Lib.hid (HR.out.kept hkw not_nothing)
    by_cases h4 : k < 4
    · have hi : (k : Int) < 4 := by omega
      have hst : Hid (Ck.bestN c.t (k + 1) = Ck.stp k (c.t.getD k none) (Ck.bestN c.t k)) := Lib.hid rfl
      have HB := Lib.hid (fun j y (e : Ck.bestN c.t k = some (j, y)) => Ck.best_some e)
      obtain ⟨d1, d2, d3, d4⟩ := HRr.out.cells4
      have hr := HG.out.ran
      have hlo := HG.out.lo
      cases hb : Ck.bestN c.t k with
      | none =>
        rw [hb] at hst
        simp only [Ck.bi]
        clear HB
        obtain rfl | rfl | rfl | rfl : k = 0 ∨ k = 1 ∨ k = 2 ∨ k = 3 := by omega
        · cases ho : c.t.getD 0 none with
          | none =>
            rw [ho] at d1 hst
            simp only [Ck.el, Option.getD_none] at d1
            clear ho hr hlo
            go_wp2
            first | (go_quiet (fail); go_wp2) | skip
            all_goals
              go_roundw
              case rel => exact ⟨1, by go_num, by omega, by rw [hst.out]; rfl, by first | exact hkw | exact hkw.drewN _⟩
              case measure => simp [intOf]
          | some x =>
            have hx := hr 0 x (Ck.getD_some.1 ho)
            have hx0 : 0 ≤ x := by omega
            rw [ho] at d1 hst
            simp only [Ck.el, Option.getD_some] at d1
            clear ho hr hlo hx
            go_wp2
            first | (go_quiet (fail); go_wp2) | skip
            all_goals
              go_roundw
              case rel => exact ⟨1, by go_num, by omega, by rw [hst.out]; rfl, by first | exact hkw | exact hkw.drewN _⟩
              case measure => simp [intOf]
        · cases ho : c.t.getD 1 none with
          | none =>
            rw [ho] at d2 hst
            simp only [Ck.el, Option.getD_none] at d2
            clear ho hr hlo
            go_wp2
            first | (go_quiet (fail); go_wp2) | skip
            all_goals
              go_roundw
              case rel => exact ⟨2, by go_num, by omega, by rw [hst.out]; rfl, by first | exact hkw | exact hkw.drewN _⟩
              case measure => simp [intOf]
          | some x =>
            have hx := hr 1 x (Ck.getD_some.1 ho)
            have hx0 : 0 ≤ x := by omega
            rw [ho] at d2 hst
            simp only [Ck.el, Option.getD_some] at d2
            clear ho hr hlo hx
            go_wp2
            first | (go_quiet (fail); go_wp2) | skip
            all_goals
              go_roundw
              case rel => exact ⟨2, by go_num, by omega, by rw [hst.out]; rfl, by first | exact hkw | exact hkw.drewN _⟩
              case measure => simp [intOf]
        · cases ho : c.t.getD 2 none with
          | none =>
            rw [ho] at d3 hst
            simp only [Ck.el, Option.getD_none] at d3
            clear ho hr hlo
            go_wp2
            first | (go_quiet (fail); go_wp2) | skip
            all_goals
              go_roundw
              case rel => exact ⟨3, by go_num, by omega, by rw [hst.out]; rfl, by first | exact hkw | exact hkw.drewN _⟩
              case measure => simp [intOf]
          | some x =>
            have hx := hr 2 x (Ck.getD_some.1 ho)
            have hx0 : 0 ≤ x := by omega
            rw [ho] at d3 hst
            simp only [Ck.el, Option.getD_some] at d3
            clear ho hr hlo hx
            go_wp2
            first | (go_quiet (fail); go_wp2) | skip
            all_goals
              go_roundw
              case rel => exact ⟨3, by go_num, by omega, by rw [hst.out]; rfl, by first | exact hkw | exact hkw.drewN _⟩
              case measure => simp [intOf]
        · cases ho : c.t.getD 3 none with
          | none =>
            rw [ho] at d4 hst
            simp only [Ck.el, Option.getD_none] at d4
            clear ho hr hlo
            go_wp2
            first | (go_quiet (fail); go_wp2) | skip
            all_goals
              go_roundw
              case rel => exact ⟨4, by go_num, by omega, by rw [hst.out]; rfl, by first | exact hkw | exact hkw.drewN _⟩
              case measure => simp [intOf]
          | some x =>
            have hx := hr 3 x (Ck.getD_some.1 ho)
            have hx0 : 0 ≤ x := by omega
            rw [ho] at d4 hst
            simp only [Ck.el, Option.getD_some] at d4
            clear ho hr hlo hx
            go_wp2
            first | (go_quiet (fail); go_wp2) | skip
            all_goals
              go_roundw
              case rel => exact ⟨4, by go_num, by omega, by rw [hst.out]; rfl, by first | exact hkw | exact hkw.drewN _⟩
              case measure => simp [intOf]
      | some jy =>
        obtain ⟨j, y⟩ := jy
        obtain ⟨hj, hjy, _⟩ := HB.out j y hb
        have hjy' := Ck.getD_some.2 hjy
        have hy := hr j y hjy
        rw [hb] at hst
        simp only [Ck.bi]
        clear HB
        obtain rfl | rfl | rfl | rfl : k = 0 ∨ k = 1 ∨ k = 2 ∨ k = 3 := by omega
        · omega
        · have hy0 : 0 ≤ y := by omega
          cases ho : c.t.getD 1 none with
          | none =>
            rw [ho] at d2 hst
            simp only [Ck.el, Option.getD_none] at d2
            clear ho hr hlo
            obtain rfl : j = 0 := by omega
            all_goals
              go_wp2
              first | (go_quiet (fail); go_wp2) | skip
              all_goals
                go_roundw
                case rel => exact ⟨2, by go_num, by omega, by rw [hst.out]; rfl, by first | exact hkw | exact hkw.drewN _⟩
                case measure => simp [intOf]
          | some x =>
            have hx := hr 1 x (Ck.getD_some.1 ho)
            have hx0 : 0 ≤ x := by omega
            rw [ho] at d2 hst
            simp only [Ck.el, Option.getD_some] at d2
            clear ho hr hlo hx hy
            by_cases hlt : x < y
            · have hst2 : Hid (Ck.bestN c.t 2 = some (1, x)) := Lib.hid (hst.out.trans (if_pos hlt))
              clear hst
              obtain rfl : j = 0 := by omega
              · rw [hjy'] at d1
                simp only [Ck.el, Option.getD_some] at d1
                clear hjy' hjy
                go_wp2
                first | (go_quiet (fail); go_wp2) | skip
                all_goals
                  go_roundw
                  case rel => exact ⟨2, by go_num, by omega, by rw [hst2.out], by first | exact hkw | exact hkw.drewN _⟩
                  case measure => simp [intOf]
            · have hst2 : Hid (Ck.bestN c.t 2 = some (j, y)) := Lib.hid (hst.out.trans (if_neg hlt))
              have hge : y ≤ x := by omega
              clear hlt hst
              obtain rfl : j = 0 := by omega
              · rw [hjy'] at d1
                simp only [Ck.el, Option.getD_some] at d1
                clear hjy' hjy
                go_wp2
                first | (go_quiet (fail); go_wp2) | skip
                all_goals
                  go_roundw
                  case rel => exact ⟨2, by go_num, by omega, by rw [hst2.out], by first | exact hkw | exact hkw.drewN _⟩
                  case measure => simp [intOf]
        · have hy0 : 0 ≤ y := by omega
          cases ho : c.t.getD 2 none with
          | none =>
            rw [ho] at d3 hst
            simp only [Ck.el, Option.getD_none] at d3
            clear ho hr hlo
            obtain rfl | rfl : j = 0 ∨ j = 1 := by omega
            all_goals
              go_wp2
              first | (go_quiet (fail); go_wp2) | skip
              all_goals
                go_roundw
                case rel => exact ⟨3, by go_num, by omega, by rw [hst.out]; rfl, by first | exact hkw | exact hkw.drewN _⟩
                case measure => simp [intOf]
          | some x =>
            have hx := hr 2 x (Ck.getD_some.1 ho)
            have hx0 : 0 ≤ x := by omega
            rw [ho] at d3 hst
            simp only [Ck.el, Option.getD_some] at d3
            clear ho hr hlo hx hy
            by_cases hlt : x < y
            · have hst2 : Hid (Ck.bestN c.t 3 = some (2, x)) := Lib.hid (hst.out.trans (if_pos hlt))
              clear hst
              obtain rfl | rfl : j = 0 ∨ j = 1 := by omega
              · rw [hjy'] at d1
                simp only [Ck.el, Option.getD_some] at d1
                clear hjy' hjy
                go_wp2
                first | (go_quiet (fail); go_wp2) | skip
                all_goals
                  go_roundw
                  case rel => exact ⟨3, by go_num, by omega, by rw [hst2.out], by first | exact hkw | exact hkw.drewN _⟩
                  case measure => simp [intOf]
              · rw [hjy'] at d2
                simp only [Ck.el, Option.getD_some] at d2
                clear hjy' hjy
                go_wp2
                first | (go_quiet (fail); go_wp2) | skip
                all_goals
                  go_roundw
                  case rel => exact ⟨3, by go_num, by omega, by rw [hst2.out], by first | exact hkw | exact hkw.drewN _⟩
                  case measure => simp [intOf]
            · have hst2 : Hid (Ck.bestN c.t 3 = some (j, y)) := Lib.hid (hst.out.trans (if_neg hlt))
              have hge : y ≤ x := by omega
              clear hlt hst
              obtain rfl | rfl : j = 0 ∨ j = 1 := by omega
              · rw [hjy'] at d1
                simp only [Ck.el, Option.getD_some] at d1
                clear hjy' hjy
                go_wp2
                first | (go_quiet (fail); go_wp2) | skip
                all_goals
                  go_roundw
                  case rel => exact ⟨3, by go_num, by omega, by rw [hst2.out], by first | exact hkw | exact hkw.drewN _⟩
                  case measure => simp [intOf]
              · rw [hjy'] at d2
                simp only [Ck.el, Option.getD_some] at d2
                clear hjy' hjy
                go_wp2
                first | (go_quiet (fail); go_wp2) | skip
                all_goals
                  go_roundw
                  case rel => exact ⟨3, by go_num, by omega, by rw [hst2.out], by first | exact hkw | exact hkw.drewN _⟩
                  case measure => simp [intOf]
        · have hy0 : 0 ≤ y := by omega
          cases ho : c.t.getD 3 none with
          | none =>
            rw [ho] at d4 hst
            simp only [Ck.el, Option.getD_none] at d4
            clear ho hr hlo
            obtain rfl | rfl | rfl : j = 0 ∨ j = 1 ∨ j = 2 := by omega
            all_goals
              go_wp2
              first | (go_quiet (fail); go_wp2) | skip
              all_goals
                go_roundw
                case rel => exact ⟨4, by go_num, by omega, by rw [hst.out]; rfl, by first | exact hkw | exact hkw.drewN _⟩
                case measure => simp [intOf]
          | some x =>
            have hx := hr 3 x (Ck.getD_some.1 ho)
            have hx0 : 0 ≤ x := by omega
            rw [ho] at d4 hst
            simp only [Ck.el, Option.getD_some] at d4
            clear ho hr hlo hx hy
            by_cases hlt : x < y
            · have hst2 : Hid (Ck.bestN c.t 4 = some (3, x)) := Lib.hid (hst.out.trans (if_pos hlt))
              clear hst
              obtain rfl | rfl | rfl : j = 0 ∨ j = 1 ∨ j = 2 := by omega
              · rw [hjy'] at d1
                simp only [Ck.el, Option.getD_some] at d1
                clear hjy' hjy
                go_wp2
                first | (go_quiet (fail); go_wp2) | skip
                all_goals
                  go_roundw
                  case rel => exact ⟨4, by go_num, by omega, by rw [hst2.out], by first | exact hkw | exact hkw.drewN _⟩
                  case measure => simp [intOf]
              · rw [hjy'] at d2
                simp only [Ck.el, Option.getD_some] at d2
                clear hjy' hjy
                go_wp2
                first | (go_quiet (fail); go_wp2) | skip
                all_goals
                  go_roundw
                  case rel => exact ⟨4, by go_num, by omega, by rw [hst2.out], by first | exact hkw | exact hkw.drewN _⟩
                  case measure => simp [intOf]
              · rw [hjy'] at d3
                simp only [Ck.el, Option.getD_some] at d3
                clear hjy' hjy
                go_wp2
                first | (go_quiet (fail); go_wp2) | skip
                all_goals
                  go_roundw
                  case rel => exact ⟨4, by go_num, by omega, by rw [hst2.out], by first | exact hkw | exact hkw.drewN _⟩
                  case measure => simp [intOf]
            · have hst2 : Hid (Ck.bestN c.t 4 = some (j, y)) := Lib.hid (hst.out.trans (if_neg hlt))
              have hge : y ≤ x := by omega
              clear hlt hst
              obtain rfl | rfl | rfl : j = 0 ∨ j = 1 ∨ j = 2 := by omega
              · rw [hjy'] at d1
                simp only [Ck.el, Option.getD_some] at d1
                clear hjy' hjy
                go_wp2
                first | (go_quiet (fail); go_wp2) | skip
                all_goals
                  go_roundw
                  case rel => exact ⟨4, by go_num, by omega, by rw [hst2.out], by first | exact hkw | exact hkw.drewN _⟩
                  case measure => simp [intOf]
              · rw [hjy'] at d2
                simp only [Ck.el, Option.getD_some] at d2
                clear hjy' hjy
                go_wp2
                first | (go_quiet (fail); go_wp2) | skip
                all_goals
                  go_roundw
                  case rel => exact ⟨4, by go_num, by omega, by rw [hst2.out], by first | exact hkw | exact hkw.drewN _⟩
                  case measure => simp [intOf]
              · rw [hjy'] at d3
                simp only [Ck.el, Option.getD_some] at d3
                clear hjy' hjy
                go_wp2
                first | (go_quiet (fail); go_wp2) | skip
                all_goals
                  go_roundw
                  case rel => exact ⟨4, by go_num, by omega, by rw [hst2.out], by first | exact hkw | exact hkw.drewN _⟩
                  case measure => simp [intOf]
    · obtain rfl : k = 4 := by omega
      cases hb : Ck.bestN c.t 4 with
      | none =>
        simp only [Ck.bi]
        have HB := Lib.hid hb
        clear hb
        go_wp2
        go_ret3
        exact ⟨by rw [HB.out]; rfl, hkw⟩
      | some jy =>
        obtain ⟨j, y⟩ := jy
        obtain ⟨hj, hjy, _⟩ := Ck.best_some hb
        have hjy' := Ck.getD_some.2 hjy
        obtain ⟨d1, d2, d3, d4⟩ := HRr.out.cells4
        simp only [Ck.bi]
        have HB := Lib.hid hb
        clear hb hjy
        obtain rfl | rfl | rfl | rfl : j = 0 ∨ j = 1 ∨ j = 2 ∨ j = 3 := by omega
        · rw [hjy'] at d1
          simp only [Ck.el, Option.getD_some] at d1
          clear hjy'
          go_wp2
          first | (go_quiet (fail); go_wp2) | skip
          all_goals
            go_ret3
            exact ⟨by rw [HB.out]; rfl, by first | exact hkw | exact hkw.drewN _⟩
        · rw [hjy'] at d2
          simp only [Ck.el, Option.getD_some] at d2
          clear hjy'
          go_wp2
          first | (go_quiet (fail); go_wp2) | skip
          all_goals
            go_ret3
            exact ⟨by rw [HB.out]; rfl, by first | exact hkw | exact hkw.drewN _⟩
        · rw [hjy'] at d3
          simp only [Ck.el, Option.getD_some] at d3
          clear hjy'
          go_wp2
          first | (go_quiet (fail); go_wp2) | skip
          all_goals
            go_ret3
            exact ⟨by rw [HB.out]; rfl, by first | exact hkw | exact hkw.drewN _⟩
        · rw [hjy'] at d4
          simp only [Ck.el, Option.getD_some] at d4
          clear hjy'
          go_wp2
          first | (go_quiet (fail); go_wp2) | skip
          all_goals
            go_ret3
            exact ⟨by rw [HB.out]; rfl, by first | exact hkw | exact hkw.drewN _⟩
end Go.Proofs.Ytdhbfhjlholnlaa
