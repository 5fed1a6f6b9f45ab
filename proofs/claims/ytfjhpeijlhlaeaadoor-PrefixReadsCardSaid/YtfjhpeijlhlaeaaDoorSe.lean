
/-
  PrefixReads: the law's Like.
-/
import Derived.Test.YtfjhpeijlhlaeaaDoorSd
import Derived.Test.YtfjhpeijlhlaeaaDoorPk
namespace Go.Proofs.YtfjhpeijlhlaeaaDoor
open Go.RowKit

theorem like_any (v1 v2 : Value) (l : List (Nat × Int)) (w : World) (hl : l.length ≤ 100000) (h1 : Pfs w v1 l) (h2 : Pfs w v2 l) :
    Calls Tryd.prog 35 #[v1, v2] w fun e w' => e = .returned (.bool true) ∧ Kept Nothing w w' := by
  obtain ⟨A1, c1, rfl, hc1, hm1, hx1, hcells1⟩ := h1
  obtain ⟨A2, c2, rfl, hc2, hm2, hx2, hcells2⟩ := h2
  have he := eq_ref
  go_enter Tryd.func35, Tryd.ntmps35
  go_wp2
  go_loopw [5] (fun i wr => ∃ k : Nat, k ≤ l.length ∧ i = .int .i64 k ∧ Kept Nothing w wr) (fun i _ => l.length - (intOf i).toNat)
  case atStart => exact ⟨0, by omega, rfl, Kept.refl _ w⟩
  case round =>
    obtain ⟨k, hk, rfl, hkw⟩ := hrel
    by_cases hlt : k < l.length
    · obtain ⟨b1, o1, rfl, hi1⟩ := hcells1 (by omega)
      obtain ⟨b2, o2, rfl, hi2⟩ := hcells2 (by omega)
      have p0 := hkw.cell_some (hi1 k hlt).1 (fun x => x)
      have p1 := hkw.cell_some (hi1 k hlt).2 (fun x => x)
      have q0 := hkw.cell_some (hi2 k hlt).1 (fun x => x)
      have q1 := hkw.cell_some (hi2 k hlt).2 (fun x => x)
      generalize (l[k].1 : Int) = x at p0 q0
      generalize l[k].2 = y at p1 q1
      have p0 := up_cell p0
      have p1 := up_cell p1
      have q0 := up_cell q0
      have q1 := up_cell q1
      have h0 : (0 : Int) ≤ (k : Int) := by omega
      have h1 : (k : Int) < (l.length : Int) := by omega
      clear hi1 hi2 hcells1 hcells2 hx1 hx2
      go_wp2_with fail
      refine wp_region_up (by kernel_rfl) (by kernel_rfl) ?_
      repeat (go_big_quiet_step ((go_at_call 10; (with_reducible exact up_call (lof_any _ _ _)))))
      refine wpQuiet_nil ?_
      rintro w2 ⟨⟨_, k2⟩, rfl⟩
      clear p0 p1 q0 q1
      go_wp2
      go_roundw
      case rel => exact ⟨k + 1, by omega, by go_num, hkw.trans k2⟩
      case measure => simp [intOf]; omega
    · clear hcells1 hcells2 hx1 hx2
      go_wp2
      go_ret
      exact ⟨rfl, hkw⟩
end Go.Proofs.YtfjhpeijlhlaeaaDoor
