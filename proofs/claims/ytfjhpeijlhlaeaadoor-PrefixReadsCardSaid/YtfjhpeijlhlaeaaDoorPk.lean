
/-
  slices.Equal of two rows of prefixes that read the same.
-/
import Derived.Test.YtfjhpeijlhlaeaaDoorPj
namespace Go.Proofs.YtfjhpeijlhlaeaaDoor
open Go.RowKit

theorem equal_same (v1 v2 : Value) (l : List (Nat × Int)) (w : World) (hl : l.length ≤ 100000) (h1 : Pfs w v1 l) (h2 : Pfs w v2 l) :
    Calls Tryd.prog 38 #[v1, v2] w fun e w' => e = .returned (.bool true) ∧ Kept Nothing w w' := by
  obtain ⟨A1, c1, rfl, hc1, hm1, hx1, hcells1⟩ := h1
  obtain ⟨A2, c2, rfl, hc2, hm2, hx2, hcells2⟩ := h2
  have he := eq_pfx
  have hg := guard_pfx
  go_enter Tryd.func38, Tryd.ntmps38
  go_wp2
  go_loopw [13] (fun i wr => ∃ k : Nat, k ≤ l.length ∧ i = .int .i64 k ∧ Kept Nothing w wr) (fun i _ => l.length - (intOf i).toNat)
  case atStart => exact ⟨0, by omega, rfl, Kept.refl _ w⟩
  case round =>
    obtain ⟨k, hk, rfl, hkw⟩ := hrel
    by_cases hlt : k < l.length
    · obtain ⟨b1, o1, rfl, hi1⟩ := hcells1 (by omega)
      obtain ⟨b2, o2, rfl, hi2⟩ := hcells2 (by omega)
      have p0 := hkw.cell_some (hi1 k hlt).1 (fun x => x)
      have p1 := hkw.cell_some (hi1 k hlt).2 (fun x => x)
      have q0 := hkw.cell_some (hi2 k hlt).1 (fun x => x)
      have q1 := hkw.cell_some (hi2 k hlt).2 (fun x => x)
      generalize l[k].1 = x at p0 q0
      generalize l[k].2 = y at p1 q1
      have h0 : (0 : Int) ≤ (k : Int) := by omega
      have h1 : (k : Int) < (l.length : Int) := by omega
      clear hi1 hi2 hcells1 hcells2 hx1 hx2
      go_wp2
      go_quiet (fail)
      go_wp2
      go_roundw
      case rel => exact ⟨k + 1, by omega, by go_num, hkw.drewN _⟩
      case measure => simp [intOf]; omega
    · clear hcells1 hcells2 hx1 hx2
      go_wp2
      go_ret
      exact ⟨rfl, hkw⟩
end Go.Proofs.YtfjhpeijlhlaeaaDoor
