
/-
  The law's arguments, brought in bounds.
-/
import Derived.Test.YteofbpdogmajoaaGreatDoorZh
import Derived.Deep.RegionHeld3
namespace Go.Proofs.YteofbpdogmajoaaGreatDoor
open Go.RowKit

def brS (s : Seg) : Seg := (1 + s.1 % 4, s.2.take 40)
/-- What the law makes of a path. -/
def brF (l : List Seg) : List Seg := ((l.take 8).filter (fun s => !s.2.isEmpty)).map brS
theorem brF_nil : brF [] = [] := rfl
theorem brF_lo {l : List Seg} {k : Nat} (hk : k < l.length) (h8 : k < 8) (he : ¬ (l.getD k (0, [])).2 = []) : brF (l.take (k + 1)) = brF (l.take k) ++ [brS (l.getD k (0, []))] := by
  unfold brF
  rw [List.take_take, List.take_take, show min 8 (k + 1) = k + 1 by omega, show min 8 k = k by omega, List.take_succ_eq_append_getElem hk, List.filter_append, List.map_append]
  rw [getD_get hk] at he ⊢
  rw [List.filter_cons_of_pos (by simpa using he)]
  rfl
theorem brF_no {l : List Seg} {k : Nat} (hk : k < l.length) (h : ¬ k < 8 ∨ (l.getD k (0, [])).2 = []) : brF (l.take (k + 1)) = brF (l.take k) := by
  unfold brF
  by_cases h8 : k < 8
  · have he := h.resolve_left (fun x => x h8)
    rw [List.take_take, List.take_take, show min 8 (k + 1) = k + 1 by omega, show min 8 k = k by omega, List.take_succ_eq_append_getElem hk, List.filter_append]
    rw [getD_get hk] at he
    rw [List.filter_cons_of_neg (by simpa using he)]
    simp
  · rw [List.take_take, List.take_take, show min 8 (k + 1) = 8 by omega, show min 8 k = 8 by omega]
theorem brF_len (l : List Seg) : (brF l).length ≤ 8 := by
  unfold brF
  rw [List.length_map]
  exact Nat.le_trans (List.length_filter_le _ _) (by rw [List.length_take]; omega)
theorem brF_num {l : List Seg} {s : Seg} (h : s ∈ brF l) : s.2.length ≤ 40 ∧ s.2 ≠ [] ∧ 1 ≤ s.1.toNat ∧ s.1.toNat ≤ 4 := by
  unfold brF at h
  obtain ⟨t, ht, rfl⟩ := List.mem_map.1 h
  have he := (List.mem_filter.1 ht).2
  refine ⟨by simp [brS]; omega, ?_, ?_, ?_⟩
  · intro e
    have : t.2.take 40 = [] := e
    rw [List.take_eq_nil_iff] at this
    simp at this
    rw [this] at he
    simp at he
  · show 1 ≤ (1 + t.1 % 4).toNat
    have := t.1.toNat_lt
    simp [UInt8.toNat_add, UInt8.toNat_mod]
    omega
  · show (1 + t.1 % 4).toNat ≤ 4
    have := t.1.toNat_lt
    simp [UInt8.toNat_add, UInt8.toNat_mod]
    omega
theorem kd_mod (k : UInt8) : IntKind.u8.wrap (1 + (k.toNat : Int).tmod 4) = ((1 + k % 4 : UInt8).toNat : Int) := by
  have := k.toNat_lt
  have h : ((1 + k % 4 : UInt8).toNat : Int) = 1 + (k.toNat : Int) % 4 := by
    simp [UInt8.toNat_add, UInt8.toNat_mod]
    omega
  rw [h, Int.tmod_eq_emod_of_nonneg (by omega)]
  simp [IntKind.wrap, IntKind.bits, IntKind.signed]
  omega

theorem slice_toA (A : Option Addr) (n c k : Nat) (hk : k ≤ c) (w : World) :
    (Instr.slice 69 (.slice A n c) none (some (.int .i64 (k : Int))) none).run Tryz.prog w = .ok (.slice A k c) w := by
  have hz := Tryz.sizeOf27
  have he : Tryz.prog.elem 69 = 27 := by kernel_rfl
  rw [run_slice_h w 69 A n c (by kernel_rfl) .i64 k (by omega) (by omega), he, hz]
  cases A <;> simp [sliced, Addr.add]

end Go.Proofs.YteofbpdogmajoaaGreatDoor
