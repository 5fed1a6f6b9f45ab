/-
  An argument that is a slice of prefixes.
-/
import Derived.Test.YtahifknebccpbaaDoorPz
import Derived.Test.YtahifknebccpbaaDoorPj
namespace Go.Proofs.YtahifknebccpbaaDoor
open Go.ChangeShapes Go.WideShapes Go.ChangeAt Go.RowKit

def w_pfx (W : World) (a : Addr) (i : Nat) (z : Nat × Int) : Prop := W.cell? (a.add (i * 2)) = some (.int .u32 (z.1 : Nat)) ∧ W.cell? (a.add (i * 2 + 1)) = some (.int .i64 z.2)
set_option maxRecDepth 100000 in
theorem open_pfs {H : Type} {enc : TypeId × Value → H} {W : World} {base : Nat} {v : Value} {d : DataW H} {p : List MemPlace} (hv : Value.okWide Tryd.prog W .any base 58 v)
    (h : DataW.Trod enc Tryd.prog W 0 (fun _ => true) true 58 v d p) : ∃ l, Pfs W v l ∧ ∀ x ∈ l, InR x.2 := by
  obtain ⟨a0, len, cap, rfl⟩ := okWide_slice Tryd.underlying58 hv
  obtain ⟨fuel, hf⟩ := h
  rcases Go.Deep.open_slice_pairs Tryd.underlying58 Tryd.underlying25 (by kernel_rfl) rfl rfl (by kernel_rfl) (by kernel_rfl) hf with ⟨hcs, hx⟩ | ⟨a, len', cap', m, n, V0, V1, D0, D1, P0, P1, hcs, _, hl, hm, hmm, hx, hi⟩
  · simp [Value.cells] at hcs
    obtain ⟨rfl, rfl, rfl⟩ := hcs
    exact ⟨[], ⟨none, 0, rfl, Nat.le_refl _, by simp [maxLen], (fun x hx => by simp at hx), fun h => absurd h (by simp)⟩, fun x hx => by simp at hx⟩
  · simp [Value.cells] at hcs
    obtain ⟨rfl, rfl, rfl⟩ := hcs
    simp only [if_true] at hmm
    have num : ∀ i, i < m → ∃ z : Nat × Int, w_pfx W a i z ∧ z.1 < 4294967296 ∧ InR z.2 := fun i hi' => by
      obtain ⟨h0, h1, t0, t1⟩ := hi i hi'
      obtain ⟨z0, e0, _, w0⟩ := DataW.trod_int Tryd.underlying23 t0
      obtain ⟨z1, e1, _, w1⟩ := DataW.trod_int Tryd.underlying3 t1
      injection e0 with e0
      injection e1 with e1
      rw [e0] at h0
      rw [e1] at h1
      obtain ⟨x, rfl, hx⟩ := u32_nat w0
      exact ⟨(x, z1), ⟨h0, h1⟩, hx, by simpa [InR, Lit.wf, IntKind.min, IntKind.max, IntKind.signed, IntKind.bits] using w1⟩
    obtain ⟨z, hz⟩ := Go.Deep.choose_lt num
    refine ⟨(List.range len).map z, ⟨some a, cap, by simp, by simp; omega, hm, fun x hx => ?_, fun h0 => ?_⟩, fun x hx => ?_⟩
    · obtain ⟨i, hi', rfl⟩ := List.mem_map.1 hx
      exact (hz i (by have := List.mem_range.1 hi'; omega)).2.1
    · simp only [List.length_map, List.length_range] at h0 ⊢
      obtain ⟨b, off, spot⟩ := a
      have hspot : spot = none := by simpa [Addr.add] using World.cell?_spot (hz 0 (by omega)).1.1
      subst hspot
      refine ⟨b, off, rfl, fun i hi' => ?_⟩
      have := (hz i (by omega)).1
      unfold w_pfx at this
      rw [add_none, add_none] at this
      simpa [Nat.add_assoc] using this
    · obtain ⟨i, hi', rfl⟩ := List.mem_map.1 hx
      exact (hz i (by have := List.mem_range.1 hi'; omega)).2.2
end Go.Proofs.YtahifknebccpbaaDoor
