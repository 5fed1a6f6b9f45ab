
/-
  The frame of PeerAgrees' card: its arguments.
-/
import Derived.Test.YtembdobkgpojfaaDoorPEz
import Derived.Test.YtembdobkgpojfaaDoorCy
import Derived.Deep.SlicePairs
namespace Go.Proofs.YtembdobkgpojfaaDoor
open Go.ChangeShapes Go.WideShapes Go.ChangeAt Go.RowKit

set_option maxRecDepth 100000 in
theorem open_i64P {H : Type} {enc : TypeId × Value → H} {W : World} {base : Nat} {v : Value} {d : DataW H} {p : List MemPlace} (hv : Value.okWide Tryd.prog W .any base 2 v)
    (h : DataW.Trod enc Tryd.prog W 0 (fun _ => true) true 2 v d p) : ∃ x : Int, v = .int .i64 x ∧ x < 9223372036854775808 := by
  obtain ⟨n, rfl, _, _, hw⟩ := open_int Tryd.underlying2 hv h
  have hr : -9223372036854775808 ≤ n ∧ n ≤ 9223372036854775807 := by simpa [Lit.wf, IntKind.min, IntKind.max, IntKind.signed, IntKind.bits] using hw
  exact ⟨n, rfl, by omega⟩
theorem array3P {α : Type} {cs : Array α} (h : cs.size = 3) : ∃ c0 c1 c2, cs = #[c0, c1, c2] := by
  obtain ⟨l⟩ := cs
  match l, h with
  | [c0, c1, c2], _ => exact ⟨c0, c1, c2, rfl⟩
set_option maxRecDepth 100000 in
theorem open_cps1 {H : Type} {enc : TypeId × Value → H} {W : World} {k : Nat} {v : Value} {y : DataW H × List MemPlace}
    (hf : DataW.trod enc Tryd.prog W 0 (fun _ => true) true k 59 [v] = some y) : ∃ l, Cps W v l := by
  rcases Go.Deep.open_slice_pairs Tryd.underlying59 Tryd.underlying62 (by kernel_rfl) rfl rfl (by kernel_rfl) (by kernel_rfl) hf with ⟨hcs, hx⟩ | ⟨a, len, cap, m, n, V0, V1, D0, D1, P0, P1, hcs, _, hl, hm, hmm, hx, hi⟩
  · obtain rfl : v = _ := by simpa using hcs
    exact ⟨[], Cps.nil W⟩
  · obtain rfl : v = _ := by simpa using hcs
    simp only [if_true] at hmm
    have num : ∀ i, i < m → ∃ z : Cp, w_cap W a i z := fun i hi' => by
      obtain ⟨h0, h1, t0, t1⟩ := hi i hi'
      obtain ⟨z0, e0, _, w0⟩ := DataW.trod_int Tryd.underlying5 t0
      injection e0 with e0
      rw [e0] at h0
      obtain ⟨l, hl⟩ := open_by1 t1
      have hr : 0 ≤ z0 ∧ z0 ≤ 255 := by simpa [Lit.wf, IntKind.min, IntKind.max, IntKind.signed, IntKind.bits] using w0
      refine ⟨(UInt8.ofNat z0.toNat, l), ?_, _, h1, hl⟩
      rw [h0]
      unfold by8
      have : ((UInt8.ofNat z0.toNat).toNat : Int) = z0 := by rw [UInt8.toNat_ofNat']; omega
      rw [this]
    obtain ⟨z, hz⟩ := Go.Deep.choose_lt num
    refine ⟨(List.range len).map z, some a, cap, by simp, by simp; omega, hm, fun h0 => ?_⟩
    simp only [List.length_map, List.length_range] at h0 ⊢
    obtain ⟨b, off, spot⟩ := a
    have hspot : spot = none := by simpa [Addr.add] using World.cell?_spot (hz 0 (by omega)).1
    subst hspot
    refine ⟨b, off, rfl, fun i hi' => ?_⟩
    have := hz i (by omega)
    unfold w_cap at this
    rw [add_none, add_none] at this
    simpa [Nat.add_assoc] using this
set_option maxRecDepth 100000 in
theorem open_openP {H : Type} {enc : TypeId × Value → H} {W : World} {base : Nat} {v : Value} {d : DataW H} {p : List MemPlace} (hv : Value.okWide Tryd.prog W .any base 77 v)
    (h : DataW.Trod enc Tryd.prog W 0 (fun _ => true) true 77 v d p) : ∃ (b : Int) (f : Nat) (A : Option Addr) (c : Nat) (l : List Cp), v = .agg #[.int .i64 b, .int .u16 (f : Int), .slice A l.length c] ∧ b < 9223372036854775808 ∧ f < 65536 ∧ Cps W (.slice A l.length c) l := by
  have hc0 : Tryd.prog.cellsOf 2 = 1 := by kernel_rfl
  have hc1 : Tryd.prog.cellsOf 75 = 1 := by kernel_rfl
  have hc2 : Tryd.prog.cellsOf 59 = 1 := by kernel_rfl
  obtain ⟨cs, rfl, hsz⟩ := okWide_struct Tryd.underlying77 hv
  obtain ⟨c0, c1, c2, rfl⟩ := array3P (hsz.trans (by kernel_rfl))
  obtain ⟨fuel, hf⟩ := h
  obtain ⟨xs, n, _, _, _, hlen, hf⟩ := DataW.trod_struct Tryd.underlying77 hf
  match xs, hlen with
  | [y0, y1, y2], _ =>
    have f0 := hf 0 _ rfl
    have f1 := hf 1 _ rfl
    have f2 := hf 2 _ rfl
    clear hf
    simp [Value.cells, hc0, hc1, hc2] at f0 f1 f2
    obtain ⟨z0, e0, _, w0⟩ := DataW.trod_int Tryd.underlying2 f0
    obtain ⟨z1, e1, _, w1⟩ := DataW.trod_int Tryd.underlying75 f1
    obtain ⟨l, hl⟩ := open_cps1 f2
    simp only [List.cons.injEq, and_true] at e0 e1
    subst e0 e1
    have hr0 : -9223372036854775808 ≤ z0 ∧ z0 ≤ 9223372036854775807 := by simpa [Lit.wf, IntKind.min, IntKind.max, IntKind.signed, IntKind.bits] using w0
    have hr1 : 0 ≤ z1 ∧ z1 ≤ 65535 := by simpa [Lit.wf, IntKind.min, IntKind.max, IntKind.signed, IntKind.bits] using w1
    obtain ⟨A, c, rfl, -, -⟩ := hl.form
    exact ⟨z0, z1.toNat, A, c, l, by rw [show ((z1.toNat : Nat) : Int) = z1 by omega], by omega, by omega, hl⟩
end Go.Proofs.YtembdobkgpojfaaDoor
