
/-
  Arguments of the clock's laws opened: int64, uint32, [4]int64, [2]uint32, a slice of calls.
-/
import Derived.Test.YtdhbfhjlholnlaaLaw
import Derived.Deep.Slices
import Derived.Deep.Strs
namespace Go.Proofs.Ytdhbfhjlholnlaa
open Go.ChangeShapes Go.WideShapes Go.ChangeAt Go.RowKit

theorem readable_allZ {ts : List TypeId} (h : (ts.all fun t => Try.prog.readableRec t && decide (t < Try.prog.types.size)) = true) : ∀ t ∈ ts, Try.prog.readableRec t = true ∧ t < Try.prog.types.size := fun t ht => by
  have := List.all_eq_true.1 h t ht
  simpa using this
theorem open_i64Z {H : Type} {enc : TypeId × Value → H} {W : World} {base : Nat} {v : Value} {d : DataW H} {p : List MemPlace} (hv : Value.okWide Try.prog W .any base 2 v)
    (h : DataW.Trod enc Try.prog W 0 (fun _ => true) true 2 v d p) : ∃ x : Int, v = .int .i64 x ∧ x < 9223372036854775808 := by
  obtain ⟨n, rfl, _, _, hw⟩ := open_int Try.underlying2 hv h
  have hr : -9223372036854775808 ≤ n ∧ n ≤ 9223372036854775807 := by simpa [Lit.wf, IntKind.min, IntKind.max, IntKind.signed, IntKind.bits] using hw
  exact ⟨n, rfl, by omega⟩
theorem open_u32Z {H : Type} {enc : TypeId × Value → H} {W : World} {base : Nat} {v : Value} {d : DataW H} {p : List MemPlace} (hv : Value.okWide Try.prog W .any base 52 v)
    (h : DataW.Trod enc Try.prog W 0 (fun _ => true) true 52 v d p) : ∃ x : Nat, v = .int .u32 (x : Int) ∧ x < 4294967296 := by
  obtain ⟨n, rfl, _, _, hw⟩ := open_int Try.underlying52 hv h
  have hr : 0 ≤ n ∧ n ≤ 4294967295 := by simpa [Lit.wf, IntKind.min, IntKind.max, IntKind.signed, IntKind.bits] using hw
  exact ⟨n.toNat, by congr 1; omega, by omega⟩
theorem array4Z {α : Type} {cs : Array α} (h : cs.size = 4) : ∃ c0 c1 c2 c3, cs = #[c0, c1, c2, c3] := by
  obtain ⟨l⟩ := cs
  match l, h with
  | [c0, c1, c2, c3], _ => exact ⟨c0, c1, c2, c3, rfl⟩
theorem array2Z {α : Type} {cs : Array α} (h : cs.size = 2) : ∃ c0 c1, cs = #[c0, c1] := by
  obtain ⟨l⟩ := cs
  match l, h with
  | [c0, c1], _ => exact ⟨c0, c1, rfl⟩
set_option maxRecDepth 100000 in
theorem open_a4Z {H : Type} {enc : TypeId × Value → H} {W : World} {base : Nat} {v : Value} {d : DataW H} {p : List MemPlace} (hv : Value.okWide Try.prog W .any base 45 v)
    (h : DataW.Trod enc Try.prog W 0 (fun _ => true) true 45 v d p) : ∃ a b c d : Int, v = .agg #[.int .i64 a, .int .i64 b, .int .i64 c, .int .i64 d] := by
  simp only [Value.okWide, Try.underlying45] at hv
  obtain ⟨cs, rfl, hsz, -⟩ := hv
  have hc : Try.prog.cellsOf 45 = 4 := by kernel_rfl
  have hc1 : Try.prog.cellsOf 2 = 1 := by kernel_rfl
  obtain ⟨fuel, hf⟩ := h
  obtain ⟨xs, m, _, _, hl, hx, hi⟩ := DataW.trod_array Try.underlying45 hf
  rw [hc] at hl
  have hl' : cs.size = 4 := by simpa [Value.cells] using hl
  obtain ⟨c0, c1, c2, c3, rfl⟩ := array4Z hl'
  have num : ∀ i (h : i < 4), ∃ z : Int, (#[c0, c1, c2, c3] : Array Value)[i]? = some (.int .i64 z) := fun i h4 => by
    have ht := hi i h4
    rw [hc1, Nat.mul_one] at ht
    have hxi : xs[i]? = some (xs[i]'(by omega)) := List.getElem?_eq_getElem (by omega)
    have hlt : i < (#[c0, c1, c2, c3] : Array Value).toList.length := by simpa using h4
    have hone : ((Value.agg #[c0, c1, c2, c3]).cells.toList.drop i).take 1 = [(#[c0, c1, c2, c3] : Array Value).toList[i]] := by
      show ((#[c0, c1, c2, c3] : Array Value).toList.drop i).take 1 = _
      rw [List.drop_eq_getElem_cons hlt]; rfl
    rw [hone, hxi] at ht
    obtain ⟨z, e0, _, w0⟩ := DataW.trod_int Try.underlying2 ht
    injection e0 with e0
    refine ⟨z, ?_⟩
    rw [← e0, ← Array.getElem?_toList, List.getElem?_eq_getElem hlt]
  obtain ⟨z0, h0⟩ := num 0 (by omega)
  obtain ⟨z1, h1⟩ := num 1 (by omega)
  obtain ⟨z2, h2⟩ := num 2 (by omega)
  obtain ⟨z3, h3⟩ := num 3 (by omega)
  simp at h0 h1 h2 h3
  subst h0 h1 h2 h3
  exact ⟨z0, z1, z2, z3, rfl⟩
set_option maxRecDepth 100000 in
theorem open_a2Z {H : Type} {enc : TypeId × Value → H} {W : World} {base : Nat} {v : Value} {d : DataW H} {p : List MemPlace} (hv : Value.okWide Try.prog W .any base 59 v)
    (h : DataW.Trod enc Try.prog W 0 (fun _ => true) true 59 v d p) : ∃ a b : Nat, v = .agg #[.int .u32 (a : Int), .int .u32 (b : Int)] ∧ a < 4294967296 ∧ b < 4294967296 := by
  simp only [Value.okWide, Try.underlying59] at hv
  obtain ⟨cs, rfl, hsz, -⟩ := hv
  have hc : Try.prog.cellsOf 59 = 2 := by kernel_rfl
  have hc1 : Try.prog.cellsOf 52 = 1 := by kernel_rfl
  obtain ⟨fuel, hf⟩ := h
  obtain ⟨xs, m, _, _, hl, hx, hi⟩ := DataW.trod_array Try.underlying59 hf
  rw [hc] at hl
  have hl' : cs.size = 2 := by simpa [Value.cells] using hl
  obtain ⟨c0, c1, rfl⟩ := array2Z hl'
  have num : ∀ i (h : i < 2), ∃ z : Nat, (#[c0, c1] : Array Value)[i]? = some (.int .u32 (z : Int)) ∧ z < 4294967296 := fun i h4 => by
    have ht := hi i h4
    rw [hc1, Nat.mul_one] at ht
    have hxi : xs[i]? = some (xs[i]'(by omega)) := List.getElem?_eq_getElem (by omega)
    have hlt : i < (#[c0, c1] : Array Value).toList.length := by simpa using h4
    have hone : ((Value.agg #[c0, c1]).cells.toList.drop i).take 1 = [(#[c0, c1] : Array Value).toList[i]] := by
      show ((#[c0, c1] : Array Value).toList.drop i).take 1 = _
      rw [List.drop_eq_getElem_cons hlt]; rfl
    rw [hone, hxi] at ht
    obtain ⟨z, e0, _, w0⟩ := DataW.trod_int Try.underlying52 ht
    injection e0 with e0
    have hr : 0 ≤ z ∧ z ≤ 4294967295 := by simpa [Lit.wf, IntKind.min, IntKind.max, IntKind.signed, IntKind.bits] using w0
    refine ⟨z.toNat, ?_, by omega⟩
    rw [show ((z.toNat : Nat) : Int) = z by omega, ← e0, ← Array.getElem?_toList, List.getElem?_eq_getElem hlt]
  obtain ⟨z0, h0, b0⟩ := num 0 (by omega)
  obtain ⟨z1, h1, b1⟩ := num 1 (by omega)
  simp at h0 h1
  subst h0 h1
  exact ⟨z0, z1, rfl, b0, b1⟩

/-- The slice value v reads as the calls l: what, timer, number. -/
def Acs (w : World) (v : Value) (l : List (Int × Int × Int)) : Prop :=
  ∃ A c, v = .slice A l.length c ∧ l.length ≤ maxLen ∧ (0 < l.length → ∃ b o, A = some ⟨b, o, none⟩ ∧ ∀ i, i < l.length → w.cell? ⟨b, o + i * 3, none⟩ = some (.int .i64 (l.getD i (0, 0, 0)).1) ∧ w.cell? ⟨b, o + i * 3 + 1, none⟩ = some (.int .i64 (l.getD i (0, 0, 0)).2.1) ∧ w.cell? ⟨b, o + i * 3 + 2, none⟩ = some (.int .i64 (l.getD i (0, 0, 0)).2.2))
theorem Acs.old {w w' : World} {v : Value} {l : List (Int × Int × Int)} (h : Acs w v l) (k : Kept Nothing w w') : Acs w' v l := by
  obtain ⟨A, c, hv, hm, hr⟩ := h
  refine ⟨A, c, hv, hm, fun h0 => ?_⟩
  obtain ⟨b, o, hA, hc⟩ := hr h0
  exact ⟨b, o, hA, fun i hi => ⟨k.cell_some (hc i hi).1 (fun x => x), k.cell_some (hc i hi).2.1 (fun x => x), k.cell_some (hc i hi).2.2 (fun x => x)⟩⟩
def w_acZ (W : World) (a : Addr) (i : Nat) (z : Int × Int × Int) : Prop := W.cell? (a.add (i * 3)) = some (.int .i64 z.1) ∧ W.cell? (a.add (i * 3 + 1)) = some (.int .i64 z.2.1) ∧ W.cell? (a.add (i * 3 + 2)) = some (.int .i64 z.2.2)
set_option maxRecDepth 100000 in
theorem open_acsZ {H : Type} {enc : TypeId × Value → H} {W : World} {base : Nat} {v : Value} {d : DataW H} {p : List MemPlace} (hv : Value.okWide Try.prog W .any base 22 v)
    (h : DataW.Trod enc Try.prog W 0 (fun _ => true) true 22 v d p) : ∃ l, Acs W v l := by
  obtain ⟨a0, len, cap, rfl⟩ := okWide_slice Try.underlying22 hv
  obtain ⟨fuel, hf⟩ := h
  have hce : Try.prog.cellsOf 32 = 3 := by kernel_rfl
  have hc1 : Try.prog.cellsOf 3 = 1 := by kernel_rfl
  have hc2 : Try.prog.cellsOf 2 = 1 := by kernel_rfl
  rcases Go.Deep.open_slice Try.underlying22 hf with ⟨hcs, hx⟩ | ⟨a, len', cap', m, n, D, Pl, hcs, _, hl, hm, hmm, hx, hi⟩
  · simp [Value.cells] at hcs
    obtain ⟨rfl, rfl, rfl⟩ := hcs
    exact ⟨[], none, 0, rfl, by simp [maxLen], fun h => absurd h (by simp)⟩
  · simp [Value.cells] at hcs
    obtain ⟨rfl, rfl, rfl⟩ := hcs
    simp only [if_true] at hmm
    have num : ∀ i, i < m → ∃ z : Int × Int × Int, w_acZ W a i z := fun i hi' => by
      obtain ⟨cs', h1, h2⟩ := hi i hi'
      rw [hce] at h1
      obtain ⟨_, hlen, hcell⟩ := World.cells?_some h1
      obtain ⟨y0, y1, y2, k', -, -, t0, t1, t2⟩ := Go.Deep.trod_struct3 Try.underlying32 h2
      simp only [hc1, hc2] at t0 t1 t2
      match cs', hlen with
      | [v0, v1, v2], _ =>
        have e0 := hcell 0 (by omega)
        have e1 := hcell 1 (by omega)
        have e2 := hcell 2 (by omega)
        rw [Go.Deep.add_add] at e0 e1 e2
        obtain ⟨z0, q0, _, w0⟩ := DataW.trod_int Try.underlying3 t0
        obtain ⟨z1, q1, _, w1⟩ := DataW.trod_int Try.underlying3 t1
        obtain ⟨z2, q2, _, w2⟩ := DataW.trod_int Try.underlying2 t2
        have q0' : v0 = .int .i64 z0 := by simpa using q0
        have q1' : v1 = .int .i64 z1 := by simpa using q1
        have q2' : v2 = .int .i64 z2 := by simpa using q2
        subst q0' q1' q2'
        exact ⟨(z0, z1, z2), by simpa using e0, by simpa using e1, by simpa using e2⟩
    obtain ⟨z, hz⟩ := Go.Deep.choose_lt num
    refine ⟨(List.range len).map z, some a, cap, by simp, by simp; omega, fun h0 => ?_⟩
    simp only [List.length_map, List.length_range] at h0 ⊢
    obtain ⟨b, off, spot⟩ := a
    have hspot : spot = none := by simpa [Addr.add] using World.cell?_spot (hz 0 (by omega)).1
    subst hspot
    refine ⟨b, off, rfl, fun i hi' => ?_⟩
    rw [getD_range _ _ _ _ hi']
    have := hz i (by omega)
    unfold w_acZ at this
    rw [add_none, add_none, add_none] at this
    simpa [Nat.add_assoc] using this
end Go.Proofs.Ytdhbfhjlholnlaa
