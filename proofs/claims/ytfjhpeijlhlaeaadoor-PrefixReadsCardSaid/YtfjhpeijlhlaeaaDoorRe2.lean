
/-
  The law PrefixLists.
-/
import Derived.Test.YtfjhpeijlhlaeaaDoorRd2
import Derived.Laws.IdiomStrings
import Derived.Laws.BytesString
namespace Go.Proofs.YtfjhpeijlhlaeaaDoor
open Go.RowKit

theorem conv_str {w : World} {v : Value} {l : List UInt8} (h : By w v l) : (convert 48 9 v).run Tryd.prog w = .ok (.string ⟨l.toArray⟩) w := by
  obtain ⟨A, c, rfl, _, _⟩ := h.form
  have hs := h.src
  rw [run_convert_bytes_string w _ _ 5 A l.length c Tryd.underlying48 Tryd.underlying5 Tryd.underlying9]
  cases A with
  | none =>
    obtain rfl : l = [] := List.eq_nil_of_length_eq_zero (hs.2.1 rfl)
    rfl
  | some a =>
    have hl := run_loadCells_list (P := Tryd.prog) w a (bys l) (fun j u hu => hs.2.2.1 a rfl j u hu)
    rw [length_bys] at hl
    rw [run_bytesToString w a l.length c (l.map fun b => (b.toNat : Int)) (by rw [hl]; simp [bys, by8, Function.comp_def]), foldl_push_byteCells]
    simp

/-- The cells of prefixes of any bits. -/
def pcz (l : List (Nat × Int)) : List Value := l.flatMap fun p => [.int .u32 (p.1 : Nat), .int .i64 p.2]
theorem pcz_snoc (l : List (Nat × Int)) (x : Nat) (b : Int) : pcz (l ++ [(x, b)]) = pcz l ++ [.int .u32 (x : Nat), .int .i64 b] := by
  unfold pcz; rw [List.flatMap_append]; rfl
theorem pcz_len (l : List (Nat × Int)) : (pcz l).length = l.length * 2 := by
  induction l with
  | nil => rfl
  | cons x l ih => show (_ :: _ :: pcz l).length = _; simp [ih]; omega
theorem pcz_at (l : List (Nat × Int)) (i : Nat) (h : i < l.length) : (pcz l)[i * 2]? = some (.int .u32 (l[i].1 : Nat)) ∧ (pcz l)[i * 2 + 1]? = some (.int .i64 l[i].2) := by
  induction l generalizing i with
  | nil => simp at h
  | cons x l ih =>
    cases i with
    | zero => exact ⟨rfl, rfl⟩
    | succ i =>
      have := ih i (by simp at h; omega)
      have e : pcz (x :: l) = .int .u32 (x.1 : Nat) :: .int .i64 x.2 :: pcz l := rfl
      rw [e, show (i + 1) * 2 = i * 2 + 1 + 1 from by omega]
      simpa using this
theorem Pfs.of_ownz {w : World} {base : Nat} {t : TypeId} {v : Value} {l : List (Nat × Int)} (h : w.ownsRow base t 2 v l.length (pcz l)) (hx : ∀ x ∈ l, x.1 < 4294967296) : Pfs w v l := by
  obtain ⟨A, c, rfl, hn, hm⟩ := ow_form h
  refine ⟨A, c, rfl, hn, hm, hx, fun h0 => ?_⟩
  obtain ⟨g, c', hv, _, hcell⟩ := own_at h h0
  injection hv with hA
  refine ⟨g, 0, hA, fun i hi => ?_⟩
  have hp := pcz_at l i hi
  have hl := pcz_len l
  rw [Nat.zero_add, hcell _ (by omega), hcell _ (by omega)]
  exact hp
theorem rfx_info : (Tryd.prog.info? 27).map (fun i => (i.zero, i.size, i.bytes)) = some (some (.agg #[.int .u32 0, .int .i64 0]), 2, 16) := by kernel_rfl
theorem slice_pm (A : Option Addr) (n c m : Nat) (hm : m ≤ c) (z : Int) (hz : z = (m : Int)) (w : World) :
    (Instr.slice 58 (.slice A n c) none (some (.int .i64 z)) none).run Tryd.prog w = .ok (.slice A m c) w := by
  subst hz
  have hz := Tryd.sizeOf25
  have he : Tryd.prog.elem 58 = 25 := by kernel_rfl
  rw [run_slice_h w 58 A n c (by kernel_rfl) .i64 m (by omega) (by omega), he, hz]
  cases A <;> simp [sliced, Addr.add]
theorem Pfs.cut {w : World} {A : Option Addr} {n c : Nat} {l : List (Nat × Int)} (h : Pfs w (.slice A n c) l) {m : Nat} (hm : m ≤ n) : Pfs w (.slice A m c) (l.take m) := by
  obtain ⟨A', c', hv, hc, hx, hp, hr⟩ := h
  injection hv with h1 h2 h3
  subst h1 h2 h3
  have hl : (l.take m).length = m := by rw [List.length_take]; omega
  refine ⟨A, c, by rw [hl], by omega, hx, fun p hp' => hp p (List.mem_of_mem_take hp'), fun h0 => ?_⟩
  obtain ⟨b, o, hA, hi⟩ := hr (by omega)
  refine ⟨b, o, hA, fun i hi' => ?_⟩
  have := hi i (by omega)
  rw [List.getElem_take]
  exact this

set_option maxRecDepth 100000 in
set_option maxHeartbeats 4000000 in
theorem lists_law (v0 : Value) (l : List (Nat × Int)) (w : World) (hr : Rdy w) (h0 : Pfs w v0 l) :
    Calls Tryd.prog 5 #[v0] w fun e w' => e = .returned (.bool true) ∧ Kept Nothing w w' := by
  obtain ⟨A0, c0, rfl, hc0, hm0, _⟩ := id h0
  unfold maxLen at hm0
  obtain ⟨m, hm⟩ : ∃ m : Nat, min (l.length : Int) 40 = (m : Int) := ⟨(min (l.length : Int) 40).toNat, by omega⟩
  have hml : m ≤ l.length := by omega
  have hm40 : m ≤ 40 := by omega
  have hsl := slice_pm A0 l.length c0 m (by omega) (min (l.length : Int) 40) hm
  have h1 := h0.cut (m := m) (by omega)
  have hlm : (l.take m).length = m := by rw [List.length_take]; omega
  generalize l.take m = q at h1 hlm
  have HL := Lib.hid h1
  obtain ⟨_, _, _, _, _, hx, hcells⟩ := h1
  rename_i A1 c1 hv1 hc1 hm1
  rw [hlm] at hv1
  injection hv1 with e1 e2 e3
  subst e1 e3
  obtain ⟨i0, hi, hz0, hz1, hz2⟩ := info_parts rfx_info
  have HT := Lib.hid tells_any
  have HM := Lib.hid hm
  have HQL := Lib.hid hlm
  clear h0 hm
  go_enter Tryd.func5, Tryd.ntmps5
  go_wp2
  go_loopw [3, 4] (fun ov i wr => ∃ k : Nat, k ≤ m ∧ i = .int .i64 k ∧ wr.ownsRow w.heap.size 27 2 ov k (pcz (q.take k)) ∧ Kept Nothing w wr) (fun _ i _ => m - (intOf i).toNat)
  case atStart => exact ⟨0, by omega, rfl, World.ownsRow_nil _ _ _ _, Kept.refl _ w⟩
  case round =>
    obtain ⟨k, hk, rfl, ho, hkw⟩ := hrel
    by_cases hlt : k < m
    · obtain ⟨b, o, rfl, hcell⟩ := hcells (by omega)
      have hkq : k < q.length := by omega
      have hck := hcell k hkq
      have c2 := hkw.cell_some hck.1 (fun x => x)
      have c3 := hkw.cell_some hck.2 (fun x => x)
      have HTK := Lib.hid (List.take_succ_eq_append_getElem hkq)
      generalize q[k] = P at c2 c3 HTK
      obtain ⟨x, bb⟩ := P
      simp only at c2 c3
      have HSN := Lib.hid (pcz_snoc (q.take k) x bb)
      rw [← HTK.out] at HSN
      have HO := Lib.hid ho
      clear hcell hck hcells hx ho HTK hlm
      go_wp2_with (first
        | (go_at_call 10; refine (lof_any _ _ _).mono ?_; rintro e w1 ⟨rfl, hk1⟩)
        | (at_builtin; refine wpList_app _ rfl _ _ 61 rfl w.heap.size 27 i0 _ 2 16 Tryd.underlying61 hi hz0 hz1 hz2 rfl (by decide) u3 k _ rfl ((ow_kept HO.out hk1 (fun _ _ x => x)).alloc _) (some ⟨w1.heap.size, 0, none⟩) 1 1 [.int .u32 (x : Nat), .int .i64 bb] rfl (src_new w1 _ _ 2 1 rfl (by simp [Value.oneCell'])) (by simp [maxLen]; omega) (by omega) (by have := (hkw.trans hk1).size; simp; omega) ?_; intro v6 w6 ho6 hg6 hat6))
      go_roundw
      case rel =>
        refine ⟨k + 1, by omega, by go_num, ?_, ((hkw.trans hk1).alloc _).grown hg6 (fun j hj hlt => by have := (HO.out.lt j hj).1; omega)⟩
        rw [HSN.out]
        exact ho6
      case measure => simp [intOf]; omega
    · have hqk : q.take k = q := List.take_of_length_le (by omega)
      rw [hqk] at ho
      obtain rfl : k = m := by omega
      have HPO : Pfs wr _ q := Pfs.of_ownz (by rw [hlm]; exact ho) hx
      obtain ⟨A3, c3, rfl, hc3, hm3⟩ := ow_form ho
      have HPO := Lib.hid HPO
      clear hqk ho hcells hx hlm
      go_wp2_with (first
        | (go_at_call 36; refine (bytes_any _ q (by have := HQL.out; omega) _ (HL.out.old hkw)).mono ?_; rintro e w1 ⟨bv, rfl, hob, hk1⟩; have HY1 := Lib.hid (Bs.of_own hob).by; clear hob)
        | (go_at_call 37; refine (rbytes_any _ q (by have := HQL.out; omega) _ (HPO.out.old hk1)).mono ?_; rintro e w2 ⟨cv, rfl, hoc, hk2⟩; have hy1 := conv_str (HY1.out.old hk2); have hy2 := conv_str (Bs.of_own hoc).by; clear hoc)
        | (go_at_call 28; refine (HT.out _ (hr.kept ((hkw.trans hk1).trans hk2))).mono ?_; rintro e w3 ⟨rfl, hk3⟩))
      go_ret
      exact ⟨rfl, ((hkw.trans hk1).trans hk2).trans hk3⟩
end Go.Proofs.YtfjhpeijlhlaeaaDoor
