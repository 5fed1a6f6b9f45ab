
/-
  Lists of prefixes: laid in bytes; two rows held against each other.
-/
import Derived.Test.YtfjhpeijlhlaeaaDoorPi
namespace Go.Proofs.YtfjhpeijlhlaeaaDoor
open Go.RowKit

/-- The slice value v reads as the prefixes l. -/
def Pfs (w : World) (v : Value) (l : List (Nat × Int)) : Prop :=
  ∃ A c, v = .slice A l.length c ∧ l.length ≤ c ∧ c ≤ maxLen ∧ (∀ x ∈ l, x.1 < 4294967296) ∧ (0 < l.length → ∃ b o, A = some ⟨b, o, none⟩ ∧ ∀ i (h : i < l.length), w.cell? ⟨b, o + i * 2, none⟩ = some (.int .u32 (l[i].1 : Nat)) ∧ w.cell? ⟨b, o + i * 2 + 1, none⟩ = some (.int .i64 l[i].2))
theorem Pfs.old {w w' : World} {v : Value} {l : List (Nat × Int)} (h : Pfs w v l) (k : Kept Nothing w w') : Pfs w' v l := by
  obtain ⟨A, c, hv, hc, hm, hx, hr⟩ := h
  refine ⟨A, c, hv, hc, hm, hx, fun h0 => ?_⟩
  obtain ⟨b, o, hA, hi⟩ := hr h0
  exact ⟨b, o, hA, fun i hl => ⟨k.cell_some (hi i hl).1 (fun x => x), k.cell_some (hi i hl).2 (fun x => x)⟩⟩
def ups (l : List (Nat × Nat)) : List (Nat × Int) := l.map fun p => (p.1, (p.2 : Int))
theorem ups_len (l : List (Nat × Nat)) : (ups l).length = l.length := List.length_map _
theorem pcs_at (l : List (Nat × Nat)) (i : Nat) (h : i < l.length) : (pcs l)[i * 2]? = some (.int .u32 (l[i].1 : Nat)) ∧ (pcs l)[i * 2 + 1]? = some (.int .i64 (l[i].2 : Nat)) := by
  induction l generalizing i with
  | nil => simp at h
  | cons x l ih =>
    cases i with
    | zero => exact ⟨rfl, rfl⟩
    | succ i =>
      have := ih i (by simp at h; omega)
      have e : pcs (x :: l) = .int .u32 (x.1 : Nat) :: .int .i64 (x.2 : Nat) :: pcs l := rfl
      rw [e, show (i + 1) * 2 = i * 2 + 1 + 1 from by omega]
      simpa using this
theorem Pfs.of_own {w : World} {base : Nat} {v : Value} {l : List (Nat × Nat)} (h : w.ownsRow base 25 2 v l.length (pcs l)) (hx : ∀ x ∈ l, x.1 < 4294967296) : Pfs w v (ups l) := by
  obtain ⟨A, c, rfl, hn, hm⟩ := ow_form h
  refine ⟨A, c, by rw [ups_len], by rw [ups_len]; exact hn, hm, fun x hx' => ?_, fun h0 => ?_⟩
  · obtain ⟨y, hy, rfl⟩ := List.mem_map.1 hx'
    exact hx y hy
  · rw [ups_len] at h0
    obtain ⟨g, c', hv, _, hcell⟩ := own_at h h0
    injection hv with hA
    refine ⟨g, 0, hA, fun i hi => ?_⟩
    rw [ups_len] at hi
    have hp := pcs_at l i hi
    have hl := pcs_len l
    have e : (ups l)[i]'(by rw [ups_len]; exact hi) = (l[i].1, (l[i].2 : Int)) := by simp [ups]
    rw [e, Nat.zero_add, hcell _ (by omega), hcell _ (by omega)]
    exact hp

/-- The bytes of a prefix that may be. -/
def pby (x n : Nat) : List UInt8 := UInt8.ofNat n :: ([UInt8.ofNat (oct x 0), UInt8.ofNat (oct x 1), UInt8.ofNat (oct x 2), UInt8.ofNat (oct x 3)].take (szB n))
def mayL (l : List (Nat × Int)) : Bool := l.all fun p => may p.1 p.2
def bytesL (l : List (Nat × Int)) : List UInt8 := l.flatMap fun p => pby p.1 p.2.toNat
/-- A list's bytes, and the error. -/
def bytesP (l : List (Nat × Int)) : List UInt8 × Int := if mayL l = true then (bytesL l, 0) else ([], 1)
theorem bytesL_len (l : List (Nat × Int)) : (bytesL l).length ≤ 5 * l.length := by
  induction l with
  | nil => simp [bytesL]
  | cons x l ih =>
    have e : bytesL (x :: l) = pby x.1 x.2.toNat ++ bytesL l := rfl
    rw [e, List.length_append, List.length_cons]
    have : (pby x.1 x.2.toNat).length ≤ 5 := by unfold pby; simp; omega
    omega
theorem bytesL_snoc (l : List (Nat × Int)) (x : Nat × Int) : bytesL (l ++ [x]) = bytesL l ++ pby x.1 x.2.toNat := by
  unfold bytesL; rw [List.flatMap_append]; simp
theorem by8_ofNat (n : Nat) (h : n < 256) : by8 (UInt8.ofNat n) = .int .u8 (n : Nat) := by
  unfold by8; rw [UInt8.toNat_ofNat', Nat.mod_eq_of_lt (by omega)]

theorem Blk.app {w w1 : World} {g : Nat} {t e : TypeId} {cs : Array Value} (hb : Blk w g t cs) {bv : Value} {n base size : Nat} {xs : List Value} (ho : w.ownsRow base e size bv n xs) (hne : e ≠ t) (hg : w.grownBy w1 bv.ownBlock) : Blk w1 g t cs :=
  hb.kept (S := fun k => bv.ownBlock = some k) ((Kept.refl _ w).grown hg (fun k hk _ => hk)) (fun e' => by
    obtain ⟨cs', hh⟩ := ow_lt ho e'
    exact hb.apart (t' := e) hh (fun x => hne x.symm) rfl)
theorem src_new' (w : World) (t : TypeId) (cs : Array Value) (size m g : Nat) (hg : g = w.heap.size) (hm : cs.size = m * size) (h1 : ∀ u ∈ cs.toList, u.oneCell' = true) : Src (w.alloc (.cells cs t)) size (some ⟨g, 0, none⟩) m cs.toList := by
  subst hg
  exact src_new w t cs size m hm h1
theorem arr_hi (g k : Nat) (hk : k ≤ 4) (w : World) : (Instr.sliceAt 83 (.pointer (some ⟨g, 0, none⟩)) none (some (.int .i64 (k : Int))) none).run Tryd.prog w = .ok (.slice (some ⟨g, 0, none⟩) k 4) w := by
  have hl : Tryd.prog.arrayLen 83 = 4 := by kernel_rfl
  have he : Tryd.prog.elem 83 = 5 := by kernel_rfl
  have hz := Tryd.sizeOf5
  rw [run_sliceAt_array_h w 83 ⟨g, 0, none⟩ (by kernel_rfl) .i64 k (by omega) (by rw [hl]; omega), he, hz, hl]
  simp [slicedAt, Addr.add]
def oc4 (x : Nat) : List Value := [.int .u8 (oct x 0 : Nat), .int .u8 (oct x 1 : Nat), .int .u8 (oct x 2 : Nat), .int .u8 (oct x 3 : Nat)]
theorem bys_pby (x n : Nat) (hn : n < 256) : bys (pby x n) = .int .u8 (n : Nat) :: (oc4 x).take (szB n) := by
  unfold pby bys oc4
  rw [List.map_cons, List.map_take, by8_ofNat n hn]
  simp only [List.map_cons, List.map_nil, by8_ofNat _ (oct_lt x _)]
theorem src_oc4 {w : World} {g : Nat} {t : TypeId} {x m : Nat} (h : Blk w g t (oc4 x).toArray) (hm : m ≤ 4) : Src w 1 (some ⟨g, 0, none⟩) m ((oc4 x).take m) :=
  ⟨by rw [List.length_take]; simp [oc4]; omega, (fun h => by cases h), fun a ha j u hu => by
    injection ha with ha
    subst ha
    rw [add_none, Nat.zero_add, h.cell]
    have hj : j < m := by
      have := (List.getElem?_eq_some_iff.1 hu).1
      rw [List.length_take] at this
      omega
    rw [List.getElem?_take_of_lt hj] at hu
    rw [← hu, List.getElem?_toArray], fun u hu => by
    have := List.mem_of_mem_take hu
    simp only [oc4, List.mem_cons, List.not_mem_nil, or_false] at this
    rcases this with rfl | rfl | rfl | rfl <;> rfl⟩

set_option maxRecDepth 100000 in
set_option maxHeartbeats 1000000 in
theorem bytes_any (v : Value) (l : List (Nat × Int)) (hl : l.length ≤ 10000) (w : World) (hv : Pfs w v l) :
    Calls Tryd.prog 36 #[v] w fun e w' => ∃ bv, e = .returned (.tuple #[bv, .int .i64 (bytesP l).2]) ∧ w'.ownsRow w.heap.size 5 1 bv (bytesP l).1.length (bys (bytesP l).1) ∧ Kept Nothing w w' := by
  have HV := Lib.hid hv
  obtain ⟨A, c, rfl, hc, hm, hx, hcells⟩ := hv
  obtain ⟨i0, hi, hz0, hz1, hz2⟩ := info_parts u8_info
  go_enter Tryd.func36, Tryd.ntmps36
  go_wp2
  go_loopw [4, 10] (fun bv i wr => ∃ k : Nat, k ≤ l.length ∧ i = .int .i64 k ∧ wr.ownsRow w.heap.size 5 1 bv (bytesL (l.take k)).length (bys (bytesL (l.take k))) ∧ Kept Nothing w wr ∧ Hid (mayL (l.take k) = true)) (fun _ i _ => l.length - (intOf i).toNat)
  case atStart => exact ⟨0, by omega, rfl, World.ownsRow_nil _ _ _ _, Kept.refl _ w, Lib.hid rfl⟩
  case round =>
    obtain ⟨k, hk, rfl, ho, hkw, HA⟩ := hrel
    by_cases hlt : k < l.length
    · obtain ⟨b, o, rfl, hcell⟩ := hcells (by omega)
      have hck := hcell k hlt
      have c0 := hkw.cell_some hck.1 (fun x => x)
      have c1 := hkw.cell_some hck.2 (fun x => x)
      have hxk := hx l[k] (List.getElem_mem _)
      have HTK := Lib.hid (List.take_succ_eq_append_getElem hlt)
      have hbl := bytesL_len (l.take k)
      rw [List.length_take] at hbl
      generalize hP : l[k] = P at c0 c1 hxk HTK
      obtain ⟨x, bb⟩ := P
      simp only at c0 c1 hxk
      clear hcell hck hcells hx
      have HMY := may_any x bb hxk
      cases hmay : may x bb with
      | false =>
        rw [hmay] at HMY
        have HMY := Lib.hid HMY
        have HB := Lib.hid (show bytesP l = ([], 1) by
          unfold bytesP
          rw [if_neg]
          intro hall
          have := List.all_eq_true.1 hall l[k] (List.getElem_mem _)
          rw [hP] at this
          simp only at this
          rw [hmay] at this
          cases this)
        clear hmay hP
        go_wp2_with (go_at_call 11; refine (HMY.out _).mono ?_; rintro e w1 ⟨rfl, hk1⟩)
        go_ret2
        exact ⟨_, by rw [HB.out]; rfl, by rw [HB.out]; exact World.ownsRow_nil _ _ _ _, (hkw.alloc _).trans hk1⟩
      | true =>
        rw [hmay] at HMY
        have HMY := Lib.hid HMY
        obtain ⟨n, rfl, hn, hlow⟩ := may_spec hmay
        have HA1 := Lib.hid (show mayL (l.take (k + 1)) = true by
          rw [HTK.out]
          unfold mayL
          rw [List.all_append]
          have := HA.out
          unfold mayL at this
          rw [this]
          simp [hmay])
        have HS := Lib.hid (show bytesL (l.take (k + 1)) = bytesL (l.take k) ++ pby x n by rw [HTK.out, bytesL_snoc]; rfl)
        have HPT := Lib.hid (part_any x hxk)
        have hsz : szB n ≤ 4 := by unfold szB; omega
        have HO := Lib.hid ho
        have hah := fun g => arr_hi g (szB n) hsz
        clear hmay hP hlow ho HTK
        go_wp2_with (first
          | (go_at_call 11; refine (HMY.out _).mono ?_; rintro e w1 ⟨rfl, hk1⟩; have B1 := (Blk.fresh wr 25 #[.int .u32 (x : Nat), .int .i64 (n : Nat)]).kept hk1 (fun x => x); have d0 : w1.cell? ⟨wr.heap.size, 0, none⟩ = some (.int .u32 (x : Nat)) := B1.cell 0)
          | (go_at_call 44; refine (HPT.out _).mono ?_; rintro e w2 ⟨rfl, hk2⟩; have kq : Kept Nothing wr w2 := (((Kept.refl _ wr).alloc _).trans hk1).trans hk2; have B2 := B1.kept hk2 (fun x => x); have d1 : w2.cell? ⟨wr.heap.size, 1, none⟩ = some (.int .i64 (n : Nat)) := B2.cell 1; have hlt2 : wr.heap.size < w2.heap.size := B2.lt; have HB2 := Lib.hid B2; clear B1 B2)
          | (at_builtin; refine wpList_app _ rfl (.tmp 20) (.tmp 24) 48 rfl w.heap.size 5 i0 _ 1 1 Tryd.underlying48 hi hz0 hz1 hz2 rfl (by decide) u4 _ _ rfl (((ow_kept HO.out kq (fun _ _ x => x)).alloc _).alloc _) (some ⟨w2.heap.size + 1, 0, none⟩) 1 1 [.int .u8 (n : Nat)] rfl (src_new' _ 5 #[.int .u8 (n : Nat)] 1 1 (w2.heap.size + 1) (by simp) rfl (by simp [Value.oneCell'])) (by simp [maxLen]; omega) (by omega) (by have := (hkw.trans kq).size; simp; omega) ?_; intro v5 w5 ho5 hg5 hat5; have ow4 := ((ow_kept HO.out kq (fun _ _ x => x)).alloc (.cells #[.int .u8 (oct x 0 : Nat), .int .u8 (oct x 1 : Nat), .int .u8 (oct x 2 : Nat), .int .u8 (oct x 3 : Nat)] 83)).alloc (.cells #[.int .u8 (n : Nat)] 5); have B5 := ((HB2.out.alloc (.cells #[.int .u8 (oct x 0 : Nat), .int .u8 (oct x 1 : Nat), .int .u8 (oct x 2 : Nat), .int .u8 (oct x 3 : Nat)] 83)).alloc (.cells #[.int .u8 (n : Nat)] 5)).app ow4 (by decide) hg5; have G5 := ((Blk.fresh w2 83 #[.int .u8 (oct x 0 : Nat), .int .u8 (oct x 1 : Nat), .int .u8 (oct x 2 : Nat), .int .u8 (oct x 3 : Nat)]).alloc (.cells #[.int .u8 (n : Nat)] 5)).app ow4 (by decide) hg5; have e1 : w5.cell? ⟨wr.heap.size, 1, none⟩ = some (.int .i64 (n : Nat)) := B5.cell 1; have k5 := (((hkw.trans kq).alloc (.cells #[.int .u8 (oct x 0 : Nat), .int .u8 (oct x 1 : Nat), .int .u8 (oct x 2 : Nat), .int .u8 (oct x 3 : Nat)] 83)).alloc (.cells #[.int .u8 (n : Nat)] 5)).grown hg5 (fun k hk' hlt => by have := (HO.out.lt k hk').1; omega); have HG5 := Lib.hid G5; have HO5 := Lib.hid ho5; clear B5 G5 ow4 hg5 ho5)
          | (go_at_call 54; refine (size_any n (by omega) _).mono ?_; rintro e w' ⟨rfl, rfl⟩)
          | (at_builtin; refine wpList_app _ rfl (.tmp 26) (.tmp 30) 48 rfl w.heap.size 5 i0 _ 1 1 Tryd.underlying48 hi hz0 hz1 hz2 rfl (by decide) v5 _ _ rfl HO5.out (some ⟨w2.heap.size, 0, none⟩) (szB n) 4 _ rfl (src_oc4 HG5.out hsz) (by simp [maxLen]; omega) (by omega) k5.size ?_; intro v6 w6 ho6 hg6 hat6))
        go_roundw
        case rel =>
          refine ⟨k + 1, by omega, by go_num, ?_, k5.grown hg6 (fun k hk' hlt => by have := (HO5.out.lt k hk').1; omega), HA1⟩
          have e2 : bys (bytesL (l.take (k + 1))) = bys (bytesL (l.take k)) ++ [.int .u8 (n : Nat)] ++ (oc4 x).take (szB n) := by
            rw [HS.out, bys_append, bys_pby x n (by omega)]
            simp
          have e3 : (bytesL (l.take (k + 1))).length = (bytesL (l.take k)).length + 1 + szB n := by
            have := congrArg List.length e2
            rw [length_bys] at this
            simp only [List.length_append, length_bys, List.length_take, List.length_singleton] at this
            simp only [oc4, List.length_cons, List.length_nil] at this
            omega
          rw [e2, e3]
          exact ho6
        case measure => simp [intOf]; omega
    · have hall : l.take k = l := List.take_of_length_le (by omega)
      rw [hall] at ho HA
      have HB := Lib.hid (show bytesP l = (bytesL l, 0) by unfold bytesP; rw [if_pos HA.out])
      have HO := Lib.hid ho
      clear hall ho
      go_wp2
      go_ret2
      exact ⟨_, by rw [HB.out]; rfl, by rw [HB.out]; exact HO.out, hkw⟩
end Go.Proofs.YtfjhpeijlhlaeaaDoor
