
/-
  Paths' texts: as plain data; a segment's text.
-/
import Derived.Test.YthjljamngpddmaaGreatDoorY09
import Derived.Shelf.Spec.SlicesInsertGrow
import Derived.Test.YthjljamngpddmaaGreatDoorY12
import Derived.Test.YthjljamngpddmaaGreatDoorY14
import Derived.Test.YthjljamngpddmaaGreatDoorY06
import Derived.Test.YthjljamngpddmaaGreatDoorY05
namespace Go.Proofs.YthjljamngpddmaaGreatDoor
open Go.RowKit Go.Shelf

theorem slice_1A (g n c : Nat) (hn : 1 ≤ n) (hc : 1 < c) (w : World) :
    (Instr.slice 70 (.slice (some ⟨g, 0, none⟩) n c) (some (.int .i64 1)) none none).run Tryz.prog w = .ok (.slice (some ⟨g, 1, none⟩) (n - 1) (c - 1)) w := by
  have hz := Tryz.sizeOf54
  have he : Tryz.prog.elem 70 = 54 := by kernel_rfl
  rw [run_slice_l w 70 _ n c (by kernel_rfl) .i64 1 (by omega) (by omega), he, hz]
  have hck : ¬ c = 1 := by omega
  simp [sliced, hck, add_none]
set_option maxHeartbeats 4000000 in
set_option maxRecDepth 100000 in
theorem ins_shift (b n c vb : Nat) (x : Nat) (cs : List Value) (w : World) (hi : 0 < n) (hroom : n + 1 ≤ c) (hc63 : c ≤ 9223372036854775807) (hvb : vb ≠ b)
    (hcl : cs.length = n)
    (hcs : ∀ j v, cs[j]? = some v → w.cell? ⟨b, 0 + j, none⟩ = some v) (hsp : ∀ j, j < n + 1 → (w.cell? ⟨b, 0 + j, none⟩).isSome = true) (hfz : ∀ j, j < n + 1 → w.frozen? ⟨b, 0 + j, none⟩ = false)
    (hv : w.cell? ⟨vb, 0, none⟩ = some (.int .u32 (x : Int))) (h1c : ∀ v ∈ cs, v.oneCell' = true)
    (tA tB : TypeId) (kA kB : Nat) (hsa : w.shape? vb = some (tA, kA)) (hsb : w.shape? b = some (tB, kB)) (hkB : kB ≠ 0) (hfa : w.frozen? ⟨vb, 0, none⟩ = false) (hfe : w.frozen? ⟨vb, kA, none⟩ = false) :
    Calls Tryz.prog 86 #[.slice (some ⟨b, 0, none⟩) n c, .int .i64 0, .slice (some ⟨vb, 0, none⟩) 1 1] w fun e w' =>
      e = .returned (.slice (some ⟨b, 0, none⟩) (n + 1) c) ∧ w' = (w.drew.setCells b 1 cs).setCells b 0 [.int .u32 (x : Int)] := by
  have hz2 : ¬ ((0 : Int) = (n : Int)) := by omega
  have hsz : (Tryz.prog.info? 54).map (·.size) = some 1 := by
    obtain ⟨i0, hi0, h0, h1, h2⟩ := info_parts as_info
    rw [hi0]; simp [h1]
  have hov : ∀ lb cb, (callFunc 98 #[.slice (some ⟨vb, 0, none⟩) 1 1, .slice (some ⟨b, 1, none⟩) lb cb]).run Tryz.prog w = .ok (.value (.bool false)) w := fun lb cb => by
    rw [run_callFunc_extern Tryz.func98 (by kernel_rfl) (by kernel_rfl) (by kernel_rfl) (e := Extern.SlicesOverlaps.overlaps #[70, 70] #[4]) (by kernel_rfl),
      Lib.run_overlaps_apart w 70 4 54 Tryz.underlying70 1 Tryz.sizeOf54 ⟨vb, 0, none⟩ ⟨b, 1, none⟩ 1 1 lb cb hvb tA tB kA kB hsa hsb hkB hfa hfe]
    rfl
  have hb2 : ¬ (c = 1) := by omega
  have hb3 : (0 : Int) ≤ (n : Int) + 1 := by omega
  have hb4 : ¬ (c = 0) := by omega
  have hvs : ∀ (j : Nat) v, ([Value.int .u32 (x : Int)] : List Value)[j]? = some v → w.cell? ⟨vb, 0 + j, none⟩ = some v := fun j v h => by
    cases j with
    | zero => simp at h; rw [← h]; exact hv
    | succ j => simp at h
  have hcp1 : ∀ ty dc sc, (Builtin.copy_ #[70, 70] ty #[.slice (some ⟨b, 1, none⟩) n dc, .slice (some ⟨b, 0, none⟩) (n + 1) sc]).run Tryz.prog w.drew = .ok (goInt cs.length) (w.drew.setCells b 1 cs) := fun ty dc sc =>
    run_copy_cells w.drew _ _ ty 54 b 1 n dc ⟨b, 0, none⟩ (n + 1) sc cs Tryz.underlying70 hsz (by rw [hcl]; simp only [Nat.min_def]; split <;> omega)
      (fun j v hj => by rw [add_none]; exact hcs j v hj)
      (fun j hj => by have := hsp (1 + j) (by omega); rwa [Nat.zero_add] at this) (fun j hj => by have := hfz (1 + j) (by omega); rwa [Nat.zero_add] at this) h1c
  obtain ⟨W1, hW1⟩ : ∃ W1, W1 = w.drew.setCells b 1 cs := ⟨_, rfl⟩
  have hsp1 : ∀ k, k < n + 1 → (W1.cell? ⟨b, 0 + k, none⟩).isSome = true := fun k hk => by
    rw [hW1, Nat.zero_add]
    refine isSome_setCells b _ _ _ (fun j hj => ?_) _ ?_
    · have := hsp (1 + j) (by omega); rwa [Nat.zero_add] at this
    · have := hsp k hk; rwa [Nat.zero_add] at this
  have hcp2 : ∀ (W : World), (∀ x, W.cell? x = W1.cell? x) → (∀ x, W.frozen? x = W1.frozen? x) → ∀ ty dc, (Builtin.copy_ #[70, 70] ty #[.slice (some ⟨b, 0, none⟩) (n + 1) dc, .slice (some ⟨vb, 0, none⟩) 1 1]).run Tryz.prog W = .ok (goInt 1) (W.setCells b 0 [.int .u32 (x : Int)]) := fun W hWc hWf ty dc =>
    run_copy_cells W _ _ ty 54 b 0 (n + 1) dc ⟨vb, 0, none⟩ 1 1 [.int .u32 (x : Int)] Tryz.underlying70 hsz (by simp only [Nat.min_def, List.length_cons, List.length_nil]; split <;> omega)
      (fun j v hj => by
        rw [add_none, hWc, hW1, World.cell?_setCells_out b _ _ _ _ (fun h _ => absurd h hvb)]
        exact hvs j v hj)
      (fun j hj => by rw [hWc]; exact hsp1 _ (by simp at hj; omega)) (fun j hj => by rw [hWf, hW1, World.frozen?_setCells]; exact hfz _ (by simp at hj; omega)) (by simp [Value.oneCell'])
  rw [← hW1] at hcp1
  have hw0 : IntKind.i64.wrap (1 : Int) = 1 := by rw [IntKind.wrap_i64]; omega
  have hs1 := slice_1A b (n + 1) c (by omega) (by omega)
  rw [Nat.add_sub_cancel] at hs1
  have hw1 : ((n : Int) + 1).toNat = n + 1 := by omega
  go_enter Tryz.func86, Tryz.ntmps86
  go_wp2_with (simp only [hov])
  go_region_law (refine step_copy_runI rfl _ _ 70 70 rfl _ _ (by simp [Act.eval, Act.put]) (by simp [Act.eval, Act.put]) (hcp1 _ _ _) ?_)
  go_wp2_with (at_builtin; refine wpList_copy_runI _ rfl _ _ 70 70 rfl _ _ rfl rfl (hcp2 _ (fun _ => rfl) (fun _ => rfl) _ _) ?_)
  go_ret
  first | exact ⟨rfl, rfl⟩ | exact ⟨rfl, by rw [hW1]⟩

set_option maxHeartbeats 4000000 in
set_option maxRecDepth 100000 in
theorem ins_grow (b n c vb : Nat) (x : Nat) (cs : List Value) (w : World) (hi : 0 < n) (hnc : n ≤ c) (hroom : c < n + 1) (hbig : (n + 1) * 4 ≤ 140737488355328)
    (hcl : cs.length = n)
    (hcs : ∀ j v, cs[j]? = some v → w.cell? ⟨b, 0 + j, none⟩ = some v)
    (hv : w.cell? ⟨vb, 0, none⟩ = some (.int .u32 (x : Int))) (h1c : ∀ v ∈ cs, v.oneCell' = true) :
    Calls Tryz.prog 86 #[.slice (some ⟨b, 0, none⟩) n c, .int .i64 0, .slice (some ⟨vb, 0, none⟩) 1 1] w fun e w' =>
      ∃ G ROW, e = .returned (.slice (some ⟨w.heap.size, 0, none⟩) (n + 1) G) ∧ n + 1 ≤ G ∧ G ≤ maxLen ∧ ROW.size = G ∧
      w' = (((w.alloc (.cells ROW 54)).drew.setCells w.heap.size 0 [.int .u32 (x : Int)]).drew).setCells w.heap.size 1 cs := by
  obtain ⟨i0, hi0, hz0, hzs, hzb⟩ := info_parts as_info
  have hz2 : ¬ ((0 : Int) = (n : Int)) := by omega
  have hz3 : (c : Int) < (n : Int) + 1 := by omega
  have hsz : (Tryz.prog.info? 54).map (·.size) = some 1 := by rw [hi0]; simp [hzs]
  have hbw : b < w.heap.size := block_lt_of_cell (hcs 0 _ (List.getElem?_eq_getElem (by omega)))
  have hvw : vb < w.heap.size := block_lt_of_cell hv
  have hvs : ∀ (j : Nat) v, ([Value.int .u32 (x : Int)] : List Value)[j]? = some v → w.cell? ⟨vb, 0 + j, none⟩ = some v := fun j v h => by
    cases j with
    | zero => simp at h; rw [← h]; exact hv
    | succ j => simp at h
  have hold : (Builtin.firstCells i0.size 0 (.slice (some ⟨b, 0, none⟩) 0 c)).run Tryz.prog w.drew = .ok ([] : List Value).toArray w.drew := by
    rw [hzs]
    exact run_firstCells_some w.drew 1 0 ⟨b, 0, none⟩ 0 c [] (by simp) (fun j v hj => by simp at hj)
  have hrz : ∀ ty, (Builtin.append_ #[70, 3] ty #[.slice (some ⟨b, 0, none⟩) 0 c, .int .i64 ((n : Int) + 1)]).run Tryz.prog w =
      .ok (.slice (some ⟨w.heap.size, 0, none⟩) (n + 1) (grownCap w (n + 1) c 54)) (w.drew.alloc (.cells (([] : List Value).toArray ++ Builtin.zeroCells (Value.int .u32 0).cells (n + 1) ++ Builtin.zeroCells (Value.int .u32 0).cells (grownCap w (n + 1) c 54 - (n + 1))) 54)) := fun ty => by
    have h := Lib.run_append_grow_zeros w 70 3 ty 54 i0 _ .i64 .i64 Tryz.underlying70 Tryz.underlying3 hi0 hz0 (some ⟨b, 0, none⟩) 0 c [] hold (n + 1) (by omega) (by omega) (by omega) (by omega) (by rw [hzb]; omega) (by rw [hzb, Nat.zero_add]; exact growslice_fits hroom hbig)
    rw [Nat.zero_add] at h
    rw [show (n : Int) + 1 = ((n + 1 : Nat) : Int) by omega]
    exact h
  obtain ⟨G, hG⟩ : ∃ G, G = grownCap w (n + 1) c 54 := ⟨_, rfl⟩
  obtain ⟨ROW, hROW⟩ : ∃ ROW : Array Value, ROW = ([] : List Value).toArray ++ Builtin.zeroCells (Value.int .u32 0).cells (n + 1) ++ Builtin.zeroCells (Value.int .u32 0).cells (G - (n + 1)) := ⟨_, rfl⟩
  rw [← hG] at hrz
  rw [← hROW] at hrz
  have hGn : n + 1 ≤ G := by rw [hG]; exact grownCap_ge w _ _ _
  have hRs : ROW.size = G := by
    rw [hROW]
    simp [Builtin.zeroCells, Value.cells]
    omega
  obtain ⟨W1, hW1⟩ : ∃ W1, W1 = w.drew.alloc (.cells ROW 54) := ⟨_, rfl⟩
  rw [← hW1] at hrz
  have hN : ∀ j, j < n + 1 → (W1.cell? ⟨w.heap.size, j, none⟩).isSome = true := fun j hj => by
    rw [hW1, World.cell?_alloc_at (w := w.drew) ROW _ w.heap.size j rfl, Array.getElem?_eq_getElem (by omega)]; rfl
  have hNf : ∀ j, W1.frozen? ⟨w.heap.size, j, none⟩ = false := fun j => by rw [hW1]; exact World.frozen?_alloc_at (w := w.drew) ROW _ w.heap.size j rfl
  have hOb : ∀ j v, w.cell? ⟨b, j, none⟩ = some v → W1.cell? ⟨b, j, none⟩ = some v := fun j v h => by rw [hW1, World.cell?_alloc_past (w := w.drew) _ b j hbw]; exact h
  have hOv : ∀ j v, w.cell? ⟨vb, j, none⟩ = some v → W1.cell? ⟨vb, j, none⟩ = some v := fun j v h => by rw [hW1, World.cell?_alloc_past (w := w.drew) _ vb j hvw]; exact h
  have hcpA : ∀ (W : World), (∀ x, W.cell? x = W1.cell? x) → (∀ x, W.frozen? x = W1.frozen? x) → ∀ ty dc, (Builtin.copy_ #[70, 70] ty #[.slice (some ⟨w.heap.size, 0, none⟩) (n + 1) dc, .slice (some ⟨vb, 0, none⟩) 1 1]).run Tryz.prog W = .ok (goInt 1) (W.setCells w.heap.size 0 [.int .u32 (x : Int)]) := fun W hWc hWf ty dc =>
    run_copy_cells W _ _ ty 54 w.heap.size 0 (n + 1) dc ⟨vb, 0, none⟩ 1 1 [.int .u32 (x : Int)] Tryz.underlying70 hsz (by simp only [Nat.min_def, List.length_cons, List.length_nil]; split <;> omega)
      (fun j v hj => by rw [add_none, hWc]; exact hOv _ v (hvs j v hj))
      (fun j hj => by rw [hWc, Nat.zero_add]; exact hN _ (by simp at hj; omega)) (fun j hj => by rw [hWf]; exact hNf _) (by simp [Value.oneCell'])
  have hG63 : G ≤ 9223372036854775807 := by
    have := grownCap_le_maxLen w (n + 1) c 54 (by unfold maxLen; omega)
    rw [← hG] at this
    unfold maxLen at this
    omega
  have hGi : ¬ (G = 0) := by omega
  have hGim : ¬ (G = 1) := by omega
  have hci : ¬ (c = 0) := by omega
  have hbN : b ≠ w.heap.size := by omega
  have hcpB : ∀ (W : World), (∀ y, W.cell? y = (W1.setCells w.heap.size 0 [.int .u32 (x : Int)]).cell? y) → (∀ y, W.frozen? y = (W1.setCells w.heap.size 0 [.int .u32 (x : Int)]).frozen? y) → ∀ ty dc sc, (Builtin.copy_ #[70, 70] ty #[.slice (some ⟨w.heap.size, 1, none⟩) n dc, .slice (some ⟨b, 0, none⟩) n sc]).run Tryz.prog W = .ok (goInt cs.length) (W.setCells w.heap.size 1 cs) := fun W hWc hWf ty dc sc =>
    run_copy_cells W _ _ ty 54 w.heap.size 1 n dc ⟨b, 0, none⟩ n sc cs Tryz.underlying70 hsz (by rw [hcl]; simp only [Nat.min_def]; split <;> omega)
      (fun j v hj => by
        rw [add_none, hWc, World.cell?_setCells_out _ _ _ _ _ (fun h _ => absurd h hbN)]
        exact hOb _ v (hcs j v hj))
      (fun j hj => by rw [hWc]; exact isSome_setCells _ _ _ _ (fun t ht => hN _ (by simp at ht; omega)) _ (hN _ (by omega)))
      (fun j hj => by rw [hWf, World.frozen?_setCells]; exact hNf _) h1c
  subst hW1
  have hE1 : ∀ x, ((w.alloc (.cells ROW 54)).drew).cell? x = (w.drew.alloc (.cells ROW 54)).cell? x := fun x => rfl
  have hE2 : ∀ x, ((w.alloc (.cells ROW 54)).drew).frozen? x = (w.drew.alloc (.cells ROW 54)).frozen? x := fun x => rfl
  have hF1 : ∀ y, (((w.alloc (.cells ROW 54)).drew.setCells w.heap.size 0 [.int .u32 (x : Int)]).drew).cell? y = ((w.drew.alloc (.cells ROW 54)).setCells w.heap.size 0 [.int .u32 (x : Int)]).cell? y := fun y => rfl
  have hF2 : ∀ y, (((w.alloc (.cells ROW 54)).drew.setCells w.heap.size 0 [.int .u32 (x : Int)]).drew).frozen? y = ((w.drew.alloc (.cells ROW 54)).setCells w.heap.size 0 [.int .u32 (x : Int)]).frozen? y := fun y => rfl
  have hw0 : IntKind.i64.wrap (1 : Int) = 1 := by rw [IntKind.wrap_i64]; omega
  have hs1 := slice_1A w.heap.size (n + 1) G (by omega) (by omega)
  rw [Nat.add_sub_cancel] at hs1
  clear hold hROW hG
  go_enter Tryz.func86, Tryz.ntmps86
  go_wp2_with (first
    | (at_builtin; refine Lib.wpList_append_run _ rfl _ _ _ _ rfl _ _ rfl rfl _ _ (hrz _) ?_)
    | (at_builtin; refine wpList_copy_runI _ rfl _ _ 70 70 rfl _ _ rfl rfl (hcpA _ hE1 hE2 _ _) ?_)
    | (at_builtin; refine wpList_copy_runI _ rfl _ _ 70 70 rfl _ _ rfl rfl (hcpB _ (fun _ => rfl) (fun _ => rfl) _ _ _) ?_))
  go_region_law (refine step_copy_runI rfl _ _ 70 70 rfl (.slice (some ⟨w.heap.size, 1, none⟩) n (G - 1)) (.slice (some ⟨b, 0, none⟩) n c) (by simp [Act.eval, Act.put]) (by simp [Act.eval, Act.put]) (hcpB _ hF1 hF2 3 (G - 1) c) ?_)
  go_wp2
  go_ret
  exact ⟨G, ROW, rfl, hGn, by unfold maxLen; omega, hRs, rfl⟩
end Go.Proofs.YthjljamngpddmaaGreatDoor
namespace Go.Proofs.YthjljamngpddmaaGreatDoor
open Go.RowKit Go.Shelf

theorem Pt.may_seg2 {l : List Seg} (h : Pt.may l = true) (s : Seg) (hs : s ∈ l) : s.2 ≠ [] := by
  unfold Pt.may at h
  rw [Bool.and_eq_true, List.all_eq_true] at h
  have := h.1 s hs
  unfold Pt.may1 at this
  simp only [Bool.and_eq_true, decide_eq_true_eq] at this
  exact List.length_pos_iff.1 this.1.2
namespace Wk
def first (l : List Seg) : Nat × Nat × Bool := if Pt.may l then (match l with | [] => (0, 0, false) | s :: _ => (s.1.toNat, s.2.getD 0 0, true)) else (0, 0, false)
end Wk
end Go.Proofs.YthjljamngpddmaaGreatDoor
namespace Go.Proofs.YthjljamngpddmaaGreatDoor
open Go.RowKit Go.Shelf

def Wk.strip (l : List Seg) : List Seg := if Pt.may l then plains l else []
theorem own_one (w : World) (cs : Array Value) (h : cs.size = 2) : (w.alloc (.cells cs 72)).ownsRow w.heap.size 72 2 (.slice (some ⟨w.heap.size, 0, none⟩) 1 1) 1 cs.toList :=
  ⟨by simp [h], .inr ⟨w.heap.size, 1, cs, rfl, Nat.le_refl _, heap_alloc_new w _, Nat.le_refl _, by simp [maxLen], by simp [h], by rw [List.take_of_length_le (by simp [h])]⟩⟩
/-- A path of one segment of one number. -/
theorem path_of1 (k : UInt8) (n : Nat) (hn : n < 4294967296) (v : Value) (w : World) (h : As w v [n]) :
    Calls Tryz.prog 42 #[.int .u8 (k.toNat : Int), v] w fun e w' => ∃ v' xs, e = .returned v' ∧ w'.ownsRow w.heap.size 72 2 v' 1 xs ∧ Rws w' w.heap.size xs [(k, [n])] ∧ Kept Nothing w w' := by
  obtain ⟨A, c, rfl, _, _⟩ := h.form
  have HC := Lib.hid (as_clone _ [n] w h (by simp))
  clear h
  go_enter Tryz.func42, Tryz.ntmps42
  go_wp2_with (go_at_call 56; refine (HC.out).mono ?_; rintro e w2 ⟨v2, rfl, o2, k2⟩; (obtain ⟨A2, c2, rfl, _, _⟩ := ow_form o2); (have O2 := Lib.hid o2); (have K2 := Lib.hid k2); clear o2 k2)
  go_ret
  refine ⟨_, [.int .u8 (k.toNat : Int), .slice A2 1 c2], rfl, own_weakA (own_one w2 #[.int .u8 (k.toNat : Int), .slice A2 1 c2] rfl) K2.out.size, ⟨rfl, ow_kept O2.out ((Kept.refl Nothing w2).alloc _) (fun _ _ x => x), (fun m hm => by obtain rfl := List.mem_singleton.1 hm; exact hn), trivial⟩, K2.out.alloc _⟩

def Wk.room (l : List Seg) (k : Nat) : Bool := match l with | [] => false | s :: _ => decide (s.1.toNat = k) && decide (s.2.length < 255)
end Go.Proofs.YthjljamngpddmaaGreatDoor
namespace Go.Proofs.YthjljamngpddmaaGreatDoor
open Go.RowKit Go.Shelf

theorem Blk.setCells2 {t : TypeId} {g : Nat} : ∀ (vs : List Value) (o : Nat) (w : World) (cur : Array Value), Blk w g t cur → o + vs.length ≤ cur.size →
    ∃ cur', Blk (w.setCells g o vs) g t cur' ∧ cur'.toList = cur.toList.take o ++ vs ++ cur.toList.drop (o + vs.length) ∧ Kept (Only g) w (w.setCells g o vs)
  | [], o, w, cur, h, _ => ⟨cur, h, by simp, Kept.refl _ _⟩
  | v :: vs, o, w, cur, h, hs => by
    rw [List.length_cons] at hs
    obtain ⟨cur', h1, h2, h4⟩ := Blk.setCells2 vs (o + 1) (w.setCell ⟨g, o, none⟩ v) (cur.setIfInBounds o v) (h.put o v) (by simp; omega)
    refine ⟨cur', h1, ?_, (Kept.own w g o v).trans h4⟩
    rw [h2, Array.toList_setIfInBounds]
    have e1 : (cur.toList.set o v).take (o + 1) = cur.toList.take o ++ [v] := by
      rw [List.take_add_one, List.getElem?_set_self (by simp; omega)]
      simp [List.take_set_of_le]
    have e2 : (cur.toList.set o v).drop (o + 1 + vs.length) = cur.toList.drop (o + (v :: vs).length) := by
      rw [List.drop_set_of_lt (by omega)]
      congr 1
      rw [List.length_cons]; omega
    rw [e1, e2]
    simp

theorem ins_own (B : Nat) (v : Value) (l : List Nat) (x : Nat) (w : World) (ho : w.ownsRow B 54 1 v l.length (ass l)) (hne : l ≠ []) (hl : l.length ≤ 1000000) (hBw : B ≤ w.heap.size)
    (gv : Nat) (hv : Blk w gv 54 #[.int .u32 (x : Int)]) (hgv : v.ownBlock ≠ some gv) :
    Calls Tryz.prog 86 #[v, .int .i64 0, .slice (some ⟨gv, 0, none⟩) 1 1] w fun e w' => ∃ v', e = .returned v' ∧ w'.ownsRow B 54 1 v' (l.length + 1) (ass (x :: l)) ∧ Kept (fun k => v.ownBlock = some k) w w' ∧ (v'.ownBlock = v.ownBlock ∨ ∃ g, v'.ownBlock = some g ∧ w.heap.size ≤ g) := by
  have hpos : 0 < l.length := List.length_pos_iff.2 hne
  obtain ⟨g, c, cur, rfl, hge, hb, hn, hm, hs, ht⟩ : ∃ g cap cur, v = .slice (some ⟨g, 0, none⟩) l.length cap ∧ B ≤ g ∧ Blk w g 54 cur ∧ l.length ≤ cap ∧ cap ≤ maxLen ∧ cur.size = cap * 1 ∧ cur.toList.take (l.length * 1) = ass l := by
    rcases ho.2 with ⟨_, h0⟩ | ⟨g, cap, cur, e, hb, hh, hn, hm, hs, ht⟩
    · omega
    · exact ⟨g, cap, cur, e, hb, hh, hn, hm, hs, ht⟩
  rw [Nat.mul_one] at hs ht
  have hgg : gv ≠ g := fun e => hgv (by rw [e]; rfl)
  have hcell : ∀ (j : Nat) u, (ass l)[j]? = some u → w.cell? ⟨g, 0 + j, none⟩ = some u := fun j u hu => by
    rw [Nat.zero_add, hb.cell, ← Array.getElem?_toList]
    have hj := (List.getElem?_eq_some_iff.1 hu).1
    rw [length_ass] at hj
    rw [← hu, ← ht, List.getElem?_take_of_lt hj]
  have h1c : ∀ u ∈ ass l, u.oneCell' = true := fun u hu => by
    unfold ass at hu
    obtain ⟨n, _, rfl⟩ := List.mem_map.1 hu
    rfl
  have hx0 : w.cell? ⟨gv, 0, none⟩ = some (.int .u32 (x : Int)) := hv.cell 0
  by_cases hroom : l.length + 1 ≤ c
  · refine (ins_shift g l.length c gv x (ass l) w hpos hroom (by unfold maxLen at hm; omega) hgg (length_ass l) hcell (fun j hj => by rw [Nat.zero_add, hb.cell, Array.getElem?_eq_getElem (by omega)]; rfl) (fun j hj => hb.free _) hx0 h1c
      54 54 1 cur.size (by unfold Blk at hv; simp [World.shape?, hv]) (by unfold Blk at hb; simp [World.shape?, hb]) (by omega) (hv.free _) (hv.free _)).mono ?_
    rintro e w' ⟨rfl, rfl⟩
    obtain ⟨cur1, b1, e1, k1⟩ := hb.setCells2 (ass l) 1 w.drew cur (by rw [length_ass]; omega)
    obtain ⟨cur2, b2, e2, k2⟩ := b1.setCells2 [.int .u32 (x : Int)] 0 _ cur1 (by
      have : cur1.toList.length = cur.toList.length := by rw [e1]; simp [length_ass]; omega
      simp at this ⊢; omega)
    have hsz2 : cur2.size = cur.size := by
      have h1 : cur1.toList.length = cur.toList.length := by rw [e1]; simp [length_ass]; omega
      have h2 : cur2.toList.length = cur1.toList.length := by rw [e2]; simp; simp at h1; omega
      simp at h1 h2; omega
    refine ⟨_, rfl, ⟨by simp [length_ass], .inr ⟨g, c, cur2, rfl, hge, b2, hroom, hm, by rw [hsz2, hs, Nat.mul_one], ?_⟩⟩, ((Kept.refl _ w).drew.trans (k1.trans k2)).mono (fun k (e : k = g) => by rw [e]; rfl), .inl rfl⟩
    rw [e2, e1]
    have : ass (x :: l) = .int .u32 (x : Int) :: ass l := rfl
    rw [this]
    simp [length_ass, List.take_append, List.drop_append]
    rw [show min 1 cur.size = 1 by omega]
    simp [length_ass, List.take_of_length_le]
  · refine (ins_grow g l.length c gv x (ass l) w hpos hn (by omega) (by omega) (length_ass l) hcell hx0 h1c).mono ?_
    rintro e w' ⟨G, ROW, rfl, hG1, hG2, hR, rfl⟩
    have b0 : Blk ((w.alloc (.cells ROW 54)).drew) w.heap.size 54 ROW := Blk.fresh w _ ROW
    obtain ⟨cur1, b1, e1, k1⟩ := b0.setCells2 [.int .u32 (x : Int)] 0 _ ROW (by simp; omega)
    have hs1 : cur1.size = ROW.size := by
      have : cur1.toList.length = ROW.toList.length := by rw [e1]; simp; omega
      simpa using this
    obtain ⟨cur2, b2, e2, k2⟩ := Blk.setCells2 (ass l) 1 (((w.alloc (.cells ROW 54)).drew.setCells w.heap.size 0 [.int .u32 (x : Int)]).drew) cur1 b1 (by rw [length_ass]; omega)
    have hs2 : cur2.size = cur1.size := by
      have : cur2.toList.length = cur1.toList.length := by rw [e2]; simp [length_ass]; omega
      simpa using this
    have kz : Kept Nothing w _ := (((Kept.refl Nothing w).alloc (.cells ROW 54)).drew.trans_new k1 (fun i hi (e : i = _) => by omega)).drew.trans_new k2 (fun i hi (e : i = _) => by omega)
    refine ⟨_, rfl, ⟨by simp [length_ass], .inr ⟨w.heap.size, G, cur2, rfl, hBw, b2, hG1, hG2, by rw [hs2, hs1, hR, Nat.mul_one], ?_⟩⟩, kz.mono (fun _ x => x.elim), .inr ⟨w.heap.size, rfl, Nat.le_refl _⟩⟩
    rw [e2, e1]
    have : ass (x :: l) = .int .u32 (x : Int) :: ass l := rfl
    rw [this]
    simp [length_ass]
end Go.Proofs.YthjljamngpddmaaGreatDoor
namespace Go.Proofs.YthjljamngpddmaaGreatDoor
open Go.RowKit Go.Shelf

set_option maxHeartbeats 800000 in
theorem ins_none (A B : Option Addr) (n c vc : Nat) (w : World) :
    Calls Tryz.prog 86 #[.slice A n c, .int .i64 0, .slice B 0 vc] w fun e w' => e = .returned (.slice A n c) ∧ Kept Nothing w w' := by
  go_enter Tryz.func86, Tryz.ntmps86
  go_wp2
  go_ret
  exact ⟨rfl, Kept.refl _ _⟩

theorem one_ass (l : List Nat) : ∀ u ∈ ass l, u.oneCell' = true := fun u hu => by
  unfold ass at hu
  obtain ⟨n, _, rfl⟩ := List.mem_map.1 hu
  rfl
theorem ins_ownN (B : Nat) (v : Value) (l x : List Nat) (w : World) (ho : w.ownsRow B 54 1 v l.length (ass l)) (hne : l ≠ []) (hl : l.length ≤ 1000000) (hx : x.length ≤ 1000000) (hBw : B ≤ w.heap.size)
    (gv vo vc : Nat) (vcs : Array Value) (hv : Blk w gv 54 vcs) (hvx : ∀ (j : Nat) u, (ass x)[j]? = some u → vcs[vo + j]? = some u) (hgv : v.ownBlock ≠ some gv) (hx0 : 0 < x.length) :
    Calls Tryz.prog 86 #[v, .int .i64 0, .slice (some ⟨gv, vo, none⟩) x.length vc] w fun e w' => ∃ v', e = .returned v' ∧ w'.ownsRow B 54 1 v' (x ++ l).length (ass (x ++ l)) ∧ Kept (fun k => v.ownBlock = some k) w w' ∧ (v'.ownBlock = v.ownBlock ∨ ∃ g, v'.ownBlock = some g ∧ w.heap.size ≤ g) := by
  have hpos : 0 < l.length := List.length_pos_iff.2 hne
  obtain ⟨g, c, cur, rfl, hge, hb, hn, hm, hs, ht⟩ : ∃ g cap cur, v = .slice (some ⟨g, 0, none⟩) l.length cap ∧ B ≤ g ∧ Blk w g 54 cur ∧ l.length ≤ cap ∧ cap ≤ maxLen ∧ cur.size = cap * 1 ∧ cur.toList.take (l.length * 1) = ass l := by
    rcases ho.2 with ⟨_, h0⟩ | ⟨g, cap, cur, e, hb, hh, hn, hm, hs, ht⟩
    · omega
    · exact ⟨g, cap, cur, e, hb, hh, hn, hm, hs, ht⟩
  rw [Nat.mul_one] at hs ht
  have hgg : gv ≠ g := fun e => hgv (by rw [e]; rfl)
  have hcell : ∀ (j : Nat) u, (ass l)[j]? = some u → w.cell? ⟨g, 0 + j, none⟩ = some u := fun j u hu => by
    rw [Nat.zero_add, hb.cell, ← Array.getElem?_toList]
    have hj := (List.getElem?_eq_some_iff.1 hu).1
    rw [length_ass] at hj
    rw [← hu, ← ht, List.getElem?_take_of_lt hj]
  have hvs : ∀ (j : Nat) u, (ass x)[j]? = some u → w.cell? ⟨gv, vo + j, none⟩ = some u := fun j u hu => by
    rw [hv.cell]; exact hvx j u hu
  have hlen : (x ++ l).length = l.length + x.length := by rw [List.length_append]; omega
  by_cases hroom : l.length + x.length ≤ c
  · refine (ins_shiftN g l.length c gv vo vc x.length (ass x) (ass l) w hx0 (length_ass x) hpos hroom (by unfold maxLen at hm; omega) hgg (length_ass l) hcell (fun j hj => by rw [Nat.zero_add, hb.cell, Array.getElem?_eq_getElem (by omega)]; rfl) (fun j hj => hb.free _) hvs (one_ass x) (one_ass l)
      54 54 vcs.size cur.size (by unfold Blk at hv; simp [World.shape?, hv]) (by unfold Blk at hb; simp [World.shape?, hb]) (by omega) (hv.free _) (hv.free _)).mono ?_
    rintro e w' ⟨rfl, rfl⟩
    obtain ⟨cur1, b1, e1, k1⟩ := hb.setCells2 (ass l) x.length w.drew cur (by rw [length_ass]; omega)
    have hsz1 : cur1.size = cur.size := by
      have : cur1.toList.length = cur.toList.length := by rw [e1]; simp [length_ass]; omega
      simpa using this
    obtain ⟨cur2, b2, e2, k2⟩ := b1.setCells2 (ass x) 0 _ cur1 (by rw [length_ass]; omega)
    have hsz2 : cur2.size = cur.size := by
      have : cur2.toList.length = cur1.toList.length := by rw [e2]; simp [length_ass]; omega
      simp at this; omega
    refine ⟨_, rfl, ⟨by rw [length_ass, Nat.mul_one], .inr ⟨g, c, cur2, by rw [hlen], hge, b2, by rw [hlen]; exact hroom, hm, by rw [hsz2, hs, Nat.mul_one], ?_⟩⟩, ((Kept.refl _ w).drew.trans (k1.trans k2)).mono (fun k (e : k = g) => by rw [e]; rfl), .inl rfl⟩
    rw [e2, e1, ass_append, hlen]
    simp [length_ass, List.take_append, List.drop_append]
    rw [show min x.length cur.size = x.length by omega]
    simp [length_ass, List.take_of_length_le]
    try omega
  · refine (ins_growN g l.length c gv vo vc x.length (ass x) (ass l) w hx0 (length_ass x) hpos hn (by omega) (by omega) (length_ass l) hcell hvs (one_ass x) (one_ass l)).mono ?_
    rintro e w' ⟨G, ROW, rfl, hG1, hG2, hR, rfl⟩
    have b0 : Blk ((w.alloc (.cells ROW 54)).drew) w.heap.size 54 ROW := Blk.fresh w _ ROW
    obtain ⟨cur1, b1, e1, k1⟩ := b0.setCells2 (ass x) 0 _ ROW (by rw [length_ass]; omega)
    have hs1 : cur1.size = ROW.size := by
      have : cur1.toList.length = ROW.toList.length := by rw [e1]; simp [length_ass]; omega
      simpa using this
    obtain ⟨cur2, b2, e2, k2⟩ := Blk.setCells2 (ass l) x.length (((w.alloc (.cells ROW 54)).drew.setCells w.heap.size 0 (ass x)).drew) cur1 b1 (by rw [length_ass]; omega)
    have hs2 : cur2.size = cur1.size := by
      have : cur2.toList.length = cur1.toList.length := by rw [e2]; simp [length_ass]; omega
      simpa using this
    have kz : Kept Nothing w _ := (((Kept.refl Nothing w).alloc (.cells ROW 54)).drew.trans_new k1 (fun i hi (e : i = _) => by omega)).drew.trans_new k2 (fun i hi (e : i = _) => by omega)
    refine ⟨_, rfl, ⟨by rw [length_ass, Nat.mul_one], .inr ⟨w.heap.size, G, cur2, by rw [hlen], hBw, b2, by rw [hlen]; exact hG1, hG2, by rw [hs2, hs1, hR, Nat.mul_one], ?_⟩⟩, kz.mono (fun _ x => x.elim), .inr ⟨w.heap.size, rfl, Nat.le_refl _⟩⟩
    rw [e2, e1, ass_append, hlen]
    simp [length_ass, List.take_append, List.drop_append]
    exact List.take_of_length_le (by rw [length_ass]; omega)
end Go.Proofs.YthjljamngpddmaaGreatDoor
namespace Go.Proofs.YthjljamngpddmaaGreatDoor
open Go.RowKit

namespace Pt
/-- A segment's text. -/
def segT (s : Seg) : List UInt8 := opens s.1.toNat ++ Lib.join (s.2.map Lib.decDigits) (betw s.1.toNat) ++ ends s.1.toNat
/-- What stands ahead of the k-th segment. -/
def ahead (l : List Seg) (k : Nat) : List UInt8 := if k = 0 then [] else gap (l.getD (k - 1) (0, [])).1.toNat (l.getD k (0, [])).1.toNat
/-- The text of the first k segments. -/
def tx (l : List Seg) : Nat → List UInt8
  | 0 => []
  | k + 1 => tx l k ++ (ahead l k ++ segT (l.getD k (0, [])))
/-- A path's text. -/
def text (l : List Seg) : List UInt8 := if may l then (if l = [] then [45] else tx l l.length) else []
theorem lens_dec (l : List Nat) (h : ∀ n ∈ l, n < 4294967296) : Lib.lens (l.map Lib.decDigits) ≤ 10 * l.length := by
  induction l with
  | nil => simp [Lib.lens]
  | cons n l ih =>
    have h1 := ih (fun m hm => h m (List.mem_cons_of_mem _ hm))
    have h2 := dec_len32 n (h n (List.mem_cons_self ..))
    unfold Lib.lens at h1 ⊢
    rw [List.map_cons, List.map_cons, List.sum_cons, List.length_cons]
    omega
theorem betw_len (k : Nat) : (betw k).length ≤ 1 := by unfold betw; split <;> simp
theorem opens_len (k : Nat) : (opens k).length ≤ 1 := by unfold opens; split <;> simp
theorem ends_len (k : Nat) : (ends k).length ≤ 1 := by unfold ends; split <;> simp
theorem join_len (k : Nat) (l : List Nat) (h : ∀ n ∈ l, n < 4294967296) : (Lib.join (l.map Lib.decDigits) (betw k)).length ≤ 11 * l.length := by
  cases l with
  | nil => simp [Lib.join_nil]
  | cons n l =>
    rw [List.map_cons, Lib.join_cons, List.length_append, Lib.joinTail_length, List.length_map]
    have h1 := lens_dec l (fun m hm => h m (List.mem_cons_of_mem _ hm))
    have h2 := dec_len32 n (h n (List.mem_cons_self ..))
    have h3 := betw_len k
    rw [List.length_cons]
    have h4 : (betw k).length * l.length ≤ 1 * l.length := Nat.mul_le_mul_right _ h3
    omega
theorem segT_len (s : Seg) (h : ∀ n ∈ s.2, n < 4294967296) : (segT s).length ≤ 11 * s.2.length + 2 := by
  unfold segT
  rw [List.length_append, List.length_append]
  have := join_len s.1.toNat s.2 h
  have := opens_len s.1.toNat
  have := ends_len s.1.toNat
  omega
end Pt
end Go.Proofs.YthjljamngpddmaaGreatDoor
