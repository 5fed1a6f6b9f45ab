
/-
  walk.Prepend.
-/
import Derived.Test.YtdeblmolgmadiaaDoorJt
import Derived.Shelf.Spec.SlicesInsertGrow
import Derived.Test.YtdeblmolgmadiaaDoorZc
import Derived.Test.YtdeblmolgmadiaaDoorZa
namespace Go.Proofs.YtdeblmolgmadiaaDoor
open Go.RowKit Go.Shelf

theorem slice_1A (g n c : Nat) (hn : 1 ≤ n) (hc : 1 < c) (w : World) :
    (Instr.slice 59 (.slice (some ⟨g, 0, none⟩) n c) (some (.int .i64 1)) none none).run Tryd.prog w = .ok (.slice (some ⟨g, 1, none⟩) (n - 1) (c - 1)) w := by
  have hz := Tryd.sizeOf25
  have he : Tryd.prog.elem 59 = 25 := by kernel_rfl
  rw [run_slice_l w 59 _ n c (by kernel_rfl) .i64 1 (by omega) (by omega), he, hz]
  have hck : ¬ c = 1 := by omega
  simp [sliced, hck, add_none]
set_option maxHeartbeats 4000000 in
set_option maxRecDepth 100000 in
theorem ins_shift (b n c vb : Nat) (x : Nat) (cs : List Value) (w : World) (hi : 0 < n) (hroom : n + 1 ≤ c) (hc63 : c ≤ 9223372036854775807) (hvb : vb ≠ b)
    (hcl : cs.length = n)
    (hcs : ∀ j v, cs[j]? = some v → w.cell? ⟨b, 0 + j, none⟩ = some v) (hsp : ∀ j, j < n + 1 → (w.cell? ⟨b, 0 + j, none⟩).isSome = true) (hfz : ∀ j, j < n + 1 → w.frozen? ⟨b, 0 + j, none⟩ = false)
    (hv : w.cell? ⟨vb, 0, none⟩ = some (.int .u32 (x : Int))) (h1c : ∀ v ∈ cs, v.oneCell' = true)
    (tA tB : TypeId) (kA kB : Nat) (hsa : w.shape? vb = some (tA, kA)) (hsb : w.shape? b = some (tB, kB)) (hkB : kB ≠ 0) (hfa : w.frozen? ⟨vb, 0, none⟩ = false) (hfe : w.frozen? ⟨vb, kA, none⟩ = false) :
    Calls Tryd.prog 45 #[.slice (some ⟨b, 0, none⟩) n c, .int .i64 0, .slice (some ⟨vb, 0, none⟩) 1 1] w fun e w' =>
      e = .returned (.slice (some ⟨b, 0, none⟩) (n + 1) c) ∧ w' = (w.drew.setCells b 1 cs).setCells b 0 [.int .u32 (x : Int)] := by
  have hz2 : ¬ ((0 : Int) = (n : Int)) := by omega
  have hsz : (Tryd.prog.info? 25).map (·.size) = some 1 := by
    obtain ⟨i0, hi0, h0, h1, h2⟩ := info_parts as_info
    rw [hi0]; simp [h1]
  have hov : ∀ lb cb, (callFunc 57 #[.slice (some ⟨vb, 0, none⟩) 1 1, .slice (some ⟨b, 1, none⟩) lb cb]).run Tryd.prog w = .ok (.value (.bool false)) w := fun lb cb => by
    rw [run_callFunc_extern Tryd.func57 (by kernel_rfl) (by kernel_rfl) (by kernel_rfl) (e := Extern.SlicesOverlaps.overlaps #[59, 59] #[4]) (by kernel_rfl),
      Lib.run_overlaps_apart w 59 4 25 Tryd.underlying59 1 Tryd.sizeOf25 ⟨vb, 0, none⟩ ⟨b, 1, none⟩ 1 1 lb cb hvb tA tB kA kB hsa hsb hkB hfa hfe]
    rfl
  have hb2 : ¬ (c = 1) := by omega
  have hb3 : (0 : Int) ≤ (n : Int) + 1 := by omega
  have hb4 : ¬ (c = 0) := by omega
  have hvs : ∀ (j : Nat) v, ([Value.int .u32 (x : Int)] : List Value)[j]? = some v → w.cell? ⟨vb, 0 + j, none⟩ = some v := fun j v h => by
    cases j with
    | zero => simp at h; rw [← h]; exact hv
    | succ j => simp at h
  have hcp1 : ∀ ty dc sc, (Builtin.copy_ #[59, 59] ty #[.slice (some ⟨b, 1, none⟩) n dc, .slice (some ⟨b, 0, none⟩) (n + 1) sc]).run Tryd.prog w.drew = .ok (goInt cs.length) (w.drew.setCells b 1 cs) := fun ty dc sc =>
    run_copy_cells w.drew _ _ ty 25 b 1 n dc ⟨b, 0, none⟩ (n + 1) sc cs Tryd.underlying59 hsz (by rw [hcl]; simp only [Nat.min_def]; split <;> omega)
      (fun j v hj => by rw [add_none]; exact hcs j v hj)
      (fun j hj => by have := hsp (1 + j) (by omega); rwa [Nat.zero_add] at this) (fun j hj => by have := hfz (1 + j) (by omega); rwa [Nat.zero_add] at this) h1c
  obtain ⟨W1, hW1⟩ : ∃ W1, W1 = w.drew.setCells b 1 cs := ⟨_, rfl⟩
  have hsp1 : ∀ k, k < n + 1 → (W1.cell? ⟨b, 0 + k, none⟩).isSome = true := fun k hk => by
    rw [hW1, Nat.zero_add]
    refine isSome_setCells b _ _ _ (fun j hj => ?_) _ ?_
    · have := hsp (1 + j) (by omega); rwa [Nat.zero_add] at this
    · have := hsp k hk; rwa [Nat.zero_add] at this
  have hcp2 : ∀ (W : World), (∀ x, W.cell? x = W1.cell? x) → (∀ x, W.frozen? x = W1.frozen? x) → ∀ ty dc, (Builtin.copy_ #[59, 59] ty #[.slice (some ⟨b, 0, none⟩) (n + 1) dc, .slice (some ⟨vb, 0, none⟩) 1 1]).run Tryd.prog W = .ok (goInt 1) (W.setCells b 0 [.int .u32 (x : Int)]) := fun W hWc hWf ty dc =>
    run_copy_cells W _ _ ty 25 b 0 (n + 1) dc ⟨vb, 0, none⟩ 1 1 [.int .u32 (x : Int)] Tryd.underlying59 hsz (by simp only [Nat.min_def, List.length_cons, List.length_nil]; split <;> omega)
      (fun j v hj => by
        rw [add_none, hWc, hW1, World.cell?_setCells_out b _ _ _ _ (fun h _ => absurd h hvb)]
        exact hvs j v hj)
      (fun j hj => by rw [hWc]; exact hsp1 _ (by simp at hj; omega)) (fun j hj => by rw [hWf, hW1, World.frozen?_setCells]; exact hfz _ (by simp at hj; omega)) (by simp [Value.oneCell'])
  rw [← hW1] at hcp1
  have hw0 : IntKind.i64.wrap (1 : Int) = 1 := by rw [IntKind.wrap_i64]; omega
  have hs1 := slice_1A b (n + 1) c (by omega) (by omega)
  rw [Nat.add_sub_cancel] at hs1
  have hw1 : ((n : Int) + 1).toNat = n + 1 := by omega
  go_enter Tryd.func45, Tryd.ntmps45
  go_wp2_with (simp only [hov])
  go_region_law (refine step_copy_runI rfl _ _ 59 59 rfl _ _ (by simp [Act.eval, Act.put]) (by simp [Act.eval, Act.put]) (hcp1 _ _ _) ?_)
  go_wp2_with (at_builtin; refine wpList_copy_runI _ rfl _ _ 59 59 rfl _ _ rfl rfl (hcp2 _ (fun _ => rfl) (fun _ => rfl) _ _) ?_)
  go_ret
  first | exact ⟨rfl, rfl⟩ | exact ⟨rfl, by rw [hW1]⟩

set_option maxHeartbeats 4000000 in
set_option maxRecDepth 100000 in
theorem ins_grow (b n c vb : Nat) (x : Nat) (cs : List Value) (w : World) (hi : 0 < n) (hnc : n ≤ c) (hroom : c < n + 1) (hbig : (n + 1) * 4 ≤ 140737488355328)
    (hcl : cs.length = n)
    (hcs : ∀ j v, cs[j]? = some v → w.cell? ⟨b, 0 + j, none⟩ = some v)
    (hv : w.cell? ⟨vb, 0, none⟩ = some (.int .u32 (x : Int))) (h1c : ∀ v ∈ cs, v.oneCell' = true) :
    Calls Tryd.prog 45 #[.slice (some ⟨b, 0, none⟩) n c, .int .i64 0, .slice (some ⟨vb, 0, none⟩) 1 1] w fun e w' =>
      ∃ G ROW, e = .returned (.slice (some ⟨w.heap.size, 0, none⟩) (n + 1) G) ∧ n + 1 ≤ G ∧ G ≤ maxLen ∧ ROW.size = G ∧
      w' = (((w.alloc (.cells ROW 25)).drew.setCells w.heap.size 0 [.int .u32 (x : Int)]).drew).setCells w.heap.size 1 cs := by
  obtain ⟨i0, hi0, hz0, hzs, hzb⟩ := info_parts as_info
  have hz2 : ¬ ((0 : Int) = (n : Int)) := by omega
  have hz3 : (c : Int) < (n : Int) + 1 := by omega
  have hsz : (Tryd.prog.info? 25).map (·.size) = some 1 := by rw [hi0]; simp [hzs]
  have hbw : b < w.heap.size := block_lt_of_cell (hcs 0 _ (List.getElem?_eq_getElem (by omega)))
  have hvw : vb < w.heap.size := block_lt_of_cell hv
  have hvs : ∀ (j : Nat) v, ([Value.int .u32 (x : Int)] : List Value)[j]? = some v → w.cell? ⟨vb, 0 + j, none⟩ = some v := fun j v h => by
    cases j with
    | zero => simp at h; rw [← h]; exact hv
    | succ j => simp at h
  have hold : (Builtin.firstCells i0.size 0 (.slice (some ⟨b, 0, none⟩) 0 c)).run Tryd.prog w.drew = .ok ([] : List Value).toArray w.drew := by
    rw [hzs]
    exact run_firstCells_some w.drew 1 0 ⟨b, 0, none⟩ 0 c [] (by simp) (fun j v hj => by simp at hj)
  have hrz : ∀ ty, (Builtin.append_ #[59, 3] ty #[.slice (some ⟨b, 0, none⟩) 0 c, .int .i64 ((n : Int) + 1)]).run Tryd.prog w =
      .ok (.slice (some ⟨w.heap.size, 0, none⟩) (n + 1) (grownCap w (n + 1) c 25)) (w.drew.alloc (.cells (([] : List Value).toArray ++ Builtin.zeroCells (Value.int .u32 0).cells (n + 1) ++ Builtin.zeroCells (Value.int .u32 0).cells (grownCap w (n + 1) c 25 - (n + 1))) 25)) := fun ty => by
    have h := Lib.run_append_grow_zeros w 59 3 ty 25 i0 _ .i64 .i64 Tryd.underlying59 Tryd.underlying3 hi0 hz0 (some ⟨b, 0, none⟩) 0 c [] hold (n + 1) (by omega) (by omega) (by omega) (by omega) (by rw [hzb]; omega) (by rw [hzb, Nat.zero_add]; exact growslice_fits hroom hbig)
    rw [Nat.zero_add] at h
    rw [show (n : Int) + 1 = ((n + 1 : Nat) : Int) by omega]
    exact h
  obtain ⟨G, hG⟩ : ∃ G, G = grownCap w (n + 1) c 25 := ⟨_, rfl⟩
  obtain ⟨ROW, hROW⟩ : ∃ ROW : Array Value, ROW = ([] : List Value).toArray ++ Builtin.zeroCells (Value.int .u32 0).cells (n + 1) ++ Builtin.zeroCells (Value.int .u32 0).cells (G - (n + 1)) := ⟨_, rfl⟩
  rw [← hG] at hrz
  rw [← hROW] at hrz
  have hGn : n + 1 ≤ G := by rw [hG]; exact grownCap_ge w _ _ _
  have hRs : ROW.size = G := by
    rw [hROW]
    simp [Builtin.zeroCells, Value.cells]
    omega
  obtain ⟨W1, hW1⟩ : ∃ W1, W1 = w.drew.alloc (.cells ROW 25) := ⟨_, rfl⟩
  rw [← hW1] at hrz
  have hN : ∀ j, j < n + 1 → (W1.cell? ⟨w.heap.size, j, none⟩).isSome = true := fun j hj => by
    rw [hW1, World.cell?_alloc_at (w := w.drew) ROW _ w.heap.size j rfl, Array.getElem?_eq_getElem (by omega)]; rfl
  have hNf : ∀ j, W1.frozen? ⟨w.heap.size, j, none⟩ = false := fun j => by rw [hW1]; exact World.frozen?_alloc_at (w := w.drew) ROW _ w.heap.size j rfl
  have hOb : ∀ j v, w.cell? ⟨b, j, none⟩ = some v → W1.cell? ⟨b, j, none⟩ = some v := fun j v h => by rw [hW1, World.cell?_alloc_past (w := w.drew) _ b j hbw]; exact h
  have hOv : ∀ j v, w.cell? ⟨vb, j, none⟩ = some v → W1.cell? ⟨vb, j, none⟩ = some v := fun j v h => by rw [hW1, World.cell?_alloc_past (w := w.drew) _ vb j hvw]; exact h
  have hcpA : ∀ (W : World), (∀ x, W.cell? x = W1.cell? x) → (∀ x, W.frozen? x = W1.frozen? x) → ∀ ty dc, (Builtin.copy_ #[59, 59] ty #[.slice (some ⟨w.heap.size, 0, none⟩) (n + 1) dc, .slice (some ⟨vb, 0, none⟩) 1 1]).run Tryd.prog W = .ok (goInt 1) (W.setCells w.heap.size 0 [.int .u32 (x : Int)]) := fun W hWc hWf ty dc =>
    run_copy_cells W _ _ ty 25 w.heap.size 0 (n + 1) dc ⟨vb, 0, none⟩ 1 1 [.int .u32 (x : Int)] Tryd.underlying59 hsz (by simp only [Nat.min_def, List.length_cons, List.length_nil]; split <;> omega)
      (fun j v hj => by rw [add_none, hWc]; exact hOv _ v (hvs j v hj))
      (fun j hj => by rw [hWc, Nat.zero_add]; exact hN _ (by simp at hj; omega)) (fun j hj => by rw [hWf]; exact hNf _) (by simp [Value.oneCell'])
  have hG63 : G ≤ 9223372036854775807 := by
    have := grownCap_le_maxLen w (n + 1) c 25 (by unfold maxLen; omega)
    rw [← hG] at this
    unfold maxLen at this
    omega
  have hGi : ¬ (G = 0) := by omega
  have hGim : ¬ (G = 1) := by omega
  have hci : ¬ (c = 0) := by omega
  have hbN : b ≠ w.heap.size := by omega
  have hcpB : ∀ (W : World), (∀ y, W.cell? y = (W1.setCells w.heap.size 0 [.int .u32 (x : Int)]).cell? y) → (∀ y, W.frozen? y = (W1.setCells w.heap.size 0 [.int .u32 (x : Int)]).frozen? y) → ∀ ty dc sc, (Builtin.copy_ #[59, 59] ty #[.slice (some ⟨w.heap.size, 1, none⟩) n dc, .slice (some ⟨b, 0, none⟩) n sc]).run Tryd.prog W = .ok (goInt cs.length) (W.setCells w.heap.size 1 cs) := fun W hWc hWf ty dc sc =>
    run_copy_cells W _ _ ty 25 w.heap.size 1 n dc ⟨b, 0, none⟩ n sc cs Tryd.underlying59 hsz (by rw [hcl]; simp only [Nat.min_def]; split <;> omega)
      (fun j v hj => by
        rw [add_none, hWc, World.cell?_setCells_out _ _ _ _ _ (fun h _ => absurd h hbN)]
        exact hOb _ v (hcs j v hj))
      (fun j hj => by rw [hWc]; exact isSome_setCells _ _ _ _ (fun t ht => hN _ (by simp at ht; omega)) _ (hN _ (by omega)))
      (fun j hj => by rw [hWf, World.frozen?_setCells]; exact hNf _) h1c
  subst hW1
  have hE1 : ∀ x, ((w.alloc (.cells ROW 25)).drew).cell? x = (w.drew.alloc (.cells ROW 25)).cell? x := fun x => rfl
  have hE2 : ∀ x, ((w.alloc (.cells ROW 25)).drew).frozen? x = (w.drew.alloc (.cells ROW 25)).frozen? x := fun x => rfl
  have hF1 : ∀ y, (((w.alloc (.cells ROW 25)).drew.setCells w.heap.size 0 [.int .u32 (x : Int)]).drew).cell? y = ((w.drew.alloc (.cells ROW 25)).setCells w.heap.size 0 [.int .u32 (x : Int)]).cell? y := fun y => rfl
  have hF2 : ∀ y, (((w.alloc (.cells ROW 25)).drew.setCells w.heap.size 0 [.int .u32 (x : Int)]).drew).frozen? y = ((w.drew.alloc (.cells ROW 25)).setCells w.heap.size 0 [.int .u32 (x : Int)]).frozen? y := fun y => rfl
  have hw0 : IntKind.i64.wrap (1 : Int) = 1 := by rw [IntKind.wrap_i64]; omega
  have hs1 := slice_1A w.heap.size (n + 1) G (by omega) (by omega)
  rw [Nat.add_sub_cancel] at hs1
  clear hold hROW hG
  go_enter Tryd.func45, Tryd.ntmps45
  go_wp2_with (first
    | (at_builtin; refine Lib.wpList_append_run _ rfl _ _ _ _ rfl _ _ rfl rfl _ _ (hrz _) ?_)
    | (at_builtin; refine wpList_copy_runI _ rfl _ _ 59 59 rfl _ _ rfl rfl (hcpA _ hE1 hE2 _ _) ?_)
    | (at_builtin; refine wpList_copy_runI _ rfl _ _ 59 59 rfl _ _ rfl rfl (hcpB _ (fun _ => rfl) (fun _ => rfl) _ _ _) ?_))
  go_region_law (refine step_copy_runI rfl _ _ 59 59 rfl (.slice (some ⟨w.heap.size, 1, none⟩) n (G - 1)) (.slice (some ⟨b, 0, none⟩) n c) (by simp [Act.eval, Act.put]) (by simp [Act.eval, Act.put]) (hcpB _ hF1 hF2 3 (G - 1) c) ?_)
  go_wp2
  go_ret
  exact ⟨G, ROW, rfl, hGn, by unfold maxLen; omega, hRs, rfl⟩
end Go.Proofs.YtdeblmolgmadiaaDoor
namespace Go.Proofs.YtdeblmolgmadiaaDoor
open Go.RowKit Go.Shelf

theorem Blk.setCells2 {t : TypeId} {g : Nat} : ∀ (vs : List Value) (o : Nat) (w : World) (cur : Array Value), Blk w g t cur → o + vs.length ≤ cur.size →
    ∃ cur', Blk (w.setCells g o vs) g t cur' ∧ cur'.toList = cur.toList.take o ++ vs ++ cur.toList.drop (o + vs.length) ∧ Kept (Only g) w (w.setCells g o vs)
  | [], o, w, cur, h, _ => ⟨cur, h, by simp, Kept.refl _ _⟩
  | v :: vs, o, w, cur, h, hs => by
    rw [List.length_cons] at hs
    obtain ⟨cur', h1, h2, h4⟩ := Blk.setCells2 vs (o + 1) (w.setCell ⟨g, o, none⟩ v) (cur.setIfInBounds o v) (h.put o v) (by simp; omega)
    refine ⟨cur', h1, ?_, (Kept.own w g o v).trans h4⟩
    rw [h2, Array.toList_setIfInBounds]
    have e1 : (cur.toList.set o v).take (o + 1) = cur.toList.take o ++ [v] := by
      rw [List.take_add_one, List.getElem?_set_self (by simp; omega)]
      simp [List.take_set_of_le]
    have e2 : (cur.toList.set o v).drop (o + 1 + vs.length) = cur.toList.drop (o + (v :: vs).length) := by
      rw [List.drop_set_of_lt (by omega)]
      congr 1
      rw [List.length_cons]; omega
    rw [e1, e2]
    simp

theorem ins_own (B : Nat) (v : Value) (l : List Nat) (x : Nat) (w : World) (ho : w.ownsRow B 25 1 v l.length (ass l)) (hne : l ≠ []) (hl : l.length ≤ 1000000) (hBw : B ≤ w.heap.size)
    (gv : Nat) (hv : Blk w gv 25 #[.int .u32 (x : Int)]) (hgv : v.ownBlock ≠ some gv) :
    Calls Tryd.prog 45 #[v, .int .i64 0, .slice (some ⟨gv, 0, none⟩) 1 1] w fun e w' => ∃ v', e = .returned v' ∧ w'.ownsRow B 25 1 v' (l.length + 1) (ass (x :: l)) ∧ Kept (fun k => v.ownBlock = some k) w w' ∧ (v'.ownBlock = v.ownBlock ∨ ∃ g, v'.ownBlock = some g ∧ w.heap.size ≤ g) := by
  have hpos : 0 < l.length := List.length_pos_iff.2 hne
  obtain ⟨g, c, cur, rfl, hge, hb, hn, hm, hs, ht⟩ : ∃ g cap cur, v = .slice (some ⟨g, 0, none⟩) l.length cap ∧ B ≤ g ∧ Blk w g 25 cur ∧ l.length ≤ cap ∧ cap ≤ maxLen ∧ cur.size = cap * 1 ∧ cur.toList.take (l.length * 1) = ass l := by
    rcases ho.2 with ⟨_, h0⟩ | ⟨g, cap, cur, e, hb, hh, hn, hm, hs, ht⟩
    · omega
    · exact ⟨g, cap, cur, e, hb, hh, hn, hm, hs, ht⟩
  rw [Nat.mul_one] at hs ht
  have hgg : gv ≠ g := fun e => hgv (by rw [e]; rfl)
  have hcell : ∀ (j : Nat) u, (ass l)[j]? = some u → w.cell? ⟨g, 0 + j, none⟩ = some u := fun j u hu => by
    rw [Nat.zero_add, hb.cell, ← Array.getElem?_toList]
    have hj := (List.getElem?_eq_some_iff.1 hu).1
    rw [length_ass] at hj
    rw [← hu, ← ht, List.getElem?_take_of_lt hj]
  have h1c : ∀ u ∈ ass l, u.oneCell' = true := fun u hu => by
    unfold ass at hu
    obtain ⟨n, _, rfl⟩ := List.mem_map.1 hu
    rfl
  have hx0 : w.cell? ⟨gv, 0, none⟩ = some (.int .u32 (x : Int)) := hv.cell 0
  by_cases hroom : l.length + 1 ≤ c
  · refine (ins_shift g l.length c gv x (ass l) w hpos hroom (by unfold maxLen at hm; omega) hgg (length_ass l) hcell (fun j hj => by rw [Nat.zero_add, hb.cell, Array.getElem?_eq_getElem (by omega)]; rfl) (fun j hj => hb.free _) hx0 h1c
      25 25 1 cur.size (by unfold Blk at hv; simp [World.shape?, hv]) (by unfold Blk at hb; simp [World.shape?, hb]) (by omega) (hv.free _) (hv.free _)).mono ?_
    rintro e w' ⟨rfl, rfl⟩
    obtain ⟨cur1, b1, e1, k1⟩ := hb.setCells2 (ass l) 1 w.drew cur (by rw [length_ass]; omega)
    obtain ⟨cur2, b2, e2, k2⟩ := b1.setCells2 [.int .u32 (x : Int)] 0 _ cur1 (by
      have : cur1.toList.length = cur.toList.length := by rw [e1]; simp [length_ass]; omega
      simp at this ⊢; omega)
    have hsz2 : cur2.size = cur.size := by
      have h1 : cur1.toList.length = cur.toList.length := by rw [e1]; simp [length_ass]; omega
      have h2 : cur2.toList.length = cur1.toList.length := by rw [e2]; simp; simp at h1; omega
      simp at h1 h2; omega
    refine ⟨_, rfl, ⟨by simp [length_ass], .inr ⟨g, c, cur2, rfl, hge, b2, hroom, hm, by rw [hsz2, hs, Nat.mul_one], ?_⟩⟩, ((Kept.refl _ w).drew.trans (k1.trans k2)).mono (fun k (e : k = g) => by rw [e]; rfl), .inl rfl⟩
    rw [e2, e1]
    have : ass (x :: l) = .int .u32 (x : Int) :: ass l := rfl
    rw [this]
    simp [length_ass, List.take_append, List.drop_append]
    rw [show min 1 cur.size = 1 by omega]
    simp [length_ass, List.take_of_length_le]
  · refine (ins_grow g l.length c gv x (ass l) w hpos hn (by omega) (by omega) (length_ass l) hcell hx0 h1c).mono ?_
    rintro e w' ⟨G, ROW, rfl, hG1, hG2, hR, rfl⟩
    have b0 : Blk ((w.alloc (.cells ROW 25)).drew) w.heap.size 25 ROW := Blk.fresh w _ ROW
    obtain ⟨cur1, b1, e1, k1⟩ := b0.setCells2 [.int .u32 (x : Int)] 0 _ ROW (by simp; omega)
    have hs1 : cur1.size = ROW.size := by
      have : cur1.toList.length = ROW.toList.length := by rw [e1]; simp; omega
      simpa using this
    obtain ⟨cur2, b2, e2, k2⟩ := Blk.setCells2 (ass l) 1 (((w.alloc (.cells ROW 25)).drew.setCells w.heap.size 0 [.int .u32 (x : Int)]).drew) cur1 b1 (by rw [length_ass]; omega)
    have hs2 : cur2.size = cur1.size := by
      have : cur2.toList.length = cur1.toList.length := by rw [e2]; simp [length_ass]; omega
      simpa using this
    have kz : Kept Nothing w _ := (((Kept.refl Nothing w).alloc (.cells ROW 25)).drew.trans_new k1 (fun i hi (e : i = _) => by omega)).drew.trans_new k2 (fun i hi (e : i = _) => by omega)
    refine ⟨_, rfl, ⟨by simp [length_ass], .inr ⟨w.heap.size, G, cur2, rfl, hBw, b2, hG1, hG2, by rw [hs2, hs1, hR, Nat.mul_one], ?_⟩⟩, kz.mono (fun _ x => x.elim), .inr ⟨w.heap.size, rfl, Nat.le_refl _⟩⟩
    rw [e2, e1]
    have : ass (x :: l) = .int .u32 (x : Int) :: ass l := rfl
    rw [this]
    simp [length_ass]
end Go.Proofs.YtdeblmolgmadiaaDoor
namespace Go.Proofs.YtdeblmolgmadiaaDoor
open Go.RowKit Go.Shelf

theorem own_set1 {w : World} {base g n : Nat} {e : TypeId} {v a x u : Value} {xs : List Value} (h : w.ownsRow base e 2 v n (a :: x :: xs)) (hg : v.ownBlock = some g) : (w.setCell ⟨g, 1, none⟩ u).ownsRow base e 2 v n (a :: u :: xs) := by
  obtain ⟨h1, h2⟩ := h
  refine ⟨h1, ?_⟩
  rcases h2 with ⟨rfl, _⟩ | ⟨g', cap, cur, rfl, hb, hh, hnc, hcm, hcs, htk⟩
  · simp [Value.ownBlock] at hg
  · obtain rfl : g' = g := by simpa [Value.ownBlock] using hg
    have hB : Blk w g' e cur := hh
    refine .inr ⟨g', cap, _, rfl, hb, hB.put 1 u, hnc, hcm, by simpa using hcs, ?_⟩
    rw [List.length_cons, List.length_cons] at h1
    obtain ⟨m, rfl⟩ : ∃ m, n = m + 1 := ⟨n - 1, by omega⟩
    rw [Array.toList_setIfInBounds]
    rw [show (m + 1) * 2 = m * 2 + 1 + 1 by omega] at htk ⊢
    cases hc : cur.toList with
    | nil => rw [hc] at htk; simp at htk
    | cons c0 r =>
      cases r with
      | nil => rw [hc] at htk; simp at htk
      | cons c1 r =>
        rw [hc, List.take_succ_cons, List.take_succ_cons] at htk
        rw [List.set_cons_succ, List.set_cons_zero, List.take_succ_cons, List.take_succ_cons]
        injection htk with h3 h4
        injection h4 with _ h5
        rw [h3, h5]

theorem Rws.inv {w : World} {B : Nat} {sk : UInt8} {sn : List Nat} {r : List Seg} : ∀ {xs : List Value}, Rws w B xs ((sk, sn) :: r) → ∃ nv ys, xs = .int .u8 (sk.toNat : Int) :: nv :: ys ∧ w.ownsRow B 25 1 nv sn.length (ass sn) ∧ (∀ n ∈ sn, n < 4294967296) ∧ Rws w B ys r
  | _ :: nv :: ys, ⟨h1, h2, h3, h4⟩ => ⟨nv, ys, by rw [h1]; rfl, h2, h3, h4⟩
  | [], h => h.elim
  | [_], h => by unfold Rws at h; exact h.elim
namespace Wk
def ahead (l : List Seg) (n : Nat) : List Seg := match l with | [] => [] | s :: r => (s.1, n :: s.2) :: r
def prepend (l : List Seg) (k : UInt8) (n : Nat) : List Seg × Nat :=
  if !Pt.may l || (decide (k.toNat ≠ 2) && decide (k.toNat ≠ 3)) then ([], 1) else if room l k.toNat then (ahead l n, 0) else if l.length = 32 then ([], 7) else ((k, [n]) :: l, 0)
end Wk

theorem made_as (w : World) (n : Nat) (hn : n < 4294967296) : As (w.alloc (.cells #[.int .u32 (n : Int)] 25)) (.slice (some ⟨w.heap.size, 0, none⟩) 1 1) [n] :=
  ⟨(fun m hm => by obtain rfl := List.mem_singleton.1 hm; exact hn), some ⟨w.heap.size, 0, none⟩, 1, rfl, Nat.le_refl _, by simp [maxLen], src_new w 25 #[.int .u32 (n : Int)] 1 1 rfl (by simp [Value.oneCell'])⟩
set_option maxRecDepth 20000 in
set_option maxHeartbeats 2000000 in
theorem walk_prepend (v : Value) (l : List Seg) (k : UInt8) (n : Nat) (hn32 : n < 4294967296) (w : World) (h : Pts w v l) (hl : l.length ≤ 1000000) (hn : ∀ s ∈ l, s.2.length ≤ 1000000) :
    Calls Tryd.prog 25 #[v, .int .u8 (k.toNat : Int), .int .u32 (n : Int)] w fun e w' => ∃ v', e = .returned (.tuple #[v', .int .i64 ((Wk.prepend l k n).2 : Int)]) ∧ Pown w' w.heap.size v' (Wk.prepend l k n).1 ∧ Kept Nothing w w' := by
  obtain ⟨A, c, rfl, hc, hm⟩ := h.form
  have HM := Lib.hid (path_may _ l w h (by omega))
  have HRM := Lib.hid (fun w1 (k1 : Kept Nothing w w1) => has_room _ l k.toNat w1 (h.old k1) hl)
  have HC := Lib.hid (fun w1 (k1 : Kept Nothing w w1) => path_copyD _ l w1 (h.old k1) hl hn)
  have HE : Hid (Wk.prepend l k n = if !Pt.may l || (decide (k.toNat ≠ 2) && decide (k.toNat ≠ 3)) then ([], 1) else if Wk.room l k.toNat then (Wk.ahead l n, 0) else if l.length = 32 then ([], 7) else ((k, [n]) :: l, 0)) := Lib.hid rfl
  clear h hn
  cases hmay : Pt.may l with
  | false =>
    rw [hmay] at HM HE
    clear hmay
    go_enter Tryd.func25, Tryd.ntmps25
    go_wp2_with (go_at_call 31; refine (HM.out).mono ?_; rintro e w1 ⟨rfl, k1⟩)
    go_ret2
    exact ⟨_, by rw [HE.out]; rfl, by rw [HE.out]; exact Pown.nil _ _, k1⟩
  | true =>
    have h32 := Pt.may_le hmay
    have HSEG := Lib.hid (fun s (hs : s ∈ l) => Pt.may_seg hmay hs)
    rw [hmay] at HM HE
    clear hmay
    by_cases hk23 : k.toNat ≠ 2 ∧ k.toNat ≠ 3
    · have b2 : ((k.toNat : Int) == 2) = false := by simp; omega
      have b3 : ((k.toNat : Int) == 3) = false := by simp; omega
      have n2 : ((k.toNat : Int) != 2) = true := by simp; omega
      have n3 : ((k.toNat : Int) != 3) = true := by simp; omega
      have HE2 : Hid (Wk.prepend l k n = ([], 1)) := Lib.hid (by rw [HE.out]; simp [hk23.1, hk23.2])
      generalize k.toNat = kn at *
      clear hk23
      go_enter Tryd.func25, Tryd.ntmps25
      go_wp2_with (go_at_call 31; refine (HM.out).mono ?_; rintro e w1 ⟨rfl, k1⟩)
      go_ret2
      exact ⟨_, by rw [HE2.out]; rfl, by rw [HE2.out]; exact Pown.nil _ _, k1⟩
    · have HE2 : Hid (Wk.prepend l k n = if Wk.room l k.toNat then (Wk.ahead l n, 0) else if l.length = 32 then ([], 7) else ((k, [n]) :: l, 0)) := Lib.hid (by
        rw [HE.out, if_neg]
        simp
        omega)
      clear HE
      cases hroom : Wk.room l k.toNat with
      | true =>
        rw [hroom] at HRM HE2
        cases l with
        | nil => simp [Wk.room] at hroom
        | cons s r =>
          obtain ⟨sk, sn⟩ := s
          clear hroom
          have hsn := (HSEG.out _ (List.mem_cons_self ..)).2.2
          simp only at hsn
          have HX := Lib.hid hsn
          clear hsn
          have HE3 : Hid (Wk.prepend ((sk, sn) :: r) k n = ((sk, n :: sn) :: r, 0)) := Lib.hid HE2.out
          have hrl : (((sk, sn) :: r).length : Int) = (r.length : Int) + 1 := by simp
          have i2 : (0 : Int) < (r.length : Int) + 1 := by omega
          clear HE2 HSEG
          rw [show ((sk, sn) :: r).length = r.length + 1 from rfl] at *
          obtain hk | hk : k.toNat = 2 ∨ k.toNat = 3 := by omega
          all_goals
            generalize k.toNat = kn at *
            subst hk
            clear hk23 hrl
            go_enter Tryd.func25, Tryd.ntmps25
            go_upto_region 5 with (first
              | (go_at_call 44; refine (HC.out _ K1.out).mono ?_; rintro e w2 ⟨v2, xs2, rfl, o2, r2, d2, k2⟩; (have O2 := Lib.hid o2); (have R2 := Lib.hid r2); (have D2 := Lib.hid d2); (have K2 := Lib.hid k2); clear o2 r2 d2 k2)
              | (go_at_call 43; refine (HRM.out _ K1.out).mono ?_; rintro e w2 ⟨rfl, rfl⟩)
              | (go_at_call 31; refine (HM.out).mono ?_; rintro e w1 ⟨rfl, k1⟩; (have K1 := Lib.hid k1); clear k1))
            obtain ⟨nv, ys, rfl, no, nf, nr⟩ := R2.out.inv
            obtain ⟨g, cg, cur, rfl, hge, hbg⟩ := own_lies O2.out (by simp)
            have p1 := O2.out.cells (g := g) rfl 1 nv rfl
            rw [add_none, Nat.zero_add] at p1
            obtain ⟨An, cn, rfl, _, _⟩ := ow_form no
            have HBG := Lib.hid hbg
            have HNO := Lib.hid no
            have HNF := Lib.hid nf
            have HNR := Lib.hid nr
            have hgz := hbg.lt
            have KA := Lib.hid ((Kept.refl Nothing w2).alloc (.cells #[.int .u32 (n : Int)] 25))
            have HI := Lib.hid (ins_own w1.heap.size (.slice An sn.length cn) sn n (w2.alloc (.cells #[.int .u32 (n : Int)] 25)) (ow_kept no KA.out (fun _ _ x => x)) HX.out.1 (by have := HX.out.2; omega) (Nat.le_trans K2.out.size KA.out.size) w2.heap.size (Blk.fresh w2 _ _) (fun e => Nat.lt_irrefl _ (ow_ge no e).2))
            clear no nf nr hbg R2
            go_wp2_with (go_at_call 45; refine (HI.out).mono ?_; rintro e w4 ⟨v4, rfl, o4, k4, hb4⟩; (have hbk := (HBG.out.kept KA.out (fun x => x)).kept k4 (fun e => ow_far (ow_kept HNO.out KA.out (fun _ _ x => x)) (HBG.out.kept KA.out (fun x => x)) (by decide) _ e rfl)); (have hgz4 := hbk.lt); (have f4 := hbk.free 1); (have c4 := (hbk.cell 1)); (have hsz : 1 < cur.size := by have := World.block_lt_of_cell? _ _ p1; have h2 := (HBG.out.cell 1).symm.trans p1; exact (Array.getElem?_eq_some_iff.1 h2).1); (rw [Array.getElem?_eq_getElem hsz] at c4); (obtain ⟨A4, c4', rfl, _, _⟩ := ow_form o4); (have O4 := Lib.hid o4); (have K4 := Lib.hid k4); (have B4 := Lib.hid hb4); (have HBK := Lib.hid hbk); clear o4 k4 hb4 hbk)
            go_ret2
            have hnn : ∀ gg, (Value.slice (some ⟨g, 0, none⟩) (r.length + 1) cg).ownBlock = some gg → ¬ (Value.slice An sn.length cn).ownBlock = some gg := fun gg hgg e => by
              obtain rfl : g = gg := by simpa [Value.ownBlock] using hgg
              exact ow_far (ow_kept HNO.out KA.out (fun _ _ x => x)) (HBG.out.kept KA.out (fun x => x)) (by decide) _ e rfl
            have hd := (List.pairwise_cons.1 (List.pairwise_cons.1 D2.out).2).1
            refine ⟨_, by rw [HE3.out]; rfl, ?_, ?_⟩
            · rw [HE3.out]
              refine Pown.weak (B := w1.heap.size) ⟨.int .u8 (sk.toNat : Int) :: .slice A4 (sn.length + 1) c4' :: ys, own_set1 (x := .slice An sn.length cn) (ow_kept (ow_kept O2.out KA.out (fun _ _ x => x)) K4.out hnn) rfl, rfl, ow_kept O4.out (Kept.own w4 g 1 _) (ow_far O4.out HBK.out (by decide)), (fun m hm => ?_), ?_⟩ K1.out.size
              · rcases List.mem_cons.1 hm with rfl | hm
                · exact hn32
                · exact HNF.out m hm
              · refine ((HNR.out.old KA.out).apart K4.out (fun u hu gg hg x => hd u hu gg x hg)).kept (Kept.own w4 g 1 _) (fun g' cs (e : g' = g) x => ?_)
                subst e
                have := HBK.out
                unfold Blk at this
                rw [this] at x
                injection x with x
                injection x with _ e2
                exact absurd e2 (by decide)
            · exact (((K1.out.trans K2.out).trans KA.out).trans_new K4.out (fun i hi hk => by have := (ow_ge HNO.out hk).1; have := K1.out.size; omega)).setCell (p := ⟨g, 1, none⟩) (fun (h : g < w.heap.size) => by have := K1.out.size; omega) _
      | false =>
        rw [hroom] at HRM HE2
        clear hroom
        by_cases hl32 : l.length = 32
        · have hli : ((l.length : Int) == 32) = true := by simp [hl32]
          have HE3 : Hid (Wk.prepend l k n = ([], 7)) := Lib.hid (by rw [HE2.out]; simp [hl32])
          clear hl32
          obtain hk | hk : k.toNat = 2 ∨ k.toNat = 3 := by omega
          all_goals
            generalize k.toNat = kn at *
            subst hk
            clear hk23
            go_enter Tryd.func25, Tryd.ntmps25
            go_wp2_with (first
              | (go_at_call 43; refine (HRM.out _ k1).mono ?_; rintro e w2 ⟨rfl, rfl⟩)
              | (go_at_call 31; refine (HM.out).mono ?_; rintro e w1 ⟨rfl, k1⟩))
            go_ret2
            exact ⟨_, by rw [HE3.out]; rfl, by rw [HE3.out]; exact Pown.nil _ _, k1⟩
        · have hli : ((l.length : Int) == 32) = false := by simp; omega
          have HE3 : Hid (Wk.prepend l k n = ((k, [n]) :: l, 0)) := Lib.hid (by rw [HE2.out]; simp [hl32])
          have HOF := Lib.hid (fun v w h => path_of1 k n hn32 v w h)
          obtain ⟨i0, hi, hz0, hz1, hz2⟩ := info_parts sg_info
          have HL1 : Hid (1 + l.length ≤ maxLen ∧ (1 + l.length) * 32 ≤ 140737488355328) := Lib.hid (by unfold maxLen; omega)
          clear hl32 HE2
          obtain hk | hk : k.toNat = 2 ∨ k.toNat = 3 := by omega
          all_goals
            generalize k.toNat = kn at *
            subst hk
            clear hk23
            go_enter Tryd.func25, Tryd.ntmps25
            go_wp2_with (first
              | (at_builtin; refine wpList_app _ rfl _ _ 23 rfl w1.heap.size 61 i0 (.agg #[.int .u8 0, .slice none 0 0]) 2 32 Tryd.underlying23 hi hz0 hz1 hz2 rfl (by decide) (.slice A3 1 c3) 1 xs3 rfl (ow_kept O3.out K5.out (fun _ _ x => x)) A5 l.length c5 xs5 rfl (src_own O5.out R5.out.one) HL1.out.1 HL1.out.2 ((K3.out.trans K5.out).size) ?_; intro v6 w6 ho6 hg6 _)
              | (go_at_call 44; refine (HC.out _ (K1.out.trans K3.out)).mono ?_; rintro e w5 ⟨v5, xs5, rfl, o5, r5, d5, k5⟩; (obtain ⟨A5, c5, rfl, _, _⟩ := ow_form o5); (have O5 := Lib.hid o5); (have R5 := Lib.hid r5); (have K5 := Lib.hid k5); clear o5 r5 d5 k5)
              | (go_at_call 46; refine (HOF.out _ _ (made_as w1 n hn32)).mono ?_; rintro e w3 ⟨v3, xs3, rfl, o3, r3, k3⟩; (obtain ⟨A3, c3, rfl, _, _⟩ := ow_form o3); (have O3 := Lib.hid (own_weakA o3 ((Kept.refl Nothing w1).alloc (.cells #[.int .u32 (n : Int)] 25)).size)); (have R3 := Lib.hid (r3.weak ((Kept.refl Nothing w1).alloc (.cells #[.int .u32 (n : Int)] 25)).size)); (have K3 := Lib.hid (((Kept.refl Nothing w1).alloc (.cells #[.int .u32 (n : Int)] 25)).trans k3)); clear o3 r3 k3)
              | (go_at_call 43; refine (HRM.out _ K1.out).mono ?_; rintro e w2 ⟨rfl, rfl⟩)
              | (go_at_call 31; refine (HM.out).mono ?_; rintro e w1 ⟨rfl, k1⟩; (have K1 := Lib.hid k1); clear k1))
            go_ret2
            refine ⟨_, by rw [HE3.out]; rfl, ?_, ?_⟩
            · rw [HE3.out]
              refine Pown.weak (B := w1.heap.size) ?_ K1.out.size
              exact Pown.cat (l := [(k, [n])]) (m := l) (ow_kept O3.out K5.out (fun _ _ x => x)) (R3.out.old K5.out) (R5.out.weak K3.out.size) hg6 ho6
            · exact ((K1.out.trans K3.out).trans K5.out).own_grown (ow_kept O3.out K5.out (fun _ _ x => x)) K1.out.size hg6
end Go.Proofs.YtdeblmolgmadiaaDoor
