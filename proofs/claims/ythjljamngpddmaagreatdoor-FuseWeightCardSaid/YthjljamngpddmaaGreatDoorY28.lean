
/-
  The law FuseWeight: its rows of numbers.
-/
import Derived.Test.YthjljamngpddmaaGreatDoorY26
import Derived.Maps.OwnIn
import Derived.DataElems
import Derived.Test.YthjljamngpddmaaGreatDoorY27
namespace Go.Proofs.YthjljamngpddmaaGreatDoor
open Go.RowKit Go.Shelf

theorem Pt.cnt_le3 (k : Nat) (l : List Seg) (hn : ∀ s ∈ l, s.2.length ≤ k) : Pt.cnt l ≤ k * l.length := by
  unfold Pt.cnt
  induction l with
  | nil => simp
  | cons s l ih =>
    have h1 := ih (fun x hx => hn x (List.mem_cons_of_mem _ hx))
    have h3 := hn s (List.mem_cons_self ..)
    rw [List.map_cons, List.sum_cons, List.length_cons, Nat.mul_add]
    omega
namespace Fz
theorem seg_joined {a m : List Seg} {A B : Nat} (ha : ∀ s ∈ a, s.2.length ≤ A) (hm : ∀ s ∈ m, s.2.length ≤ B) : (joined a m).length ≤ a.length + m.length ∧ ∀ s ∈ joined a m, s.2.length ≤ A + B := by
  have base : (a ++ m).length ≤ a.length + m.length ∧ ∀ s ∈ a ++ m, s.2.length ≤ A + B := ⟨by simp, fun s hs => by
    rcases List.mem_append.1 hs with h | h
    · have := ha s h; omega
    · have := hm s h; omega⟩
  rcases List.eq_nil_or_concat a with rfl | ⟨i, x, rfl⟩
  · rw [joined_l]; simpa using base
  · rw [List.concat_eq_append] at *
    cases m with
    | nil => rw [joined_r]; simpa using base
    | cons f r =>
      by_cases hk : x.1.toNat = 2 ∧ f.1.toNat = 2
      · have hx := ha x (by simp)
        have hf := hm f (by simp)
        by_cases hl : left x f = 0
        · rw [joined_0 hk hl]
          refine ⟨by simp only [List.length_append, List.length_cons, List.length_nil]; omega, fun s hs => ?_⟩
          rcases List.mem_append.1 hs with h | h
          · exact base.2 s (by simp [h])
          · rcases List.mem_cons.1 h with rfl | h
            · simp only [List.length_append, List.length_drop]; omega
            · exact base.2 s (by simp [h])
        · rw [joined_n hk hl]
          refine ⟨by simp only [List.length_append, List.length_cons, List.length_nil]; omega, fun s hs => ?_⟩
          rcases List.mem_append.1 hs with h | h
          · rcases List.mem_append.1 h with h | h
            · exact base.2 s (by simp [h])
            · obtain rfl := List.mem_singleton.1 h
              simp only [List.length_take]; omega
          · rcases List.mem_cons.1 h with rfl | h
            · simp only [List.length_append, List.length_drop]; omega
            · exact base.2 s (by simp [h])
      · rw [joined_k hk]; simpa using base
theorem lead_seg {k : Nat} (l : List Seg) : (∀ s ∈ l, s.2.length ≤ k) → ∀ n, ∀ s ∈ lead l n, s.2.length ≤ k := by
  induction l with
  | nil => intro _ n s hs; rw [lead_nil] at hs; cases hs
  | cons t l ih =>
    intro h n s hs
    have h1 := h t (List.mem_cons_self ..)
    have ht : (takn t n).2.length ≤ k := by
      unfold takn
      split
      · simp only [List.length_take]; omega
      · exact h1
    rw [lead_cons] at hs
    split at hs
    · cases hs
    · split at hs
      · obtain rfl := List.mem_singleton.1 hs; exact ht
      · rcases List.mem_cons.1 hs with rfl | hs
        · exact ht
        · exact ih (fun x hx => h x (List.mem_cons_of_mem _ hx)) _ s hs
theorem fuse_bnd {P Q : List Seg} (h1 : ∀ s ∈ P, s.2.length ≤ 40) (h2 : ∀ s ∈ Q, s.2.length ≤ 40) : (fuse P Q).length ≤ P.length + Q.length ∧ ∀ s ∈ fuse P Q, s.2.length ≤ 80 := by
  unfold fuse
  split
  · exact ⟨by omega, fun s hs => by have := h1 s hs; omega⟩
  · have h := seg_joined (lead_seg P h1 (wt P - wt Q)) (fun s hs => h2 s (List.mem_filter.1 hs).1 : ∀ s ∈ plains Q, s.2.length ≤ 40)
    have a1 := lead_len P (wt P - wt Q)
    have a2 := plains_len Q
    exact ⟨by omega, h.2⟩
theorem nums_all (l : List Seg) : (Pt.all l).map (·.2) = nums l := rfl
theorem nums_lt {l : List Seg} (h : Pt.fits l) : ∀ n ∈ nums (plains l), n < 4294967296 := fun n hn => by
  unfold nums Pt.all at hn
  obtain ⟨y, hy, rfl⟩ := List.mem_map.1 hn
  obtain ⟨s, hs, hx⟩ := List.mem_flatMap.1 hy
  obtain ⟨n, hn2, rfl⟩ := List.mem_map.1 hx
  exact h s (List.mem_filter.1 hs).1 n hn2
/-- What the law's last loop compares. -/
theorem same_at {l : List Seg} {N R : List Nat} (h : N <+: nums l) {pre : List (UInt8 × Nat)} {x : UInt8 × Nat} (hp : pre ++ [x] <+: Pt.all l) (hl : pre.length < N.length) : (N ++ R).getD pre.length 0 = x.2 := by
  obtain ⟨t, ht⟩ := h
  obtain ⟨u, hu⟩ := hp
  have e1 : (N ++ R).getD pre.length 0 = N.getD pre.length 0 := by
    rw [List.getD_eq_getElem?_getD, List.getD_eq_getElem?_getD, List.getElem?_append_left hl]
  have e2 : N.getD pre.length 0 = (nums l).getD pre.length 0 := by
    rw [← ht, List.getD_eq_getElem?_getD, List.getD_eq_getElem?_getD, List.getElem?_append_left hl]
  rw [e1, e2]
  unfold nums
  rw [← hu]
  simp
theorem nums_len (l : List Seg) : (nums l).length = Pt.cnt l := by unfold nums; rw [List.length_map, Pt.length_all]
end Fz

theorem POff.of_new {S : Nat → Prop} {w : World} {v : Value} {l : List Seg} (h : Pts w v l) (hS : ∀ k, S k → w.heap.size ≤ k) : POff S w v l := by
  refine ⟨h, fun a n c hv hn x => ?_, fun b o n c hv i hi a m d hc hm x => ?_⟩
  · subst hv
    obtain ⟨A', c', hv, _, _, hr⟩ := id h
    injection hv with e1 e2 e3
    subst e1 e2 e3
    obtain ⟨b, o, e, hcl⟩ := hr hn
    injection e with e
    subst e
    have h1 := World.block_lt_of_cell? w _ (hcl 0 hn).1
    have h2 := hS _ x
    simp at h1 h2
    omega
  · subst hv
    obtain ⟨A', c', hv, _, _, hr⟩ := id h
    injection hv with e1 e2 e3
    subst e1 e2 e3
    obtain ⟨b', o', e, hcl⟩ := hr (by omega)
    injection e with e
    injection e with e1 e2
    subst e1 e2
    obtain ⟨u, hu, has⟩ := (hcl i hi).2
    rw [hc] at hu
    injection hu with hu
    subst hu
    have h1 : a.block < w.heap.size := by
      obtain ⟨b2, o2, e, hc2⟩ := has.at hm
      injection e with e
      subst e
      exact World.block_lt_of_cell? w _ (hc2 0 hm)
    have h2 := hS _ x
    omega

theorem wp_rfN2 {P : Program} {α : Type} {g : Operand} {p1 p2 q2 : Tmp} {assign body : Code} {K : Act → World → Prop} {Q : Exit → Act → World → Prop} {b : Nat} {a : Act} {w : World} {gf : Nat} {fs : Array Value}
    (hg : a.eval g = .func (.func gf) fs #[]) (eg : ∀ args w, (callFunc gf args).run P w = .ok (.enter gf args) w) {u v : α → Value} {xs : List α} {S : Nat → Prop} {B : Nat} (hS : ∀ k, S k → k < w.heap.size)
    (hseq : SeqAllN P gf fs (fun x => #[u x, v x]) xs S B w)
    (I X : List α → World → Prop) (hI : ∀ s A A', I s A → Kept (fun k => k = w.heap.size ∨ k = w.heap.size + 1) A A' → I s A') (hX : ∀ s A A', X s A → Kept (fun k => k = w.heap.size ∨ k = w.heap.size + 1) A A' → X s A') (h0 : I [] w)
    (hassign : ∀ (l : Nat) (x : α) (W : World) (K : Act → World → Prop), K { tmps := ((a.tmps.setIfInBounds p1 (u x)).setIfInBounds p2 (v x)).setIfInBounds q2 (v x), defers := [] } W →
      assign.wpIn (Fence.wide.inRound l) 2 P (Exit.then K (fun _ _ _ => False)) { tmps := (a.tmps.setIfInBounds p1 (u x)).setIfInBounds p2 (v x), defers := [] } W)
    (hbody : ∀ (l : Nat) (pre : List α) (x : α) (W : World), I pre W → pre ++ [x] <+: xs → w.heap.size + 2 ≤ W.heap.size →
      body.wpIn (Fence.wide.inRound l) 2 P (RfPostN S B I (fun c s W => c = .exit b ∧ X s W) (pre ++ [x]) W) { tmps := ((a.tmps.setIfInBounds p1 (u x)).setIfInBounds p2 (v x)).setIfInBounds q2 (v x), defers := [] } W)
    (hpost : ∀ (D : Nat) (W : World), w.heap.size ≤ D → (I xs W ∨ ∃ pre, pre <+: xs ∧ X pre W) → W.heap[D]? = some (.deferred (some [])) → K { a with defers := { target := .collected D, args := #[] } :: a.defers } W) :
    (Code.rangeFunc g #[p1, p2] assign body).wp P (Exit.inBlock b (Exit.then K Q)) a w := by
  refine wp_rfN (encs := fun x => #[u x, v x]) hg eg hS hseq (fun _ => rfl) I (fun c s W => c = .exit b ∧ X s W) hI (fun c s A A' h hk => ⟨h.1, hX s A A' h.2 hk⟩) h0 (fun x => { tmps := ((a.tmps.setIfInBounds p1 (u x)).setIfInBounds p2 (v x)).setIfInBounds q2 (v x), defers := [] }) ?_ hbody ?_ ?_
  · intro l x W K hK
    rw [fold_two]
    exact hassign l x W K hK
  · intro D W hD hi hd
    exact hpost D W hD (.inl hi) hd
  · rintro D c pre W hD hp ⟨rfl, hx⟩ hd
    apply wp_exit
    simp only [Exit.inBlock, Exit.then, ↓reduceIte]
    exact hpost D W hD (.inr ⟨pre, hp, hx⟩) hd

theorem arr_put (b : Array Value) : ∀ (ds : List Nat) (a : Array Value), b.size = a.size → (∀ t, t ∉ ds → b.getD t undef = a.getD t undef) → b = ds.foldl (fun t d => t.setIfInBounds d (b.getD d undef)) a
  | [], a, hsz, hfar => by
    refine Array.ext hsz (fun i h1 (h2 : i < a.size) => ?_)
    have h := hfar i (by simp)
    rw [Array.getD_eq_getD_getElem?, Array.getD_eq_getD_getElem?, Array.getElem?_eq_getElem h1, Array.getElem?_eq_getElem h2] at h
    simpa using h
  | d :: ds, a, hsz, hfar => by
    refine arr_put b ds (a.setIfInBounds d (b.getD d undef)) (by simpa using hsz) (fun t ht => ?_)
    by_cases e : t = d
    · subst e
      by_cases hlt : t < a.size
      · rw [Array.getD_eq_getD_getElem? (xs := a.setIfInBounds t _), Array.getElem?_setIfInBounds_self_of_lt hlt]
        rfl
      · rw [Array.getD_eq_getD_getElem?, Array.getD_eq_getD_getElem?, Array.getElem?_eq_none (by omega), Array.getElem?_eq_none (by simp; omega)]
    · rw [hfar t (by simp [e, ht]), Array.getD_eq_getD_getElem?, Array.getD_eq_getD_getElem?, Array.getElem?_setIfInBounds_ne (by omega)]

/-- A row of numbers of one's own, held in a cell. -/
def NR (B : Nat) (W : World) (g : Nat) (ns : List Nat) : Prop := ∃ v, Blk W g 70 #[v] ∧ W.ownsRow B 54 1 v ns.length (ass ns)
theorem NR.kept {S : Nat → Prop} {B g : Nat} {W W' : World} {ns : List Nat} (h : NR B W g ns) (k : Kept S W W') (h1 : ¬ S g) (h2 : ∀ i, B ≤ i → i < W.heap.size → ¬ S i) : NR B W' g ns := by
  obtain ⟨v, hb, ho⟩ := h
  exact ⟨v, hb.kept k h1, ow_kept ho k (fun g hg => h2 g (ow_ge ho hg).1 (ow_ge ho hg).2)⟩
theorem NR.far {B g n : Nat} {W w7 : World} {nv : Value} {xs : List Value} (hb : Blk W g 70 #[nv]) (ho : W.ownsRow B 54 1 nv n xs) (o : Obj) (hg : (W.alloc o).grownBy w7 nv.ownBlock) : Blk w7 g 70 #[nv] := by
  have ka := (Kept.refl Nothing W).alloc o
  have oa := ow_kept ho ka (fun _ _ x => x)
  exact (hb.kept ka (fun x => x)).kept ((Kept.refl (fun g => nv.ownBlock = some g) _).grown hg (fun _ hk _ => hk)) (fun e => ow_far oa (hb.kept ka (fun x => x)) (by decide) _ e rfl)
theorem NR.push {B B0 g n : Nat} {W w7 : World} {nv v7 : Value} {l : List Nat} (hb : Blk W g 70 #[nv]) (ho : W.ownsRow B 54 1 nv l.length (ass l)) (hB : B0 ≤ B) (o : Obj) (hg : (W.alloc o).grownBy w7 nv.ownBlock)
    (h7 : w7.ownsRow B 54 1 v7 (l.length + 1) (ass l ++ [.int .u32 (n : Int)])) : NR B (w7.setCell ⟨g, 0, none⟩ v7) g (l ++ [n]) ∧ Kept (ChS (Only g) B0 W) W (w7.setCell ⟨g, 0, none⟩ v7) := by
  have b7 := NR.far hb ho o hg
  refine ⟨⟨v7, b7.put 0 v7, ?_⟩, ?_⟩
  · rw [List.length_append, ass_append]
    exact ow_kept h7 (Kept.own w7 g 0 v7) (ow_far h7 b7 (by decide))
  · refine (((Kept.refl (ChS (Only g) B0 W) W).alloc o).grown hg (fun k hk _ => .inr ⟨Nat.le_trans hB (ow_ge ho hk).1, ow_lt ho hk⟩)).setCell (p := ⟨g, 0, none⟩) (fun _ => .inl rfl) v7

/-- What holds between two rounds that gather numbers. -/
def Gthr (wL : World) (g : Nat) (pre : List (UInt8 × Nat)) (W : World) : Prop := Kept (Only g) wL W ∧ NR (wL.heap.size + 2) W g (pre.map (·.2))
theorem Gthr.stays {wL : World} {g : Nat} (hg : g < wL.heap.size) : ∀ s A A', Gthr wL g s A → Kept (fun k => k = wL.heap.size ∨ k = wL.heap.size + 1) A A' → Gthr wL g s A' := fun s A A' h k =>
  ⟨h.1.trans_new k (fun i hi x => by omega), h.2.kept k (by omega) (fun i hi _ => by omega)⟩
theorem Gthr.start {wL : World} {g : Nat} (hb : Blk wL g 70 #[.slice none 0 0]) : Gthr wL g [] wL :=
  ⟨Kept.refl _ _, _, hb, ⟨rfl, .inl ⟨rfl, rfl⟩⟩⟩
theorem Gthr.push {wL W w7 : World} {g : Nat} {pre : List (UInt8 × Nat)} {x : UInt8 × Nat} {nv v7 : Value} (hk : Kept (Only g) wL W) (hb : Blk W g 70 #[nv]) (ho : W.ownsRow (wL.heap.size + 2) 54 1 nv (pre.map (·.2)).length (ass (pre.map (·.2)))) (o : Obj) (hg : (W.alloc o).grownBy w7 nv.ownBlock)
    (h7 : w7.ownsRow (wL.heap.size + 2) 54 1 v7 ((pre.map (·.2)).length + 1) (ass (pre.map (·.2)) ++ [.int .u32 (x.2 : Int)])) : Kept (ChS (Only g) (wL.heap.size + 2) W) W (w7.setCell ⟨g, 0, none⟩ v7) ∧ Gthr wL g (pre ++ [x]) (w7.setCell ⟨g, 0, none⟩ v7) := by
  have h := NR.push (B0 := wL.heap.size + 2) hb ho (Nat.le_refl _) o hg h7
  refine ⟨h.2, hk.trans_new h.2 (fun i hi x => ?_), by rw [List.map_append]; exact h.1⟩
  rcases x with x | ⟨x, _⟩
  · exact x
  · omega

theorem adr_add (a : Addr) (m j : Nat) : (a.add m).add j = a.add (m + j) := Addr.add_add a m j
/-- The end of a row of one's own. -/
theorem As.drop_own {w : World} {B : Nat} {A : Option Addr} {c : Nat} {l : List Nat} (h : w.ownsRow B 54 1 (.slice A l.length c) l.length (ass l)) (hx : ∀ n ∈ l, n < 4294967296) {m : Nat} (hm : m ≤ l.length) :
    ∃ A' c', (∀ w', (Instr.slice 70 (.slice A l.length c) (some (.int .i64 (m : Int))) none none).run Tryz.prog w' = .ok (.slice A' (l.length - m) c') w') ∧ As w (.slice A' (l.length - m) c') (l.drop m) := by
  have ha := As.of_own h hx
  have hz := Tryz.sizeOf54
  have he : Tryz.prog.elem 70 = 54 := by kernel_rfl
  obtain ⟨_, A', c', hv, hc, hmx, s1, s2, s3, s4⟩ := ha
  injection hv with e1 e2 e3
  subst e1 e3
  refine ⟨if c = m then A else A.map (·.add (m * 1)), c - m, fun w' => ?_, ?_⟩
  · rw [run_slice_l w' 70 _ l.length c (by kernel_rfl) .i64 m (by omega) (by omega), he, hz]
    simp [sliced]
  · have hl : (l.drop m).length = l.length - m := List.length_drop
    refine ⟨fun n hn => hx n (List.mem_of_mem_drop hn), _, _, by rw [hl], by rw [hl]; omega, by omega, by rw [length_ass, Nat.mul_one], fun e => ?_, fun a ha j u hu => ?_, fun u hu => ?_⟩
    · rw [hl]
      by_cases hcm : c = m
      · omega
      · rw [if_neg hcm] at e
        have : A = none := by cases A <;> simp_all
        have := s2 this
        omega
    · have hj : j < (l.drop m).length := by
        have := (List.getElem?_eq_some_iff.1 hu).1
        rwa [length_ass] at this
      rw [if_neg (by omega)] at ha
      obtain ⟨a0, rfl, rfl⟩ : ∃ a0, A = some a0 ∧ a0.add (m * 1) = a := by
        cases A with
        | none => cases ha
        | some a0 => exact ⟨a0, rfl, by simpa using ha⟩
      have := s3 a0 rfl (m + j) u (by
        rw [← hu]
        unfold ass
        rw [List.getElem?_map, List.getElem?_map, List.getElem?_drop])
      rw [← this, show (a0.add (m * 1)).add j = a0.add (m + j) from by rw [Nat.mul_one]; exact adr_add a0 m j]
    · refine s4 u ?_
      unfold ass at hu ⊢
      obtain ⟨n, hn, rfl⟩ := List.mem_map.1 hu
      exact List.mem_map.2 ⟨n, List.mem_of_mem_drop hn, rfl⟩
end Go.Proofs.YthjljamngpddmaaGreatDoor
