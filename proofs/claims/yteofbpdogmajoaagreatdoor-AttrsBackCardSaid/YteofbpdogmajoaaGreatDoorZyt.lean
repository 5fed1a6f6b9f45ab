
/-
  attrs: attributes of other types, put in order.
-/
import Derived.Test.YteofbpdogmajoaaGreatDoorZu
import Derived.Test.YteofbpdogmajoaaGreatDoorSort
namespace Go.Proofs.YteofbpdogmajoaaGreatDoor
open Go.RowKit Go.Sort Go.Shelf

namespace Ax
def lessO (x y : Ot) : Prop := x.t.toNat < y.t.toNat
/-- One put among those in order. -/
def ins (x : Ot) : List Ot → List Ot
  | [] => [x]
  | y :: l => if x.t.toNat < y.t.toNat then x :: y :: l else y :: ins x l
/-- In order. -/
def sortO (l : List Ot) : List Ot := l.foldl (fun acc o => ins o acc) []
theorem sortO_snoc (l : List Ot) (o : Ot) : sortO (l ++ [o]) = ins o (sortO l) := by unfold sortO; rw [List.foldl_append]; rfl
theorem ins_perm (x : Ot) : ∀ l, (ins x l).Perm (x :: l)
  | [] => List.Perm.refl _
  | y :: l => by
    unfold ins
    split
    · exact List.Perm.refl _
    · exact ((ins_perm x l).cons y).trans (List.Perm.swap x y l)
theorem sortO_perm_aux : ∀ (l acc : List Ot), (l.foldl (fun acc o => ins o acc) acc).Perm (acc ++ l)
  | [], acc => by simp
  | x :: l, acc => by
    rw [List.foldl_cons]
    refine (sortO_perm_aux l (ins x acc)).trans ?_
    refine ((ins_perm x acc).append_right l).trans ?_
    rw [List.cons_append]
    exact (List.perm_middle).symm
theorem sortO_perm (l : List Ot) : (sortO l).Perm l := by
  have h := sortO_perm_aux l []
  rw [List.nil_append] at h
  exact h
theorem ins_sorted (x : Ot) : ∀ l : List Ot, l.Pairwise lessO → (∀ y ∈ l, y.t ≠ x.t) → (ins x l).Pairwise lessO
  | [], _, _ => List.pairwise_singleton _ _
  | y :: l, h, hn => by
    obtain ⟨h1, h2⟩ := List.pairwise_cons.1 h
    unfold ins
    split
    · rename_i hlt
      refine List.pairwise_cons.2 ⟨fun z hz => ?_, h⟩
      rcases List.mem_cons.1 hz with rfl | hz
      · exact hlt
      · have := h1 z hz
        show x.t.toNat < z.t.toNat
        unfold lessO at this
        omega
    · rename_i hlt
      have hne : x.t.toNat ≠ y.t.toNat := fun e => hn y (List.mem_cons_self ..) (UInt8.toNat_inj.1 e.symm)
      refine List.pairwise_cons.2 ⟨fun z hz => ?_, ins_sorted x l h2 (fun z hz => hn z (List.mem_cons_of_mem _ hz))⟩
      rcases List.mem_cons.1 ((ins_perm x l).mem_iff.1 hz) with rfl | hz
      · show y.t.toNat < z.t.toNat; omega
      · exact h1 z hz
theorem sortO_sorted_aux : ∀ (l acc : List Ot), acc.Pairwise lessO → (acc ++ l).Pairwise (fun x y => x.t ≠ y.t) → (l.foldl (fun acc o => ins o acc) acc).Pairwise lessO
  | [], acc, h, _ => h
  | x :: l, acc, h, hn => by
    rw [List.foldl_cons]
    have hp : (ins x acc ++ l).Perm (acc ++ x :: l) := ((ins_perm x acc).append_right l).trans (by rw [List.cons_append]; exact (List.perm_middle).symm)
    refine sortO_sorted_aux l (ins x acc) (ins_sorted x acc h fun y hy => ?_) ((hp.symm.pairwise_iff (fun {a b} (h : a.t ≠ b.t) => h.symm)).1 hn)
    exact (List.pairwise_append.1 hn).2.2 y hy x (List.mem_cons_self ..)
theorem sortO_sorted (l : List Ot) (h : l.Pairwise (fun x y => x.t ≠ y.t)) : (sortO l).Pairwise lessO := sortO_sorted_aux l [] List.Pairwise.nil (by simpa using h)
theorem sorted_uniq : ∀ {l m : List Ot}, l.Perm m → l.Pairwise lessO → m.Pairwise lessO → l = m
  | [], m, h, _, _ => (List.Perm.eq_nil h.symm).symm
  | x :: l, [], h, _, _ => absurd h.length_eq (by simp)
  | x :: l, y :: m, h, hl, hm => by
    obtain ⟨l1, l2⟩ := List.pairwise_cons.1 hl
    obtain ⟨m1, m2⟩ := List.pairwise_cons.1 hm
    have e : x = y := by
      rcases List.mem_cons.1 (h.mem_iff.1 (List.mem_cons_self ..)) with e | hx
      · exact e
      · rcases List.mem_cons.1 (h.mem_iff.2 (List.mem_cons_self ..)) with e | hy
        · exact e.symm
        · have a := m1 x hx
          have b := l1 y hy
          unfold lessO at a b
          omega
    subst e
    rw [sorted_uniq (List.Perm.cons_inv h) l2 m2]
end Ax

/-- An attribute and the value of its bytes. -/
abbrev Oc := Ot × Option Addr × Nat × Nat
instance : Inhabited Oc := ⟨(⟨0, 0, []⟩, none, 0, 0)⟩
def vO (x : Oc) : Value := .slice x.2.1 x.2.2.1 x.2.2.2
def encO (x : Oc) : List Value := [by8 x.1.f, by8 x.1.t, vO x]
def cfO (x y : Oc) : Int := if x.1.t.toNat < y.1.t.toNat then -1 else if y.1.t.toNat < x.1.t.toNat then 1 else 0
theorem ltO (x y : Oc) : ltOf cfO x y = decide (x.1.t.toNat < y.1.t.toNat) := by
  unfold ltOf cfO
  by_cases h1 : x.1.t.toNat < y.1.t.toNat
  · simp [h1]
  · by_cases h2 : y.1.t.toNat < x.1.t.toNat <;> simp [h1, h2]
theorem swoO : SWO (ltOf cfO) where
  irrefl x := by rw [ltO]; simp
  trans x y z h1 h2 := by rw [ltO] at *; simp at *; omega
  ntrans x y z h1 h2 := by rw [ltO] at *; simp at *; omega

theorem cmp_byte (a b : UInt8) (w : World) : Calls Tryz.prog 91 #[.int .u8 (a.toNat : Int), .int .u8 (b.toNat : Int)] w fun e w' => e = .returned (.int .i64 (if a.toNat < b.toNat then -1 else if b.toNat < a.toNat then 1 else 0)) ∧ w = w' := by
  have hn : ∀ (x : UInt8) u, Calls Tryz.prog 137 #[.int .u8 (x.toNat : Int)] u fun e w' => e = .returned (.bool false) ∧ u = w' := by
    intro x u
    generalize x.toNat = n
    go_enter Tryz.func137, Tryz.ntmps137
    go_wp2
    go_ret
    exact ⟨by simp, rfl⟩
  have HN := Lib.hid hn
  clear hn
  have HNA := Lib.hid (HN.out a)
  have HNB := Lib.hid (HN.out b)
  generalize a.toNat = x at *
  generalize b.toNat = y at *
  by_cases h1 : x < y
  · have i1 : (x : Int) < (y : Int) := by omega
    rw [if_pos h1]
    clear h1
    go_enter Tryz.func91, Tryz.ntmps91
    go_wp2_with (first
      | (go_at_call 137; with_reducible refine (HNA.out _).mono ?_; rintro e w1 ⟨rfl, rfl⟩)
      | (go_at_call 137; with_reducible refine (HNB.out _).mono ?_; rintro e w1 ⟨rfl, rfl⟩))
    go_ret
    exact ⟨rfl, rfl⟩
  · have i1 : ¬ (x : Int) < (y : Int) := by omega
    rw [if_neg h1]
    by_cases h2 : y < x
    · have i2 : (y : Int) < (x : Int) := by omega
      rw [if_pos h2]
      clear h1 h2
      go_enter Tryz.func91, Tryz.ntmps91
      go_wp2_with (first
        | (go_at_call 137; with_reducible refine (HNA.out _).mono ?_; rintro e w1 ⟨rfl, rfl⟩)
        | (go_at_call 137; with_reducible refine (HNB.out _).mono ?_; rintro e w1 ⟨rfl, rfl⟩))
      go_ret
      exact ⟨rfl, rfl⟩
    · have i2 : ¬ (y : Int) < (x : Int) := by omega
      rw [if_neg h2]
      clear h1 h2
      go_enter Tryz.func91, Tryz.ntmps91
      go_wp2_with (first
        | (go_at_call 137; with_reducible refine (HNA.out _).mono ?_; rintro e w1 ⟨rfl, rfl⟩)
        | (go_at_call 137; with_reducible refine (HNB.out _).mono ?_; rintro e w1 ⟨rfl, rfl⟩))
      go_ret
      exact ⟨rfl, rfl⟩

theorem by_type (x y : Oc) (W : World) : Calls Tryz.prog 33 #[.agg (encO x).toArray, .agg (encO y).toArray] W fun e w' => e = .returned (.int .i64 (cfO x y)) ∧ ∃ q os', w' = grow (W.drewN q) os' := by
  obtain ⟨⟨xf, xt, xv⟩, xA, xn, xc⟩ := x
  obtain ⟨⟨yf, yt, yv⟩, yA, yn, yc⟩ := y
  have HC := Lib.hid (fun W' => cmp_byte xt yt W')
  have HE : Hid (cfO (⟨xf, xt, xv⟩, xA, xn, xc) (⟨yf, yt, yv⟩, yA, yn, yc) = if xt.toNat < yt.toNat then -1 else if yt.toNat < xt.toNat then 1 else 0) := Lib.hid rfl
  rw [HE.out]
  clear HE
  show Calls Tryz.prog _ #[.agg #[.int .u8 (xf.toNat : Int), .int .u8 (xt.toNat : Int), .slice xA xn xc], .agg #[.int .u8 (yf.toNat : Int), .int .u8 (yt.toNat : Int), .slice yA yn yc]] W _
  have b1 := (Blk.fresh W 73 #[.int .u8 (xf.toNat : Int), .int .u8 (xt.toNat : Int), .slice xA xn xc]).alloc (.cells #[.int .u8 (yf.toNat : Int), .int .u8 (yt.toNat : Int), .slice yA yn yc] 73)
  have b2 := Blk.fresh (W.alloc (.cells #[.int .u8 (xf.toNat : Int), .int .u8 (xt.toNat : Int), .slice xA xn xc] 73)) 73 #[.int .u8 (yf.toNat : Int), .int .u8 (yt.toNat : Int), .slice yA yn yc]
  rw [World.size_alloc] at b2
  have c1 := b1.cell 1
  have c2 := b2.cell 1
  clear b1 b2
  generalize (if xt.toNat < yt.toNat then (-1 : Int) else if yt.toNat < xt.toNat then 1 else 0) = r at *
  generalize xt.toNat = a at *
  generalize yt.toNat = b at *
  go_enter Tryz.func33, Tryz.ntmps33
  go_wp2_with (go_at_call 91; refine (HC.out _).mono ?_; rintro e w1 ⟨rfl, rfl⟩)
  go_ret
  exact ⟨rfl, 0, _, by rw [alloc_eq_grow, alloc_eq_grow, grow_grow]; rfl⟩

/-- What a sort of structs leaves of a row of one's own. -/
theorem sorted_own {α : Type} [Inhabited α] (enc : α → List Value) (k : Nat) (w : World) (B g n c m : Nat) (e : TypeId) (xs : List Value) (d : Array α) (os : Array Obj) (h : w.ownsRow B e k (.slice (some ⟨g, 0, none⟩) n c) n xs) (hd : d.size = n) :
    (sortWorldK enc k w g 0 m d os).ownsRow B e k (.slice (some ⟨g, 0, none⟩) n c) n (flatK enc k d).toList ∧ Kept (Only g) w (sortWorldK enc k w g 0 m d os) := by
  obtain ⟨h1, ⟨e1, _⟩ | ⟨g', cap, cur, e1, hb, hg, hn, hm, hs, ht⟩⟩ := h
  · injection e1 with e1; cases e1
  · injection e1 with e1 e2 e3
    injection e1 with e1
    injection e1 with e1 _ _
    subst e1 e3
    have hlt : g < w.heap.size := (Array.getElem?_eq_some_iff.1 hg).1
    have hsz : (flatK enc k d).size = n * k := by rw [size_flatK, hd]
    have hheap : ∀ i, i < w.heap.size → (sortWorldK enc k w g 0 m d os).heap[i]? = (w.heap.modify g (onCells (putCells id 0 (flatK enc k d))))[i]? := by
      intro i hi
      show ((w.heap.modify g (onCells (putCells id 0 (flatK enc k d)))) ++ os)[i]? = _
      rw [Array.getElem?_append_left (by simpa using hi)]
    refine ⟨⟨by rw [Array.length_toList, hsz], .inr ⟨g, c, putCells id 0 (flatK enc k d) cur, rfl, hb, ?_, hn, hm, ?_, ?_⟩⟩, rfl, rfl, rfl, ?_, ?_⟩
    · rw [hheap g hlt, Array.getElem?_modify, if_pos rfl, hg]
      rfl
    · unfold putCells; simpa using hs
    · have hcur : n * k ≤ cur.size := by rw [hs]; exact Nat.mul_le_mul_right k hn
      refine List.ext_getElem? (fun j => ?_)
      by_cases hj : j < n * k
      · rw [List.getElem?_take_of_lt hj, Array.getElem?_toList, Array.getElem?_toList]
        unfold putCells
        rw [Array.getElem?_mapIdx, Array.getElem?_eq_getElem (by omega : j < cur.size), Array.getElem?_eq_getElem (by rw [hsz]; exact hj)]
        simp only [Option.map_some]
        rw [if_pos ⟨Nat.zero_le _, by rw [hsz]; omega⟩]
        rw [Nat.sub_zero, id, getElem!_pos (flatK enc k d) j (by rw [hsz]; exact hj)]
      · rw [List.getElem?_eq_none (by rw [List.length_take]; omega), List.getElem?_eq_none (by rw [Array.length_toList, hsz]; omega)]
    · show w.heap.size ≤ ((w.heap.modify g (onCells (putCells id 0 (flatK enc k d)))) ++ os).size
      simp
    · intro i hi hne
      have hne2 : g ≠ i := fun e => hne e.symm
      rw [hheap i hi, Array.getElem?_modify, if_neg hne2]
theorem Ors.of {w : World} {B : Nat} : ∀ {l : List Ot} {xs : List Value}, xs.length = l.length * 3 → (∀ i (h : i < l.length), xs[i * 3]? = some (by8 l[i].f) ∧ xs[i * 3 + 1]? = some (by8 l[i].t) ∧ ∃ u, xs[i * 3 + 2]? = some u ∧ w.ownsRow B 5 1 u l[i].v.length (bys l[i].v)) → Ors w B xs l
  | [], [], _, _ => trivial
  | [], _ :: _, h, _ => by simp at h
  | o :: l, [], h, _ => by simp at h
  | o :: l, [_], h, _ => by simp at h; omega
  | o :: l, [_, _], h, _ => by simp at h; omega
  | o :: l, a :: t :: v :: xs, h, hx => by
    obtain ⟨h1, h2, u, h3, h4⟩ := hx 0 (by simp)
    have e1 : a = by8 o.f := by simpa using h1
    have e2 : t = by8 o.t := by simpa using h2
    have e3 : v = u := by simpa using h3
    refine ⟨e1, e2, by rw [e3]; exact h4, Ors.of (by simp at h; omega) (fun i hi => ?_)⟩
    have := hx (i + 1) (by simpa using hi)
    rw [show (i + 1) * 3 = i * 3 + 3 by omega, show i * 3 + 3 + 1 = (i * 3 + 1) + 3 by omega, show i * 3 + 3 + 2 = (i * 3 + 2) + 3 by omega] at this
    simpa using this
/-- The row of attributes as the sort has it. -/
theorem Ors.zip {w : World} {B : Nat} : ∀ {xs : List Value} {l : List Ot}, Ors w B xs l → ∃ d : List Oc, d.map Prod.fst = l ∧ xs = d.flatMap encO ∧ ∀ x ∈ d, w.ownsRow B 5 1 (vO x) x.1.v.length (bys x.1.v)
  | [], [], _ => ⟨[], rfl, rfl, fun _ h => by cases h⟩
  | a :: t :: v :: xs, c :: l, ⟨h1, h2, h3, h4⟩ => by
    obtain ⟨d, e1, e2, e3⟩ := Ors.zip h4
    obtain ⟨A, cc, rfl, -, -⟩ := ow_form h3
    refine ⟨(c, A, c.v.length, cc) :: d, by rw [List.map_cons, e1], by rw [List.flatMap_cons, ← e2, h1, h2]; rfl, fun x hx => ?_⟩
    rcases List.mem_cons.1 hx with rfl | hx
    · exact h3
    · exact e3 x hx
  | [], _ :: _, h => h.elim
  | [_], _, h => by unfold Ors at h; exact h.elim
  | [_, _], _, h => by unfold Ors at h; exact h.elim
  | _ :: _ :: _ :: _, [], h => by unfold Ors at h; exact h.elim
theorem flat_at (d : Array Oc) (i j : Nat) (hi : i < d.size) (hj : j < 3) : (flatK encO 3 d).toList[i * 3 + j]? = (encO d[i])[j]? := by
  have hlt : i * 3 + j < d.size * 3 := by omega
  rw [Array.getElem?_toList, Array.getElem?_eq_getElem (by rw [size_flatK]; exact hlt), ← getElem!_pos (flatK encO 3 d) (i * 3 + j) (by rw [size_flatK]; exact hlt), get_flatK _ _ _ _ hlt]
  rw [show (i * 3 + j) / 3 = i by omega, show (i * 3 + j) % 3 = j by omega, getElem!_pos d i hi]
  have hl : (encO d[i]).length = 3 := rfl
  rw [List.getElem?_eq_getElem (by rw [hl]; exact hj), getElem!_pos (encO d[i]) j (by rw [hl]; exact hj)]
theorem flat_list : ∀ (d : List Oc) (i j : Nat) (hi : i < d.length) (_ : j < 3) (k : Nat) (_ : k = i * 3 + j), (d.flatMap encO)[k]? = (encO (d.toArray[i]'(by simpa using hi)))[j]?
  | x :: d, 0, j, hi, hj, k, hk => by
    rw [List.flatMap_cons, List.getElem?_append_left (by show k < 3; omega), hk, Nat.zero_mul, Nat.zero_add]
    rfl
  | x :: d, i + 1, j, hi, hj, k, hk => by
    rw [List.flatMap_cons, List.getElem?_append_right (by show 3 ≤ k; omega)]
    have := flat_list d i j (by simpa using hi) hj (k - 3) (by omega)
    rw [show (encO x).length = 3 from rfl, this]
    simp
theorem Ors.flat {w : World} {B : Nat} (d : Array Oc) (h : ∀ x ∈ d.toList, w.ownsRow B 5 1 (vO x) x.1.v.length (bys x.1.v)) : Ors w B (flatK encO 3 d).toList (d.toList.map Prod.fst) := by
  refine Ors.of (by rw [Array.length_toList, size_flatK, List.length_map, Array.length_toList]) (fun i hi => ?_)
  have hi2 : i < d.size := by rw [List.length_map, Array.length_toList] at hi; exact hi
  have e : (d.toList.map Prod.fst)[i] = d[i].1 := by rw [List.getElem_map, Array.getElem_toList]
  rw [e]
  have h0 := flat_at d i 0 hi2 (by omega)
  have h1 := flat_at d i 1 hi2 (by omega)
  have h2 := flat_at d i 2 hi2 (by omega)
  exact ⟨h0, h1, vO d[i], h2, h _ (Array.mem_toList_iff.2 (Array.getElem_mem hi2))⟩

set_option maxHeartbeats 1000000 in
theorem sort_others (v : Value) (l : List Ot) (w : World) (B : Nat) (h : Oown w B v l) (hd : l.Pairwise (fun x y => x.t ≠ y.t)) (hl : l.length ≤ 1000000000) :
    Calls Tryz.prog 32 #[v, .func (.func 33) #[] #[]] w fun e w' => e = .returned (.tuple #[]) ∧ Oown w' B v (Ax.sortO l) ∧ Kept (fun k => v.ownBlock = some k) w w' := by
  obtain ⟨xs, h1, h2⟩ := h
  obtain ⟨A, c, rfl, hc, hm⟩ := ow_form h1
  by_cases h0 : l = []
  · subst h0
    refine (AnyF.slices_SortFunc_none Tryz.sortO A c (.func (.func 33) #[] #[]) w).mono ?_
    rintro e w' ⟨rfl, rfl⟩
    exact ⟨rfl, ⟨xs, h1, h2⟩, Kept.refl _ _⟩
  · have hpos : 0 < l.length := List.length_pos_iff.2 h0
    obtain ⟨d, e1, e2, e3⟩ := Ors.zip h2
    have hdl : d.length = l.length := by rw [← e1, List.length_map]
    have h1' := h1
    obtain ⟨hx1, ⟨_, e0⟩ | ⟨g, cap, cur, ev, hb, hg, hn, hcm, hcs, htk⟩⟩ := h1
    · omega
    · injection ev with ev _ ev3
      subst ev ev3
      have hlt : g < w.heap.size := (Array.getElem?_eq_some_iff.1 hg).1
      have hH : HoldsK encO 3 w g 0 d.toArray := by
        intro j hj
        rw [size_flatK, List.size_toArray, hdl] at hj
        have hcur : j < cur.size := by rw [hcs]; have := Nat.mul_le_mul_right 3 hn; omega
        refine ⟨?_, ?_⟩
        · rw [Nat.zero_add, cell_of_row w g _ cur _ (0, 0) hg]
          have h5 : cur.toList[j]? = (flatK encO 3 d.toArray).toList[j]? := by
            rw [← List.getElem?_take_of_lt (l := cur.toList) hj, htk, e2]
            have hj3 : j / 3 < d.toArray.size := by rw [List.size_toArray, hdl]; omega
            have := flat_at d.toArray (j / 3) (j % 3) hj3 (Nat.mod_lt _ (by omega))
            rw [show j / 3 * 3 + j % 3 = j by omega] at this
            rw [this]
            exact flat_list d (j / 3) (j % 3) (by rw [List.size_toArray] at hj3; exact hj3) (Nat.mod_lt _ (by omega)) j (by omega)
          rw [Array.getElem?_toList, Array.getElem?_toList] at h5
          rw [h5, Array.getElem?_eq_getElem (by rw [size_flatK, List.size_toArray, hdl]; exact hj), getElem!_pos (flatK encO 3 d.toArray) j (by rw [size_flatK, List.size_toArray, hdl]; exact hj)]
          rfl
        · exact (show Blk w g 73 cur from hg).free _
      have eg : ∀ args w, (callFunc 33 args).run Tryz.prog w = .ok (.enter 33 args) w := enters_of Tryz.func33 (by kernel_rfl) rfl
      have hsz : d.toArray.size = l.length := by rw [List.size_toArray, hdl]
      have hcon := AnyQ.slices_SortFunc Tryz.sortO 3 Tryz.isAgg73 Tryz.sizeOf73 encO (fun _ => rfl) (fun x v hv => ?one) cfO swoO 33 #[] g 0 c d.toArray w eg (fun _ _ _ _ x y => by_type x y _) hH hlt (by rw [hsz]; omega)
      · rw [hsz] at hcon
        refine hcon.mono ?_
        rintro e w' ⟨rfl, d', n, os, hp, hs, rfl⟩
        have hds : d'.size = l.length := by rw [hp.1]; exact hsz
        have hperm : d'.toList.Perm d := by
          have := hp.2.2
          rw [Array.extract_eq_self_of_le (by rw [hds]; exact Nat.le_refl _), Array.extract_eq_self_of_le (by rw [hsz]; exact Nat.le_refl _)] at this
          simpa using this
        have hsrt : d'.toList.map Prod.fst = Ax.sortO l := by
          refine Ax.sorted_uniq ((hperm.map Prod.fst).trans (by rw [e1]; exact (Ax.sortO_perm l).symm)) ?_ (Ax.sortO_sorted l hd)
          have hdist : (d'.toList.map Prod.fst).Pairwise (fun x y => x.t ≠ y.t) := ((hperm.map Prod.fst).pairwise_iff (fun {a b} (h : a.t ≠ b.t) => h.symm)).2 (by rw [e1]; exact hd)
          rw [List.pairwise_map, List.pairwise_iff_getElem] at hdist ⊢
          intro i j hi hj hij
          rw [Array.length_toList] at hi hj
          have h5 := hs i j (Nat.zero_le _) hij (by rw [← hds]; exact hj)
          rw [ltO, getElem!_pos d' j hj, getElem!_pos d' i hi, decide_eq_false_iff_not] at h5
          have h6 := hdist i j (by rw [Array.length_toList]; exact hi) (by rw [Array.length_toList]; exact hj) hij
          rw [Array.getElem_toList, Array.getElem_toList] at h6 ⊢
          have h7 : d'[i].1.t.toNat ≠ d'[j].1.t.toNat := fun e => h6 (UInt8.toNat_inj.1 e)
          show d'[i].1.t.toNat < d'[j].1.t.toNat
          omega
        obtain ⟨o1, k1⟩ := sorted_own encO 3 w B g l.length c n 73 xs d' os h1' hds
        refine ⟨rfl, ⟨(flatK encO 3 d').toList, ?_, ?_⟩, k1.mono (fun k (e : k = g) => by rw [e]; rfl)⟩
        · exact own_to2 o1 (by rw [(Ax.sortO_perm l).length_eq])
        · rw [← hsrt]
          refine Ors.flat d' (fun x hx => ?_)
          refine ow_kept (e3 x (hperm.mem_iff.1 hx)) k1 (fun g' hg' (e : g' = g) => ?_)
          obtain ⟨cs, hh⟩ := ow_lt (e3 x (hperm.mem_iff.1 hx)) hg'
          rw [e, hg] at hh
          injection hh with hh
          injection hh with _ h9
          exact absurd h9 (by decide)
      case one =>
        simp only [encO, List.mem_cons, List.not_mem_nil, or_false] at hv
        rcases hv with rfl | rfl | rfl
        · rfl
        · rfl
        · rfl
end Go.Proofs.YteofbpdogmajoaaGreatDoor
