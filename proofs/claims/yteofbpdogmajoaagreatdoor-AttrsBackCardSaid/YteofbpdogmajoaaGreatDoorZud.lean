
/-
  attrs: what Put answers, as plain data.
-/
import Derived.Test.YteofbpdogmajoaaGreatDoorZyt
import Derived.Test.YteofbpdogmajoaaGreatDoorZv
import Derived.Test.YteofbpdogmajoaaGreatDoorZy
import Derived.Test.YteofbpdogmajoaaGreatDoorZuc
namespace Go.Proofs.YteofbpdogmajoaaGreatDoor
open Go.RowKit Go.Sort Go.Shelf

/-- Attributes in a row of one's own since w0, their values' rows as they were in w0, or one's own too. -/
def Oby (w0 w : World) (v : Value) (l : List Ot) : Prop := ∃ d : List Oc, d.map Prod.fst = l ∧ w.ownsRow w0.heap.size 73 3 v l.length (d.flatMap encO) ∧ ∀ x ∈ d, By w0 (vO x) x.1.v ∨ w.ownsRow w0.heap.size 5 1 (vO x) x.1.v.length (bys x.1.v)
theorem Oby.nil (w0 w : World) : Oby w0 w (.slice none 0 0) [] := ⟨[], rfl, World.ownsRow_nil _ _ _ _, fun x hx => by cases hx⟩
theorem Oby.kept {S : Nat → Prop} {w0 w w' : World} {v : Value} {l : List Ot} (h : Oby w0 w v l) (k : Kept S w w') (hs : ∀ g cs t, S g → w.heap[g]? = some (.cells cs t (0, 0)) → t ≠ 73 ∧ t ≠ 5) : Oby w0 w' v l := by
  obtain ⟨d, e1, h1, e3⟩ := h
  refine ⟨d, e1, ow_kept h1 k (fun g hg x => by obtain ⟨cs, hh⟩ := ow_lt h1 hg; exact (hs g cs _ x hh).1 rfl), fun x hx => ?_⟩
  rcases e3 x hx with h5 | h5
  · exact .inl h5
  · exact .inr (ow_kept h5 k (fun g hg y => by obtain ⟨cs, hh⟩ := ow_lt h5 hg; exact (hs g cs _ y hh).2 rfl))
theorem Oby.old {w0 w w' : World} {v : Value} {l : List Ot} (h : Oby w0 w v l) (k : Kept Nothing w w') : Oby w0 w' v l := h.kept k (fun _ _ _ x => x.elim)
/-- A slice of attributes, as cells. -/
theorem Ots.cells {w : World} {b : Nat} : ∀ (l : List Ot) (o : Nat) (_ : ∀ i (h : i < l.length), w.cell? ⟨b, o + i * 3, none⟩ = some (by8 l[i].f) ∧ w.cell? ⟨b, o + i * 3 + 1, none⟩ = some (by8 l[i].t) ∧ ∃ u, w.cell? ⟨b, o + i * 3 + 2, none⟩ = some u ∧ By w u l[i].v),
    ∃ d : List Oc, d.map Prod.fst = l ∧ (∀ x ∈ d, By w (vO x) x.1.v) ∧ ∀ j, j < l.length * 3 → w.cell? ⟨b, o + j, none⟩ = (d.flatMap encO)[j]?
  | [], _, _ => ⟨[], rfl, (fun x hx => by cases hx), (fun j hj => by simp at hj)⟩
  | c :: l, o, h => by
    obtain ⟨d, e1, e2, e3⟩ := Ots.cells l (o + 3) (fun i hi => by
      have := h (i + 1) (by simpa using hi)
      rw [show o + (i + 1) * 3 = o + 3 + i * 3 by omega] at this
      simpa using this)
    obtain ⟨h1, h2, u, h3, h4⟩ := h 0 (by simp)
    obtain ⟨A, cc, rfl, _, _⟩ := h4.form
    refine ⟨(c, A, c.v.length, cc) :: d, by rw [List.map_cons, e1], fun x hx => ?_, fun j hj => ?_⟩
    · rcases List.mem_cons.1 hx with rfl | hx
      · exact h4
      · exact e2 x hx
    · rw [List.flatMap_cons]
      by_cases hj3 : j < 3
      · rw [List.getElem?_append_left (by show j < 3; exact hj3)]
        obtain rfl | rfl | rfl : j = 0 ∨ j = 1 ∨ j = 2 := by omega
        · simpa [encO] using h1
        · simpa [encO] using h2
        · simpa [encO, vO] using h3
      · rw [List.getElem?_append_right (by show 3 ≤ j; omega)]
        have := e3 (j - 3) (by simp at hj; omega)
        rw [show o + 3 + (j - 3) = o + j by omega] at this
        exact this
theorem flat_len (d : List Oc) : (d.flatMap encO).length = d.length * 3 := by
  induction d with
  | nil => rfl
  | cons x d ih => rw [List.flatMap_cons, List.length_append, ih, List.length_cons]; show 3 + _ = _; omega
theorem flat_one (d : List Oc) : ∀ u ∈ d.flatMap encO, u.oneCell' = true := by
  intro u hu
  obtain ⟨x, _, hx⟩ := List.mem_flatMap.1 hu
  simp only [encO, List.mem_cons, List.not_mem_nil, or_false] at hx
  rcases hx with rfl | rfl | rfl
  · rfl
  · rfl
  · rfl
theorem flat_eq (d : Array Oc) : (flatK encO 3 d).toList = d.toList.flatMap encO := by
  refine List.ext_getElem? (fun k => ?_)
  by_cases hk : k < d.size * 3
  · have hi : k / 3 < d.size := by omega
    have h1 := flat_at d (k / 3) (k % 3) hi (Nat.mod_lt _ (by omega))
    have h2 := flat_list d.toList (k / 3) (k % 3) (by simpa using hi) (Nat.mod_lt _ (by omega)) k (by omega)
    rw [show k / 3 * 3 + k % 3 = k by omega] at h1
    rw [h1, h2]
  · rw [List.getElem?_eq_none (by rw [Array.length_toList, size_flatK]; omega), List.getElem?_eq_none (by rw [flat_len, Array.length_toList]; omega)]
theorem Ots.src {w : World} {A : Option Addr} {n c : Nat} {l : List Ot} (h : Ots w (.slice A n c) l) : ∃ d : List Oc, d.map Prod.fst = l ∧ (∀ x ∈ d, By w (vO x) x.1.v) ∧ Src w 3 A l.length (d.flatMap encO) := by
  obtain ⟨A', c', hv, _, _, _⟩ := id h
  injection hv with h1 h2 h3
  subst h2
  by_cases h0 : l = []
  · subst h0
    exact ⟨[], rfl, (fun x hx => by cases hx), rfl, (fun _ => rfl), (fun a _ j u hu => by cases hu), fun u hu => by cases hu⟩
  · obtain ⟨b, o, rfl, hc⟩ := h.at (List.length_pos_iff.2 h0)
    obtain ⟨d, e1, e2, e3⟩ := Ots.cells l o hc
    have hl : d.length = l.length := by rw [← e1, List.length_map]
    refine ⟨d, e1, e2, by rw [flat_len, hl], (fun e => by cases e), (fun a ha j u hu => ?_), flat_one d⟩
    injection ha with ha
    subst ha
    rw [add_none, e3 j (by have := (List.getElem?_eq_some_iff.1 hu).1; rw [flat_len, hl] at this; exact this), hu]
theorem oth_info : (Tryz.prog.info? 73).map (fun i => (i.zero, i.size, i.bytes)) = some (some (.agg #[.int .u8 0, .int .u8 0, .slice none 0 0]), 3, 32) := by kernel_rfl

set_option maxHeartbeats 1000000 in
theorem ots_clone (w0 : World) (v : Value) (l : List Ot) (w : World) (h : Ots w0 v l) (kw : Kept Nothing w0 w) (hl : l.length ≤ 1000000000) :
    Calls Tryz.prog 47 #[v] w fun r w' => ∃ v', r = .returned v' ∧ Oby w0 w' v' l ∧ Kept Nothing w w' := by
  obtain ⟨i0, hi, hz0, hz1, hz2⟩ := info_parts oth_info
  have hq := fun (u : World) (a : Option Addr) (n c : Nat) => Lib.run_eql_slice_nil (P := Tryz.prog) u 31 73 a n c 0 0 Tryz.underlying31
  obtain ⟨A, c, rfl, hc, hm⟩ := h.form
  obtain ⟨d, e1, e2, hs⟩ := h.src
  have HS := Lib.hid (hs.kept kw)
  have HK := Lib.hid kw
  have HE := Lib.hid e1
  have HV := Lib.hid e2
  clear e1 e2 hs kw
  cases A with
  | none =>
    obtain rfl : l = [] := List.eq_nil_of_length_eq_zero (HS.out.2.1 rfl)
    clear h hc hm
    go_enter Tryz.func47, Tryz.ntmps47
    go_wp2
    go_ret
    exact ⟨_, rfl, Oby.nil _ _, Kept.refl _ _⟩
  | some ad =>
    clear h hc hm
    have HL : Hid (0 + l.length ≤ maxLen ∧ (0 + l.length) * 32 ≤ 140737488355328) := ⟨by unfold maxLen; omega, by omega⟩
    go_enter Tryz.func47, Tryz.ntmps47
    go_wp2_with (at_builtin; refine wpList_app _ rfl _ _ 31 rfl w.heap.size 73 i0 _ 3 32 Tryz.underlying31 hi hz0 hz1 hz2 rfl (by decide) (.slice (some ⟨w.heap.size, 0, none⟩) 0 0) 0 [] rfl (World.ownsRow_made w #[] 0 (Nat.le_refl _) (by simp [maxLen]) rfl) (some ad) l.length c (d.flatMap encO) rfl (HS.out.kept ((Kept.refl _ w).alloc _)) HL.out.1 HL.out.2 (by simp) ?_; intro v' w' hown hg _)
    go_ret
    refine ⟨v', rfl, ⟨d, HE.out, ?_, fun x hx => .inl (HV.out x hx)⟩, ((Kept.refl _ w).alloc _).grown hg (fun k hk hlt => ?_)⟩
    · exact own_weakA (by simpa using hown) HK.out.size
    · simp only [Value.ownBlock, Option.some.injEq] at hk
      omega

set_option maxHeartbeats 1000000 in
theorem sort_oby (w0 : World) (v : Value) (l : List Ot) (w : World) (h : Oby w0 w v l) (hd : l.Pairwise (fun x y => x.t ≠ y.t)) (hl : l.length ≤ 1000000000) :
    Calls Tryz.prog 32 #[v, .func (.func 33) #[] #[]] w fun e w' => e = .returned (.tuple #[]) ∧ Oby w0 w' v (Ax.sortO l) ∧ Kept (fun k => v.ownBlock = some k) w w' := by
  obtain ⟨d, e1, h1, e3⟩ := h
  generalize e2 : d.flatMap encO = xs at h1
  replace e2 := e2.symm
  obtain ⟨A, c, rfl, hc, hm⟩ := ow_form h1
  by_cases h0 : l = []
  · subst h0
    refine (AnyF.slices_SortFunc_none Tryz.sortO A c (.func (.func 33) #[] #[]) w).mono ?_
    rintro e w' ⟨rfl, rfl⟩
    exact ⟨rfl, ⟨d, e1, by rw [← e2]; exact h1, e3⟩, Kept.refl _ _⟩
  · have hpos : 0 < l.length := List.length_pos_iff.2 h0
    have hdl : d.length = l.length := by rw [← e1, List.length_map]
    have h1' := h1
    obtain ⟨hx1, ⟨_, e0⟩ | ⟨g, cap, cur, ev, hb, hg, hn, hcm, hcs, htk⟩⟩ := h1
    · omega
    · injection ev with ev _ ev3
      subst ev ev3
      have hlt : g < w.heap.size := (Array.getElem?_eq_some_iff.1 hg).1
      have hH : HoldsK encO 3 w g 0 d.toArray := by
        intro j hj
        rw [size_flatK, List.size_toArray, hdl] at hj
        have hcur : j < cur.size := by rw [hcs]; have := Nat.mul_le_mul_right 3 hn; omega
        refine ⟨?_, ?_⟩
        · rw [Nat.zero_add, cell_of_row w g _ cur _ (0, 0) hg]
          have h5 : cur.toList[j]? = (flatK encO 3 d.toArray).toList[j]? := by
            rw [← List.getElem?_take_of_lt (l := cur.toList) hj, htk, e2]
            have hj3 : j / 3 < d.toArray.size := by rw [List.size_toArray, hdl]; omega
            have := flat_at d.toArray (j / 3) (j % 3) hj3 (Nat.mod_lt _ (by omega))
            rw [show j / 3 * 3 + j % 3 = j by omega] at this
            rw [this]
            exact flat_list d (j / 3) (j % 3) (by rw [List.size_toArray] at hj3; exact hj3) (Nat.mod_lt _ (by omega)) j (by omega)
          rw [Array.getElem?_toList, Array.getElem?_toList] at h5
          rw [h5, Array.getElem?_eq_getElem (by rw [size_flatK, List.size_toArray, hdl]; exact hj), getElem!_pos (flatK encO 3 d.toArray) j (by rw [size_flatK, List.size_toArray, hdl]; exact hj)]
          rfl
        · exact (show Blk w g 73 cur from hg).free _
      have eg : ∀ args w, (callFunc 33 args).run Tryz.prog w = .ok (.enter 33 args) w := enters_of Tryz.func33 (by kernel_rfl) rfl
      have hsz : d.toArray.size = l.length := by rw [List.size_toArray, hdl]
      have hcon := AnyQ.slices_SortFunc Tryz.sortO 3 Tryz.isAgg73 Tryz.sizeOf73 encO (fun _ => rfl) (fun x v hv => ?one) cfO swoO 33 #[] g 0 c d.toArray w eg (fun _ _ _ _ x y => by_type x y _) hH hlt (by rw [hsz]; omega)
      · rw [hsz] at hcon
        refine hcon.mono ?_
        rintro e w' ⟨rfl, d', n, os, hp, hs, rfl⟩
        have hds : d'.size = l.length := by rw [hp.1]; exact hsz
        have hperm : d'.toList.Perm d := by
          have := hp.2.2
          rw [Array.extract_eq_self_of_le (by rw [hds]; exact Nat.le_refl _), Array.extract_eq_self_of_le (by rw [hsz]; exact Nat.le_refl _)] at this
          simpa using this
        have hsrt : d'.toList.map Prod.fst = Ax.sortO l := by
          refine Ax.sorted_uniq ((hperm.map Prod.fst).trans (by rw [e1]; exact (Ax.sortO_perm l).symm)) ?_ (Ax.sortO_sorted l hd)
          have hdist : (d'.toList.map Prod.fst).Pairwise (fun x y => x.t ≠ y.t) := ((hperm.map Prod.fst).pairwise_iff (fun {a b} (h : a.t ≠ b.t) => h.symm)).2 (by rw [e1]; exact hd)
          rw [List.pairwise_map, List.pairwise_iff_getElem] at hdist ⊢
          intro i j hi hj hij
          rw [Array.length_toList] at hi hj
          have h5 := hs i j (Nat.zero_le _) hij (by rw [← hds]; exact hj)
          rw [ltO, getElem!_pos d' j hj, getElem!_pos d' i hi, decide_eq_false_iff_not] at h5
          have h6 := hdist i j (by rw [Array.length_toList]; exact hi) (by rw [Array.length_toList]; exact hj) hij
          rw [Array.getElem_toList, Array.getElem_toList] at h6 ⊢
          have h7 : d'[i].1.t.toNat ≠ d'[j].1.t.toNat := fun e => h6 (UInt8.toNat_inj.1 e)
          show d'[i].1.t.toNat < d'[j].1.t.toNat
          omega
        obtain ⟨o1, k1⟩ := sorted_own encO 3 w w0.heap.size g l.length c n 73 xs d' os h1' hds
        refine ⟨rfl, ⟨d'.toList, hsrt, ?_, ?_⟩, k1.mono (fun k (e : k = g) => by rw [e]; rfl)⟩
        · rw [← flat_eq]
          exact own_to2 o1 (by rw [(Ax.sortO_perm l).length_eq])
        · intro x hx
          rcases e3 x (hperm.mem_iff.1 hx) with h5 | h5
          · exact .inl h5
          · refine .inr (ow_kept h5 k1 (fun g' hg' (e : g' = g) => ?_))
            obtain ⟨cs, hh⟩ := ow_lt h5 hg'
            rw [e, hg] at hh
            injection hh with hh
            injection hh with _ h9
            exact absurd h9 (by decide)
      case one =>
        simp only [encO, List.mem_cons, List.not_mem_nil, or_false] at hv
        rcases hv with rfl | rfl | rfl
        · rfl
        · rfl
        · rfl

/-- Read as a slice of attributes. -/
theorem Oby.ots {w0 w : World} {v : Value} {l : List Ot} (h : Oby w0 w v l) (k : Kept Nothing w0 w) : Ots w v l := by
  obtain ⟨d, e1, h1, e3⟩ := h
  have hlen : d.length = l.length := by rw [← e1, List.length_map]
  obtain ⟨A, c, rfl, hc, hm⟩ := ow_form h1
  refine ⟨A, c, rfl, hc, hm, fun h0 => ?_⟩
  obtain ⟨hx, ⟨_, e0⟩ | ⟨g, cap, cur, ev, hb, hg, hn, hcm, hcs, htk⟩⟩ := id h1
  · omega
  injection ev with ev _ ev3
  subst ev ev3
  refine ⟨g, 0, rfl, fun i hi => ?_⟩
  have hd : i < d.length := by omega
  have hcell : ∀ j, j < 3 → w.cell? ⟨g, 0 + i * 3 + j, none⟩ = (encO d[i])[j]? := by
    intro j hj
    rw [Nat.zero_add, cell_of_row w g _ cur _ (0, 0) hg]
    have h2 := flat_list d i j hd hj (i * 3 + j) rfl
    rw [List.getElem_toArray] at h2
    rw [← h2, ← htk, List.getElem?_take_of_lt (by omega), Array.getElem?_toList]
  have he : d[i].1 = l[i] := by
    have h6 : (d.map Prod.fst)[i]'(by rw [List.length_map]; exact hd) = l[i] := by congr 1
    rw [List.getElem_map] at h6
    exact h6
  refine ⟨(hcell 0 (by omega)).trans (by rw [← he]; rfl), (hcell 1 (by omega)).trans (by rw [← he]; rfl), vO d[i], (hcell 2 (by omega)).trans rfl, ?_⟩
  rw [← he]
  rcases e3 d[i] (List.getElem_mem hd) with h5 | h5
  · exact h5.old k
  · exact (Bs.of_own h5).by
/-- Behind append. -/
theorem Oby.pushed {w0 u u' : World} {v v' : Value} {l : List Ot} {d : List Oc} {c : Ot} {A : Option Addr} {cc : Nat} (e1 : d.map Prod.fst = l) (h1 : u.ownsRow w0.heap.size 73 3 v l.length (d.flatMap encO)) (e3 : ∀ x ∈ d, By w0 (vO x) x.1.v ∨ u.ownsRow w0.heap.size 5 1 (vO x) x.1.v.length (bys x.1.v))
    (hv : u.ownsRow w0.heap.size 5 1 (.slice A c.v.length cc) c.v.length (bys c.v)) (ho : u'.ownsRow w0.heap.size 73 3 v' (l.length + 1) (d.flatMap encO ++ [.int .u8 (c.f.toNat : Int), .int .u8 (c.t.toNat : Int), .slice A c.v.length cc])) (hg : u.grownBy u' v.ownBlock) : Oby w0 u' v' (l ++ [c]) := by
  have k := grown_kept hg
  have far : ∀ {x : Value} {n : Nat} {ys : List Value}, u.ownsRow w0.heap.size 5 1 x n ys → u'.ownsRow w0.heap.size 5 1 x n ys := fun hx => ow_kept hx k (fun g hg1 hg2 => by
    obtain ⟨cs, hh⟩ := ow_lt hx hg1
    obtain ⟨cs2, hh2⟩ := ow_lt h1 hg2
    rw [hh] at hh2
    injection hh2 with hh2
    injection hh2 with _ h9
    exact absurd h9 (by decide))
  refine ⟨d ++ [(c, A, c.v.length, cc)], by rw [List.map_append, e1]; rfl, ?_, fun x hx => ?_⟩
  · rw [List.length_append, List.flatMap_append]
    simpa [encO, vO, by8] using ho
  · rcases List.mem_append.1 hx with hx | hx
    · rcases e3 x hx with h5 | h5
      · exact .inl h5
      · exact .inr (far h5)
    · obtain rfl := List.mem_singleton.1 hx
      exact .inr (far hv)
end Go.Proofs.YteofbpdogmajoaaGreatDoor
namespace Go.Proofs.YteofbpdogmajoaaGreatDoor
open Go.RowKit

namespace Ax
/-- An attribute's form. -/
def formO (o : Ot) : List UInt8 := if 255 < o.v.length then [o.f ||| 16, o.t] ++ two o.v.length ++ o.v else [o.f, o.t, UInt8.ofNat o.v.length] ++ o.v
def beside (t : UInt8) : Bool := decide (t.toNat = 17 ∨ t.toNat = 18)
/-- Whether a type is laid. -/
def lays (a : At) (four : Bool) (t : UInt8) : Bool := is a t && (known t && !(four && beside t))
/-- The first error, of the types behind k. -/
def errP (a : At) (four : Bool) : Nat → Nat
  | 0 => 0
  | k + 1 => if errP a four k ≠ 0 then errP a four k else if lays a four (UInt8.ofNat k) = true then (val a four (UInt8.ofNat k)).2 else 0
def rowP (a : At) (four : Bool) (k : Nat) : List Ot := if lays a four (UInt8.ofNat k) = true then [⟨wanted (UInt8.ofNat k), UInt8.ofNat k, (val a four (UInt8.ofNat k)).1⟩] else []
def rowsP (a : At) (four : Bool) (k : Nat) : List Ot := a.others ++ (List.range k).flatMap (rowP a four)
/-- The form of attributes; the error. -/
def putM (a : At) (four : Bool) : List UInt8 × Nat :=
  if mayM a = false then ([], 1) else if errP a four 19 ≠ 0 then ([], errP a four 19) else ((sortO (rowsP a four 19)).flatMap formO, 0)
theorem errP_stay (a : At) (four : Bool) (k : Nat) (h : errP a four k ≠ 0) : ∀ d, errP a four (k + d) = errP a four k
  | 0 => rfl
  | d + 1 => by
    have ih := errP_stay a four k h d
    have e : errP a four (k + d) ≠ 0 := by rw [ih]; exact h
    show (if errP a four (k + d) ≠ 0 then errP a four (k + d) else _) = _
    rw [if_pos e, ih]
theorem rowsP_succ (a : At) (four : Bool) (k : Nat) : rowsP a four (k + 1) = rowsP a four k ++ rowP a four k := by
  unfold rowsP
  rw [List.range_succ, List.flatMap_append, List.append_assoc]
  simp
end Ax
theorem layO_eq (l : List UInt8) (o : Ot) (h : o.v.length ≤ 65535) : Ax.layO ⟨l, [], 0⟩ o = ⟨l ++ Ax.formO o, [], 0⟩ := by
  unfold Ax.layO Ax.formO
  by_cases hl : 255 < o.v.length
  · rw [if_pos hl, if_pos hl]
    have h2 : ¬ 65536 ≤ o.v.length := by omega
    have h3 : l.length + (o.v.length + 1 + 1 + 1 + 1) - (l.length + 2 + 2) = o.v.length := by omega
    simp [WS.lay, WS.hold, WS.fill, WS.tell, two, h2, h3]
  · rw [if_neg hl, if_neg hl]
    have h2 : ¬ 256 ≤ o.v.length := by omega
    have h3 : l.length + (o.v.length + 1 + 1 + 1) - (l.length + 2 + 1) = o.v.length := by omega
    simp [WS.lay, WS.hold, WS.fill, WS.tell, h2, h3]
theorem formO_len (o : Ot) : (Ax.formO o).length ≤ o.v.length + 4 := by
  unfold Ax.formO
  split
  · simp [two]
  · simp
theorem forms_len : ∀ (l : List Ot) (_ : ∀ o ∈ l, o.v.length ≤ 65535), (l.flatMap Ax.formO).length ≤ l.length * 65539
  | [], _ => by simp
  | o :: l, h => by
    have h1 := forms_len l (fun x hx => h x (List.mem_cons_of_mem _ hx))
    have h2 := formO_len o
    have h3 := h o (List.mem_cons_self ..)
    rw [List.flatMap_cons, List.length_append, List.length_cons]
    omega
namespace Ax
theorem mayM_right {a : At} (h : mayM a = true) {k : Nat} (hk : k < 19) (h1 : known (UInt8.ofNat k) = true) (h2 : is a (UInt8.ofNat k) = true) : right a (UInt8.ofNat k) = true := by
  cases hr : right a (UInt8.ofNat k) with
  | true => rfl
  | false =>
    have := mayM_bad hk (show badM a k = true by unfold badM; rw [h1, h2, hr]; rfl)
    rw [this] at h
    cases h
theorem mayM_others {a : At} (h : mayM a = true) : mayOs a.others = true := by
  unfold mayM at h
  simp only [Bool.and_eq_true] at h
  exact h.2.2.2
theorem fours_le (l : List Nat) (n : Nat) (h : l.length ≤ n) : (fours l).length ≤ 4 * n := by rw [length_fours]; omega
theorem bytes_le {p : List Seg} {wide : Bool} (h : Pt.may p = true) : (Pt.bytes p wide).1.length ≤ 65535 := by
  obtain ⟨h1, h2⟩ := Pt.may_len h
  unfold Pt.bytes
  rw [if_neg (by rw [h]; simp)]
  split
  · simp
  · show (Pt.form wide p).length ≤ _
    have : ∀ (q : List Seg) (_ : ∀ s ∈ q, s.2.length ≤ 255), (Pt.form wide q).length ≤ 1022 * q.length := by
      intro q hq
      induction q with
      | nil => simp [Pt.form]
      | cons s q ih =>
        have h3 := ih (fun x hx => hq x (List.mem_cons_of_mem _ hx))
        have h4 := Pt.length_seg wide s
        have h5 := hq s (List.mem_cons_self ..)
        show (Pt.seg wide s ++ Pt.form wide q).length ≤ _
        rw [List.length_append, List.length_cons]
        omega
    have := this p h2
    omega
/-- No value is too long. -/
theorem val_le {a : At} {four : Bool} {k : Nat} (h : mayM a = true) (hk : k < 19) (hl : lays a four (UInt8.ofNat k) = true) : (val a four (UInt8.ofNat k)).1.length ≤ 65535 := by
  unfold lays at hl
  simp only [Bool.and_eq_true] at hl
  have hr := mayM_right h hk hl.2.1 hl.1
  generalize UInt8.ofNat k = t at *
  have hby : ∀ x y z, (byB x y z).1.length ≤ 65535 := by
    intro x y z
    unfold byB
    split
    · simp [length_fours]
    · split
      · simp
      · simp [length_fours, length_twos]
  have h4 : ∀ x, (fours [x]).length ≤ 65535 := fun x => by simp [length_fours]
  unfold val
  unfold right at hr
  by_cases e2 : t.toNat = 2
  · rw [if_pos e2]
    rw [if_neg (by omega), if_pos e2] at hr
    exact bytes_le hr
  rw [if_neg e2]
  by_cases e17 : t.toNat = 17
  · rw [if_pos e17]
    rw [if_neg (by omega), if_neg (by omega), if_neg (by omega), if_neg (by omega), if_pos e17] at hr
    simp only [Bool.and_eq_true] at hr
    exact bytes_le hr.2.2
  rw [if_neg e17]
  split
  · exact hby _ _ _
  split
  · exact hby _ _ _
  split
  · simp
  split
  · exact h4 _
  split
  · exact h4 _
  split
  · exact h4 _
  split
  · rename_i e8
    rw [if_neg (by omega), if_neg (by omega), if_neg (by omega), if_pos e8] at hr
    simp only [Bool.and_eq_true, decide_eq_true_eq] at hr
    have := length_fours a.comms
    show (fours a.comms).length ≤ _
    omega
  · simp
theorem rowsP_le {a : At} {four : Bool} (h : mayM a = true) : ∀ {k : Nat} (_ : k ≤ 19), ∀ o ∈ rowsP a four k, o.v.length ≤ 65535
  | 0, _, o, ho => by
    have h1 := mayM_others h
    unfold mayOs at h1
    simp only [Bool.and_eq_true, List.all_eq_true] at h1
    have h2 := h1.1 o (by simpa [rowsP] using ho)
    unfold mayO at h2
    simp only [Bool.and_eq_true, decide_eq_true_eq] at h2
    exact h2.2
  | k + 1, hk, o, ho => by
    rw [rowsP_succ] at ho
    rcases List.mem_append.1 ho with ho | ho
    · exact rowsP_le h (by omega) o ho
    · unfold rowP at ho
      split at ho
      · rename_i hl
        obtain rfl := List.mem_singleton.1 ho
        exact val_le h (by omega) hl
      · cases ho
theorem rowsP_len (a : At) (four : Bool) : ∀ k, (rowsP a four k).length ≤ a.others.length + k
  | 0 => by simp [rowsP]
  | k + 1 => by
    rw [rowsP_succ, List.length_append]
    have := rowsP_len a four k
    have : (rowP a four k).length ≤ 1 := by unfold rowP; split <;> simp
    omega
/-- The types of what is laid are all unlike. -/
theorem rowsP_unlike {a : At} {four : Bool} (h : mayM a = true) : ∀ {k : Nat} (_ : k ≤ 19), (rowsP a four k).Pairwise (fun x y => x.t ≠ y.t) ∧ ∀ o ∈ rowsP a four k, known o.t = true → o.t.toNat < k
  | 0, _ => by
    have h1 := mayM_others h
    unfold mayOs at h1
    simp only [Bool.and_eq_true, List.all_eq_true, decide_eq_true_eq] at h1
    have e : rowsP a four 0 = a.others := by simp [rowsP]
    rw [e]
    refine ⟨h1.2.imp (fun {x y} (hxy : x.t.toNat < y.t.toNat) e => by rw [e] at hxy; omega), fun o ho hk => ?_⟩
    have h2 := h1.1 o ho
    unfold mayO at h2
    rw [hk] at h2
    simp at h2
  | k + 1, hk => by
    obtain ⟨h1, h2⟩ := rowsP_unlike h (four := four) (k := k) (by omega)
    rw [rowsP_succ]
    have ek : (UInt8.ofNat k).toNat = k := by rw [UInt8.toNat_ofNat']; omega
    unfold rowP
    split
    · rename_i hl
      have hkn : known (UInt8.ofNat k) = true := by unfold lays at hl; simp only [Bool.and_eq_true] at hl; exact hl.2.1
      refine ⟨List.pairwise_append.2 ⟨h1, List.pairwise_singleton _ _, fun x hx y hy e => ?_⟩, fun o ho hko => ?_⟩
      · obtain rfl := List.mem_singleton.1 hy
        have := h2 x hx (by rw [e]; exact hkn)
        rw [e] at this
        simp only [ek] at this
        omega
      · rcases List.mem_append.1 ho with ho | ho
        · have := h2 o ho hko; omega
        · obtain rfl := List.mem_singleton.1 ho
          simp only [ek]
          omega
    · rw [List.append_nil]
      exact ⟨h1, fun o ho hko => by have := h2 o ho hko; omega⟩
end Ax


theorem wants_0 : ∀ w : World, (Instr.index 101 (.agg wtc) (.int .i64 0)).run Tryz.prog w = .ok (.int .u8 ((Ax.wanted (UInt8.ofNat 0)).toNat : Int)) w := fun _ => by kernel_rfl
theorem wants_1 : ∀ w : World, (Instr.index 101 (.agg wtc) (.int .i64 1)).run Tryz.prog w = .ok (.int .u8 ((Ax.wanted (UInt8.ofNat 1)).toNat : Int)) w := fun _ => by kernel_rfl
theorem wants_2 : ∀ w : World, (Instr.index 101 (.agg wtc) (.int .i64 2)).run Tryz.prog w = .ok (.int .u8 ((Ax.wanted (UInt8.ofNat 2)).toNat : Int)) w := fun _ => by kernel_rfl
theorem wants_3 : ∀ w : World, (Instr.index 101 (.agg wtc) (.int .i64 3)).run Tryz.prog w = .ok (.int .u8 ((Ax.wanted (UInt8.ofNat 3)).toNat : Int)) w := fun _ => by kernel_rfl
theorem wants_4 : ∀ w : World, (Instr.index 101 (.agg wtc) (.int .i64 4)).run Tryz.prog w = .ok (.int .u8 ((Ax.wanted (UInt8.ofNat 4)).toNat : Int)) w := fun _ => by kernel_rfl
theorem wants_5 : ∀ w : World, (Instr.index 101 (.agg wtc) (.int .i64 5)).run Tryz.prog w = .ok (.int .u8 ((Ax.wanted (UInt8.ofNat 5)).toNat : Int)) w := fun _ => by kernel_rfl
theorem wants_6 : ∀ w : World, (Instr.index 101 (.agg wtc) (.int .i64 6)).run Tryz.prog w = .ok (.int .u8 ((Ax.wanted (UInt8.ofNat 6)).toNat : Int)) w := fun _ => by kernel_rfl
theorem wants_7 : ∀ w : World, (Instr.index 101 (.agg wtc) (.int .i64 7)).run Tryz.prog w = .ok (.int .u8 ((Ax.wanted (UInt8.ofNat 7)).toNat : Int)) w := fun _ => by kernel_rfl
theorem wants_8 : ∀ w : World, (Instr.index 101 (.agg wtc) (.int .i64 8)).run Tryz.prog w = .ok (.int .u8 ((Ax.wanted (UInt8.ofNat 8)).toNat : Int)) w := fun _ => by kernel_rfl
theorem wants_9 : ∀ w : World, (Instr.index 101 (.agg wtc) (.int .i64 9)).run Tryz.prog w = .ok (.int .u8 ((Ax.wanted (UInt8.ofNat 9)).toNat : Int)) w := fun _ => by kernel_rfl
theorem wants_10 : ∀ w : World, (Instr.index 101 (.agg wtc) (.int .i64 10)).run Tryz.prog w = .ok (.int .u8 ((Ax.wanted (UInt8.ofNat 10)).toNat : Int)) w := fun _ => by kernel_rfl
theorem wants_11 : ∀ w : World, (Instr.index 101 (.agg wtc) (.int .i64 11)).run Tryz.prog w = .ok (.int .u8 ((Ax.wanted (UInt8.ofNat 11)).toNat : Int)) w := fun _ => by kernel_rfl
theorem wants_12 : ∀ w : World, (Instr.index 101 (.agg wtc) (.int .i64 12)).run Tryz.prog w = .ok (.int .u8 ((Ax.wanted (UInt8.ofNat 12)).toNat : Int)) w := fun _ => by kernel_rfl
theorem wants_13 : ∀ w : World, (Instr.index 101 (.agg wtc) (.int .i64 13)).run Tryz.prog w = .ok (.int .u8 ((Ax.wanted (UInt8.ofNat 13)).toNat : Int)) w := fun _ => by kernel_rfl
theorem wants_14 : ∀ w : World, (Instr.index 101 (.agg wtc) (.int .i64 14)).run Tryz.prog w = .ok (.int .u8 ((Ax.wanted (UInt8.ofNat 14)).toNat : Int)) w := fun _ => by kernel_rfl
theorem wants_15 : ∀ w : World, (Instr.index 101 (.agg wtc) (.int .i64 15)).run Tryz.prog w = .ok (.int .u8 ((Ax.wanted (UInt8.ofNat 15)).toNat : Int)) w := fun _ => by kernel_rfl
theorem wants_16 : ∀ w : World, (Instr.index 101 (.agg wtc) (.int .i64 16)).run Tryz.prog w = .ok (.int .u8 ((Ax.wanted (UInt8.ofNat 16)).toNat : Int)) w := fun _ => by kernel_rfl
theorem wants_17 : ∀ w : World, (Instr.index 101 (.agg wtc) (.int .i64 17)).run Tryz.prog w = .ok (.int .u8 ((Ax.wanted (UInt8.ofNat 17)).toNat : Int)) w := fun _ => by kernel_rfl
theorem wants_18 : ∀ w : World, (Instr.index 101 (.agg wtc) (.int .i64 18)).run Tryz.prog w = .ok (.int .u8 ((Ax.wanted (UInt8.ofNat 18)).toNat : Int)) w := fun _ => by kernel_rfl
theorem wants_at : ∀ k : Nat, k < 19 → ∀ w : World, (Instr.index 101 (.agg wtc) (.int .i64 (k : Int))).run Tryz.prog w = .ok (.int .u8 ((Ax.wanted (UInt8.ofNat k)).toNat : Int)) w := by
  intro k hk w
  have : k = 0 ∨ k = 1 ∨ k = 2 ∨ k = 3 ∨ k = 4 ∨ k = 5 ∨ k = 6 ∨ k = 7 ∨ k = 8 ∨ k = 9 ∨ k = 10 ∨ k = 11 ∨ k = 12 ∨ k = 13 ∨ k = 14 ∨ k = 15 ∨ k = 16 ∨ k = 17 ∨ k = 18 := by omega
  rcases this with rfl | rfl | rfl | rfl | rfl | rfl | rfl | rfl | rfl | rfl | rfl | rfl | rfl | rfl | rfl | rfl | rfl | rfl | rfl
  · exact wants_0 w
  · exact wants_1 w
  · exact wants_2 w
  · exact wants_3 w
  · exact wants_4 w
  · exact wants_5 w
  · exact wants_6 w
  · exact wants_7 w
  · exact wants_8 w
  · exact wants_9 w
  · exact wants_10 w
  · exact wants_11 w
  · exact wants_12 w
  · exact wants_13 w
  · exact wants_14 w
  · exact wants_15 w
  · exact wants_16 w
  · exact wants_17 w
  · exact wants_18 w
end Go.Proofs.YteofbpdogmajoaaGreatDoor
