
/-
  attrs: Copy: the same in new memory.
-/
import Derived.Test.YteofbpdogmajoaaGreatDoorZud
import Derived.Test.YteofbpdogmajoaaGreatDoorZh
import Derived.Test.YteofbpdogmajoaaGreatDoorZu
import Derived.Laws.Tables
namespace Go.Proofs.YteofbpdogmajoaaGreatDoor
open Go.RowKit

theorem u32_infoX : (Tryz.prog.info? 23).map (fun i => (i.zero, i.size, i.bytes)) = some (some (.int .u32 0), 1, 4) := by kernel_rfl
theorem u32_clone (v : Value) (l : List Nat) (w : World) (h : As w v l) (hl : l.length ≤ 1099511627776) :
    Calls Tryz.prog 109 #[v] w fun r w' => ∃ v', r = .returned v' ∧ w'.ownsRow w.heap.size 23 1 v' l.length (ass l) ∧ Kept Nothing w w' := by
  obtain ⟨i0, hi, hz0, hz1, hz2⟩ := info_parts u32_infoX
  have hq := fun (u : World) (a : Option Addr) (n c : Nat) => Lib.run_eql_slice_nil (P := Tryz.prog) u 30 23 a n c 0 0 Tryz.underlying30
  obtain ⟨A, c, rfl, hc, hm⟩ := h.form
  have HS := Lib.hid (h.src)
  cases A with
  | none =>
    obtain rfl : l = [] := List.eq_nil_of_length_eq_zero (HS.out.2.1 rfl)
    clear h hc hm
    go_enter Tryz.func109, Tryz.ntmps109
    go_wp2
    go_ret
    exact ⟨_, rfl, World.ownsRow_nil _ _ _ _, Kept.refl _ _⟩
  | some ad =>
    clear h hc hm
    have HL : Hid (0 + l.length ≤ maxLen ∧ (0 + l.length) * 4 ≤ 140737488355328) := ⟨by unfold maxLen; omega, by omega⟩
    go_enter Tryz.func109, Tryz.ntmps109
    go_wp2_with (at_builtin; refine wpList_app _ rfl _ _ 30 rfl w.heap.size 23 i0 (.int .u32 0) 1 4 Tryz.underlying30 hi hz0 hz1 hz2 rfl (by decide) (.slice (some ⟨w.heap.size, 0, none⟩) 0 0) 0 [] rfl (World.ownsRow_made w #[] 0 (Nat.le_refl _) (by simp [maxLen]) rfl) (some ad) l.length c (ass l) rfl (HS.out.kept ((Kept.refl _ w).alloc _)) HL.out.1 HL.out.2 (by simp) ?_; intro v' w' hown hg _)
    go_ret
    refine ⟨v', rfl, ?_, ((Kept.refl _ w).alloc _).grown hg (fun k hk hlt => ?_)⟩
    · simpa using hown
    · simp only [Value.ownBlock, Option.some.injEq] at hk
      omega

/-- The row that the k-th of the values is written to. -/
theorem Oby.row {w0 w : World} {A : Option Addr} {n c : Nat} {l : List Ot} (h : Oby w0 w (.slice A n c) l) (hn : 0 < l.length) : ∃ g cs, A = some ⟨g, 0, none⟩ ∧ w0.heap.size ≤ g ∧ Blk w g 73 cs ∧ l.length * 3 ≤ cs.size := by
  obtain ⟨d, e1, h1, _⟩ := h
  have hd : d.length = l.length := by rw [← e1, List.length_map]
  obtain ⟨hx, ⟨_, e0⟩ | ⟨g, cap, cur, ev, hb, hg, hn2, hcm, hcs, htk⟩⟩ := h1
  · omega
  injection ev with ev _ ev3
  refine ⟨g, cur, ev, hb, hg, ?_⟩
  omega
theorem flat_set : ∀ (d : List Oc) (k : Nat) (v : Value) (A : Option Addr) (n c : Nat) (_ : k < d.length) (_ : v = .slice A n c), (d.flatMap encO).set (k * 3 + 2) v = (d.set k ((d.getD k default).1, A, n, c)).flatMap encO
  | x :: d, 0, v, A, n, c, _, e => by
    subst e
    rfl
  | x :: d, k + 1, v, A, n, c, h, e => by
    have ih := flat_set d k v A n c (by simpa using h) e
    rw [List.set_cons_succ, List.flatMap_cons, List.flatMap_cons, List.getD_cons_succ, ← ih]
    obtain ⟨⟨xf, xt, xv⟩, xA, xn, xc⟩ := x
    rw [show (k + 1) * 3 + 2 = (k * 3 + 2) + 1 + 1 + 1 by omega]
    rfl
theorem own_set3 {w : World} {base g n : Nat} {e : TypeId} {v u : Value} {xs : List Value} (h : w.ownsRow base e 3 v n xs) (hg : v.ownBlock = some g) (j : Nat) : (w.setCell ⟨g, j, none⟩ u).ownsRow base e 3 v n (xs.set j u) := by
  obtain ⟨h1, h2⟩ := h
  refine ⟨by rw [List.length_set]; exact h1, ?_⟩
  rcases h2 with ⟨rfl, h0⟩ | ⟨g', cap, cur, rfl, hb, hh, hn, hm, hs, ht⟩
  · simp [Value.ownBlock] at hg
  · obtain rfl : g' = g := by simpa [Value.ownBlock] using hg
    refine .inr ⟨g', cap, cur.setIfInBounds j u, rfl, hb, Blk.put (w := w) (g := g') (t := e) (cs := cur) hh j u, hn, hm, by simpa using hs, ?_⟩
    rw [← ht, Array.toList_setIfInBounds, List.take_set]
/-- As Oby; the values of the first k lie in rows of one's own. -/
def Obk (w0 w : World) (v : Value) (l : List Ot) (k : Nat) : Prop := ∃ d : List Oc, d.map Prod.fst = l ∧ w.ownsRow w0.heap.size 73 3 v l.length (d.flatMap encO) ∧ (∀ x ∈ d, By w0 (vO x) x.1.v ∨ w.ownsRow w0.heap.size 5 1 (vO x) x.1.v.length (bys x.1.v)) ∧ ∀ i (h : i < d.length), i < k → w.ownsRow w0.heap.size 5 1 (vO d[i]) d[i].1.v.length (bys d[i].1.v)
theorem Oby.obk {w0 w : World} {v : Value} {l : List Ot} (h : Oby w0 w v l) : Obk w0 w v l 0 := by
  obtain ⟨d, h1, h2, h3⟩ := h
  exact ⟨d, h1, h2, h3, fun i _ hi => absurd hi (by omega)⟩
theorem Obk.oby {w0 w : World} {v : Value} {l : List Ot} {k : Nat} (h : Obk w0 w v l k) : Oby w0 w v l := by
  obtain ⟨d, h1, h2, h3, _⟩ := h
  exact ⟨d, h1, h2, h3⟩
theorem Obk.old {w0 w w' : World} {v : Value} {l : List Ot} {k : Nat} (h : Obk w0 w v l k) (kk : Kept Nothing w w') : Obk w0 w' v l k := by
  obtain ⟨d, h1, h2, h3, h4⟩ := h
  refine ⟨d, h1, ow_kept h2 kk (fun _ _ x => x), fun x hx => ?_, fun i hi hk => ow_kept (h4 i hi hk) kk (fun _ _ x => x)⟩
  rcases h3 x hx with h5 | h5
  · exact .inl h5
  · exact .inr (ow_kept h5 kk (fun _ _ x => x))
/-- All of one's own. -/
theorem Obk.own {w0 w : World} {v : Value} {l : List Ot} {k : Nat} (h : Obk w0 w v l k) (hk : l.length ≤ k) : Oown w w0.heap.size v l := by
  obtain ⟨d, h1, h2, h3, h4⟩ := h
  have hd : d.length = l.length := by rw [← h1, List.length_map]
  have := Ors.flat (w := w) (B := w0.heap.size) d.toArray (fun x hx => by
    obtain ⟨i, hi, rfl⟩ := List.mem_iff_getElem.1 hx
    exact h4 i hi (by simp only at hi; omega))
  rw [flat_eq] at this
  exact ⟨d.flatMap encO, h2, by rw [← h1]; exact this⟩
/-- Behind a value's new row. -/
theorem Obk.put {w0 w : World} {B : Option Addr} {n c k : Nat} {l : List Ot} {u : Value} (h : Obk w0 w (.slice B n c) l k) (hk : k < l.length) (hu : w.ownsRow w0.heap.size 5 1 u (l.getD k ⟨0, 0, []⟩).v.length (bys (l.getD k ⟨0, 0, []⟩).v)) {g : Nat} (hB : B = some ⟨g, 0, none⟩) :
    Obk w0 (w.setCell ⟨g, k * 3 + 2, none⟩ u) (.slice B n c) l (k + 1) := by
  obtain ⟨g', cs, hA, hge, hb, hcs⟩ := h.oby.row (by omega)
  rw [hB] at hA
  injection hA with hA
  injection hA with hA
  subst hA
  obtain ⟨d, e1, h1, e3, e4⟩ := h
  have hd : d.length = l.length := by rw [← e1, List.length_map]
  obtain ⟨Au, cu, hv, -, -⟩ := ow_form hu
  have hget : (d.getD k default).1 = l.getD k ⟨0, 0, []⟩ := by
    rw [← e1, List.getD_eq_getElem?_getD, List.getD_eq_getElem?_getD, List.getElem?_map, List.getElem?_eq_getElem (by omega : k < d.length)]
    rfl
  have far : ∀ {x : Value} {m : Nat} {ys : List Value}, w.ownsRow w0.heap.size 5 1 x m ys → (w.setCell ⟨g, k * 3 + 2, none⟩ u).ownsRow w0.heap.size 5 1 x m ys := fun hx => ow_kept hx (Kept.own w g (k * 3 + 2) u) (ow_far hx hb (by decide))
  have hnew : (w.setCell ⟨g, k * 3 + 2, none⟩ u).ownsRow w0.heap.size 5 1 (.slice Au (l.getD k ⟨0, 0, []⟩).v.length cu) (d.getD k default).1.v.length (bys (d.getD k default).1.v) := by
    rw [hget, ← hv]
    exact far hu
  refine ⟨d.set k ((d.getD k default).1, Au, (l.getD k ⟨0, 0, []⟩).v.length, cu), ?_, ?_, fun x hx => ?_, fun i hi hik => ?_⟩
  · rw [List.map_set, e1, hget]
    rw [List.getD_eq_getElem?_getD, List.getElem?_eq_getElem hk]
    exact List.set_getElem_self hk
  · rw [← flat_set d k u Au _ cu (by omega) hv]
    exact own_set3 h1 (by rw [hB]; rfl) (k * 3 + 2)
  · rcases List.mem_or_eq_of_mem_set hx with hx | rfl
    · rcases e3 x hx with h5 | h5
      · exact .inl h5
      · exact .inr (far h5)
    · exact .inr hnew
  · rw [List.length_set] at hi
    by_cases e : i = k
    · subst e
      rw [List.getElem_set_self]
      exact hnew
    · rw [List.getElem_set_ne (fun x => e x.symm)]
      exact far (e4 i hi (by omega))
end Go.Proofs.YteofbpdogmajoaaGreatDoor
