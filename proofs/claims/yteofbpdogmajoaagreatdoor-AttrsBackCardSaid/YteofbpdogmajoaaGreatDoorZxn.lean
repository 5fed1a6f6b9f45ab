
/-
  A number of a path's own row written; a list whose first ones are changed.
-/
import Derived.Test.YteofbpdogmajoaaGreatDoorZjp
import Derived.Test.YteofbpdogmajoaaGreatDoorZjt
namespace Go.Proofs.YteofbpdogmajoaaGreatDoor
open Go.RowKit

def mkS (i : Nat) (s : Seg) : Seg := (1 + s.1 % 4, if s.2 = [] then [i] else s.2.take 60)
def madeF (l : List Seg) : List Seg := (l.take 12).mapIdx mkS
theorem madeF_next {l : List Seg} {k : Nat} (hk : k < l.length) : (l.take (k + 1)).mapIdx mkS = (l.take k).mapIdx mkS ++ [mkS k (l.getD k (0, []))] := by
  rw [List.take_succ_eq_append_getElem hk, List.mapIdx_concat, getD_get hk, List.length_take]
  congr 3
  omega
theorem madeF_len (l : List Seg) : (madeF l).length ≤ 12 := by unfold madeF; rw [List.length_mapIdx, List.length_take]; omega

theorem own_oneA (w : World) (x : Value) : (w.alloc (.cells #[x] 27)).ownsRow w.heap.size 27 1 (.slice (some ⟨w.heap.size, 0, none⟩) 1 1) 1 [x] :=
  ⟨rfl, .inr ⟨w.heap.size, 1, #[x], rfl, Nat.le_refl _, heap_alloc_new w _, Nat.le_refl _, by simp [maxLen], rfl, rfl⟩⟩
theorem madeF_seg {l : List Seg} {s : Seg} (h : s ∈ madeF l) : s.2 ≠ [] ∧ s.2.length ≤ 60 ∧ 1 ≤ s.1.toNat ∧ s.1.toNat ≤ 4 := by
  unfold madeF at h
  obtain ⟨i, hi, rfl⟩ := List.mem_iff_getElem.1 h
  rw [List.getElem_mapIdx]
  generalize (l.take 12)[i]'(by simpa using hi) = t
  unfold mkS
  have : (1 + t.1 % 4 : UInt8).toNat = 1 + t.1.toNat % 4 := by rw [UInt8.toNat_add, UInt8.toNat_mod]; simp; omega
  refine ⟨?_, ?_, by rw [this]; omega, by rw [this]; omega⟩
  · simp only
    split
    · simp
    · next h => intro e; apply h; simpa using e
  · simp only
    split
    · simp
    · rw [List.length_take]; omega
theorem madeF_may (l : List Seg) : Pt.may (madeF l) = true := by
  unfold Pt.may
  rw [Bool.and_eq_true, List.all_eq_true]
  refine ⟨fun s hs => ?_, by have := madeF_len l; simp; omega⟩
  obtain ⟨h1, h2, h3, h4⟩ := madeF_seg hs
  have := List.length_pos_iff.2 h1
  unfold Pt.may1
  simp only [Bool.and_eq_true, decide_eq_true_eq]
  omega
end Go.Proofs.YteofbpdogmajoaaGreatDoor
namespace Go.Proofs.YteofbpdogmajoaaGreatDoor
open Go.RowKit

theorem own_setN {w : World} {base g n : Nat} {e : TypeId} {v u : Value} {xs : List Value} (h : w.ownsRow base e 1 v n xs) (hg : v.ownBlock = some g) (j : Nat) : (w.setCell ⟨g, j, none⟩ u).ownsRow base e 1 v n (xs.set j u) := by
  obtain ⟨h1, h2⟩ := h
  refine ⟨by rw [List.length_set]; exact h1, ?_⟩
  rcases h2 with ⟨rfl, _⟩ | ⟨g', cap, cur, rfl, hb, hh, hnc, hcm, hcs, htk⟩
  · simp [Value.ownBlock] at hg
  · obtain rfl : g' = g := by simpa [Value.ownBlock] using hg
    have hB : Blk w g' e cur := hh
    refine .inr ⟨g', cap, _, rfl, hb, hB.put j u, hnc, hcm, by simpa using hcs, ?_⟩
    rw [Array.toList_setIfInBounds, List.take_set, htk]
theorem ass_set (l : List Nat) (j m : Nat) : ass (l.set j m) = (ass l).set j (.int .u32 (m : Int)) := by unfold ass; rw [List.map_set]
theorem Rws.setN {w : World} {B g m : Nat} (hm : m < 4294967296) (j : Nat) {v : Value} : ∀ {xs : List Value} {l : List Seg} (_ : Rws w B xs l) (_ : Dist xs) (k : Nat) (_ : k < l.length) (_ : xs[k * 2 + 1]? = some v) (_ : v.ownBlock = some g),
    Rws (w.setCell ⟨g, j, none⟩ (.int .u32 (m : Int))) B xs (l.set k ((l.getD k (0, [])).1, (l.getD k (0, [])).2.set j m))
  | _ :: u :: xs, c :: l, ⟨h1, h2, h3, h4⟩, hd, 0, _, hv, hg => by
    obtain rfl : u = v := by simpa using hv
    have hd2 := List.pairwise_cons.1 (List.pairwise_cons.1 hd).2
    refine ⟨h1, ?_, fun x hx => ?_, h4.apart (Kept.own w g j _) (fun x hx g' hg' (e : g' = g) => ?_)⟩
    · show World.ownsRow _ B _ 1 u (c.2.set j m).length (ass (c.2.set j m))
      rw [List.length_set, ass_set]
      exact own_setN h2 hg j
    · rcases List.mem_or_eq_of_mem_set hx with hx | rfl
      · exact h3 x hx
      · exact hm
    · subst e
      exact hd2.1 x hx g' hg hg'
  | a :: u :: xs, c :: l, ⟨h1, h2, h3, h4⟩, hd, k + 1, hk, hv, hg => by
    have hd2 := List.pairwise_cons.1 (List.pairwise_cons.1 hd).2
    have hv' : xs[k * 2 + 1]? = some v := by rw [Nat.add_mul] at hv; exact hv
    refine ⟨h1, ow_kept h2 (Kept.own w g j _) (fun g' hg' (e : g' = g) => ?_), h3, Rws.setN hm j h4 hd2.2 k (by simpa using hk) hv' hg⟩
    subst e
    exact hd2.1 v (List.mem_of_getElem? hv') g' hg' hg
  | [], [], _, _, k, hk, _, _ => absurd hk (Nat.not_lt_zero _)
  | [], _ :: _, h, _, _, _, _, _ => h.elim
  | [_], _, h, _, _, _, _, _ => by unfold Rws at h; exact h.elim
  | _ :: _ :: _, [], h, _, _, _, _, _ => by unfold Rws at h; exact h.elim

namespace Wk
/-- The first j of a list changed by f. -/
def mix {α : Type} (f : α → α) (j : Nat) (l : List α) : List α := (l.take j).map f ++ l.drop j
section
variable {α : Type} {f : α → α} {j : Nat} {l : List α}
theorem mix_len : (mix f j l).length = l.length := by unfold mix; simp; omega
theorem mix_zero : mix f 0 l = l := by simp [mix]
theorem mix_all : mix f l.length l = l.map f := by simp [mix]
theorem mix_at (d : α) (hj : j < l.length) : (mix f j l).getD j d = l.getD j d := by
  unfold mix
  have h : ((l.take j).map f).length = j := by rw [List.length_map, List.length_take]; omega
  rw [List.getD_eq_getElem?_getD, List.getElem?_append_right (by omega), h, Nat.sub_self, List.getElem?_drop, Nat.add_zero, List.getD_eq_getElem?_getD]
theorem mix_succ (d : α) (hj : j < l.length) : mix f (j + 1) l = (mix f j l).set j (f (l.getD j d)) := by
  unfold mix
  have h : ((l.take j).map f).length = j := by rw [List.length_map, List.length_take]; omega
  have hg : l.getD j d = l[j] := by rw [List.getD_eq_getElem?_getD, List.getElem?_eq_getElem hj]; rfl
  rw [List.take_succ_eq_append_getElem hj, List.map_append, List.set_append_right _ _ (by omega), h, Nat.sub_self, hg, List.drop_eq_getElem_cons hj, List.set_cons_zero]
  simp
theorem mix_skip (d : α) (hj : j < l.length) (h : f (l.getD j d) = l.getD j d) : mix f (j + 1) l = mix f j l := by
  rw [mix_succ d hj, h]
  have h2 := mix_at (f := f) d hj
  have hj2 : j < (mix f j l).length := by rw [mix_len]; exact hj
  have e2 : l.getD j d = (mix f j l)[j] := by rw [← h2, List.getD_eq_getElem?_getD, List.getElem?_eq_getElem hj2]; rfl
  rw [e2, List.set_getElem_self]
end
end Wk
theorem ass_at {l : List Nat} {j : Nat} (hj : j < l.length) : (ass l)[j]? = some (.int .u32 ((l.getD j 0 : Nat) : Int)) := by
  unfold ass
  rw [List.getElem?_map, List.getElem?_eq_getElem hj, List.getD_eq_getElem?_getD, List.getElem?_eq_getElem hj]
  rfl

end Go.Proofs.YteofbpdogmajoaaGreatDoor
