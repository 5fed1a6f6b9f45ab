
/-
  A path's copy whose segments' first numbers are made one more.
-/
import Derived.Test.YteofbpdogmajoaaGreatDoorZh
namespace Go.Proofs.YteofbpdogmajoaaGreatDoor
open Go.RowKit

theorem own_lies {w : World} {base size n : Nat} {e : TypeId} {v : Value} {xs : List Value} (h : w.ownsRow base e size v n xs) (hn : 0 < n) : ∃ g cap cur, v = .slice (some ⟨g, 0, none⟩) n cap ∧ base ≤ g ∧ Blk w g e cur := by
  rcases h.2 with ⟨_, h0⟩ | ⟨g, cap, cur, hv, hb, hh, _⟩
  · omega
  · exact ⟨g, cap, cur, hv, hb, hh⟩
theorem inc_wrap (n : Nat) : IntKind.u32.wrap ((n : Int) + 1) = (((n + 1) % 4294967296 : Nat) : Int) := by
  simp [IntKind.wrap, IntKind.bits, IntKind.signed]
theorem own_setA {w : World} {base g n : Nat} {e : TypeId} {v x u : Value} {xs : List Value} (h : w.ownsRow base e 1 v n (x :: xs)) (hg : v.ownBlock = some g) : (w.setCell ⟨g, 0, none⟩ u).ownsRow base e 1 v n (u :: xs) := by
  obtain ⟨h1, h2⟩ := h
  refine ⟨h1, ?_⟩
  rcases h2 with ⟨rfl, _⟩ | ⟨g', cap, cur, rfl, hb, hh, hnc, hcm, hcs, htk⟩
  · simp [Value.ownBlock] at hg
  · obtain rfl : g' = g := by simpa [Value.ownBlock] using hg
    have hB : Blk w g' e cur := hh
    refine .inr ⟨g', cap, _, rfl, hb, hB.put 0 u, hnc, hcm, by simpa using hcs, ?_⟩
    rw [List.length_cons] at h1
    obtain ⟨m, rfl⟩ : ∃ m, n = m + 1 := ⟨n - 1, by omega⟩
    rw [Array.toList_setIfInBounds]
    cases hc : cur.toList with
    | nil => rw [hc] at htk; simp at htk
    | cons c0 r =>
      rw [hc, Nat.mul_one, List.take_succ_cons] at htk
      rw [Nat.mul_one, List.set_cons_zero, List.take_succ_cons]
      injection htk with _ h2
      rw [h2]
theorem Rws.apart {w w' : World} {B : Nat} {S : Nat → Prop} (k : Kept S w w') : ∀ {xs : List Value} {l : List Seg}, Rws w B xs l → (∀ u ∈ xs, ∀ g, u.ownBlock = some g → ¬ S g) → Rws w' B xs l
  | [], [], _, _ => trivial
  | _ :: v :: _, _ :: _, ⟨h1, h2, h3, h4⟩, hs => ⟨h1, ow_kept h2 k (fun g hg => hs v (by simp) g hg), h3, Rws.apart k h4 (fun u hu => hs u (by simp [hu]))⟩
  | [], _ :: _, h, _ => h.elim
  | [_], _, h, _ => by unfold Rws at h; exact h.elim
  | _ :: _ :: _, [], h, _ => by unfold Rws at h; exact h.elim
theorem Rws.at {w : World} {B : Nat} : ∀ {xs : List Value} {l : List Seg} (_ : Rws w B xs l) (k : Nat) (_ : k < l.length), ∃ v, xs[k * 2]? = some (by8 (l.getD k (0, [])).1) ∧ xs[k * 2 + 1]? = some v ∧ w.ownsRow B 27 1 v (l.getD k (0, [])).2.length (ass (l.getD k (0, [])).2) ∧ ∀ n ∈ (l.getD k (0, [])).2, n < 4294967296
  | _ :: v :: _, c :: _, ⟨h1, h2, h3, _⟩, 0, _ => ⟨v, by rw [h1]; rfl, rfl, h2, h3⟩
  | a :: v :: xs, c :: l, ⟨_, _, _, h4⟩, k + 1, hk => by
    obtain ⟨u, e0, e1, e2, e3⟩ := Rws.at h4 k (by simpa using hk)
    exact ⟨u, by rw [Nat.add_mul]; exact e0, by rw [Nat.add_mul]; exact e1, e2, e3⟩
  | [], [], _, k, hk => absurd hk (Nat.not_lt_zero _)
  | [], _ :: _, h, _, _ => h.elim
  | [_], _, h, _, _ => by unfold Rws at h; exact h.elim
  | _ :: _ :: _, [], h, _, _ => by unfold Rws at h; exact h.elim
theorem Rws.inc {w : World} {B g m : Nat} (hm : m < 4294967296) {n : Nat} {t : List Nat} {v : Value} : ∀ {xs : List Value} {l : List Seg} (_ : Rws w B xs l) (_ : Dist xs) (k : Nat) (_ : k < l.length) (_ : xs[k * 2 + 1]? = some v) (_ : v.ownBlock = some g) (_ : (l.getD k (0, [])).2 = n :: t),
    Rws (w.setCell ⟨g, 0, none⟩ (.int .u32 (m : Int))) B xs (l.set k ((l.getD k (0, [])).1, m :: t))
  | _ :: u :: xs, c :: l, ⟨h1, h2, h3, h4⟩, hd, 0, _, hv, hg, hl => by
    obtain rfl : u = v := by simpa using hv
    have hd2 := List.pairwise_cons.1 (List.pairwise_cons.1 hd).2
    have hl' : c.2 = n :: t := hl
    rw [hl'] at h2 h3
    refine ⟨h1, own_setA h2 hg, fun x hx => ?_, h4.apart (Kept.own w g 0 _) (fun x hx g' hg' (e : g' = g) => ?_)⟩
    · rcases List.mem_cons.1 hx with rfl | hx
      · exact hm
      · exact h3 x (List.mem_cons_of_mem _ hx)
    · subst e
      exact hd2.1 x hx g' hg hg'
  | a :: u :: xs, c :: l, ⟨h1, h2, h3, h4⟩, hd, k + 1, hk, hv, hg, hl => by
    have hd2 := List.pairwise_cons.1 (List.pairwise_cons.1 hd).2
    have hv' : xs[k * 2 + 1]? = some v := by rw [Nat.add_mul] at hv; exact hv
    refine ⟨h1, ow_kept h2 (Kept.own w g 0 _) (fun g' hg' (e : g' = g) => ?_), h3, Rws.inc hm h4 hd2.2 k (by simpa using hk) hv' hg hl⟩
    subst e
    exact hd2.1 v (List.mem_of_getElem? hv') g' hg' hg
  | [], [], _, _, k, hk, _, _, _ => absurd hk (Nat.not_lt_zero _)
  | [], _ :: _, h, _, _, _, _, _, _ => h.elim
  | [_], _, h, _, _, _, _, _, _ => by unfold Rws at h; exact h.elim
  | _ :: _ :: _, [], h, _, _, _, _, _, _ => by unfold Rws at h; exact h.elim

namespace Pt
def inc (s : Seg) : Seg := (s.1, match s.2 with | n :: t => ((n + 1) % 4294967296) :: t | [] => [])
/-- The first k segments made one more. -/
def incs (k : Nat) (l : List Seg) : List Seg := (l.take k).map inc ++ l.drop k
theorem incs_len (k : Nat) (l : List Seg) : (incs k l).length = l.length := by unfold incs; simp; omega
theorem incs_at {k : Nat} {l : List Seg} (hk : k < l.length) : (incs k l).getD k (0, []) = l.getD k (0, []) := by
  unfold incs
  have h : ((l.take k).map inc).length = k := by rw [List.length_map, List.length_take]; omega
  rw [List.getD_eq_getElem?_getD, List.getElem?_append_right (by omega), h, Nat.sub_self, List.getElem?_drop, Nat.add_zero, List.getD_eq_getElem?_getD]
theorem incs_succ {k : Nat} {l : List Seg} (hk : k < l.length) : incs (k + 1) l = (incs k l).set k (inc (l.getD k (0, []))) := by
  unfold incs
  have h : ((l.take k).map inc).length = k := by rw [List.length_map, List.length_take]; omega
  rw [List.take_succ_eq_append_getElem hk, List.map_append, List.set_append_right _ _ (by omega), h, Nat.sub_self, getD_get hk, List.drop_eq_getElem_cons hk, List.set_cons_zero]
  simp
theorem incs_ne {l : List Seg} (h : l ≠ []) (hn : ∀ s ∈ l, s.2 ≠ []) (hf : ∀ s ∈ l, ∀ n ∈ s.2, n < 4294967296) : incs l.length l ≠ l := by
  cases l with
  | nil => exact absurd rfl h
  | cons s l =>
    unfold incs
    intro e
    rw [List.take_length, List.drop_length, List.append_nil, List.map_cons] at e
    injection e with e1 _
    have h2 := congrArg Prod.snd e1
    cases hs : s.2 with
    | nil => exact hn s (by simp) hs
    | cons n t =>
      have hlt := hf s (by simp) n (by rw [hs]; simp)
      simp only [inc, hs] at h2
      injection h2 with h2 _
      omega
end Pt
end Go.Proofs.YteofbpdogmajoaaGreatDoor
