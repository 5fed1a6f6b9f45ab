
/-
  What a clock rings, read of its row; clocks that were started, pure; the capped ticks.
-/
import Derived.Test.YtdhbfhjlholnlaaZm
import Derived.Test.YtdhbfhjlholnlaaZz
namespace Go.Proofs.Ytdhbfhjlholnlaa
open Go.RowKit

/-- The slice value v reads as what is rung. -/
def Rgs (w : World) (v : Value) (l : List (Nat × Int)) : Prop := ∃ A c, v = .slice A l.length c ∧ (0 < l.length → ∃ b o, A = some ⟨b, o, none⟩ ∧ ∀ i, i < l.length →
  w.cell? ⟨b, o + i * 3, none⟩ = some (.int .i64 ((l.getD i (0, 0)).1 : Int)) ∧ w.cell? ⟨b, o + i * 3 + 1, none⟩ = some (.bool true) ∧ w.cell? ⟨b, o + i * 3 + 2, none⟩ = some (.int .i64 (l.getD i (0, 0)).2))
theorem rgs_at : ∀ (l : List (Nat × Int)) (i : Nat), i < l.length → (Ck.rgs l)[i * 3]? = some (.int .i64 ((l.getD i (0, 0)).1 : Int)) ∧ (Ck.rgs l)[i * 3 + 1]? = some (.bool true) ∧ (Ck.rgs l)[i * 3 + 2]? = some (.int .i64 (l.getD i (0, 0)).2)
  | [], _, h => by simp at h
  | x :: l, 0, _ => by simp [Ck.rgs]
  | x :: l, i + 1, h => by
    have := rgs_at l i (by simpa using h)
    have e : Ck.rgs (x :: l) = [.int .i64 (x.1 : Int), .bool true, .int .i64 x.2] ++ Ck.rgs l := rfl
    rw [e]
    have h1 : ∀ j, ([.int .i64 (x.1 : Int), .bool true, .int .i64 x.2] ++ Ck.rgs l)[(i + 1) * 3 + j]? = (Ck.rgs l)[i * 3 + j]? := fun j => by
      rw [List.getElem?_append_right (by simp; omega)]
      congr 1
      simp
      omega
    have h0 := h1 0
    rw [Nat.add_zero, Nat.add_zero] at h0
    rw [h0, h1 1, h1 2]
    simpa using this
theorem Rgs.of_own {w : World} {base : Nat} {e : TypeId} {v : Value} {l : List (Nat × Int)} {n : Nat} (h : w.ownsRow base e 3 v n (Ck.rgs l)) (hn : n = l.length) : Rgs w v l := by
  subst hn
  obtain ⟨A, c, hv0, _, _⟩ := ow_form h
  obtain ⟨_, h2⟩ := h
  refine ⟨A, c, hv0, fun h0 => ?_⟩
  rcases h2 with ⟨rfl, h0'⟩ | ⟨g, cap, cur, hv, _, hg, _, _, _, ht⟩
  · omega
  · rw [hv] at hv0
    injection hv0 with hA
    refine ⟨g, 0, hA.symm, fun i hi => ?_⟩
    obtain ⟨h1, h2, h3⟩ := rgs_at l i hi
    have cell : ∀ j, j < l.length * 3 → w.cell? ⟨g, 0 + j, none⟩ = (Ck.rgs l)[j]? := fun j hj => by
      rw [cell_of_row w g _ cur e (0, 0) hg, ← ht, List.getElem?_take_of_lt hj, Array.getElem?_toList, Nat.zero_add]
    have e0 := cell (i * 3) (by omega)
    have e1 := cell (i * 3 + 1) (by omega)
    have e2 := cell (i * 3 + 2) (by omega)
    exact ⟨by rw [e0, h1], by rw [Nat.add_assoc, e1, h2], by rw [Nat.add_assoc, e2, h3]⟩
theorem Rgs.old {w w' : World} {v : Value} {l : List (Nat × Int)} (h : Rgs w v l) (k : Kept Nothing w w') : Rgs w' v l := by
  obtain ⟨A, c, hv, hr⟩ := h
  refine ⟨A, c, hv, fun h0 => ?_⟩
  obtain ⟨b, o, hA, hc⟩ := hr h0
  exact ⟨b, o, hA, fun i hi => ⟨k.cell_some (hc i hi).1 (fun x => x), k.cell_some (hc i hi).2.1 (fun x => x), k.cell_some (hc i hi).2.2 (fun x => x)⟩⟩
theorem rgs_one (l : List (Nat × Int)) : ∀ u ∈ Ck.rgs l, u.oneCell' = true := by
  intro u hu
  unfold Ck.rgs at hu
  obtain ⟨x, _, hx⟩ := List.mem_flatMap.1 hu
  simp at hx
  rcases hx with rfl | rfl | rfl <;> rfl

namespace Ck
/-- Ticks brought to 2^20. -/
def cap (x : Int) : Int := min x 1048576
theorem cap_le (x : Int) : cap x ≤ 1048576 := by unfold cap; omega
theorem cap_cases (x : Int) : x ≤ 1048576 ∧ cap x = x ∨ 1048576 < x ∧ cap x = 1048576 := by unfold cap; omega
/-- Until when a timer runs. -/
def til (n x : Int) : Option Int := if 0 ≤ x then some (n + x) else none
theorem started_succ {n : Int} {l : List Int} {k : Nat} {t : List (Option Int)} (h : started n l k = ⟨n, t⟩) (hn : n ≤ 1048576) (hx : l.getD k 0 ≤ 1048576) :
    started n l (k + 1) = ⟨n, if 0 ≤ l.getD k 0 then t.set k (some (n + l.getD k 0)) else t⟩ := by
  unfold started
  rw [h]
  split
  · unfold start
    simp only
    rw [show min (l.getD k 0) (MT - n) = l.getD k 0 by unfold MT; omega]
  · rfl
theorem started_four (n a b c d : Int) (hn : n ≤ 1048576) : started n [cap a, cap b, cap c, cap d] 4 = ⟨n, [til n (cap a), til n (cap b), til n (cap c), til n (cap d)]⟩ := by
  have ha := cap_le a
  have hb := cap_le b
  have hc := cap_le c
  have hd := cap_le d
  generalize cap a = a at *
  generalize cap b = b at *
  generalize cap c = c at *
  generalize cap d = d at *
  have s1 := started_succ (n := n) (l := [a, b, c, d]) (k := 0) rfl hn ha
  have s2 := started_succ s1 hn (by exact hb)
  have s3 := started_succ s2 hn (by exact hc)
  have s4 := started_succ s3 hn (by exact hd)
  rw [s4]
  simp only [List.getD_cons_zero, List.getD_cons_succ, Nat.zero_add, Nat.reduceAdd]
  unfold til
  split <;> split <;> split <;> split <;> rfl
end Ck
end Go.Proofs.Ytdhbfhjlholnlaa
