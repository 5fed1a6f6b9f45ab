
/-
  Two lists of messages compared; what the examples of chapter 3 say.
-/
import Derived.Test.YtohkhcobljenjaaFu
import Derived.Deep.QuietTactic
import Derived.BigQuiet
namespace Go.Proofs.Ytohkhcobljenjaa
open Go.RowKit

theorem alike_len {w : World} {base : Nat} {F : Nat → Prop} {v : Value} {l : List Msg} (h : Ms w base F v l) : ∃ A c, v = .slice A l.length c ∧ l.length ≤ c ∧ c ≤ maxLen := by
  obtain ⟨tl, rfl, h2, _⟩ := h
  obtain ⟨A, c, rfl, h3, h4⟩ := own_form h2
  exact ⟨A, c, by rw [List.length_map], by rw [List.length_map]; exact h3, h4⟩

theorem mcs_at (tl : List (Msg × Value)) (i : Nat) (h : i < tl.length) : (mcs tl)[i * 2]? = some (.int .u8 ((tl[i]).1.1.toNat : Int)) ∧ (mcs tl)[i * 2 + 1]? = some (tl[i]).2 := by
  induction tl generalizing i with
  | nil => simp at h
  | cons a r ih =>
    cases i with
    | zero => exact ⟨rfl, rfl⟩
    | succ i =>
      have := ih i (by simpa using h)
      have e : mcs (a :: r) = [.int .u8 (a.1.1.toNat : Int), a.2] ++ mcs r := rfl
      rw [e]
      refine ⟨?_, ?_⟩
      · rw [List.getElem?_append_right (by simp; omega)]
        have e2 : (i + 1) * 2 - ([.int .u8 (a.1.1.toNat : Int), a.2] : List Value).length = i * 2 := by simp; omega
        rw [e2, this.1]; rfl
      · rw [List.getElem?_append_right (by simp; omega)]
        have e2 : (i + 1) * 2 + 1 - ([.int .u8 (a.1.1.toNat : Int), a.2] : List Value).length = i * 2 + 1 := by simp; omega
        rw [e2, this.2]; rfl

/-- The i-th message in memory. -/
theorem Ms.at {w : World} {base : Nat} {F : Nat → Prop} {A : Option Addr} {n c : Nat} {l : List Msg} (h : Ms w base F (.slice A n c) l) {i : Nat} (hi : i < n) :
    ∃ b x, A = some ⟨b, 0, none⟩ ∧ w.cell? ⟨b, i * 2, none⟩ = some (.int .u8 ((l.getD i (0, [])).1.toNat : Int)) ∧ w.cell? ⟨b, i * 2 + 1, none⟩ = some x ∧ Bs w x (l.getD i (0, [])).2 := by
  obtain ⟨tl, rfl, h2, h3⟩ := h
  rcases h2.2 with ⟨e, h0⟩ | ⟨g, cap, cur, e, _, hg, hn, hm, hs, ht⟩
  · injection e with e1 e2 e3; omega
  · injection e with e1 e2 e3
    subst e2
    obtain ⟨m1, m2⟩ := mcs_at tl i hi
    rw [← ht] at m1 m2
    rw [List.getElem?_take_of_lt (by omega), Array.getElem?_toList] at m1 m2
    have hd : (tl.map (·.1)).getD i (0, []) = (tl[i]).1 := by
      rw [List.getD_eq_getElem?_getD, List.getElem?_map, List.getElem?_eq_getElem hi]; rfl
    rw [hd]
    exact ⟨g, (tl[i]).2, e1, by rw [cell_of_row w g _ cur _ _ hg]; exact m1, by rw [cell_of_row w g _ cur _ _ hg]; exact m2, (h3 _ (List.getElem_mem hi)).1⟩

theorem equal_bs {w : World} {a b : Value} {l m : List UInt8} (ha : Bs w a l) (hb : Bs w b m) (n : Nat) :
    Calls Try.prog 12 #[a, b] (w.drewN n) fun e w'' => e = .returned (.bool (l == m)) ∧ ∃ k, w'' = w.drewN k :=
  (by_equal a b l m _ (ha.kept ((Kept.refl Nothing w).drewN n) (NoBytes.nothing _)).by (hb.kept ((Kept.refl Nothing w).drewN n) (NoBytes.nothing _)).by).mono fun _ _ ⟨h1, h2⟩ => ⟨h1, n, h2.symm⟩

end Go.Proofs.Ytohkhcobljenjaa
