
/-
  Two lists of messages compared; what the examples of chapter 3 say.
-/
import Derived.Test.YtkfhnkikddmccaaFu
import Derived.Deep.QuietTactic
import Derived.BigQuiet
namespace Go.Proofs.Ytkfhnkikddmccaa
open Go.RowKit

theorem alike_len {w : World} {base : Nat} {F : Nat → Prop} {v : Value} {l : List Msg} (h : Ms w base F v l) : ∃ A c, v = .slice A l.length c ∧ l.length ≤ c ∧ c ≤ maxLen := by
  obtain ⟨tl, rfl, h2, _⟩ := h
  obtain ⟨A, c, rfl, h3, h4⟩ := own_form h2
  exact ⟨A, c, by rw [List.length_map], by rw [List.length_map]; exact h3, h4⟩

theorem mcs_at (tl : List (Msg × Value)) (i : Nat) (h : i < tl.length) : (mcs tl)[i * 2]? = some (.int .u8 ((tl[i]).1.1.toNat : Int)) ∧ (mcs tl)[i * 2 + 1]? = some (tl[i]).2 := by
  induction tl generalizing i with
  | nil => simp at h
  | cons a r ih =>
    cases i with
    | zero => exact ⟨rfl, rfl⟩
    | succ i =>
      have := ih i (by simpa using h)
      have e : mcs (a :: r) = [.int .u8 (a.1.1.toNat : Int), a.2] ++ mcs r := rfl
      rw [e]
      refine ⟨?_, ?_⟩
      · rw [List.getElem?_append_right (by simp; omega)]
        have e2 : (i + 1) * 2 - ([.int .u8 (a.1.1.toNat : Int), a.2] : List Value).length = i * 2 := by simp; omega
        rw [e2, this.1]; rfl
      · rw [List.getElem?_append_right (by simp; omega)]
        have e2 : (i + 1) * 2 + 1 - ([.int .u8 (a.1.1.toNat : Int), a.2] : List Value).length = i * 2 + 1 := by simp; omega
        rw [e2, this.2]; rfl

/-- The i-th message in memory. -/
theorem Ms.at {w : World} {base : Nat} {F : Nat → Prop} {A : Option Addr} {n c : Nat} {l : List Msg} (h : Ms w base F (.slice A n c) l) {i : Nat} (hi : i < n) :
    ∃ b x, A = some ⟨b, 0, none⟩ ∧ w.cell? ⟨b, i * 2, none⟩ = some (.int .u8 ((l.getD i (0, [])).1.toNat : Int)) ∧ w.cell? ⟨b, i * 2 + 1, none⟩ = some x ∧ Bs w x (l.getD i (0, [])).2 := by
  obtain ⟨tl, rfl, h2, h3⟩ := h
  rcases h2.2 with ⟨e, h0⟩ | ⟨g, cap, cur, e, _, hg, hn, hm, hs, ht⟩
  · injection e with e1 e2 e3; omega
  · injection e with e1 e2 e3
    subst e2
    obtain ⟨m1, m2⟩ := mcs_at tl i hi
    rw [← ht] at m1 m2
    rw [List.getElem?_take_of_lt (by omega), Array.getElem?_toList] at m1 m2
    have hd : (tl.map (·.1)).getD i (0, []) = (tl[i]).1 := by
      rw [List.getD_eq_getElem?_getD, List.getElem?_map, List.getElem?_eq_getElem hi]; rfl
    rw [hd]
    exact ⟨g, (tl[i]).2, e1, by rw [cell_of_row w g _ cur _ _ hg]; exact m1, by rw [cell_of_row w g _ cur _ _ hg]; exact m2, (h3 _ (List.getElem_mem hi)).1⟩

theorem equal_bs {w : World} {a b : Value} {l m : List UInt8} (ha : Bs w a l) (hb : Bs w b m) (n : Nat) :
    Calls Try.prog 14 #[a, b] (w.drewN n) fun e w'' => e = .returned (.bool (l == m)) ∧ ∃ k, w'' = w.drewN k :=
  (by_equal a b l m _ (ha.kept ((Kept.refl Nothing w).drewN n) (NoBytes.nothing _)).by (hb.kept ((Kept.refl Nothing w).drewN n) (NoBytes.nothing _)).by).mono fun _ _ ⟨h1, h2⟩ => ⟨h1, n, h2.symm⟩

set_option maxHeartbeats 400000 in
/-- The same messages, whatever slices they lie in. -/
theorem alike_same (v1 v2 : Value) (l : List Msg) (B1 B2 : Nat) (F1 F2 : Nat → Prop) (w : World) (h1 : Ms w B1 F1 v1 l) (h2 : Ms w B2 F2 v2 l) (hl : l.length ≤ 1000000) :
    Calls Try.prog 17 #[v1, v2] w fun r w' => r = .returned (.bool true) ∧ Kept Nothing w w' := by
  obtain ⟨A1, c1, rfl, hc1, hm1⟩ := alike_len h1
  obtain ⟨A2, c2, rfl, hc2, hm2⟩ := alike_len h2
  have H1 := Lib.hid h1
  have H2 := Lib.hid h2
  clear h1 h2
  go_enter Try.func17, Try.ntmps17
  go_wp2_with fail
  go_loopw [13] (fun i wr => ∃ k : Nat, i = .int .i64 (k : Int) ∧ k ≤ l.length ∧ Kept Nothing w wr) (fun i _ => l.length - (intOf i).toNat)
  case atStart => exact ⟨0, rfl, Nat.zero_le _, Kept.refl _ _⟩
  case round =>
    obtain ⟨k, rfl, hk, hkk⟩ := hrel
    have KK := Lib.hid hkk
    clear hkk
    by_cases hlt : k < l.length
    · obtain ⟨b1, x1, rfl, p0, p1, hx1⟩ := (H1.out.old KK.out).at hlt
      obtain ⟨b2, x2, rfl, q0, q1, hx2⟩ := (H2.out.old KK.out).at hlt
      have X1 := Lib.hid hx1
      have X2 := Lib.hid hx2
      have i1 : (0 : Int) ≤ (k : Int) := by omega
      have i2 : (k : Int) < (l.length : Int) := by omega
      have d1 : (((l.getD k (0, [])).1.toNat : Int) != ((l.getD k (0, [])).1.toNat : Int)) = false := by simp
      have d2 : ((l.getD k (0, [])).2 == (l.getD k (0, [])).2) = true := beq_self_eq_true _
      generalize (l.getD k (0, [])).1.toNat = t at *
      have E := Lib.hid (fun m => equal_bs X1.out X2.out m)
      rw [d2] at E
      clear hx1 hx2 d2
      go_wp2_with fail
      go_quiet ((go_at_call 14; exact E.out _))
      go_wp2
      go_roundw
      case rel => exact ⟨k + 1, by go_num, by omega, KK.out.drewN _⟩
      case measure => simp [intOf]; omega
    · go_wp2
      go_ret
      exact ⟨rfl, KK.out⟩
end Go.Proofs.Ytkfhnkikddmccaa
