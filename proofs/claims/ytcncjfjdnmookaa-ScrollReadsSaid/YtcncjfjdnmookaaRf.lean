/-
  What the calls of the document's own reader (package consulateref01) do, each in whatever memory: the same plain data as the program's reader.
-/
import Derived.Test.YtcncjfjdnmookaaSt
import Derived.Test.YtcncjfjdnmookaaWf
namespace Go.Proofs.Ytcncjfjdnmookaa
open Go.RowKit

/-- The blocks that the document's reader is made of, but for its bytes. -/
def fown (p : Nat) (ev : Value) : Nat → Prop := fun k => k = p ∨ ev.ownBlock = some k

/-- At block p lies the document's reader, and it is s; what it owns lies from base on, its bytes below. -/
def Rf (w : World) (base : Nat) (F : Nat → Prop) (p : Nat) (s : RS) : Prop :=
  ∃ A c ev, F = fown p ev ∧ base ≤ p ∧ Blk w p 30 #[.slice A s.l.length c, .int .i64 (s.k : Int), ev, .int .i64 s.e] ∧ By w (.slice A s.l.length c) s.l ∧ (∀ a, A = some a → 0 < s.l.length → a.block < base) ∧
    w.ownsRow base 3 1 ev s.es.length (ints s.es.reverse) ∧ s.ok

section
variable {w w' : World} {base : Nat} {F : Nat → Prop} {p : Nat} {s : RS}
theorem Rf.ok (h : Rf w base F p s) : s.ok := by obtain ⟨_, _, _, _, _, _, _, _, _, h⟩ := h; exact h
/-- What kinds of blocks it is made of. -/
theorem Rf.kinds (h : Rf w base F p s) {k : Nat} (hk : F k) : base ≤ k ∧ ∃ cs t, w.heap[k]? = some (.cells cs t (0, 0)) ∧ (t = 30 ∨ t = 3) := by
  obtain ⟨A, c, ev, rfl, hp, hb, _, _, ho, _⟩ := h
  rcases hk with rfl | hk
  · exact ⟨hp, _, _, hb, .inl rfl⟩
  · obtain ⟨cs, hh⟩ := own_lt ho hk
    refine ⟨?_, cs, _, hh, .inr rfl⟩
    rcases ho.2 with ⟨rfl, _⟩ | ⟨g', cap, cur, rfl, hbs, _⟩
    · simp [Value.ownBlock] at hk
    · have : g' = k := by simpa [Value.ownBlock] using hk
      omega
theorem Rf.kept {S : Nat → Prop} (h : Rf w base F p s) (k : Kept S w w') (hs : ∀ g, F g → ¬ S g) (hb : ∀ g, S g → base ≤ g) : Rf w' base F p s := by
  obtain ⟨A, c, ev, rfl, hp, h1, h2, h3, h4, h5⟩ := h
  exact ⟨A, c, ev, rfl, hp, h1.kept k (hs _ (.inl rfl)), h2.kept k (fun a ha h0 x => by have := h3 a ha h0; have := hb _ x; omega), h3, own_kept h4 k (fun g hg => hs g (.inr hg)), h5⟩
theorem Rf.old (h : Rf w base F p s) (k : Kept Nothing w w') : Rf w' base F p s := h.kept k (fun _ _ x => x) (fun _ x => x.elim)
theorem Rf.drewN (h : Rf w base F p s) (n : Nat) : Rf (w.drewN n) base F p s := h.old ((Kept.refl Nothing w).drewN n)
end

theorem f_cells4 {w : World} {p : Nat} {t : TypeId} {a b c d : Value} (h : Blk w p t #[a, b, c, d]) :
    (w.cell? ⟨p, 0, none⟩ = some a ∧ w.cell? ⟨p, 1, none⟩ = some b ∧ w.cell? ⟨p, 2, none⟩ = some c ∧ w.cell? ⟨p, 3, none⟩ = some d) ∧
    (w.frozen? ⟨p, 1, none⟩ = false ∧ w.frozen? ⟨p, 2, none⟩ = false ∧ w.frozen? ⟨p, 3, none⟩ = false) :=
  ⟨⟨h.cell 0, h.cell 1, h.cell 2, h.cell 3⟩, h.free 1, h.free 2, h.free 3⟩

/-- Behind a store into its own block. -/
theorem Rf.own_step {w : World} {base p i : Nat} {ev : Value} {u : Value} {A : Option Addr} {n c m : Nat} {l : List UInt8} {xs : List Value} {cs : Array Value} (hp : base ≤ p) (hb : Blk w p 30 cs) (h2 : By w (.slice A n c) l) (h3 : ∀ a, A = some a → 0 < l.length → a.block < base)
    (h4 : w.ownsRow base 3 1 ev m xs) : By (w.setCell ⟨p, i, none⟩ u) (.slice A n c) l ∧ (w.setCell ⟨p, i, none⟩ u).ownsRow base 3 1 ev m xs := by
  have k := Kept.own w p i u
  refine ⟨h2.kept k (fun a ha h0 e => by have := h3 a ha h0; have e' : a.block = p := e; omega), own_kept h4 k (fun g hg e => ?_)⟩
  obtain ⟨cs', hh⟩ := own_lt h4 hg
  exact hb.apart (t' := 3) hh (by decide) e.symm
theorem Rf.put3 {w : World} {base p : Nat} {F : Nat → Prop} {s : RS} (h : Rf w base F p s) (x : Int) : Rf (w.setCell ⟨p, 3, none⟩ (.int .i64 x)) base F p { s with e := x } ∧ Kept F w (w.setCell ⟨p, 3, none⟩ (.int .i64 x)) := by
  obtain ⟨A, c, ev, rfl, hp, h1, h2, h3, h4, h5⟩ := h
  obtain ⟨g2, g4⟩ := Rf.own_step (i := 3) (u := .int .i64 x) hp h1 h2 h3 h4
  exact ⟨⟨A, c, ev, rfl, hp, h1.put 3 _, g2, h3, g4, h5⟩, (Kept.own w p 3 _).mono (fun _ e => .inl e)⟩
theorem Rf.put1 {w : World} {base p : Nat} {F : Nat → Prop} {s : RS} (h : Rf w base F p s) (k : Nat) (hk : RS.ok { s with k := k }) : Rf (w.setCell ⟨p, 1, none⟩ (.int .i64 (k : Int))) base F p { s with k := k } ∧ Kept F w (w.setCell ⟨p, 1, none⟩ (.int .i64 (k : Int))) := by
  obtain ⟨A, c, ev, rfl, hp, h1, h2, h3, h4, h5⟩ := h
  obtain ⟨g2, g4⟩ := Rf.own_step (i := 1) (u := .int .i64 (k : Int)) hp h1 h2 h3 h4
  exact ⟨⟨A, c, ev, rfl, hp, h1.put 1 _, g2, h3, g4, hk⟩, (Kept.own w p 1 _).mono (fun _ e => .inl e)⟩

theorem rf_fail (p base : Nat) (F : Nat → Prop) (s : RS) (x : Int) (w : World) (h : Rf w base F p s) :
    Calls Try.prog 56 #[.pointer (some ⟨p, 0, none⟩), .int .i64 x] w fun r w' => r = .returned (.tuple #[]) ∧ Rf w' base F p (s.fail x) ∧ Kept F w w' := by
  have HR := Lib.hid h
  obtain ⟨A, c, ev, _, _, hb, _⟩ := h
  obtain ⟨⟨-, -, -, h3⟩, -, -, f3⟩ := f_cells4 hb
  clear hb
  by_cases he : s.e = 0
  · have hn : (s.e == 0) = true := by simpa using he
    have HF : Hid (s.fail x = { s with e := x }) := if_pos he
    rw [HF.out]
    clear he HF
    go_enter Try.func56, Try.ntmps56
    go_wp2
    go_end0
    exact ⟨rfl, HR.out.put3 x⟩
  · have hn : (s.e == 0) = false := by simpa using he
    have HF : Hid (s.fail x = s) := if_neg he
    rw [HF.out]
    clear he HF
    go_enter Try.func56, Try.ntmps56
    go_wp2
    go_end0
    exact ⟨rfl, HR.out, Kept.refl _ _⟩

/-- The last end, in its row. -/
theorem own_last {w : World} {base : Nat} {ev : Value} {a : Nat} {r : List Nat} (h : w.ownsRow base 3 1 ev (a :: r).length (ints (a :: r).reverse)) :
    ∃ g c, ev = .slice (some ⟨g, 0, none⟩) (r.length + 1) c ∧ r.length + 1 ≤ c ∧ c ≤ maxLen ∧ w.cell? ⟨g, r.length, none⟩ = some (.int .i64 (a : Int)) := by
  obtain ⟨g, cap, cur, rfl, hbk, hcap, hcm, hcs, htk⟩ := own_open h (by simp)
  refine ⟨g, cap, rfl, hcap, hcm, ?_⟩
  rw [hbk.cell, ← Array.getElem?_toList, ← List.getElem?_take_of_lt (j := (a :: r).length * 1) (by simp), htk]
  unfold ints
  rw [List.getElem?_map]
  simp

theorem rf_left (p base : Nat) (F : Nat → Prop) (s : RS) (w : World) (h : Rf w base F p s) :
    Calls Try.prog 12 #[.pointer (some ⟨p, 0, none⟩)] w fun r w' => r = .returned (.int .i64 (s.left : Int)) ∧ ∃ n, w' = w.drewN n := by
  have hle := h.ok.le
  have htl := h.ok.top_le
  have hmx := h.ok.2
  obtain ⟨A, c, ev, _, _, hb, _, _, ho, _⟩ := h
  obtain ⟨⟨h0, h1, h2, h3⟩, -⟩ := f_cells4 hb
  clear hb
  obtain ⟨l, k, es, e⟩ := s
  simp only at h0 h1 h2 h3 ho hmx
  by_cases he : e = 0
  · subst he
    have HL : Hid (RS.left ⟨l, k, es, 0⟩ = RS.top ⟨l, k, es, 0⟩ - k) := RS.left_zero rfl
    cases es with
    | nil =>
      obtain ⟨A1, c1, rfl, _, _⟩ := own_form ho
      simp only [RS.top, List.length_nil] at hle htl HL h2
      clear ho
      go_enter Try.func12, Try.ntmps12
      go_wp2
      go_quiet (fail)
      go_wp2
      go_ret
      refine ⟨ret_int ?_, _, rfl⟩
      rw [HL.out]
      omega
    | cons a r =>
      obtain ⟨g, c1, rfl, hc1, hc2, hlast⟩ := own_last ho
      simp only [RS.top] at hle htl HL
      unfold maxLen at hc2
      have hg0 : (0 : Int) < (r.length : Int) + 1 := by omega
      clear ho
      go_enter Try.func12, Try.ntmps12
      go_wp2
      go_quiet (fail)
      go_wp2
      go_ret
      refine ⟨ret_int ?_, _, rfl⟩
      rw [HL.out]
      omega
  · have hn : (e != 0) = true := by simpa using he
    have HL : Hid (RS.left ⟨l, k, es, e⟩ = 0) := by unfold RS.left; exact if_neg he
    clear ho
    go_enter Try.func12, Try.ntmps12
    go_wp2
    go_ret
    refine ⟨ret_int ?_, 0, rfl⟩
    rw [HL.out]
    rfl
end Go.Proofs.Ytcncjfjdnmookaa
