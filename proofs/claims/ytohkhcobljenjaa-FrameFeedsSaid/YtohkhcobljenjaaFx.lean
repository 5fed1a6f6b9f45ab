
/-
  Messages appended; two intakes beside each other (for the law FrameChunks).
-/
import Derived.Test.YtohkhcobljenjaaFw
namespace Go.Proofs.Ytohkhcobljenjaa
open Go.RowKit

theorem mcs_cells {w : World} {tl : List (Msg × Value)} {P : Value → Prop} (h : ∀ x ∈ tl, Bs w x.2 x.1.2 ∧ P x.2) : ∀ u ∈ mcs tl, u.oneCell' = true := by
  intro u hu
  unfold mcs at hu
  obtain ⟨x, hx, hu⟩ := List.mem_flatMap.1 hu
  rcases List.mem_cons.1 hu with rfl | hu
  · rfl
  · obtain rfl := List.mem_singleton.1 hu
    obtain ⟨A, c, e, _⟩ := (h x hx).1.form
    rw [e]; rfl
theorem own_src {w : World} {base : Nat} {e : TypeId} {size n m c : Nat} {A : Option Addr} {xs : List Value} (h : w.ownsRow base e size (.slice A m c) n xs) (h1 : ∀ u ∈ xs, u.oneCell' = true) : m = n ∧ Src w size A n xs := by
  obtain ⟨hl, h2⟩ := h
  rcases h2 with ⟨e1, rfl⟩ | ⟨g, cap, cur, e1, hb, hg, hn, hm, hs, ht⟩
  · injection e1 with e2 e3 e4
    subst e2 e3
    refine ⟨rfl, hl, fun _ => rfl, (fun a h => by cases h), h1⟩
  · injection e1 with e2 e3 e4
    subst e2 e3 e4
    refine ⟨rfl, hl, (fun h => by cases h), fun a ha j u hu => ?_, h1⟩
    injection ha with ha
    subst ha
    have hj : j < xs.length := (List.getElem?_eq_some_iff.1 hu).1
    rw [add_none, Nat.zero_add, cell_of_row w g _ cur _ _ hg, ← hu, ← ht, List.getElem?_take_of_lt (by omega), Array.getElem?_toList]

/-- What append makes of the messages told so far, and of those of one Feed. -/
theorem ms_append {w w' : World} {B B2 : Nat} {F : Nat → Prop} {l l2 : List Msg} {tl tl2 : List (Msg × Value)} {mv v' : Value} (hB : B ≤ B2)
    (e1 : tl.map (·.1) = l) (o1 : w.ownsRow B 49 2 mv tl.length (mcs tl)) (b1 : ∀ x ∈ tl, Bs w x.2 x.1.2 ∧ Off F x.2 ∧ Past B x.2)
    (e2 : tl2.map (·.1) = l2) (b2 : ∀ x ∈ tl2, Bs w x.2 x.1.2 ∧ Off F x.2 ∧ Past B2 x.2)
    (ho : w'.ownsRow B 49 2 v' (tl.length + tl2.length) (mcs tl ++ mcs tl2)) (hg : w.grownBy w' mv.ownBlock) :
    Ms w' B F v' (l ++ l2) ∧ Kept (fun k => mv.ownBlock = some k) w w' ∧ (∀ k, mv.ownBlock = some k → B ≤ k ∧ ∃ cs, w.heap[k]? = some (.cells cs 49 (0, 0))) := by
  have kg : Kept (fun k => mv.ownBlock = some k) w w' := (Kept.refl _ w).grown hg (fun k hk _ => hk)
  have nb : NoBytes w (fun k => mv.ownBlock = some k) := fun k hk cs f e => by
    obtain ⟨cs', hh⟩ := own_lt o1 hk
    rw [hh] at e
    injection e with e
    injection e with _ e2
    exact absurd e2 (by decide)
  refine ⟨⟨tl ++ tl2, by rw [List.map_append, e1, e2], by rw [mcs_append, List.length_append]; exact ho, fun x hx => ?_⟩, kg, fun k hk => ⟨own_ge o1 hk, own_lt o1 hk⟩⟩
  rcases List.mem_append.1 hx with hx | hx
  · exact ⟨(b1 x hx).1.kept kg nb, (b1 x hx).2⟩
  · exact ⟨(b2 x hx).1.kept kg nb, (b2 x hx).2.1, fun a n c e h0 => Nat.le_trans hB ((b2 x hx).2.2 a n c e h0)⟩

/-- An intake stays behind a store into a row of messages. -/
theorem In.row {w w' : World} {F D : Nat → Prop} {p : Nat} {s : Fr.IS} {S : Nat → Prop} (h : In w F D p s) (k : Kept S w w') (hs : ∀ g, S g → (∃ cs, w.heap[g]? = some (.cells cs 49 (0, 0)))) (hd : ∀ g, D g → ¬ S g) : In w' F D p s :=
  h.kept k (fun g hg x => by
    obtain ⟨cs, hh⟩ := hs g x
    exact h.noMs g hg _ _ hh) hd

/-- Two intakes beside each other: one was fed all, the other in chunks; what each told. -/
structure ChP (W : World) (B p q : Nat) (lv : Value) (L : List Msg) (s1 s2 : Fr.IS) (M : List Msg) (F1 D1 F2 D2 : Nat → Prop) (mv : Value) (w : World) : Prop where
  one : In w F1 D1 p s1
  two : In w F2 D2 q s2
  l : Ms w W.heap.size F2 lv L
  lrow : ∀ g, lv.ownBlock = some g → g < B
  m : Ms w B F2 mv M
  kept : Kept Nothing W w
  size : B ≤ w.heap.size
  base : W.heap.size ≤ B
  news : ∀ k, F2 k → W.heap.size ≤ k
  apart : ∀ k, F1 k ∨ D1 k → k < B ∧ ¬ F2 k
  mrow : ∀ g, mv.ownBlock = some g → ¬ D2 g
  dlt : ∀ k, D2 k → k < w.heap.size

theorem ChP.old {W w w' : World} {B p q : Nat} {lv mv : Value} {L M : List Msg} {s1 s2 : Fr.IS} {F1 D1 F2 D2 : Nat → Prop} (h : ChP W B p q lv L s1 s2 M F1 D1 F2 D2 mv w) (k' : Kept Nothing w w') : ChP W B p q lv L s1 s2 M F1 D1 F2 D2 mv w' :=
  ⟨h.one.old k', h.two.old k', h.l.old k', h.lrow, h.m.old k', h.kept.trans k', Nat.le_trans h.size k'.size, h.base, h.news, h.apart, h.mrow, fun k x => Nat.lt_of_lt_of_le (h.dlt k x) k'.size⟩

/-- The other one fed. -/
theorem ChP.fed {W w w' : World} {B p q : Nat} {lv mv v' : Value} {L M : List Msg} {s1 s2 : Fr.IS} {F1 D1 F2 D2 : Nat → Prop} {r : List Msg × Fr.IS} (h : ChP W B p q lv L s1 s2 M F1 D1 F2 D2 mv w) (hf : Fed w q F2 D2 r v' w') :
    ∃ F2', ChP W B p q lv L s1 r.2 M F1 D1 F2' (fun k => DD w D2 k ∧ k < w'.heap.size) mv w' ∧ Ms w' w.heap.size F2' v' r.1 ∧ Kept (fun k => W.heap.size ≤ k) w w' := by
  obtain ⟨F2', hm, hi, hk, hs⟩ := hf
  have hn := h.two.noMs
  have hz := h.size
  refine ⟨F2', ⟨h.one.kept hk (fun g hg => (h.apart g (.inl hg)).2) (fun g hg => (h.apart g (.inr hg)).2), hi.tight, h.l.step2 hk (fun _ x => x) hs hn, h.lrow, h.m.step2 hk (fun _ x => x) hs hn, h.kept.newly hk h.news, Nat.le_trans h.size hk.size, h.base, fun k hk' => ?_, fun k hk' => ⟨(h.apart k hk').1, fun x => ?_⟩, fun g hg x => ?_, fun k x => x.2⟩, hm, hk.mono h.news⟩
  · rcases hs k hk' with x | x
    · exact h.news k x
    · exact Nat.le_trans h.kept.size x
  · rcases hs k x with y | y
    · exact (h.apart k hk').2 y
    · have := (h.apart k hk').1; omega
  · obtain ⟨tl, _, o1, _⟩ := h.m
    obtain ⟨cs, hh⟩ := own_lt o1 hg
    have hlt := (Array.getElem?_eq_some_iff.1 hh).1
    rcases x.1 with y | y
    · exact h.mrow g hg y
    · omega
/-- What it told appended. -/
theorem ChP.app {W w w' : World} {B p q B2 : Nat} {lv mv v' : Value} {L M M2 : List Msg} {s1 s2 : Fr.IS} {F1 D1 F2 D2 : Nat → Prop} {tl tl2 : List (Msg × Value)} (h : ChP W B p q lv L s1 s2 M F1 D1 F2 D2 mv w)
    (hB : B ≤ B2) (e1 : tl.map (·.1) = M) (o1 : w.ownsRow B 49 2 mv tl.length (mcs tl)) (b1 : ∀ x ∈ tl, Bs w x.2 x.1.2 ∧ Off F2 x.2 ∧ Past B x.2)
    (e2 : tl2.map (·.1) = M2) (b2 : ∀ x ∈ tl2, Bs w x.2 x.1.2 ∧ Off F2 x.2 ∧ Past B2 x.2)
    (ho : w'.ownsRow B 49 2 v' (tl.length + tl2.length) (mcs tl ++ mcs tl2)) (hg : w.grownBy w' mv.ownBlock) (hat : v'.ownBlock = mv.ownBlock ∨ v'.ownBlock = some w.heap.size) :
    ChP W B p q lv L s1 s2 (M ++ M2) F1 D1 F2 D2 v' w' ∧ Kept (fun k => W.heap.size ≤ k) w w' := by
  obtain ⟨hm, kg, hr⟩ := ms_append hB e1 o1 b1 e2 b2 ho hg
  refine ⟨⟨h.one.row kg (fun g x => (hr g x).2) (fun g hg x => by have := (h.apart g (.inr hg)).1; have := (hr g x).1; omega), h.two.row kg (fun g x => (hr g x).2) (fun g hg x => h.mrow g x hg), ?_, h.lrow, hm, ?_, Nat.le_trans h.size kg.size, h.base, h.news, h.apart, fun g hg x => ?_, fun k x => Nat.lt_of_lt_of_le (h.dlt k x) kg.size⟩, kg.mono (fun k hk => Nat.le_trans h.base (hr k hk).1)⟩
  · obtain ⟨tl0, f1, f2, f3⟩ := h.l
    refine ⟨tl0, f1, own_kept f2 kg (fun g hg x => by have := h.lrow g hg; have := (hr g x).1; omega), fun x hx => ⟨(f3 x hx).1.kept kg (fun k hk cs f e => ?_), (f3 x hx).2⟩⟩
    obtain ⟨cs', hh⟩ := (hr k hk).2
    rw [hh] at e
    injection e with e
    injection e with _ e2
    exact absurd e2 (by decide)
  · exact h.kept.newly kg (fun i hi => Nat.le_trans h.base (hr i hi).1)
  · rcases hat with e | e
    · rw [e] at hg; exact h.mrow g hg x
    · rw [e] at hg
      injection hg with hg
      have := h.dlt g x
      omega
end Go.Proofs.Ytohkhcobljenjaa
