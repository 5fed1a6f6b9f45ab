
/-
  What lies in memory in the law FrameFeeds: the intake, the messages told, all bytes so far, the copy.
-/
import Derived.Test.YtohkhcobljenjaaGl
namespace Go.Proofs.Ytohkhcobljenjaa
open Go.RowKit

/-- The intake's blocks, and that of all bytes. -/
def Or1 (F : Nat → Prop) (av : Value) : Nat → Prop := fun k => F k ∨ av.ownBlock = some k
structure FfP (W : World) (p : Nat) (mv av : Value) (M : List Msg) (s : Fr.IS) (A : List UInt8) (F D : Nat → Prop) (w : World) : Prop where
  one : In w F D p s
  m : Ms w W.heap.size (Or1 F av) mv M
  all : w.ownsRow W.heap.size 5 1 av A.length (bys A)
  kept : Kept Nothing W w
  news : ∀ k, F k → W.heap.size ≤ k
  dlt : ∀ k, D k → k < w.heap.size
  mD : ∀ g, mv.ownBlock = some g → ¬ D g
  aF : ∀ g, av.ownBlock = some g → ¬ F g ∧ ¬ D g
theorem FfP.old {W w w' : World} {p : Nat} {mv av : Value} {M : List Msg} {s : Fr.IS} {A : List UInt8} {F D : Nat → Prop} (h : FfP W p mv av M s A F D w) (k : Kept Nothing w w') : FfP W p mv av M s A F D w' :=
  ⟨h.one.old k, h.m.old k, own_kept h.all k (fun _ _ x => x), h.kept.trans k, h.news, fun g hg => Nat.lt_of_lt_of_le (h.dlt g hg) k.size, h.mD, h.aF⟩
theorem FfP.alt {W w : World} {p : Nat} {mv av : Value} {M : List Msg} {s : Fr.IS} {A : List UInt8} {F D : Nat → Prop} (h : FfP W p mv av M s A F D w) {g : Nat} (hg : av.ownBlock = some g) : g < w.heap.size := by
  obtain ⟨cs, hh⟩ := own_lt h.all hg
  exact (Array.getElem?_eq_some_iff.1 hh).1
theorem FfP.mrow {W w : World} {p : Nat} {mv av : Value} {M : List Msg} {s : Fr.IS} {A : List UInt8} {F D : Nat → Prop} (h : FfP W p mv av M s A F D w) {g : Nat} (hg : mv.ownBlock = some g) : W.heap.size ≤ g ∧ ∃ cs, w.heap[g]? = some (.cells cs 49 (0, 0)) := by
  obtain ⟨tl, _, o1, _⟩ := h.m
  exact ⟨own_ge o1 hg, own_lt o1 hg⟩

theorem FfP.fed {W w w' : World} {p : Nat} {mv av v' : Value} {M : List Msg} {s : Fr.IS} {A : List UInt8} {F D : Nat → Prop} {r : List Msg × Fr.IS} (h : FfP W p mv av M s A F D w) (hf : Fed w p F D r v' w') :
    ∃ F', FfP W p mv av M r.2 A F' (fun k => DD w D k ∧ k < w'.heap.size) w' ∧ Ms w' w.heap.size (Or1 F' av) v' r.1 ∧ Kept F w w' ∧ Sub w F' F := by
  obtain ⟨F', hm, hi, hk, hs⟩ := hf
  have hn := h.one.noMs
  have hsub : Sub w (Or1 F' av) (Or1 F av) := fun k x => by
    rcases x with x | x
    · rcases hs k x with y | y
      · exact .inl (.inl y)
      · exact .inr y
    · exact .inl (.inr x)
  have hz := h.kept.size
  refine ⟨F', ⟨hi.tight, h.m.step2 hk (fun _ x => .inl x) hsub hn, own_kept h.all hk (fun g hg => (h.aF g hg).1), h.kept.newly hk h.news, fun k x => ?_, fun k x => x.2, fun g hg x => ?_, fun g hg => ⟨fun x => ?_, fun x => ?_⟩⟩, ?_, hk, hs⟩
  · rcases hs k x with y | y
    · exact h.news k y
    · omega
  · obtain ⟨cs, hh⟩ := (h.mrow hg).2
    have hlt := (Array.getElem?_eq_some_iff.1 hh).1
    rcases x.1 with y | y
    · exact h.mD g hg y
    · omega
  · have := h.alt hg
    rcases hs g x with y | y
    · exact (h.aF g hg).1 y
    · omega
  · have := h.alt hg
    rcases x.1 with y | y
    · exact (h.aF g hg).2 y
    · omega
  · obtain ⟨tl, f1, f2, f3⟩ := hm
    refine ⟨tl, f1, f2, fun x hx => ⟨(f3 x hx).1, fun a n c e h0 y => ?_, (f3 x hx).2.2⟩⟩
    rcases y with y | y
    · exact (f3 x hx).2.1 a n c e h0 y
    · have h1 := (f3 x hx).2.2 a n c e h0
      have h2 := h.alt y
      omega

theorem FfP.app {W w w' : World} {p B2 : Nat} {mv av v' : Value} {M M2 : List Msg} {s : Fr.IS} {A : List UInt8} {F D : Nat → Prop} {tl tl2 : List (Msg × Value)} (h : FfP W p mv av M s A F D w)
    (hB : W.heap.size ≤ B2) (e1 : tl.map (·.1) = M) (o1 : w.ownsRow W.heap.size 49 2 mv tl.length (mcs tl)) (b1 : ∀ x ∈ tl, Bs w x.2 x.1.2 ∧ Off (Or1 F av) x.2 ∧ Past W.heap.size x.2)
    (e2 : tl2.map (·.1) = M2) (b2 : ∀ x ∈ tl2, Bs w x.2 x.1.2 ∧ Off (Or1 F av) x.2 ∧ Past B2 x.2)
    (ho : w'.ownsRow W.heap.size 49 2 v' (tl.length + tl2.length) (mcs tl ++ mcs tl2)) (hg : w.grownBy w' mv.ownBlock) (hat : v'.ownBlock = mv.ownBlock ∨ v'.ownBlock = some w.heap.size) :
    FfP W p v' av (M ++ M2) s A F D w' ∧ Kept (fun k => mv.ownBlock = some k) w w' := by
  obtain ⟨hm, kg, hr⟩ := ms_append hB e1 o1 b1 e2 b2 ho hg
  refine ⟨⟨h.one.row kg (fun g x => (hr g x).2) (fun g hg x => h.mD g x hg), hm, own_kept h.all kg (fun g hg x => ?_), h.kept.newly kg (fun i hi => (hr i hi).1), h.news, fun k x => Nat.lt_of_lt_of_le (h.dlt k x) kg.size, fun g hg x => ?_, h.aF⟩, kg⟩
  · obtain ⟨cs, hh⟩ := (hr g x).2
    obtain ⟨cs2, hh2⟩ := own_lt h.all hg
    rw [hh] at hh2
    injection hh2 with e
    injection e with _ e2
    exact absurd e2 (by decide)
  · rcases hat with e | e
    · rw [e] at hg; exact h.mD g hg x
    · rw [e] at hg
      injection hg with hg
      have := h.dlt g x
      omega

theorem FfP.add {W w w' : World} {p : Nat} {mv av v' : Value} {M : List Msg} {s : Fr.IS} {A l : List UInt8} {F D : Nat → Prop} (h : FfP W p mv av M s A F D w)
    (ho : w'.ownsRow W.heap.size 5 1 v' (A.length + l.length) (bys A ++ bys l)) (hg : w.grownBy w' av.ownBlock) (hat : v'.ownBlock = av.ownBlock ∨ v'.ownBlock = some w.heap.size) :
    FfP W p mv v' M s (A ++ l) F D w' ∧ Kept (fun k => av.ownBlock = some k) w w' := by
  have kg : Kept (fun k => av.ownBlock = some k) w w' := (Kept.refl _ w).grown hg (fun k hk _ => hk)
  have hnew : ∀ g, v'.ownBlock = some g → av.ownBlock = some g ∨ w.heap.size ≤ g := fun g hg => by
    rcases hat with e | e
    · rw [e] at hg; exact .inl hg
    · rw [e] at hg
      injection hg with hg
      exact .inr (by omega)
  refine ⟨⟨h.one.kept kg (fun g hg x => (h.aF g x).1 hg) (fun g hg x => (h.aF g x).2 hg), ?_, by rw [List.length_append, bys_append]; exact ho, h.kept.newly kg (fun i hi => own_ge h.all hi), h.news, fun k x => Nat.lt_of_lt_of_le (h.dlt k x) kg.size, h.mD, fun g hg => ?_⟩, kg⟩
  · refine h.m.step2 kg (fun _ x => .inr x) (fun k x => ?_) (fun k hk cs f e => ?_)
    · rcases x with x | x
      · exact .inl (.inl x)
      · rcases hnew k x with y | y
        · exact .inl (.inr y)
        · exact .inr y
    · obtain ⟨cs', hh⟩ := own_lt h.all hk
      rw [hh] at e
      injection e with e
      injection e with _ e2
      exact absurd e2 (by decide)
  · rcases hnew g hg with y | y
    · exact h.aF g y
    · exact ⟨fun x => by have := h.one.lt x; omega, fun x => by have := h.dlt g x; omega⟩

/-- What the law still turns. -/
def Busy (F : Nat → Prop) (mv av : Value) : Nat → Prop := fun k => F k ∨ mv.ownBlock = some k ∨ av.ownBlock = some k
/-- The copy: none yet, or one, of which kv bytes waited as it was made. -/
def Tw (F : Nat → Prop) (mv av tv kv : Value) (w : World) : Prop :=
  (tv = .pointer none ∧ ∃ z, kv = .int .i64 z) ∨ ∃ (q : Nat) (st : Fr.IS) (Ft Dt : Nat → Prop), tv = .pointer (some ⟨q, 0, none⟩) ∧ kv = .int .i64 (st.l.length : Int) ∧ In w Ft Dt q st ∧ ∀ k, Ft k ∨ Dt k → k < w.heap.size ∧ ¬ Busy F mv av k
theorem Tw.step {F F' S : Nat → Prop} {mv av mv' av' tv kv : Value} {w w' : World} (h : Tw F mv av tv kv w) (k : Kept S w w') (hS : ∀ k, S k → Busy F mv av k) (hB : ∀ k, Busy F' mv' av' k → Busy F mv av k ∨ w.heap.size ≤ k) : Tw F' mv' av' tv kv w' := by
  rcases h with h | ⟨q, st, Ft, Dt, e1, e2, h1, h2⟩
  · exact .inl h
  · refine .inr ⟨q, st, Ft, Dt, e1, e2, h1.kept k (fun g hg x => (h2 g (.inl hg)).2 (hS g x)) (fun g hg x => (h2 g (.inr hg)).2 (hS g x)), fun g hg => ⟨Nat.lt_of_lt_of_le (h2 g hg).1 k.size, fun x => ?_⟩⟩
    rcases hB g x with y | y
    · exact (h2 g hg).2 y
    · have := (h2 g hg).1; omega
theorem Tw.old {F : Nat → Prop} {mv av tv kv : Value} {w w' : World} (h : Tw F mv av tv kv w) (k : Kept Nothing w w') : Tw F mv av tv kv w' := h.step k (fun _ x => x.elim) (fun _ x => .inl x)
theorem Tw.new {F Ft Dt : Nat → Prop} {mv av : Value} {w w' : World} {W : World} {p : Nat} {M : List Msg} {s st : Fr.IS} {A : List UInt8} {D : Nat → Prop} {q : Nat} (h : FfP W p mv av M s A F D w) (hi : In w' Ft Dt q st) (hn : ∀ k, Ft k ∨ Dt k → w.heap.size ≤ k ∧ k < w'.heap.size) : Tw F mv av (.pointer (some ⟨q, 0, none⟩)) (.int .i64 (st.l.length : Int)) w' := by
  refine .inr ⟨q, st, Ft, Dt, rfl, rfl, hi, fun k hk => ⟨(hn k hk).2, fun x => ?_⟩⟩
  have := (hn k hk).1
  rcases x with x | x | x
  · have := h.one.lt x; omega
  · obtain ⟨cs, hh⟩ := (h.mrow x).2
    have := (Array.getElem?_eq_some_iff.1 hh).1
    omega
  · have := h.alt x; omega
theorem Tw.form {F : Nat → Prop} {mv av tv kv : Value} {w : World} (h : Tw F mv av tv kv w) : ∃ a z, tv = .pointer a ∧ kv = .int .i64 z := by
  rcases h with ⟨rfl, z, rfl⟩ | ⟨q, st, Ft, Dt, rfl, rfl, _⟩
  · exact ⟨_, _, rfl, rfl⟩
  · exact ⟨_, _, rfl, rfl⟩

theorem ms_form2 {w : World} {B : Nat} {F : Nat → Prop} {A : Option Addr} {n c : Nat} {l : List Msg} (h : Ms w B F (.slice A n c) l) : ∃ tl : List (Msg × Value), tl.map (·.1) = l ∧ tl.length = n ∧ tl.length = l.length ∧ w.ownsRow B 49 2 (.slice A n c) tl.length (mcs tl) ∧ (∀ x ∈ tl, Bs w x.2 x.1.2 ∧ Off F x.2 ∧ Past B x.2) ∧ Src w 2 A n (mcs tl) := by
  obtain ⟨tl, h1, h2, h3⟩ := h
  obtain ⟨e, hs⟩ := own_src h2 (mcs_cells (P := fun _ => True) (fun x hx => ⟨(h3 x hx).1, trivial⟩))
  exact ⟨tl, h1, e.symm, by rw [← h1, List.length_map], h2, h3, by rw [e]; exact hs⟩

/-- The slice value v reads as the chunks l. -/
def Bss (w : World) (v : Value) (l : List (List UInt8)) : Prop :=
  ∃ A c, v = .slice A l.length c ∧ l.length ≤ maxLen ∧ (0 < l.length → ∃ b o, A = some ⟨b, o, none⟩ ∧ ∀ i, i < l.length → ∃ u, w.cell? ⟨b, o + i, none⟩ = some u ∧ By w u (l.getD i []))
end Go.Proofs.Ytohkhcobljenjaa
