/-
  Both writers, the program's and the document's, side by side; one call by its number.
-/
import Derived.Test.YtcncjfjdnmookaaVf
import Derived.Test.YtcncjfjdnmookaaWk
namespace Go.Proofs.Ytcncjfjdnmookaa
open Go.RowKit

/-- Both writers, made of blocks that nothing else is made of, from W's end on. -/
def Twin (W w : World) (p q : Nat) (s t : WS) : Prop :=
  ∃ F G, Wr w F p s ∧ Vr w G q t ∧ (∀ k, F k → ¬ G k) ∧ Sub W F Nothing ∧ Sub W G Nothing ∧ Kept Nothing W w

theorem Twin.old {W w w' : World} {p q : Nat} {s t : WS} (h : Twin W w p q s t) (k : Kept Nothing w w') : Twin W w' p q s t := by
  obtain ⟨F, G, h1, h2, h3, h4, h5, h6⟩ := h
  exact ⟨F, G, h1.kept k (fun _ _ x => x), h2.kept k (fun _ _ x => x), h3, h4, h5, h6.trans k⟩
theorem Twin.left {W w w' : World} {p q : Nat} {s' t : WS} {F G F' : Nat → Prop} (h2 : Vr w G q t) (h3 : ∀ k, F k → ¬ G k) (h4 : Sub W F Nothing) (h5 : Sub W G Nothing) (h6 : Kept Nothing W w)
    (hw : Wr w' F' p s') (hk : Kept F w w') (hs : Sub w F' F) : Twin W w' p q s' t := by
  refine ⟨F', G, hw, h2.kept hk (fun g hg hf => h3 g hf hg), fun k hf hg => ?_, h4.trans hs h6.size, h5, h6.news hk h4⟩
  rcases hs k hf with h | h
  · exact h3 k h hg
  · have := h2.lt hg; omega
theorem Twin.right {W w w' : World} {p q : Nat} {s t' : WS} {F G G' : Nat → Prop} (h1 : Wr w F p s) (h3 : ∀ k, F k → ¬ G k) (h4 : Sub W F Nothing) (h5 : Sub W G Nothing) (h6 : Kept Nothing W w)
    (hw : Vr w' G' q t') (hk : Kept G w w') (hs : Sub w G' G) : Twin W w' p q s t' := by
  refine ⟨F, G', h1.kept hk (fun g hf hg => h3 g hf hg), hw, fun k hf hg => ?_, h4, h5.trans hs h6.size, h6.news hk h5⟩
  rcases hs k hg with h | h
  · exact h3 k hf h
  · have := h1.lt hf; omega

/-- A contract of the program's writer, beside the document's. -/
theorem Twin.call {W w : World} {p q : Nat} {s s' t : WS} {f : FuncId} {args : Array Value} (h : Twin W w p q s t)
    (hc : ∀ F, Wr w F p s → Calls Try.prog f args w fun r w' => ∃ F', r = .returned (.pointer (some ⟨p, 0, none⟩)) ∧ Wr w' F' p s' ∧ Kept F w w' ∧ Sub w F' F) :
    Calls Try.prog f args w fun r w' => r = .returned (.pointer (some ⟨p, 0, none⟩)) ∧ Twin W w' p q s' t := by
  obtain ⟨F, G, h1, h2, h3, h4, h5, h6⟩ := h
  exact (hc F h1).mono fun e w' ⟨F', he, hw, hk, hs⟩ => ⟨he, Twin.left h2 h3 h4 h5 h6 hw hk hs⟩
theorem Twin.ref {W w : World} {p q : Nat} {s t t' : WS} {f : FuncId} {args : Array Value} (h : Twin W w p q s t)
    (hc : ∀ G, Vr w G q t → Calls Try.prog f args w fun r w' => ∃ G', r = .returned (.tuple #[]) ∧ Vr w' G' q t' ∧ Kept G w w' ∧ Sub w G' G) :
    Calls Try.prog f args w fun r w' => r = .returned (.tuple #[]) ∧ Twin W w' p q s t' := by
  obtain ⟨F, G, h1, h2, h3, h4, h5, h6⟩ := h
  exact (hc G h2).mono fun e w' ⟨G', he, hw, hk, hs⟩ => ⟨he, Twin.right h1 h3 h4 h5 h6 hw hk hs⟩
theorem Twin.ok {W w : World} {p q : Nat} {s t : WS} (h : Twin W w p q s t) : s.ok := by obtain ⟨F, G, h1, _⟩ := h; exact h1.ok

/-- How many zeros a call of the kinds 3, 4 lays. -/
def zeros (n : Int) : Nat := (n % 18446744073709551616 % 301).toNat
/-- One call of a writer, by its number. -/
def WS.step (s : WS) (x n : Int) : WS :=
  if x = 0 then s.lay [UInt8.ofNat (n % 256).toNat] else if x = 1 then s.lay (two (n % 65536).toNat) else if x = 2 then s.lay (fours [(n % 4294967296).toNat])
  else if x = 3 ∨ x = 4 then s.lay (List.replicate (zeros n) 0) else if x = 5 then s.hold n else if x = 6 ∨ x = 7 then s.fill else if x = 8 ∨ x = 9 then s.hold (x - 7) else s
theorem WS.hold_len (s : WS) (n : Int) : (s.hold n).l.length ≤ s.l.length + 2 ∧ (s.hold n).hs.length ≤ s.hs.length + 1 := by
  unfold WS.hold WS.note
  split
  · split
    · next h _ => simp; omega
    · exact ⟨by omega, by omega⟩
  · split <;> exact ⟨by show s.l.length ≤ _; omega, by show s.hs.length ≤ _; omega⟩
theorem WS.lay_hs (s : WS) (b : List UInt8) : (s.lay b).hs = s.hs := by unfold WS.lay; split <;> rfl
theorem WS.fill_len (s : WS) : s.fill.l.length = s.l.length ∧ s.fill.hs.length ≤ s.hs.length := by
  unfold WS.fill WS.note
  repeat' split
  all_goals first | exact ⟨rfl, Nat.le_refl _⟩ | exact ⟨WS.length_tell _ _ _ _, by simp⟩
theorem WS.step_len (s : WS) (x n : Int) : (s.step x n).l.length ≤ s.l.length + 300 ∧ (s.step x n).hs.length ≤ s.hs.length + 1 := by
  have hl : ∀ b : List UInt8, b.length ≤ 300 → (s.lay b).l.length ≤ s.l.length + 300 ∧ (s.lay b).hs.length ≤ s.hs.length + 1 := fun b hb => by
    have := WS.lay_len s b
    rw [WS.lay_hs]
    omega
  have hh : ∀ m, (s.hold m).l.length ≤ s.l.length + 300 ∧ (s.hold m).hs.length ≤ s.hs.length + 1 := fun m => by have := WS.hold_len s m; omega
  unfold WS.step
  repeat' split
  all_goals first | exact hh _ | skip
  · exact hl _ (by simp)
  · exact hl _ (by simp [two])
  · exact hl _ (by rw [length_fours]; simp)
  · refine hl _ ?_
    rw [List.length_replicate]
    unfold zeros
    omega
  · have := WS.fill_len s; omega
  · omega
end Go.Proofs.Ytcncjfjdnmookaa
