
/-
  A range over a method value with two variables, left by its end or by a break.
-/
import Derived.Test.YtfjpphfadglohaaDoorJh
namespace Go.Proofs.YtfjpphfadglohaaDoor
open Go.RowKit

theorem wp_rf2 {P : Program} {α : Type} {g : Operand} {p1 p2 q1 q2 : Tmp} {assign body : Code} {K : Act → World → Prop} {Q : Exit → Act → World → Prop} {b : Nat} {a : Act} {w : World} {gf : Nat} {fs : Array Value}
    (hg : a.eval g = .func (.func gf) fs #[]) (eg : ∀ args w, (callFunc gf args).run P w = .ok (.enter gf args) w) {u v : α → Value} {xs : List α} {S : Nat → Prop} (hS : ∀ k, S k → k < w.heap.size)
    (hseq : SeqAll P gf fs (fun x => #[u x, v x]) xs S w)
    (I : List α → World → Prop) (X : List α → World → Prop)
    (hI : ∀ s A B, I s A → w.heap.size ≤ A.heap.size → Kept (fun k => w.heap.size ≤ k) A B → I s B) (hX : ∀ s A B, X s A → w.heap.size ≤ A.heap.size → Kept (fun k => w.heap.size ≤ k) A B → X s B) (h0 : I [] w)
    (hassign : ∀ (l : Nat) (x : α) (W : World) (K : Act → World → Prop), K { tmps := (((a.tmps.setIfInBounds p1 (u x)).setIfInBounds p2 (v x)).setIfInBounds q1 (u x)).setIfInBounds q2 (v x), defers := [] } W →
      assign.wpIn (Fence.wide.inRound l) 2 P (Exit.then K (fun _ _ _ => False)) { tmps := (a.tmps.setIfInBounds p1 (u x)).setIfInBounds p2 (v x), defers := [] } W)
    (hbody : ∀ (l : Nat) (pre : List α) (x : α) (W : World), I pre W → pre ++ [x] <+: xs → w.heap.size ≤ W.heap.size →
      body.wpIn (Fence.wide.inRound l) 2 P (RfPost S I (fun c s W => c = .exit b ∧ X s W) (pre ++ [x]) W) { tmps := (((a.tmps.setIfInBounds p1 (u x)).setIfInBounds p2 (v x)).setIfInBounds q1 (u x)).setIfInBounds q2 (v x), defers := [] } W)
    (hpost : ∀ (D : Nat) (W : World), w.heap.size ≤ D → (I xs W ∨ ∃ pre, pre <+: xs ∧ X pre W) → W.heap[D]? = some (.deferred (some [])) → K { a with defers := { target := .collected D, args := #[] } :: a.defers } W) :
    (Code.rangeFunc g #[p1, p2] assign body).wp P (Exit.inBlock b (Exit.then K Q)) a w := by
  refine wp_rf (encs := fun x => #[u x, v x]) hg eg hS hseq (fun _ => rfl) I (fun c s W => c = .exit b ∧ X s W) hI (fun c s A B h hA hk => ⟨h.1, hX s A B h.2 hA hk⟩) h0 _ ?_ hbody ?_ ?_
  · intro l x W K hK
    rw [fold_two]
    exact hassign l x W K hK
  · intro D W hD hi hd
    exact hpost D W hD (.inl hi) hd
  · rintro D c pre W hD hp ⟨rfl, hx⟩ hd
    apply wp_exit
    simp only [Exit.inBlock, Exit.then, ↓reduceIte]
    exact hpost D W hD (.inr ⟨pre, hp, hx⟩) hd
end Go.Proofs.YtfjpphfadglohaaDoor
