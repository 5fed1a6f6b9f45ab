
/-
  A region that draws its order, one writing call ahead of all that only reads: the head by hand, then the rest by one quiet walk.
-/
import Derived.Test.YtlhdgfmljblahaaMem
import Derived.RegionTactic
namespace Go.Proofs.Ytlhdgfmljblahaa
open Go.RowKit

theorem wpAny_rest_quiet {P : Program} {L : List Oper} {Q : Exit → Act → World → Prop} {a : Act} {w : World} {listed : Array Bool} (k fuel : Nat) (hf : (L.drop k).length = fuel) (hs : Region.noSelect L.toArray = true) (hx : Region.lexFrom .any L.toArray fuel k listed = true)
    (h : wpQuiet P L.toArray (fun w' => ∃ n, w' = w.drewN n) (fun a' => ∀ w', (∃ n, w' = w.drewN n) → Q .normal a' w') (L.drop k) a) : wpAny P .any L.toArray Q fuel listed a w := by
  subst hf
  refine wpAny_of_quiet (C := fun w' => ∃ n, w' = w.drewN n) (Q := fun a' => ∀ w', (∃ n, w' = w.drewN n) → Q .normal a' w') (fun _ w' hw' h => h w' hw') _ _ _ _ ⟨0, rfl⟩ ?_
  exact wpAnyQ_lex (md := .any) hs (L.drop k) k listed a (fun j => by simp [List.getElem?_drop]) hx h
end Go.Proofs.Ytlhdgfmljblahaa
