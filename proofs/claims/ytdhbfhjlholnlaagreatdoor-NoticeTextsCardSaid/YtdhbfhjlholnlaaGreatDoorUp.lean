
/-
  Regions that draw their order and whose calls only grow memory: one walk in the order of the text, in the class of all worlds that grew out of the one at hand.
-/
import Derived.Test.YtdhbfhjlholnlaaGreatDoorMem
import Derived.RegionTactic
namespace Go.Proofs.YtdhbfhjlholnlaaGreatDoor
open Go.RowKit

/-- A world that grew out of another: what was there is as it was. -/
structure Up (o : World) where
  w : World
  kept : Kept Nothing o w
instance (o : World) : Nonempty (Up o) := ⟨⟨o, Kept.refl _ _⟩⟩

theorem wp_region_up {P : Program} {id : Nat} {Q : Exit → Act → World → Prop} {a : Act} {w : World} {l : List Oper} (hm : P.follows .mixedOrders = true) (hB : Region.lexB .any l.toArray = true)
    (h : wpQuiet P l.toArray (fun w' => ∃ g : Up w, w' = g.w) (fun a' => ∀ w', (∃ g : Up w, w' = g.w) → Q .normal a' w') l a) : (Code.region id l.toArray true).wp P Q a w :=
  wp_region_quiet (C := fun w' => ∃ g : Up w, w' = g.w) hm hB ⟨⟨_, (Kept.refl Nothing w).drew⟩, rfl⟩ (by simpa using h)

theorem up_call {P : Program} {f : FuncId} {args : Array Value} {w : World} {g : Up w} {v : Value}
    (h : Calls P f args g.w fun e w' => e = .returned v ∧ Kept Nothing g.w w') : Calls P f args g.w fun e w'' => e = .returned v ∧ ∃ m : Up w, w'' = m.w :=
  h.mono fun _ w' ⟨he, hk⟩ => ⟨he, ⟨w', g.kept.trans hk⟩, rfl⟩
theorem up_same {P : Program} {f : FuncId} {args : Array Value} {w : World} {g : Up w} {v : Value}
    (h : Calls P f args g.w fun e w' => e = .returned v ∧ g.w = w') : Calls P f args g.w fun e w'' => e = .returned v ∧ ∃ m : Up w, w'' = m.w :=
  h.mono fun _ _ ⟨he, hk⟩ => ⟨he, g, hk.symm⟩
theorem up_cell {w : World} {a : Addr} {v : Value} (h : w.cell? a = some v) (g : Up w) : g.w.cell? a = some v := g.kept.cell_some h (fun x => x)
theorem up_size {w : World} (g : Up w) : w.heap.size ≤ g.w.heap.size := g.kept.size
theorem grows {w w' : World} (h : Below w.heap.size w w') : Kept Nothing w w' := ⟨h.os, h.tape, h.output, h.size, fun k hk _ => h.block k hk⟩
end Go.Proofs.YtdhbfhjlholnlaaGreatDoor
