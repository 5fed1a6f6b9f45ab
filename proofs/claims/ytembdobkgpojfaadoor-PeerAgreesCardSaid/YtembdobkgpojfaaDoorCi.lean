
/-
  What the program's Bytes of chapter 5 does.
-/
import Derived.Test.YtembdobkgpojfaaDoorCh
namespace Go.Proofs.YtembdobkgpojfaaDoor
open Go.RowKit

theorem kept_news {F : Nat → Prop} {a b c : World} (h : Kept Nothing a b) (k : Kept F b c) (hs : Sub a F Nothing) : Kept Nothing a c :=
  h.trans_new k (fun i hi x => by rcases hs i x with y | y; exact y; omega)
def longC (c : Cp) : Bool := decide (253 < c.2.length)
/-- One capability laid. -/
def WS.cap (s : WS) (c : Cp) : WS := (((s.lay [c.1]).hold 1).lay c.2).fill
theorem WS.cap_ok {l : List UInt8} {hs : List (Nat × Nat)} {c : Cp} (hc : c.2.length < 256) : (WS.mk l hs 0).cap c = WS.mk (l ++ Cp.form c) hs 0 := by
  have e1 : (WS.mk l hs 0).lay [c.1] = WS.mk (l ++ [c.1]) hs 0 := if_pos rfl
  have e2 : (WS.mk (l ++ [c.1]) hs 0).hold 1 = WS.mk (l ++ [c.1] ++ [0]) (hs ++ [(1, (l ++ [c.1]).length + 1)]) 0 := by
    unfold WS.hold
    rw [if_pos (.inl rfl), if_pos rfl]
    rfl
  have e3 : (WS.mk (l ++ [c.1] ++ [0]) (hs ++ [(1, (l ++ [c.1]).length + 1)]) 0).lay c.2 = WS.mk (l ++ [c.1] ++ [0] ++ c.2) (hs ++ [(1, (l ++ [c.1]).length + 1)]) 0 := if_pos rfl
  unfold WS.cap
  rw [e1, e2, e3]
  unfold WS.fill
  rw [if_pos rfl, List.getLast?_append]
  simp only [List.getLast?_singleton, Option.some_or]
  have hn : (l ++ [c.1] ++ [0] ++ c.2).length - ((l ++ [c.1]).length + 1) = c.2.length := by simp; omega
  rw [hn, if_neg (by show ¬ 256 ^ 1 ≤ _; omega), List.dropLast_append_of_ne_nil (by simp)]
  simp only [List.dropLast_singleton, List.append_nil]
  congr 1
  unfold WS.tell WS.tell
  rw [show (l ++ [c.1]).length + 1 - 1 - 0 = (l ++ [c.1]).length from by omega, List.append_assoc (l ++ [c.1]), List.set_append_right _ _ (Nat.le_refl _)]
  simp [Cp.form]
end Go.Proofs.YtembdobkgpojfaaDoor
