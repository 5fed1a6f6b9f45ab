
/-
  Map literals: laid entry by entry, ranged over while calls only make memory.
-/
import Derived.Test.YtdhbfhjlholnlaaGreatDoorMem
import Derived.Maps.RangeWalk
import Derived.StringKeys
import Derived.Carry
namespace Go.Proofs.YtdhbfhjlholnlaaGreatDoor
open Go.RowKit Go.Maps

/-- A map all of whose entries are right. -/
def Good (S : Lit → DataW Unit → Prop) (D : DataW Unit) : Prop := IsMap D ∧ ∀ kl, Maps.has D kl = true → ∃ d, (∀ zd, D.atKey kl zd = d) ∧ S kl d
theorem Good.empty (S : Lit → DataW Unit → Prop) : Good S (.map []) := ⟨⟨[], rfl⟩, fun _ h => by cases h⟩
theorem Good.put {S : Lit → DataW Unit → Prop} {D : DataW Unit} (h : Good S D) {k : Lit} {d : DataW Unit} (hk : WideAt.IsKeyLit k) (hs : S k d) : Good S (D.put k d) := by
  refine ⟨h.1.put k d, fun kl hl => ?_⟩
  by_cases e : kl = k
  · subst e
    exact ⟨d, fun zd => atKey_put_same h.1 hk d zd, hs⟩
  · rw [has_put_other e] at hl
    obtain ⟨d', h1, h2⟩ := h.2 kl hl
    exact ⟨d', fun zd => by rw [atKey_put_other e]; exact h1 zd, h2⟩
theorem Good.at {S : Lit → DataW Unit → Prop} {D : DataW Unit} (h : Good S D) {kl : Lit} (hl : Maps.has D kl = true) {d : DataW Unit} (hd : ∀ zd, D.atKey kl zd = d) : S kl d := by
  obtain ⟨d', h1, h2⟩ := h.2 kl hl
  rwa [← hd .nil, h1 .nil]
theorem ranges_kept {P : Program} {k : TypeId} {R : Value → Option (DataW Unit × List MemPlace)} {w w' : World} {b r n : Nat} {D : DataW Unit} {left : Lit → Bool} {cnt : Nat}
    (h : w.ranges P k R b r n D left cnt) (kk : Kept Nothing w w') : w'.ranges P k R b r n D left cnt := by
  obtain ⟨es, clock, since, seen, c0, hb, hF, hn, hD, hr, rest⟩ := h
  exact ⟨es, clock, since, seen, c0, (kk.block _ (Array.getElem?_eq_some_iff.1 hb).1 (fun x => x)).trans hb, hF, hn, hD, (kk.block _ (Array.getElem?_eq_some_iff.1 hr).1 (fun x => x)).trans hr, rest⟩
theorem keyedS : Keyed Tryz.prog 9 := string_keyed Tryz.underlying9
/-- An entry of a map literal, where the walk stands. -/
theorem upon_insert {P : Program} {o : Oper} {a : Act} {next : Act → World → Prop} {Q : Exit → Act → World → Prop} {w : World} {t k e : TypeId} {b n : Nat} {D d : DataW Unit} {key val : Value} {kl : Lit} {ps : List MemPlace}
    (K : Keyed P k) (ht : P.underlying t = some (.map k e)) (hown : w.ownsMap P k (plainElem P e) b n D) (hn : n < maxLen) (hkey : keyOf P k key = some kl) (hval : plainElem P e val = some (d, ps))
    {S : Lit → DataW Unit → Prop} {w0 : World} (hG : Good S D) (hk : WideAt.IsKeyLit kl) (hS : S kl d) (kk : Kept Nothing w0 w) (hb : w0.heap.size ≤ b)
    (hK : ∀ w' D', w'.ownsMap P k (plainElem P e) b (n + 1) D' → Good S D' → Kept Nothing w0 w' → next (a.put o.dst undef) w') :
    Oper.upon P o a next Q ((Sem.run P (Instr.mapUpdate t (.map (some b)) key val) w).andThen fun _ w' => Result.ok Next.skip w') := by
  obtain ⟨w', hrun, r1, r2⟩ := hown.update K ht hn hkey hval
  rw [hrun]
  exact hK w' _ r1 (hG.put hk hS) (kk.grown r2 (by intro j e hj; injection e with e; omega))
end Go.Proofs.YtdhbfhjlholnlaaGreatDoor
