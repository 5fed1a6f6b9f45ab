
/-
  session: the map of what the states do; Do.
-/
import Derived.Test.YtembdobkgpojfaaDoorSMm
namespace Go.Proofs.YtembdobkgpojfaaDoor
open Go.RowKit Go.Maps

/-- How a function of the map reads as a datum. -/
def fnR : Value → Option (DataW Unit × List MemPlace)
  | .func (.func k) a b => if a = #[] ∧ b = #[] then some (.lit (.int .i64 (k : Int)), []) else none
  | .nilFunc => some (.lit (.int .i64 (-1)), [])
  | _ => none
theorem fnR_val {v : Value} {k : Nat} {ps : List MemPlace} (h : fnR v = some (.lit (.int .i64 (k : Int)), ps)) : v = .func (.func k) #[] #[] := by
  unfold fnR at h
  split at h
  · split at h
    · next hab =>
      obtain ⟨rfl, rfl⟩ := hab
      injection h with h
      injection h with h _
      injection h with h
      injection h with _ h
      have e := Int.ofNat_inj.1 h
      rw [e]
    · cases h
  · injection h with h
    injection h with h _
    injection h with h
    injection h with _ h
    omega
  · cases h
def keyS (z : Int) : Lit := .int .i64 z
theorem keyS_ne {s t : Int} (h : s ≠ t) : keyS s ≠ keyS t := fun e => by
  injection e with _ e
  exact h e
/-- The datum has just these functions. -/
def Gs (ks : List (Int × Nat)) (D : DataW Unit) : Prop :=
  IsMap D ∧ ∀ z, Maps.has D (keyS z) = (ks.lookup z).isSome ∧ ∀ k, ks.lookup z = some k → ∀ zd, D.atKey (keyS z) zd = .lit (.int .i64 (k : Int))
theorem Gs.empty : Gs [] (.map []) := ⟨⟨[], rfl⟩, fun z => ⟨rfl, fun k h => by cases h⟩⟩
theorem Gs.put {ks : List (Int × Nat)} {D : DataW Unit} (h : Gs ks D) (z : Int) (k : Nat) : Gs ((z, k) :: ks) (D.put (keyS z) (.lit (.int .i64 (k : Int)))) := by
  refine ⟨h.1.put _ _, fun s => ?_⟩
  by_cases e : s = z
  · subst e
    refine ⟨by rw [has_put_same h.1 (show WideAt.IsKeyLit (keyS s) from trivial)]; simp [List.lookup], fun k' hk zd => ?_⟩
    have : k' = k := by simpa [List.lookup] using hk.symm
    subst this
    exact atKey_put_same h.1 (show WideAt.IsKeyLit (keyS s) from trivial) _ zd
  · have e2 : (s == z) = false := by simpa using e
    have e3 : List.lookup s ((z, k) :: ks) = List.lookup s ks := by simp [List.lookup, e2]
    refine ⟨by rw [has_put_other (keyS_ne e), (h.2 s).1, e3], fun k' hk zd => ?_⟩
    rw [e3] at hk
    rw [atKey_put_other (keyS_ne e)]
    exact (h.2 s).2 k' hk zd
theorem keyedS : Keyed Tryd.prog 3 := int_keyed Tryd.underlying3
/-- An entry of a map literal, where the walk stands. -/
theorem upon_insertS {H : Type} {P : Program} {o : Oper} {a : Act} {next : Act → World → Prop} {Q : Exit → Act → World → Prop} {w : World} {t k e : TypeId} {b n : Nat} {D d : DataW H} {key val : Value} {kl : Lit} {ps : List MemPlace} {R : Value → Option (DataW H × List MemPlace)}
    (K : Keyed P k) (ht : P.underlying t = some (.map k e)) (hown : w.ownsMap P k R b n D) (hn : n < maxLen) (hkey : keyOf P k key = some kl) (hval : R val = some (d, ps))
    (hK : ∀ w', w'.ownsMap P k R b (n + 1) (D.put kl d) → w.grownBy w' (some b) → next (a.put o.dst undef) w') :
    Oper.upon P o a next Q ((Sem.run P (Instr.mapUpdate t (.map (some b)) key val) w).andThen fun _ w' => Result.ok Next.skip w') := by
  obtain ⟨w', hrun, r1, r2⟩ := hown.update K ht hn hkey hval
  rw [hrun]
  exact hK w' r1 r2
def fnsS : List (Int × Nat) := [(6, 80), (5, 79), (4, 78), (3, 77), (2, 77), (1, 57)]
set_option maxRecDepth 100000 in
set_option maxHeartbeats 4000000 in
theorem se_states (w : World) :
    Calls Tryd.prog 56 #[] w fun e w' => ∃ m n D, e = .returned (.map (some m)) ∧ w'.ownsMap Tryd.prog 3 fnR m n D ∧ Gs fnsS D ∧ Kept Nothing w w' := by
  have hmm := @run_makeMap Tryd.prog
  go_enter Tryd.func56, Tryd.ntmps56
  go_upto_region 1 with fail
  have hown := World.ownsMap_made (H := Unit) w Tryd.prog 3 fnR
  have k := (Kept.refl Nothing w).alloc (.map #[] 0)
  have g := Gs.empty
  go_wp2
  refine upon_insertS keyedS Tryd.underlying102 hown (by simp [maxLen]) (keyOf_int_mk Tryd.underlying3 (by decide)) (d := .lit (.int .i64 ((57 : Nat) : Int))) (ps := []) (by rfl) ?_
  intro w1 hown1 hg1
  have k1 := k.grown hg1 (by intro j e hj; injection e with e; omega)
  have g1 := g.put 1 57
  clear hown k g hg1
  go_wp2
  refine upon_insertS keyedS Tryd.underlying102 hown1 (by simp [maxLen]) (keyOf_int_mk Tryd.underlying3 (by decide)) (d := .lit (.int .i64 ((77 : Nat) : Int))) (ps := []) (by rfl) ?_
  intro w2 hown2 hg2
  have k2 := k1.grown hg2 (by intro j e hj; injection e with e; omega)
  have g2 := g1.put 2 77
  clear hown1 k1 g1 hg2
  go_wp2
  refine upon_insertS keyedS Tryd.underlying102 hown2 (by simp [maxLen]) (keyOf_int_mk Tryd.underlying3 (by decide)) (d := .lit (.int .i64 ((77 : Nat) : Int))) (ps := []) (by rfl) ?_
  intro w3 hown3 hg3
  have k3 := k2.grown hg3 (by intro j e hj; injection e with e; omega)
  have g3 := g2.put 3 77
  clear hown2 k2 g2 hg3
  go_wp2
  refine upon_insertS keyedS Tryd.underlying102 hown3 (by simp [maxLen]) (keyOf_int_mk Tryd.underlying3 (by decide)) (d := .lit (.int .i64 ((78 : Nat) : Int))) (ps := []) (by rfl) ?_
  intro w4 hown4 hg4
  have k4 := k3.grown hg4 (by intro j e hj; injection e with e; omega)
  have g4 := g3.put 4 78
  clear hown3 k3 g3 hg4
  go_wp2
  refine upon_insertS keyedS Tryd.underlying102 hown4 (by simp [maxLen]) (keyOf_int_mk Tryd.underlying3 (by decide)) (d := .lit (.int .i64 ((79 : Nat) : Int))) (ps := []) (by rfl) ?_
  intro w5 hown5 hg5
  have k5 := k4.grown hg5 (by intro j e hj; injection e with e; omega)
  have g5 := g4.put 5 79
  clear hown4 k4 g4 hg5
  go_wp2
  refine upon_insertS keyedS Tryd.underlying102 hown5 (by simp [maxLen]) (keyOf_int_mk Tryd.underlying3 (by decide)) (d := .lit (.int .i64 ((80 : Nat) : Int))) (ps := []) (by rfl) ?_
  intro w6 hown6 hg6
  have k6 := k5.grown hg6 (by intro j e hj; injection e with e; omega)
  have g6 := g5.put 6 80
  clear hown5 k5 g5 hg6
  go_wp2
  have OWN := Lib.hid hown6
  have GG := Lib.hid g6
  have KK := Lib.hid k6
  clear hown6 g6 k6
  go_wp2
  go_ret
  exact ⟨_, _, _, rfl, OWN.out, GG.out, KK.out⟩
theorem s_look {m n : Nat} {D : DataW Unit} {w : World} (hown : w.ownsMap Tryd.prog 3 fnR m n D) (hg : Gs fnsS D) (z : Int) (hz : -9223372036854775808 ≤ z ∧ z ≤ 9223372036854775807) :
    ∃ v, (Instr.lookup 102 (.map (some m)) (.int .i64 z) true).run Tryd.prog w = .ok (.tuple #[v, .bool (fnsS.lookup z).isSome]) w ∧ ∀ k, fnsS.lookup z = some k → v = .func (.func k) #[] #[] := by
  have hkey : keyOf Tryd.prog 3 (.int .i64 z) = some (keyS z) := keyOf_int_mk Tryd.underlying3 (by simp [Lit.wf, IntKind.min, IntKind.max, IntKind.signed, IntKind.bits]; omega)
  obtain ⟨v, ps, hrun, hv⟩ := hown.look_ok (t := 102) keyedS Tryd.underlying102 (Tryd.zeroValue100 _) (zd := .lit (.int .i64 (-1))) (zp := []) rfl hkey
  obtain ⟨h1, h2⟩ := hg.2 z
  rw [h1] at hrun
  refine ⟨v, hrun, fun k hk => ?_⟩
  rw [h2 k hk] at hv
  exact fnR_val hv
end Go.Proofs.YtembdobkgpojfaaDoor
