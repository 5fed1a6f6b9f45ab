
/-
  notice: the map of the readers of bodies.
-/
import Derived.Test.YtdhbfhjlholnlaaGreatDoorMc
import Derived.Test.YtdhbfhjlholnlaaGreatDoorMq
import Derived.Maps.OwnSet
namespace Go.Proofs.YtdhbfhjlholnlaaGreatDoor
open Go.RowKit Go.Maps

/-- The reader of a type's body. -/
def fnN (pb : Nat) (t : UInt8) : Value :=
  if t.toNat = 1 then .func (.func 24) #[] #[] else
  if t.toNat = 2 then .func (.func 26) #[] #[.pointer (some ⟨pb, 0, none⟩)] else
  if t.toNat = 3 then .func (.func 28) #[] #[] else
  if t.toNat = 4 then .func (.func 32) #[] #[] else
  if t.toNat = 5 then .func (.func 33) #[] #[] else
  .nilFunc
open Classical in
/-- How a reader reads as a datum. -/
noncomputable def fnM (pb : Nat) (v : Value) : Option (DataW Unit × List MemPlace) :=
  if h : ∃ t, v = fnN pb t then some (.lit (.int .u8 ((Classical.choose h).toNat : Int)), []) else none
theorem fnM_mk (pb : Nat) (t : UInt8) : ∃ t' : UInt8, fnM pb (fnN pb t) = some (.lit (.int .u8 (t'.toNat : Int)), []) ∧ fnN pb t' = fnN pb t := by
  have h : ∃ t', fnN pb t = fnN pb t' := ⟨t, rfl⟩
  refine ⟨Classical.choose h, ?_, (Classical.choose_spec h).symm⟩
  unfold fnM
  rw [dif_pos h]
theorem fnM_val {pb : Nat} {v : Value} {t : UInt8} {ps : List MemPlace} (h : fnM pb v = some (.lit (.int .u8 (t.toNat : Int)), ps)) : v = fnN pb t := by
  unfold fnM at h
  split at h
  · next hx =>
    have e := Classical.choose_spec hx
    injection h with h
    injection h with h _
    injection h with h
    injection h with _ h
    rw [e]
    congr 1
    exact UInt8.toNat_inj.1 (by omega)
  · cases h
def keyN (t : UInt8) : Lit := .int .u8 (t.toNat : Int)
theorem keyN_ne {s t : UInt8} (h : s ≠ t) : keyN s ≠ keyN t := fun e => by
  injection e with _ e
  exact h (UInt8.toNat_inj.1 (by omega))
/-- The datum has just the readers of those types. -/
def Gn (pb : Nat) (have_ : List UInt8) (D : DataW Unit) : Prop :=
  IsMap D ∧ ∀ t, Maps.has D (keyN t) = decide (t ∈ have_) ∧ (t ∈ have_ → ∃ t' : UInt8, (∀ zd, D.atKey (keyN t) zd = .lit (.int .u8 (t'.toNat : Int))) ∧ fnN pb t' = fnN pb t)
theorem Gn.empty (pb : Nat) : Gn pb [] (.map []) := ⟨⟨[], rfl⟩, fun t => ⟨rfl, fun h => by cases h⟩⟩
theorem Gn.put {pb : Nat} {l : List UInt8} {D : DataW Unit} (h : Gn pb l D) (t t' : UInt8) (ht : fnN pb t' = fnN pb t) : Gn pb (t :: l) (D.put (keyN t) (.lit (.int .u8 (t'.toNat : Int)))) := by
  refine ⟨h.1.put _ _, fun s => ?_⟩
  by_cases e : s = t
  · subst e
    exact ⟨by rw [has_put_same h.1 (show WideAt.IsKeyLit (keyN s) from trivial)]; simp, fun _ => ⟨t', fun zd => atKey_put_same h.1 (show WideAt.IsKeyLit (keyN s) from trivial) _ zd, ht⟩⟩
  · refine ⟨by rw [has_put_other (keyN_ne e), (h.2 s).1]; simp [e], fun hs => ?_⟩
    obtain ⟨x, h1, h2⟩ := (h.2 s).2 (by simpa [e] using hs)
    exact ⟨x, fun zd => by rw [atKey_put_other (keyN_ne e)]; exact h1 zd, h2⟩
theorem keyedN : Keyed Tryz.prog 5 := int_keyed Tryz.underlying5
/-- An entry of a map literal, where the walk stands. -/
theorem upon_insertN {H : Type} {P : Program} {o : Oper} {a : Act} {next : Act → World → Prop} {Q : Exit → Act → World → Prop} {w : World} {t k e : TypeId} {b n : Nat} {D d : DataW H} {key val : Value} {kl : Lit} {ps : List MemPlace} {R : Value → Option (DataW H × List MemPlace)}
    (K : Keyed P k) (ht : P.underlying t = some (.map k e)) (hown : w.ownsMap P k R b n D) (hn : n < maxLen) (hkey : keyOf P k key = some kl) (hval : R val = some (d, ps))
    (hK : ∀ w', w'.ownsMap P k R b (n + 1) (D.put kl d) → w.grownBy w' (some b) → next (a.put o.dst undef) w') :
    Oper.upon P o a next Q ((Sem.run P (Instr.mapUpdate t (.map (some b)) key val) w).andThen fun _ w' => Result.ok Next.skip w') := by
  obtain ⟨w', hrun, r1, r2⟩ := hown.update K ht hn hkey hval
  rw [hrun]
  exact hK w' r1 r2

set_option maxRecDepth 100000 in
set_option maxHeartbeats 4000000 in
theorem n_readers (a b c : Bool) (w : World) :
    Calls Tryz.prog 17 #[.agg #[.bool a, .bool b, .bool c]] w fun e w' => ∃ pb m n D, e = .returned (.map (some m)) ∧ w'.ownsMap Tryz.prog 5 (fnM pb) m n D ∧ Gn pb [5, 4, 3, 2, 1] D ∧ Kept Nothing w w' := by
  have hmm := @run_makeMap Tryz.prog
  obtain ⟨d1, r1, g1⟩ := fnM_mk w.heap.size 1
  replace r1 : fnM w.heap.size (.func (.func 24) #[] #[]) = some (.lit (.int .u8 (d1.toNat : Int)), []) := r1
  have R1 := Lib.hid r1
  have G1 := Lib.hid g1
  clear r1 g1
  obtain ⟨d2, r2, g2⟩ := fnM_mk w.heap.size 2
  replace r2 : fnM w.heap.size (.func (.func 26) #[] #[.pointer (some ⟨w.heap.size, 0, none⟩)]) = some (.lit (.int .u8 (d2.toNat : Int)), []) := r2
  have R2 := Lib.hid r2
  have G2 := Lib.hid g2
  clear r2 g2
  obtain ⟨d3, r3, g3⟩ := fnM_mk w.heap.size 3
  replace r3 : fnM w.heap.size (.func (.func 28) #[] #[]) = some (.lit (.int .u8 (d3.toNat : Int)), []) := r3
  have R3 := Lib.hid r3
  have G3 := Lib.hid g3
  clear r3 g3
  obtain ⟨d4, r4, g4⟩ := fnM_mk w.heap.size 4
  replace r4 : fnM w.heap.size (.func (.func 32) #[] #[]) = some (.lit (.int .u8 (d4.toNat : Int)), []) := r4
  have R4 := Lib.hid r4
  have G4 := Lib.hid g4
  clear r4 g4
  obtain ⟨d5, r5, g5⟩ := fnM_mk w.heap.size 5
  replace r5 : fnM w.heap.size (.func (.func 33) #[] #[]) = some (.lit (.int .u8 (d5.toNat : Int)), []) := r5
  have R5 := Lib.hid r5
  have G5 := Lib.hid g5
  clear r5 g5
  go_enter Tryz.func17, Tryz.ntmps17
  go_upto_region 1 with fail
  have K0 := Lib.hid ((Kept.refl Nothing w).alloc (.cells #[.bool a, .bool b, .bool c] 67))
  have hown := World.ownsMap_made (H := Unit) (w.alloc (.cells #[.bool a, .bool b, .bool c] 67)) Tryz.prog 5 (fnM w.heap.size)
  have k := (Kept.refl Nothing (w.alloc (.cells #[.bool a, .bool b, .bool c] 67))).alloc (.map #[] 0)
  have g := Gn.empty w.heap.size
  generalize w.alloc (.cells #[.bool a, .bool b, .bool c] 67) = w0 at *
  go_wp2
  refine upon_insertN keyedN Tryz.underlying76 hown (by simp [maxLen]) (keyOf_int_mk Tryz.underlying5 (by decide)) R1.out ?_
  intro w1 hown1 hg1
  have k1 := k.grown hg1 (by intro j e hj; injection e with e; omega)
  have g1 := g.put 1 _ G1.out
  clear hown k g hg1 R1 G1
  go_wp2
  refine upon_insertN keyedN Tryz.underlying76 hown1 (by simp [maxLen]) (keyOf_int_mk Tryz.underlying5 (by decide)) R2.out ?_
  intro w2 hown2 hg2
  have k2 := k1.grown hg2 (by intro j e hj; injection e with e; omega)
  have g2 := g1.put 2 _ G2.out
  clear hown1 k1 g1 hg2 R2 G2
  go_wp2
  refine upon_insertN keyedN Tryz.underlying76 hown2 (by simp [maxLen]) (keyOf_int_mk Tryz.underlying5 (by decide)) R3.out ?_
  intro w3 hown3 hg3
  have k3 := k2.grown hg3 (by intro j e hj; injection e with e; omega)
  have g3 := g2.put 3 _ G3.out
  clear hown2 k2 g2 hg3 R3 G3
  go_wp2
  refine upon_insertN keyedN Tryz.underlying76 hown3 (by simp [maxLen]) (keyOf_int_mk Tryz.underlying5 (by decide)) R4.out ?_
  intro w4 hown4 hg4
  have k4 := k3.grown hg4 (by intro j e hj; injection e with e; omega)
  have g4 := g3.put 4 _ G4.out
  clear hown3 k3 g3 hg4 R4 G4
  go_wp2
  refine upon_insertN keyedN Tryz.underlying76 hown4 (by simp [maxLen]) (keyOf_int_mk Tryz.underlying5 (by decide)) R5.out ?_
  intro w5 hown5 hg5
  have k5 := k4.grown hg5 (by intro j e hj; injection e with e; omega)
  have g5 := g4.put 5 _ G5.out
  clear hown4 k4 g4 hg5 R5 G5
  have OWN := Lib.hid hown5
  have GG := Lib.hid g5
  have KK := Lib.hid (K0.out.trans k5)
  clear hown5 g5 k5
  go_wp2
  go_ret
  exact ⟨_, _, _, _, rfl, OWN.out, GG.out, KK.out⟩
end Go.Proofs.YtdhbfhjlholnlaaGreatDoor
