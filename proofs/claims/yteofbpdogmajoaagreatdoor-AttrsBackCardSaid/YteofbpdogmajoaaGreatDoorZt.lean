
/-
  attrs: the map of the readers of values (printed by wip/gen_yp.py).
-/
import Derived.Test.YteofbpdogmajoaaGreatDoorZa
import Derived.Maps.RangeWalk
import Derived.StringKeys
import Derived.Carry
import Derived.Test.YteofbpdogmajoaaGreatDoorZyo
import Derived.Maps.OwnSet
namespace Go.Proofs.YteofbpdogmajoaaGreatDoor
open Go.RowKit Go.Maps

/-- A map all of whose entries are right. -/
def Good (S : Lit → DataW Unit → Prop) (D : DataW Unit) : Prop := IsMap D ∧ ∀ kl, Maps.has D kl = true → ∃ d, (∀ zd, D.atKey kl zd = d) ∧ S kl d
theorem Good.empty (S : Lit → DataW Unit → Prop) : Good S (.map []) := ⟨⟨[], rfl⟩, fun _ h => by cases h⟩
theorem Good.put {S : Lit → DataW Unit → Prop} {D : DataW Unit} (h : Good S D) {k : Lit} {d : DataW Unit} (hk : WideAt.IsKeyLit k) (hs : S k d) : Good S (D.put k d) := by
  refine ⟨h.1.put k d, fun kl hl => ?_⟩
  by_cases e : kl = k
  · subst e
    exact ⟨d, fun zd => atKey_put_same h.1 hk d zd, hs⟩
  · rw [has_put_other e] at hl
    obtain ⟨d', h1, h2⟩ := h.2 kl hl
    exact ⟨d', fun zd => by rw [atKey_put_other e]; exact h1 zd, h2⟩
theorem Good.at {S : Lit → DataW Unit → Prop} {D : DataW Unit} (h : Good S D) {kl : Lit} (hl : Maps.has D kl = true) {d : DataW Unit} (hd : ∀ zd, D.atKey kl zd = d) : S kl d := by
  obtain ⟨d', h1, h2⟩ := h.2 kl hl
  rwa [← hd .nil, h1 .nil]
theorem ranges_kept {P : Program} {k : TypeId} {R : Value → Option (DataW Unit × List MemPlace)} {w w' : World} {b r n : Nat} {D : DataW Unit} {left : Lit → Bool} {cnt : Nat}
    (h : w.ranges P k R b r n D left cnt) (kk : Kept Nothing w w') : w'.ranges P k R b r n D left cnt := by
  obtain ⟨es, clock, since, seen, c0, hb, hF, hn, hD, hr, rest⟩ := h
  exact ⟨es, clock, since, seen, c0, (kk.block _ (Array.getElem?_eq_some_iff.1 hb).1 (fun x => x)).trans hb, hF, hn, hD, (kk.block _ (Array.getElem?_eq_some_iff.1 hr).1 (fun x => x)).trans hr, rest⟩
theorem keyedS : Keyed Tryz.prog 9 := string_keyed Tryz.underlying9
/-- An entry of a map literal, where the walk stands. -/
theorem upon_insert {P : Program} {o : Oper} {a : Act} {next : Act → World → Prop} {Q : Exit → Act → World → Prop} {w : World} {t k e : TypeId} {b n : Nat} {D d : DataW Unit} {key val : Value} {kl : Lit} {ps : List MemPlace}
    (K : Keyed P k) (ht : P.underlying t = some (.map k e)) (hown : w.ownsMap P k (plainElem P e) b n D) (hn : n < maxLen) (hkey : keyOf P k key = some kl) (hval : plainElem P e val = some (d, ps))
    {S : Lit → DataW Unit → Prop} {w0 : World} (hG : Good S D) (hk : WideAt.IsKeyLit kl) (hS : S kl d) (kk : Kept Nothing w0 w) (hb : w0.heap.size ≤ b)
    (hK : ∀ w' D', w'.ownsMap P k (plainElem P e) b (n + 1) D' → Good S D' → Kept Nothing w0 w' → next (a.put o.dst undef) w') :
    Oper.upon P o a next Q ((Sem.run P (Instr.mapUpdate t (.map (some b)) key val) w).andThen fun _ w' => Result.ok Next.skip w') := by
  obtain ⟨w', hrun, r1, r2⟩ := hown.update K ht hn hkey hval
  rw [hrun]
  exact hK w' _ r1 (hG.put hk hS) (kk.grown r2 (by intro j e hj; injection e with e; omega))
end Go.Proofs.YteofbpdogmajoaaGreatDoor
namespace Go.Proofs.YteofbpdogmajoaaGreatDoor
open Go.RowKit Go.Maps

/-- The reader of a known type's value. -/
def fnT (pb pf : Nat) (t : UInt8) : Value :=
  if t.toNat = 1 then .func (.func 70) #[] #[.pointer (some ⟨pb, 0, none⟩)] else
  if t.toNat = 2 then .func (.func 72) #[] #[.pointer (some ⟨pf, 0, none⟩), .pointer (some ⟨pb, 0, none⟩)] else
  if t.toNat = 3 then .func (.func 74) #[] #[.pointer (some ⟨pb, 0, none⟩)] else
  if t.toNat = 4 then .func (.func 76) #[] #[.pointer (some ⟨pb, 0, none⟩)] else
  if t.toNat = 5 then .func (.func 77) #[] #[.pointer (some ⟨pb, 0, none⟩)] else
  if t.toNat = 6 then .func (.func 78) #[] #[] else
  if t.toNat = 7 then .func (.func 79) #[] #[.pointer (some ⟨pf, 0, none⟩), .pointer (some ⟨pb, 0, none⟩)] else
  if t.toNat = 8 then .func (.func 81) #[] #[.pointer (some ⟨pb, 0, none⟩)] else
  if t.toNat = 17 then .func (.func 83) #[] #[.pointer (some ⟨pb, 0, none⟩)] else
  if t.toNat = 18 then .func (.func 85) #[] #[.pointer (some ⟨pb, 0, none⟩)] else
  .nilFunc
open Classical in
/-- How a reader reads as a datum. -/
noncomputable def fnR (pb pf : Nat) (v : Value) : Option (DataW Unit × List MemPlace) :=
  if h : ∃ t, v = fnT pb pf t then some (.lit (.int .u8 ((Classical.choose h).toNat : Int)), []) else none
theorem fnR_mk (pb pf : Nat) (t : UInt8) : ∃ t' : UInt8, fnR pb pf (fnT pb pf t) = some (.lit (.int .u8 (t'.toNat : Int)), []) ∧ fnT pb pf t' = fnT pb pf t := by
  have h : ∃ t', fnT pb pf t = fnT pb pf t' := ⟨t, rfl⟩
  refine ⟨Classical.choose h, ?_, (Classical.choose_spec h).symm⟩
  unfold fnR
  rw [dif_pos h]
theorem fnR_val {pb pf : Nat} {v : Value} {t : UInt8} {ps : List MemPlace} (h : fnR pb pf v = some (.lit (.int .u8 (t.toNat : Int)), ps)) : v = fnT pb pf t := by
  unfold fnR at h
  split at h
  · next hx =>
    have e := Classical.choose_spec hx
    injection h with h
    injection h with h _
    injection h with h
    injection h with _ h
    rw [e]
    congr 1
    exact UInt8.toNat_inj.1 (by omega)
  · cases h
def keyT (t : UInt8) : Lit := .int .u8 (t.toNat : Int)
theorem keyT_ne {s t : UInt8} (h : s ≠ t) : keyT s ≠ keyT t := fun e => by
  injection e with _ e
  exact h (UInt8.toNat_inj.1 (by omega))
/-- The datum has just the readers of those types. -/
def Gd (pb pf : Nat) (have_ : List UInt8) (D : DataW Unit) : Prop :=
  IsMap D ∧ ∀ t, Maps.has D (keyT t) = decide (t ∈ have_) ∧ (t ∈ have_ → ∃ t' : UInt8, (∀ zd, D.atKey (keyT t) zd = .lit (.int .u8 (t'.toNat : Int))) ∧ fnT pb pf t' = fnT pb pf t)
theorem Gd.empty (pb pf : Nat) : Gd pb pf [] (.map []) := ⟨⟨[], rfl⟩, fun t => ⟨rfl, fun h => by cases h⟩⟩
theorem Gd.put {pb pf : Nat} {l : List UInt8} {D : DataW Unit} (h : Gd pb pf l D) (t t' : UInt8) (ht : fnT pb pf t' = fnT pb pf t) : Gd pb pf (t :: l) (D.put (keyT t) (.lit (.int .u8 (t'.toNat : Int)))) := by
  refine ⟨h.1.put _ _, fun s => ?_⟩
  by_cases e : s = t
  · subst e
    exact ⟨by rw [has_put_same h.1 (show WideAt.IsKeyLit (keyT s) from trivial)]; simp, fun _ => ⟨t', fun zd => atKey_put_same h.1 (show WideAt.IsKeyLit (keyT s) from trivial) _ zd, ht⟩⟩
  · refine ⟨by rw [has_put_other (keyT_ne e), (h.2 s).1]; simp [e], fun hs => ?_⟩
    obtain ⟨x, h1, h2⟩ := (h.2 s).2 (by simpa [e] using hs)
    exact ⟨x, fun zd => by rw [atKey_put_other (keyT_ne e)]; exact h1 zd, h2⟩
theorem Gd.del {pb pf : Nat} {l : List UInt8} {D : DataW Unit} (h : Gd pb pf l D) (t : UInt8) : Gd pb pf (l.filter (fun s => decide (s ≠ t))) (D.del (keyT t)) := by
  refine ⟨h.1.del _, fun s => ?_⟩
  by_cases e : s = t
  · subst e
    exact ⟨by rw [has_del_same]; simp, fun hs => by simp at hs⟩
  · refine ⟨by rw [has_del_other (keyT_ne e), (h.2 s).1]; simp [e], fun hs => ?_⟩
    obtain ⟨x, h1, h2⟩ := (h.2 s).2 (by simpa [e] using hs)
    exact ⟨x, fun zd => by rw [atKey_del_other (keyT_ne e)]; exact h1 zd, h2⟩
theorem keyedU8 : Keyed Tryz.prog 5 := int_keyed Tryz.underlying5
namespace Ax
/-- The types that a session has readers of. -/
def haves (four outside : Bool) : List UInt8 :=
  let l : List UInt8 := [18, 17, 8, 7, 6, 5, 4, 3, 2, 1]
  let l := if outside then l.filter (fun s => decide (s ≠ 5)) else l
  if four then (l.filter (fun s => decide (s ≠ 17))).filter (fun s => decide (s ≠ 18)) else l
end Ax
/-- The map of the readers. -/
def Rdm (w : World) (pb pf b : Nat) (four outside : Bool) : Prop := ∃ D n, w.ownsMap Tryz.prog 5 (fnR pb pf) b n D ∧ Gd pb pf (Ax.haves four outside) D
theorem Rdm.kept {S : Nat → Prop} {w w' : World} {pb pf b : Nat} {four outside : Bool} (h : Rdm w pb pf b four outside) (k : Kept S w w') (hs : ¬ S b) : Rdm w' pb pf b four outside := by
  obtain ⟨D, n, ⟨es, clock, hb, r⟩, hg⟩ := h
  exact ⟨D, n, ⟨es, clock, (k.block b (Array.getElem?_eq_some_iff.1 hb).1 hs).trans hb, r⟩, hg⟩
/-- An entry of a map literal, where the walk stands. -/
theorem upon_insertR {H : Type} {P : Program} {o : Oper} {a : Act} {next : Act → World → Prop} {Q : Exit → Act → World → Prop} {w : World} {t k e : TypeId} {b n : Nat} {D d : DataW H} {key val : Value} {kl : Lit} {ps : List MemPlace} {R : Value → Option (DataW H × List MemPlace)}
    (K : Keyed P k) (ht : P.underlying t = some (.map k e)) (hown : w.ownsMap P k R b n D) (hn : n < maxLen) (hkey : keyOf P k key = some kl) (hval : R val = some (d, ps))
    (hK : ∀ w', w'.ownsMap P k R b (n + 1) (D.put kl d) → w.grownBy w' (some b) → next (a.put o.dst undef) w') :
    Oper.upon P o a next Q ((Sem.run P (Instr.mapUpdate t (.map (some b)) key val) w).andThen fun _ w' => Result.ok Next.skip w') := by
  obtain ⟨w', hrun, r1, r2⟩ := hown.update K ht hn hkey hval
  rw [hrun]
  exact hK w' r1 r2

set_option maxRecDepth 100000 in
set_option maxHeartbeats 4000000 in
theorem at_readers (pa : Nat) (four outside : Bool) (w : World) (hpa : pa < w.heap.size) :
    Calls Tryz.prog 23 #[.pointer (some ⟨pa, 0, none⟩), .bool four, .bool outside] w fun e w' => ∃ pb pf b, e = .returned (.map (some b)) ∧ Blk w' pb 133 #[.pointer (some ⟨pa, 0, none⟩)] ∧ Blk w' pf 4 #[.bool four] ∧ Rdm w' pb pf b four outside ∧ b ≠ pa ∧ w.heap.size ≤ pb ∧ w.heap.size ≤ pf ∧ w.heap.size ≤ b ∧ Kept Nothing w w' := by
  have hmm := @run_makeMap Tryz.prog
  have HPA := Lib.hid hpa
  clear hpa
  obtain ⟨d1, r1, g1⟩ := fnR_mk w.heap.size (w.heap.size + 1) 1
  replace r1 : fnR w.heap.size (w.heap.size + 1) (.func (.func 70) #[] #[.pointer (some ⟨w.heap.size, 0, none⟩)]) = some (.lit (.int .u8 (d1.toNat : Int)), []) := r1
  have R1 := Lib.hid r1
  have G1 := Lib.hid g1
  clear r1 g1
  obtain ⟨d2, r2, g2⟩ := fnR_mk w.heap.size (w.heap.size + 1) 2
  replace r2 : fnR w.heap.size (w.heap.size + 1) (.func (.func 72) #[] #[.pointer (some ⟨w.heap.size + 1, 0, none⟩), .pointer (some ⟨w.heap.size, 0, none⟩)]) = some (.lit (.int .u8 (d2.toNat : Int)), []) := r2
  have R2 := Lib.hid r2
  have G2 := Lib.hid g2
  clear r2 g2
  obtain ⟨d3, r3, g3⟩ := fnR_mk w.heap.size (w.heap.size + 1) 3
  replace r3 : fnR w.heap.size (w.heap.size + 1) (.func (.func 74) #[] #[.pointer (some ⟨w.heap.size, 0, none⟩)]) = some (.lit (.int .u8 (d3.toNat : Int)), []) := r3
  have R3 := Lib.hid r3
  have G3 := Lib.hid g3
  clear r3 g3
  obtain ⟨d4, r4, g4⟩ := fnR_mk w.heap.size (w.heap.size + 1) 4
  replace r4 : fnR w.heap.size (w.heap.size + 1) (.func (.func 76) #[] #[.pointer (some ⟨w.heap.size, 0, none⟩)]) = some (.lit (.int .u8 (d4.toNat : Int)), []) := r4
  have R4 := Lib.hid r4
  have G4 := Lib.hid g4
  clear r4 g4
  obtain ⟨d5, r5, g5⟩ := fnR_mk w.heap.size (w.heap.size + 1) 5
  replace r5 : fnR w.heap.size (w.heap.size + 1) (.func (.func 77) #[] #[.pointer (some ⟨w.heap.size, 0, none⟩)]) = some (.lit (.int .u8 (d5.toNat : Int)), []) := r5
  have R5 := Lib.hid r5
  have G5 := Lib.hid g5
  clear r5 g5
  obtain ⟨d6, r6, g6⟩ := fnR_mk w.heap.size (w.heap.size + 1) 6
  replace r6 : fnR w.heap.size (w.heap.size + 1) (.func (.func 78) #[] #[]) = some (.lit (.int .u8 (d6.toNat : Int)), []) := r6
  have R6 := Lib.hid r6
  have G6 := Lib.hid g6
  clear r6 g6
  obtain ⟨d7, r7, g7⟩ := fnR_mk w.heap.size (w.heap.size + 1) 7
  replace r7 : fnR w.heap.size (w.heap.size + 1) (.func (.func 79) #[] #[.pointer (some ⟨w.heap.size + 1, 0, none⟩), .pointer (some ⟨w.heap.size, 0, none⟩)]) = some (.lit (.int .u8 (d7.toNat : Int)), []) := r7
  have R7 := Lib.hid r7
  have G7 := Lib.hid g7
  clear r7 g7
  obtain ⟨d8, r8, g8⟩ := fnR_mk w.heap.size (w.heap.size + 1) 8
  replace r8 : fnR w.heap.size (w.heap.size + 1) (.func (.func 81) #[] #[.pointer (some ⟨w.heap.size, 0, none⟩)]) = some (.lit (.int .u8 (d8.toNat : Int)), []) := r8
  have R8 := Lib.hid r8
  have G8 := Lib.hid g8
  clear r8 g8
  obtain ⟨d17, r17, g17⟩ := fnR_mk w.heap.size (w.heap.size + 1) 17
  replace r17 : fnR w.heap.size (w.heap.size + 1) (.func (.func 83) #[] #[.pointer (some ⟨w.heap.size, 0, none⟩)]) = some (.lit (.int .u8 (d17.toNat : Int)), []) := r17
  have R17 := Lib.hid r17
  have G17 := Lib.hid g17
  clear r17 g17
  obtain ⟨d18, r18, g18⟩ := fnR_mk w.heap.size (w.heap.size + 1) 18
  replace r18 : fnR w.heap.size (w.heap.size + 1) (.func (.func 85) #[] #[.pointer (some ⟨w.heap.size, 0, none⟩)]) = some (.lit (.int .u8 (d18.toNat : Int)), []) := r18
  have R18 := Lib.hid r18
  have G18 := Lib.hid g18
  clear r18 g18
  go_enter Tryz.func23, Tryz.ntmps23
  go_upto_region 1 with fail
  have bb := (Blk.fresh w 133 #[.pointer (some ⟨pa, 0, none⟩)]).alloc (.cells #[.bool four] 4)
  have bf := Blk.fresh (w.alloc (.cells #[.pointer (some ⟨pa, 0, none⟩)] 133)) 4 #[.bool four]
  rw [World.size_alloc] at bf
  have kk := ((Kept.refl Nothing w).alloc (.cells #[.pointer (some ⟨pa, 0, none⟩)] 133)).alloc (.cells #[.bool four] 4)
  obtain ⟨w0, hw0⟩ : ∃ w0, (w.alloc (.cells #[.pointer (some ⟨pa, 0, none⟩)] 133)).alloc (.cells #[.bool four] 4) = w0 := ⟨_, rfl⟩
  rw [hw0] at bb bf kk ⊢
  have hz : w.heap.size + 1 < w0.heap.size := bf.lt
  have hown := World.ownsMap_made (H := Unit) w0 Tryz.prog 5 (fnR w.heap.size (w.heap.size + 1))
  have k := (Kept.refl Nothing w0).alloc (.map #[] 0)
  have BB := Lib.hid bb
  have BF := Lib.hid bf
  have KK := Lib.hid kk
  have HZ := Lib.hid hz
  have g := Gd.empty w.heap.size (w.heap.size + 1)
  clear bb bf kk hw0 hz
  go_wp2
  refine upon_insertR keyedU8 Tryz.underlying80 hown (by simp [maxLen]) (keyOf_int_mk Tryz.underlying5 (by decide)) R1.out ?_
  intro w1 hown1 hg1
  have k1 := k.grown hg1 (by intro j e hj; injection e with e; omega)
  have g1 := g.put 1 _ G1.out
  clear hown k g hg1 R1 G1
  go_wp2
  refine upon_insertR keyedU8 Tryz.underlying80 hown1 (by simp [maxLen]) (keyOf_int_mk Tryz.underlying5 (by decide)) R2.out ?_
  intro w2 hown2 hg2
  have k2 := k1.grown hg2 (by intro j e hj; injection e with e; omega)
  have g2 := g1.put 2 _ G2.out
  clear hown1 k1 g1 hg2 R2 G2
  go_wp2
  refine upon_insertR keyedU8 Tryz.underlying80 hown2 (by simp [maxLen]) (keyOf_int_mk Tryz.underlying5 (by decide)) R3.out ?_
  intro w3 hown3 hg3
  have k3 := k2.grown hg3 (by intro j e hj; injection e with e; omega)
  have g3 := g2.put 3 _ G3.out
  clear hown2 k2 g2 hg3 R3 G3
  go_wp2
  refine upon_insertR keyedU8 Tryz.underlying80 hown3 (by simp [maxLen]) (keyOf_int_mk Tryz.underlying5 (by decide)) R4.out ?_
  intro w4 hown4 hg4
  have k4 := k3.grown hg4 (by intro j e hj; injection e with e; omega)
  have g4 := g3.put 4 _ G4.out
  clear hown3 k3 g3 hg4 R4 G4
  go_wp2
  refine upon_insertR keyedU8 Tryz.underlying80 hown4 (by simp [maxLen]) (keyOf_int_mk Tryz.underlying5 (by decide)) R5.out ?_
  intro w5 hown5 hg5
  have k5 := k4.grown hg5 (by intro j e hj; injection e with e; omega)
  have g5 := g4.put 5 _ G5.out
  clear hown4 k4 g4 hg5 R5 G5
  go_wp2
  refine upon_insertR keyedU8 Tryz.underlying80 hown5 (by simp [maxLen]) (keyOf_int_mk Tryz.underlying5 (by decide)) R6.out ?_
  intro w6 hown6 hg6
  have k6 := k5.grown hg6 (by intro j e hj; injection e with e; omega)
  have g6 := g5.put 6 _ G6.out
  clear hown5 k5 g5 hg6 R6 G6
  go_wp2
  refine upon_insertR keyedU8 Tryz.underlying80 hown6 (by simp [maxLen]) (keyOf_int_mk Tryz.underlying5 (by decide)) R7.out ?_
  intro w7 hown7 hg7
  have k7 := k6.grown hg7 (by intro j e hj; injection e with e; omega)
  have g7 := g6.put 7 _ G7.out
  clear hown6 k6 g6 hg7 R7 G7
  go_wp2
  refine upon_insertR keyedU8 Tryz.underlying80 hown7 (by simp [maxLen]) (keyOf_int_mk Tryz.underlying5 (by decide)) R8.out ?_
  intro w8 hown8 hg8
  have k8 := k7.grown hg8 (by intro j e hj; injection e with e; omega)
  have g8 := g7.put 8 _ G8.out
  clear hown7 k7 g7 hg8 R8 G8
  go_wp2
  refine upon_insertR keyedU8 Tryz.underlying80 hown8 (by simp [maxLen]) (keyOf_int_mk Tryz.underlying5 (by decide)) R17.out ?_
  intro w9 hown9 hg9
  have k9 := k8.grown hg9 (by intro j e hj; injection e with e; omega)
  have g9 := g8.put 17 _ G17.out
  clear hown8 k8 g8 hg9 R17 G17
  go_wp2
  refine upon_insertR keyedU8 Tryz.underlying80 hown9 (by simp [maxLen]) (keyOf_int_mk Tryz.underlying5 (by decide)) R18.out ?_
  intro w10 hown10 hg10
  have k10 := k9.grown hg10 (by intro j e hj; injection e with e; omega)
  have g10 := g9.put 18 _ G18.out
  clear hown9 k9 g9 hg10 R18 G18
  have OWN : ∃ D, w10.ownsMap Tryz.prog 5 (fnR w.heap.size (w.heap.size + 1)) w0.heap.size 10 D ∧ Gd w.heap.size (w.heap.size + 1) [18, 17, 8, 7, 6, 5, 4, 3, 2, 1] D := ⟨_, hown10, g10⟩
  have K10 := Lib.hid k10
  clear hown10 g10 k10
  obtain ⟨D, own, gd⟩ := OWN
  have GD := Lib.hid gd
  have OWN := Lib.hid own
  have cf := (BF.out.kept K10.out (fun x => x)).cell 0
  clear gd own
  cases outside with
  | false =>
    cases four with
    | false =>
      go_wp2
      go_ret
      have kz := K10.out
      exact ⟨_, _, _, rfl, BB.out.kept kz (fun x => x), BF.out.kept kz (fun x => x), ⟨_, _, OWN.out, GD.out⟩, by have := HZ.out; have := HPA.out; omega, Nat.le_refl _, Nat.le_succ _, by have := HZ.out; omega, KK.out.trans kz⟩
    | true =>
      go_wp2_with (first
        | (at_delete; refine wpList_delete_own _ rfl _ _ 80 5 rfl 135 keyedU8 Tryz.underlying80 (fnR w.heap.size (w.heap.size + 1)) w0.heap.size 10 _ rfl Oa.out _ (keyT 18) rfl (keyOf_int_mk Tryz.underlying5 (by decide)) ?_; intro b ob tb; (have Ob := Lib.hid ob); (have Kb := Lib.hid (Ka.out.grown tb.grown (by intro j e hj; injection e with e; omega))); (have cfb := (BF.out.kept Kb.out (fun x => x)).cell 0); clear ob tb)
        | (at_delete; refine wpList_delete_own _ rfl _ _ 80 5 rfl 135 keyedU8 Tryz.underlying80 (fnR w.heap.size (w.heap.size + 1)) w0.heap.size 10 _ rfl OWN.out _ (keyT 17) rfl (keyOf_int_mk Tryz.underlying5 (by decide)) ?_; intro a oa ta; (have Oa := Lib.hid oa); (have Ka := Lib.hid (K10.out.grown ta.grown (by intro j e hj; injection e with e; omega))); (have cfa := (BF.out.kept Ka.out (fun x => x)).cell 0); clear oa ta))
      go_ret
      have kz := Kb.out
      exact ⟨_, _, _, rfl, BB.out.kept kz (fun x => x), BF.out.kept kz (fun x => x), ⟨_, _, Ob.out, (GD.out.del 17).del 18⟩, by have := HZ.out; have := HPA.out; omega, Nat.le_refl _, Nat.le_succ _, by have := HZ.out; omega, KK.out.trans kz⟩
  | true =>
    cases four with
    | false =>
      go_wp2_with (at_delete; refine wpList_delete_own _ rfl _ _ 80 5 rfl 135 keyedU8 Tryz.underlying80 (fnR w.heap.size (w.heap.size + 1)) w0.heap.size 10 _ rfl OWN.out _ (keyT 5) rfl (keyOf_int_mk Tryz.underlying5 (by decide)) ?_; intro a oa ta; (have Oa := Lib.hid oa); (have Ka := Lib.hid (K10.out.grown ta.grown (by intro j e hj; injection e with e; omega))); (have cfa := (BF.out.kept Ka.out (fun x => x)).cell 0); clear oa ta)
      go_ret
      have kz := Ka.out
      exact ⟨_, _, _, rfl, BB.out.kept kz (fun x => x), BF.out.kept kz (fun x => x), ⟨_, _, Oa.out, GD.out.del 5⟩, by have := HZ.out; have := HPA.out; omega, Nat.le_refl _, Nat.le_succ _, by have := HZ.out; omega, KK.out.trans kz⟩
    | true =>
      go_wp2_with (first
        | (at_delete; refine wpList_delete_own _ rfl _ _ 80 5 rfl 135 keyedU8 Tryz.underlying80 (fnR w.heap.size (w.heap.size + 1)) w0.heap.size 10 _ rfl Ob.out _ (keyT 18) rfl (keyOf_int_mk Tryz.underlying5 (by decide)) ?_; intro c oc tc; (have Oc := Lib.hid oc); (have Kc := Lib.hid (Kb.out.grown tc.grown (by intro j e hj; injection e with e; omega))); (have cfc := (BF.out.kept Kc.out (fun x => x)).cell 0); clear oc tc)
        | (at_delete; refine wpList_delete_own _ rfl _ _ 80 5 rfl 135 keyedU8 Tryz.underlying80 (fnR w.heap.size (w.heap.size + 1)) w0.heap.size 10 _ rfl Oa.out _ (keyT 17) rfl (keyOf_int_mk Tryz.underlying5 (by decide)) ?_; intro b ob tb; (have Ob := Lib.hid ob); (have Kb := Lib.hid (Ka.out.grown tb.grown (by intro j e hj; injection e with e; omega))); (have cfb := (BF.out.kept Kb.out (fun x => x)).cell 0); clear ob tb)
        | (at_delete; refine wpList_delete_own _ rfl _ _ 80 5 rfl 135 keyedU8 Tryz.underlying80 (fnR w.heap.size (w.heap.size + 1)) w0.heap.size 10 _ rfl OWN.out _ (keyT 5) rfl (keyOf_int_mk Tryz.underlying5 (by decide)) ?_; intro a oa ta; (have Oa := Lib.hid oa); (have Ka := Lib.hid (K10.out.grown ta.grown (by intro j e hj; injection e with e; omega))); (have cfa := (BF.out.kept Ka.out (fun x => x)).cell 0); clear oa ta))
      go_ret
      have kz := Kc.out
      exact ⟨_, _, _, rfl, BB.out.kept kz (fun x => x), BF.out.kept kz (fun x => x), ⟨_, _, Oc.out, ((GD.out.del 5).del 17).del 18⟩, by have := HZ.out; have := HPA.out; omega, Nat.le_refl _, Nat.le_succ _, by have := HZ.out; omega, KK.out.trans kz⟩
end Go.Proofs.YteofbpdogmajoaaGreatDoor
