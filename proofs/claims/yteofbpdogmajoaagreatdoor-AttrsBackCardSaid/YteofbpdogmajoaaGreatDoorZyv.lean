
/-
  attrs: what Get answers, as plain data; an attribute's form, taken by a reader.
-/
import Derived.Test.YteofbpdogmajoaaGreatDoorZys
import Derived.Test.YteofbpdogmajoaaGreatDoorZyt
namespace Go.Proofs.YteofbpdogmajoaaGreatDoor
open Go.RowKit
attribute [local go_sem] Oper.semAt_some

set_option maxHeartbeats 1000000 in
theorem at_reset (v : Value) (l : List UInt8) (w : World) (h : By w v l) (hl : l.length ≤ 1099511627776) :
    Calls Tryz.prog 31 #[v] w fun e w' => ∃ dv, e = .returned (.agg #[.int .i64 3, .int .u8 3, .int .u8 2, dv]) ∧ w'.ownsRow w.heap.size 5 1 dv l.length (bys l) ∧ Kept Nothing w w' := by
  obtain ⟨A, c, rfl, _, _⟩ := h.form
  have HC := Lib.hid (fun u (k : Kept Nothing w u) => sl_clone (.slice A l.length c) l u (h.old k) hl)
  clear h hl
  go_enter Tryz.func31, Tryz.ntmps31
  go_upto_region 2 with fail
  have k0 := ((Kept.refl Nothing w).alloc (.cells #[.int .i64 0, .int .u8 0, .int .u8 0, .slice none 0 0] 37)).alloc (.cells #[.int .u8 3, .int .u8 2] 35)
  have b1 := (Blk.fresh w 37 #[.int .i64 0, .int .u8 0, .int .u8 0, .slice none 0 0]).alloc (.cells #[.int .u8 3, .int .u8 2] 35)
  have b2 := Blk.fresh (w.alloc (.cells #[.int .i64 0, .int .u8 0, .int .u8 0, .slice none 0 0] 37)) 35 #[.int .u8 3, .int .u8 2]
  rw [World.size_alloc] at b2
  obtain ⟨w0, hw0⟩ : ∃ w0, (w.alloc (.cells #[.int .i64 0, .int .u8 0, .int .u8 0, .slice none 0 0] 37)).alloc (.cells #[.int .u8 3, .int .u8 2] 35) = w0 := ⟨_, rfl⟩
  rw [hw0] at k0 b1 b2 ⊢
  have c0 := b2.cell 0
  have c1 := b2.cell 1
  have HK := Lib.hid k0
  have HB := Lib.hid b1
  have HB2 := Lib.hid b2
  have hz : w.heap.size + 1 < w0.heap.size := b2.lt
  clear k0 b1 b2 hw0
  go_region_law (go_simp; go_at_call 69; refine (HC.out _ (by exact HK.out.drew)).mono ?_; rintro e w8 ⟨v8, rfl, ho8, hk8⟩; (have B8 := Lib.hid (HB.out.kept (((Kept.refl Nothing w0).drew).trans hk8) (fun x => x))); (have b28 := HB2.out.kept (((Kept.refl Nothing w0).drew).trans hk8) (fun x => x)); (have r0 := B8.out.cell 0); (have r1 := B8.out.cell 1); (have r2 := B8.out.cell 2); (have r3 := B8.out.cell 3); (have f0 := B8.out.free 0); (have f1 := B8.out.free 1); (have f2 := B8.out.free 2); (have f3 := B8.out.free 3); (have d0 := b28.cell 0); (have d1 := b28.cell 1); (have l8 := B8.out.lt); (have HV8 := Lib.hid ho8); (have HK8 := Lib.hid (HK.out.trans (((Kept.refl Nothing w0).drew).trans hk8))); (obtain ⟨A8, c8, rfl, _, _⟩ := ow_form ho8); clear ho8 hk8 b28)
  all_goals
    have B9 := (((B8.out.put 0 (.int .i64 3)).put 1 (.int .u8 3)).put 2 (.int .u8 2)).put 3 (.slice A8 l.length c8)
    have K9 := (((Kept.own w8 w.heap.size 0 (.int .i64 3)).trans (Kept.own _ w.heap.size 1 (.int .u8 3))).trans (Kept.own _ w.heap.size 2 (.int .u8 2))).trans (Kept.own _ w.heap.size 3 (.slice A8 l.length c8))
    have e0 := B9.cell 0
    have e1 := B9.cell 1
    have e2 := B9.cell 2
    have e3 := B9.cell 3
    generalize hw9 : (((w8.setCell ⟨w.heap.size, 0, none⟩ (.int .i64 3)).setCell ⟨w.heap.size, 1, none⟩ (.int .u8 3)).setCell ⟨w.heap.size, 2, none⟩ (.int .u8 2)).setCell ⟨w.heap.size, 3, none⟩ (.slice A8 l.length c8) = w9 at *
    replace e0 : w9.cell? ⟨w.heap.size, 0, none⟩ = some (.int .i64 3) := e0
    replace e1 : w9.cell? ⟨w.heap.size, 1, none⟩ = some (.int .u8 3) := e1
    replace e2 : w9.cell? ⟨w.heap.size, 2, none⟩ = some (.int .u8 2) := e2
    replace e3 : w9.cell? ⟨w.heap.size, 3, none⟩ = some (.slice A8 l.length c8) := e3
    go_wp2
    refine bodyPost_ret (v := .agg #[.int .i64 3, .int .u8 3, .int .u8 2, .slice A8 l.length c8]) (by simp [results, Tryz.results31, go_sem, e0, e1, e2, e3]) rfl ⟨_, rfl, ?_, ?_⟩
    · exact own_weakA (ow_kept HV8.out K9 (ow_far HV8.out B8.out (by decide))) (HK.out.drew).size
    · exact HK8.out.trans_new K9 (fun i hi (e : i = w.heap.size) => absurd hi (by omega))
end Go.Proofs.YteofbpdogmajoaaGreatDoor
namespace Go.Proofs.YteofbpdogmajoaaGreatDoor
open Go.RowKit

namespace Ax
/-- An attribute's form at the head of b: flags, type, value, and how many bytes it has; none, if it is cut short. -/
def formL : List UInt8 → Option (UInt8 × UInt8 × List UInt8 × Nat)
  | f :: t :: r =>
    let z := if ext f.toNat then 2 else 1
    if r.length < z + RS.num (r.take z) then none else some (f, t, (r.drop z).take (RS.num (r.take z)), 2 + z + RS.num (r.take z))
  | _ => none
/-- Attributes so far, the class so far, the types that were there. -/
structure Gs where
  a : At
  cls : Nat
  seen : List UInt8
inductive Nx
  | on (s : Gs)
  | brk
  | rst
/-- An attribute's fate. -/
def step (four outside : Bool) (s : Gs) (f t : UInt8) (v : List UInt8) : Nx :=
  if t ∈ s.seen then .on { s with cls := max s.cls 1 }
  else if known t = true then
    if f &&& 192 ≠ wanted t then .brk
    else .on { a := (keepS four outside s.a t v).1, cls := max s.cls (keepS four outside s.a t v).2, seen := t :: s.seen }
  else if f &&& 128 = 0 then .rst
  else if f &&& 64 ≠ 0 then .on { a := { s.a with others := s.a.others ++ [⟨224, t, v⟩] }, cls := s.cls, seen := t :: s.seen }
  else .on { s with seen := t :: s.seen }
def zeroA : At := ⟨0, 0, [], 0, 0, 0, 0, 0, [], [], 0, 0, []⟩
/-- What is told at the end. -/
def fin (s : Gs) : At × Nat × List UInt8 := if s.cls = 2 then (zeroA, 2, []) else ({ s.a with others := sortO s.a.others }, s.cls, [])
def run (four outside : Bool) : Nat → List UInt8 → Gs → At × Nat × List UInt8
  | 0, _, s => fin s
  | k + 1, b, s =>
    if b = [] then fin s
    else match formL b with
      | none => (zeroA, 2, [])
      | some (f, t, v, n) => match step four outside s f t v with
        | .brk => (zeroA, 2, [])
        | .rst => (zeroA, 3, b.take n)
        | .on s' => run four outside k (b.drop n) s'
def rest (four outside : Bool) (b : List UInt8) (s : Gs) : At × Nat × List UInt8 := run four outside b.length b s
/-- The attributes that are read of b; their class; of Reset the form. -/
def get (b : List UInt8) (four outside : Bool) : At × Nat × List UInt8 := rest four outside b ⟨zeroA, 0, []⟩
theorem formL_le {b : List UInt8} {f t : UInt8} {v : List UInt8} {n : Nat} (h : formL b = some (f, t, v, n)) : 3 ≤ n ∧ n ≤ b.length ∧ v.length ≤ 65535 ∧ v.length + 3 ≤ n := by
  unfold formL at h
  split at h
  · rename_i x y r
    have hz : (if ext x.toNat then 2 else 1) ≤ 2 ∧ 1 ≤ (if ext x.toNat then 2 else 1) := by split <;> omega
    simp only at h
    generalize (if ext x.toNat then 2 else 1) = z at *
    by_cases hn : r.length < z + RS.num (r.take z)
    · rw [if_pos hn] at h; cases h
    · rw [if_neg hn] at h
      injection h with h
      injection h with h1 h
      injection h with h2 h
      injection h with h3 h4
      subst h3 h4
      have hm := RS.num_lt (r.take z)
      have : 256 ^ (r.take z).length ≤ 256 ^ 2 := Nat.pow_le_pow_right (by decide) (by rw [List.length_take]; omega)
      refine ⟨by omega, by simp; omega, ?_, ?_⟩
      · rw [List.length_take]; omega
      · rw [List.length_take, List.length_drop]; omega
  · cases h
theorem run_fuel (four outside : Bool) : ∀ (k k' : Nat) (b : List UInt8) (s : Gs), b.length ≤ k → b.length ≤ k' → run four outside k b s = run four outside k' b s
  | 0, 0, _, _, _, _ => rfl
  | 0, k' + 1, b, s, h, _ => by
    obtain rfl : b = [] := List.eq_nil_of_length_eq_zero (by omega)
    show fin s = (if _ then _ else _)
    rw [if_pos rfl]
  | k + 1, 0, b, s, _, h => by
    obtain rfl : b = [] := List.eq_nil_of_length_eq_zero (by omega)
    show (if _ then _ else _) = fin s
    rw [if_pos rfl]
  | k + 1, k' + 1, b, s, h, h' => by
    unfold run
    split
    · rfl
    · split
      · rfl
      · rename_i f t v n hf
        have hn := formL_le hf
        split
        · rfl
        · rfl
        · exact run_fuel four outside k k' _ _ (by rw [List.length_drop]; omega) (by rw [List.length_drop]; omega)
theorem rest_nil (four outside : Bool) (s : Gs) : rest four outside [] s = fin s := rfl
theorem rest_none {four outside : Bool} {b : List UInt8} {s : Gs} (hb : b ≠ []) (h : formL b = none) : rest four outside b s = (zeroA, 2, []) := by
  unfold rest
  cases b with
  | nil => exact absurd rfl hb
  | cons x b =>
    show (if _ then _ else _) = _
    rw [if_neg hb, h]
theorem rest_some {four outside : Bool} {b : List UInt8} {s : Gs} {f t : UInt8} {v : List UInt8} {n : Nat} (h : formL b = some (f, t, v, n)) :
    rest four outside b s = match step four outside s f t v with | .brk => (zeroA, 2, []) | .rst => (zeroA, 3, b.take n) | .on s' => rest four outside (b.drop n) s' := by
  have hn := formL_le h
  unfold rest
  cases b with
  | nil => cases h
  | cons x b =>
    show (if _ then _ else _) = _
    rw [if_neg (by simp), h]
    show (match step four outside s f t v with | .brk => _ | .rst => _ | .on s' => _) = _
    split
    · rfl
    · rfl
    · refine run_fuel four outside _ _ _ _ ?_ (Nat.le_refl _)
      rw [List.length_drop, List.length_cons]
      omega
end Ax

/-- An attribute's form taken: as the plain data say. -/
theorem take_form (D : List UInt8) (k : Nat) (hk : k < D.length) :
    (∃ f t v n, Ax.formL (D.drop k) = some (f, t, v, n) ∧ RS.num ((RS.mk D k [] 0).got 1) = f.toNat ∧ RS.num (((RS.mk D k [] 0).pass 1).got 1) = t.toNat ∧
      (Ax.tkS (Ax.ext (RS.num ((RS.mk D k [] 0).got 1))) (((RS.mk D k [] 0).pass 1).pass 1)).got (Ax.tkN (Ax.ext (RS.num ((RS.mk D k [] 0).got 1))) (((RS.mk D k [] 0).pass 1).pass 1) : Int) = v ∧
      (Ax.tkS (Ax.ext (RS.num ((RS.mk D k [] 0).got 1))) (((RS.mk D k [] 0).pass 1).pass 1)).pass (Ax.tkN (Ax.ext (RS.num ((RS.mk D k [] 0).got 1))) (((RS.mk D k [] 0).pass 1).pass 1) : Int) = ⟨D, k + n, [], 0⟩) ∨
    (Ax.formL (D.drop k) = none ∧ ((Ax.tkS (Ax.ext (RS.num ((RS.mk D k [] 0).got 1))) (((RS.mk D k [] 0).pass 1).pass 1)).pass (Ax.tkN (Ax.ext (RS.num ((RS.mk D k [] 0).got 1))) (((RS.mk D k [] 0).pass 1).pass 1) : Int)).e = 4) := by
  obtain ⟨g1, p1⟩ := RS.byte_there (s := ⟨D, k, [], 0⟩) rfl hk (Nat.le_refl _)
  rw [g1, p1, RS.num_one]
  simp only
  by_cases h1 : k + 1 < D.length
  · obtain ⟨g2, p2⟩ := RS.byte_there (s := ⟨D, k + 1, [], 0⟩) rfl h1 (Nat.le_refl _)
    rw [g2, p2, RS.num_one, Cp.drop_two h1]
    simp only
    generalize D.getD k 0 = f
    generalize D.getD (k + 1) 0 = t
    have hz : ∃ z : Nat, (if Ax.ext f.toNat then 2 else 1) = z ∧ 1 ≤ z ∧ z ≤ 2 ∧ (∀ s, Ax.tkS (Ax.ext f.toNat) s = s.pass (z : Int)) ∧ (∀ s, Ax.tkN (Ax.ext f.toNat) s = RS.num (s.got (z : Int))) := by
      unfold Ax.tkS Ax.tkN
      cases Ax.ext f.toNat with
      | true => exact ⟨2, rfl, by omega, by omega, fun _ => rfl, fun _ => rfl⟩
      | false => exact ⟨1, rfl, by omega, by omega, fun _ => rfl, fun _ => rfl⟩
    obtain ⟨z, hz0, hz1, hz2, hzS, hzN⟩ := hz
    rw [hzS, hzN]
    have hform : Ax.formL (f :: t :: D.drop (k + 2)) = if (D.drop (k + 2)).length < z + RS.num ((D.drop (k + 2)).take z) then none else some (f, t, ((D.drop (k + 2)).drop z).take (RS.num ((D.drop (k + 2)).take z)), 2 + z + RS.num ((D.drop (k + 2)).take z)) := by
      unfold Ax.formL
      simp only [hz0]
    rw [hform]
    by_cases h2 : k + 1 + 1 + z ≤ D.length
    · obtain ⟨g3, p3⟩ := RS.step_in (l := D) (k := k + 1 + 1) (z := z) h2
      rw [g3, p3]
      rw [show k + 1 + 1 = k + 2 by omega]
      generalize hm : RS.num ((D.drop (k + 2)).take z) = m
      by_cases h3 : k + 2 + z + m ≤ D.length
      · obtain ⟨g4, p4⟩ := RS.step_in (l := D) (k := k + 2 + z) (z := m) h3
        rw [g4, p4, if_neg (by rw [List.length_drop]; omega)]
        left
        refine ⟨f, t, _, _, rfl, rfl, rfl, by rw [List.drop_drop], ?_⟩
        congr 1
        omega
      · obtain ⟨g4, p4⟩ := RS.step_out (l := D) (k := k + 2 + z) (z := m) (by omega) (by omega)
        rw [if_pos (by rw [List.length_drop]; omega)]
        exact .inr ⟨rfl, p4⟩
    · obtain ⟨g3, p3⟩ := RS.step_out (l := D) (k := k + 1 + 1) (z := z) (by omega) (by omega)
      rw [if_pos (by rw [List.length_drop]; omega)]
      exact .inr ⟨rfl, RS.pass_bad p3 _⟩
  · have hd : D.drop k = [D.getD k 0] := Cp.drop_one (by omega)
    have hb : ((RS.mk D (k + 1) [] 0).pass 1).e = 4 := (RS.step_out (l := D) (k := k + 1) (z := 1) (by omega) (by omega)).2
    rw [hd]
    right
    refine ⟨rfl, ?_⟩
    have : ∀ x, (Ax.tkS x ((RS.mk D (k + 1) [] 0).pass 1)).e = 4 := fun x => by unfold Ax.tkS; cases x <;> exact RS.pass_bad hb _
    exact RS.pass_bad (this _) _
end Go.Proofs.YteofbpdogmajoaaGreatDoor
