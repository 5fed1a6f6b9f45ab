
/-
  attrs: keep.
-/
import Derived.Test.YteofbpdogmajoaaGreatDoorZyo
import Derived.Test.YteofbpdogmajoaaGreatDoorZt
namespace Go.Proofs.YteofbpdogmajoaaGreatDoor
open Go.RowKit

namespace Ax
/-- Whether a value is as long, and of such a form, as it must be. -/
def okv (four : Bool) (t : UInt8) (v : List UInt8) : Bool :=
  if t.toNat = 1 then decide (v.length = 1) else if t.toNat = 2 then decide ((Pt.read four v).2 = 0)
  else if t.toNat = 3 ∨ t.toNat = 4 ∨ t.toNat = 5 then decide (v.length = 4) else if t.toNat = 6 then decide (v.length = 0)
  else if t.toNat = 7 then decide (v.length = (if four then 4 else 2) + 4) else if t.toNat = 8 then decide (v.length % 4 = 0)
  else if t.toNat = 17 then decide ((Pt.read true v).2 = 0) else decide (v.length = 8)
/-- Attributes with what such a value says. -/
def rdv (four : Bool) (a : At) (t : UInt8) (v : List UInt8) : At :=
  if t.toNat = 1 then { a with origin := UInt8.ofNat (RS.num (v.take 1)) } else if t.toNat = 2 then { a with path := (Pt.read four v).1 }
  else if t.toNat = 3 then { a with nh := RS.num (v.take 4) } else if t.toNat = 4 then { a with med := RS.num (v.take 4) } else if t.toNat = 5 then { a with pref := RS.num (v.take 4) }
  else if t.toNat = 6 then a
  else if t.toNat = 7 then { a with byA := RS.num (v.take (if four then 4 else 2)), byI := RS.num ((v.drop (if four then 4 else 2)).take 4) }
  else if t.toNat = 8 then { a with comms := Pt.numsB 4 (v.length / 4) v }
  else if t.toNat = 17 then { a with path4 := plains (Pt.read true v).1 }
  else { a with by4A := RS.num (v.take 4), by4I := RS.num ((v.drop 4).take 4) }
/-- Its paths are not too long to be looked at. -/
def small (a : At) : Prop := a.path.length ≤ 1000 ∧ a.path4.length ≤ 1000 ∧ (∀ s ∈ a.path, s.2.length ≤ 1000) ∧ ∀ s ∈ a.path4, s.2.length ≤ 1000
/-- What a reader of type t has done with a value v. -/
def Did (four : Bool) (t : UInt8) (v : List UInt8) (a a' : At) (s' : RS) : Prop :=
  s'.well = okv four t v ∧ (okv four t v = true → a' = rdv four a t v) ∧ drop a' t = drop a t ∧ (small a → small a') ∧ 0 ≤ s'.e
/-- What is kept of a value, and its class. -/
def keepM (four : Bool) (a : At) (t : UInt8) (v : List UInt8) : At × Nat :=
  if okv four t v && right (rdv four a t v) t then ({ rdv four a t v with has := a.has ||| bit t }, 0) else (drop a t, lost t)
end Ax

theorem RS.fail_nn {s : RS} (h : 0 ≤ s.e) (x : Nat) : 0 ≤ (s.fail (x : Int)).e := by
  unfold RS.fail
  split
  · show (0 : Int) ≤ (x : Int); omega
  · exact h
theorem RS.pass_nn {s : RS} (h : 0 ≤ s.e) (n : Int) : 0 ≤ (s.pass n).e := by
  have h2 : 0 ≤ (s.fits n).e := by
    unfold RS.fits
    split
    · exact RS.fail_nn h 4
    · exact h
  unfold RS.pass
  split
  · exact h
  · exact h2
theorem RS.stAt_nn {z : Nat} {s : RS} (h : 0 ≤ s.e) : ∀ n, 0 ≤ (RS.stAt z s n).e
  | 0 => h
  | n + 1 => RS.pass_nn (RS.stAt_nn h n) _
theorem RS.stAt_one (z : Nat) (s : RS) : RS.stAt z s 1 = s.pass (z : Int) := rfl
theorem rest_all (v : List UInt8) : (RS.mk v 0 [] 0).got ((RS.mk v 0 [] 0).left : Int) = v ∧ (RS.mk v 0 [] 0).pass ((RS.mk v 0 [] 0).left : Int) = ⟨v, v.length, [], 0⟩ := by
  obtain ⟨h1, h2⟩ := RS.step_in (l := v) (k := 0) (z := v.length) (by omega)
  rw [RS.left_in, Nat.sub_zero, h1, h2]
  simp
theorem well_fail (v : List UInt8) (e : Nat) : ((RS.mk v v.length [] 0).fail (e : Int)).well = decide (e = 0) := by
  unfold RS.fail RS.well
  rw [if_pos rfl]
  by_cases h : e = 0
  · subst h
    rw [RS.left_zero rfl]
    unfold RS.top
    simp
  · simp [h]
/-- One number of z bytes, and nothing else. -/
theorem one_num (v : List UInt8) (z : Nat) : ((RS.mk v 0 [] 0).pass (z : Int)).well = decide (v.length = z) ∧ (v.length = z → (RS.mk v 0 [] 0).got (z : Int) = v.take z) := by
  by_cases h : z ≤ v.length
  · obtain ⟨h1, h2⟩ := RS.step_in (l := v) (k := 0) (z := z) (by omega)
    rw [h1, h2, RS.well_in, List.drop_zero]
    refine ⟨?_, fun _ => rfl⟩
    rw [Bool.eq_iff_iff, decide_eq_true_eq, decide_eq_true_eq]
    omega
  · obtain ⟨h1, h2⟩ := RS.step_out (l := v) (k := 0) (z := z) (by omega) (by omega)
    rw [RS.well_bad h2]
    refine ⟨?_, fun e => by omega⟩
    symm
    rw [decide_eq_false_iff_not]
    omega
/-- Two numbers, and nothing else. -/
theorem two_num (v : List UInt8) (z y : Nat) (hy : 0 < y) : (((RS.mk v 0 [] 0).pass (z : Int)).pass (y : Int)).well = decide (v.length = z + y) ∧ (v.length = z + y → (RS.mk v 0 [] 0).got (z : Int) = v.take z ∧ ((RS.mk v 0 [] 0).pass (z : Int)).got (y : Int) = (v.drop z).take y) := by
  by_cases h : z ≤ v.length
  · obtain ⟨h1, h2⟩ := RS.step_in (l := v) (k := 0) (z := z) (by omega)
    rw [h1, h2, Nat.zero_add, List.drop_zero]
    by_cases h3 : z + y ≤ v.length
    · obtain ⟨h4, h5⟩ := RS.step_in (l := v) (k := z) (z := y) (by omega)
      rw [h4, h5, RS.well_in]
      refine ⟨?_, fun _ => ⟨rfl, rfl⟩⟩
      rw [Bool.eq_iff_iff, decide_eq_true_eq, decide_eq_true_eq]
      omega
    · have := hy
      obtain ⟨h4, h5⟩ := RS.step_out (l := v) (k := z) (z := y) (by omega) (by omega)
      rw [RS.well_bad h5]
      refine ⟨?_, fun e => by omega⟩
      symm
      rw [decide_eq_false_iff_not]
      omega
  · obtain ⟨h1, h2⟩ := RS.step_out (l := v) (k := 0) (z := z) (by omega) (by omega)
    rw [RS.well_bad (RS.pass_bad h2 _)]
    refine ⟨?_, fun e => by omega⟩
    symm
    rw [decide_eq_false_iff_not]
    omega
/-- Numbers of four bytes, as many as there are. -/
theorem all_nums (v : List UInt8) (n : Nat) (hl : (RS.stAt 4 ⟨v, 0, [], 0⟩ n).left = 0) (hj : ∀ j, j < n → 0 < (RS.stAt 4 ⟨v, 0, [], 0⟩ j).left) : (RS.stAt 4 ⟨v, 0, [], 0⟩ n).well = decide (v.length % 4 = 0) ∧ (v.length % 4 = 0 → RS.numsAt 4 ⟨v, 0, [], 0⟩ n = Pt.numsB 4 (v.length / 4) v) := by
  rcases RS.stAt_there 4 v (by decide) n 0 (by omega) with ⟨h1, h2⟩ | ⟨h1, h2, h3, h4⟩
  · rw [h2, RS.left_in] at hl
    have hn : v.length = 4 * n := by omega
    rw [h2, RS.well_in]
    refine ⟨?_, fun _ => ?_⟩
    · rw [decide_eq_true (by omega), decide_eq_true (by omega)]
    · rw [RS.numsAt_there 4 v (by decide) 0 n (by omega), hn, Nat.mul_div_cancel_left n (by decide)]
      unfold Pt.numsB
      simp
  · rw [RS.well_bad h2]
    have hbad : v.length % 4 ≠ 0 := by
      intro e
      obtain ⟨m, hm⟩ : ∃ m, v.length = 4 * m := ⟨v.length / 4, by omega⟩
      have h0 := hj m (by omega)
      rcases RS.stAt_there 4 v (by decide) m 0 (by omega) with ⟨g1, g2⟩ | ⟨g1, _⟩
      · rw [g2, RS.left_in] at h0; omega
      · omega
    exact ⟨by symm; rw [decide_eq_false_iff_not]; exact hbad, fun e => absurd e hbad⟩

theorem known_cases (t : UInt8) (h : Ax.known t = true) : t = 1 ∨ t = 2 ∨ t = 3 ∨ t = 4 ∨ t = 5 ∨ t = 6 ∨ t = 7 ∨ t = 8 ∨ t = 17 ∨ t = 18 := by
  have : ∀ z : Fin 256, Ax.known (UInt8.ofNat z.val) = true → UInt8.ofNat z.val = 1 ∨ UInt8.ofNat z.val = 2 ∨ UInt8.ofNat z.val = 3 ∨ UInt8.ofNat z.val = 4 ∨ UInt8.ofNat z.val = 5 ∨ UInt8.ofNat z.val = 6 ∨ UInt8.ofNat z.val = 7 ∨ UInt8.ofNat z.val = 8 ∨ UInt8.ofNat z.val = 17 ∨ UInt8.ofNat z.val = 18 := by decide +kernel
  have h1 := this ⟨t.toNat, t.toNat_lt⟩
  simp only [UInt8.ofNat_toNat] at h1
  exact h1 h
theorem plains_lenQ (l : List Seg) : (plains l).length ≤ l.length := List.length_filter_le _ _
theorem plains_memQ {l : List Seg} {s : Seg} (h : s ∈ plains l) : s ∈ l := (List.mem_filter.1 h).1
theorem did1 (four : Bool) (v : List UInt8) (a : At) : Ax.Did four 1 v a { a with origin := UInt8.ofNat (RS.num ((RS.mk v 0 [] 0).got 1)) } ((RS.mk v 0 [] 0).pass 1) := by
  obtain ⟨h1, h2⟩ := one_num v 1
  refine ⟨h1, fun h => ?_, rfl, fun h => h, RS.pass_nn (Int.le_refl _) _⟩
  have hz : v.length = 1 := of_decide_eq_true (show decide (v.length = 1) = true from h)
  have h3 : (RS.mk v 0 [] 0).got 1 = v.take 1 := h2 hz
  rw [h3]
  rfl
theorem did3 (four : Bool) (v : List UInt8) (a : At) : Ax.Did four 3 v a { a with nh := RS.num ((RS.mk v 0 [] 0).got 4) } ((RS.mk v 0 [] 0).pass 4) := by
  obtain ⟨h1, h2⟩ := one_num v 4
  refine ⟨h1, fun h => ?_, rfl, fun h => h, RS.pass_nn (Int.le_refl _) _⟩
  have hz : v.length = 4 := of_decide_eq_true (show decide (v.length = 4) = true from h)
  have h3 : (RS.mk v 0 [] 0).got 4 = v.take 4 := h2 hz
  rw [h3]
  rfl
theorem did4 (four : Bool) (v : List UInt8) (a : At) : Ax.Did four 4 v a { a with med := RS.num ((RS.mk v 0 [] 0).got 4) } ((RS.mk v 0 [] 0).pass 4) := by
  obtain ⟨h1, h2⟩ := one_num v 4
  refine ⟨h1, fun h => ?_, rfl, fun h => h, RS.pass_nn (Int.le_refl _) _⟩
  have hz : v.length = 4 := of_decide_eq_true (show decide (v.length = 4) = true from h)
  have h3 : (RS.mk v 0 [] 0).got 4 = v.take 4 := h2 hz
  rw [h3]
  rfl
theorem did5 (four : Bool) (v : List UInt8) (a : At) : Ax.Did four 5 v a { a with pref := RS.num ((RS.mk v 0 [] 0).got 4) } ((RS.mk v 0 [] 0).pass 4) := by
  obtain ⟨h1, h2⟩ := one_num v 4
  refine ⟨h1, fun h => ?_, rfl, fun h => h, RS.pass_nn (Int.le_refl _) _⟩
  have hz : v.length = 4 := of_decide_eq_true (show decide (v.length = 4) = true from h)
  have h3 : (RS.mk v 0 [] 0).got 4 = v.take 4 := h2 hz
  rw [h3]
  rfl
theorem did2 (four : Bool) (v : List UInt8) (a : At) : Ax.Did four 2 v a { a with path := (Pt.read four v).1 } ((RS.mk v v.length [] 0).fail ((Pt.read four v).2 : Int)) := by
  refine ⟨well_fail v _, fun _ => rfl, rfl, fun h => ⟨?_, h.2.1, fun s hs => ?_, h.2.2.2⟩, RS.fail_nn (Int.le_refl _) _⟩
  · have := (Pt.read_small four v).1
    show (Pt.read four v).1.length ≤ 1000
    omega
  · have := (Pt.read_small four v).2 s hs
    omega
theorem did17 (four : Bool) (v : List UInt8) (a : At) : Ax.Did four 17 v a { a with path4 := plains (Pt.read true v).1 } ((RS.mk v v.length [] 0).fail ((Pt.read true v).2 : Int)) := by
  refine ⟨well_fail v _, fun _ => rfl, rfl, fun h => ⟨h.1, ?_, h.2.2.1, fun s hs => ?_⟩, RS.fail_nn (Int.le_refl _) _⟩
  · have h1 := (Pt.read_small true v).1
    have h2 := plains_lenQ (Pt.read true v).1
    show (plains (Pt.read true v).1).length ≤ 1000
    omega
  · have := (Pt.read_small true v).2 s (plains_memQ hs)
    omega
theorem did6 (four : Bool) (v : List UInt8) (a : At) : Ax.Did four 6 v a a ((RS.mk v 0 [] 0)) := by
  refine ⟨?_, fun _ => rfl, rfl, fun h => h, Int.le_refl _⟩
  rw [RS.well_in]
  show _ = decide (v.length = 0)
  rw [Bool.eq_iff_iff, decide_eq_true_eq, decide_eq_true_eq]
  omega
theorem did7 (four : Bool) (v : List UInt8) (a : At) : Ax.Did four 7 v a { a with byA := RS.num ((RS.mk v 0 [] 0).got (if four then 4 else 2)), byI := RS.num (((RS.mk v 0 [] 0).pass (if four then 4 else 2)).got 4) } (((RS.mk v 0 [] 0).pass (if four then 4 else 2)).pass 4) := by
  cases four with
  | false =>
    obtain ⟨h1, h2⟩ := two_num v 2 4 (by decide)
    refine ⟨h1, fun h => ?_, rfl, fun h => h, RS.pass_nn (RS.pass_nn (Int.le_refl _) _) _⟩
    obtain ⟨h3, h4⟩ := h2 (of_decide_eq_true (show decide (v.length = 2 + 4) = true from h))
    show { a with byA := RS.num ((RS.mk v 0 [] 0).got 2), byI := RS.num (((RS.mk v 0 [] 0).pass 2).got 4) } = _
    rw [show (RS.mk v 0 [] 0).got 2 = _ from h3, show ((RS.mk v 0 [] 0).pass 2).got 4 = _ from h4]
    rfl
  | true =>
    obtain ⟨h1, h2⟩ := two_num v 4 4 (by decide)
    refine ⟨h1, fun h => ?_, rfl, fun h => h, RS.pass_nn (RS.pass_nn (Int.le_refl _) _) _⟩
    obtain ⟨h3, h4⟩ := h2 (of_decide_eq_true (show decide (v.length = 4 + 4) = true from h))
    show { a with byA := RS.num ((RS.mk v 0 [] 0).got 4), byI := RS.num (((RS.mk v 0 [] 0).pass 4).got 4) } = _
    rw [show (RS.mk v 0 [] 0).got 4 = _ from h3, show ((RS.mk v 0 [] 0).pass 4).got 4 = _ from h4]
    rfl
theorem did18 (four : Bool) (v : List UInt8) (a : At) : Ax.Did four 18 v a { a with by4A := RS.num ((RS.mk v 0 [] 0).got 4), by4I := RS.num (((RS.mk v 0 [] 0).pass 4).got 4) } (((RS.mk v 0 [] 0).pass 4).pass 4) := by
  obtain ⟨h1, h2⟩ := two_num v 4 4 (by decide)
  refine ⟨h1, fun h => ?_, rfl, fun h => h, RS.pass_nn (RS.pass_nn (Int.le_refl _) _) _⟩
  obtain ⟨h3, h4⟩ := h2 (of_decide_eq_true (show decide (v.length = 8) = true from h))
  rw [show (RS.mk v 0 [] 0).got 4 = _ from h3, show ((RS.mk v 0 [] 0).pass 4).got 4 = _ from h4]
  rfl
theorem did8 (four : Bool) (v : List UInt8) (a : At) (n : Nat) (hl : (RS.stAt 4 ⟨v, 0, [], 0⟩ n).left = 0) (hj : ∀ j, j < n → 0 < (RS.stAt 4 ⟨v, 0, [], 0⟩ j).left) : Ax.Did four 8 v a { a with comms := RS.numsAt 4 (RS.mk v 0 [] 0) n } (RS.stAt 4 (RS.mk v 0 [] 0) n) := by
  obtain ⟨h1, h2⟩ := all_nums v n hl hj
  refine ⟨h1, fun h => ?_, rfl, fun h => h, RS.stAt_nn (Int.le_refl _) _⟩
  rw [h2 (of_decide_eq_true (show decide (v.length % 4 = 0) = true from h))]
  rfl
end Go.Proofs.YteofbpdogmajoaaGreatDoor
namespace Go.Proofs.YteofbpdogmajoaaGreatDoor
open Go.RowKit Go.Maps
attribute [local go_sem] Oper.semAt_some

theorem didW {pa pb pf p B : Nat} {four : Bool} {u : World} {v : List UInt8} {a : At} {ov : Value} {t : UInt8} {N : Nat} {args : Array Value} {s' : RS} {a' : At}
    (h : Calls Tryz.prog N args u fun e u' => e = .returned (.tuple #[]) ∧ (∃ pv' cv' qv', RE pa pb pf p B four u' s' a' pv' cv' qv' ov) ∧ Kept (Two2 p pa) u u') (hd : Ax.Did four t v a a' s') :
    Calls Tryz.prog N args u fun e u' => e = .returned (.tuple #[]) ∧ (∃ s' a' pv' cv' qv', RE pa pb pf p B four u' s' a' pv' cv' qv' ov ∧ Ax.Did four t v a a' s') ∧ Kept (Two2 p pa) u u' :=
  h.mono fun _ _ ⟨h1, ⟨pv', cv', qv', h2⟩, h3⟩ => ⟨h1, ⟨_, _, pv', cv', qv', h2, hd⟩, h3⟩

/-- The reader of a known type: what it is, and what it does. -/
theorem reader_did (pa pb pf : Nat) (t : UInt8) (hk : Ax.known t = true) :
    ∃ N cb, fnT pb pf t = .func (.func N) #[] cb ∧ (∀ args w, (callFunc N args).run Tryz.prog w = .ok (.enter N args) w) ∧
      ∀ (p B : Nat) (four : Bool) (u : World) (v : List UInt8) (a : At) (pv cv qv ov : Value), RE pa pb pf p B four u ⟨v, 0, [], 0⟩ a pv cv qv ov → v.length ≤ 1000000 →
        Calls Tryz.prog N (#[.pointer (some ⟨p, 0, none⟩)] ++ cb) u fun e u' => e = .returned (.tuple #[]) ∧ (∃ s' a' pv' cv' qv', RE pa pb pf p B four u' s' a' pv' cv' qv' ov ∧ Ax.Did four t v a a' s') ∧ Kept (Two2 p pa) u u' := by
  rcases known_cases t hk with rfl | rfl | rfl | rfl | rfl | rfl | rfl | rfl | rfl | rfl
  · exact ⟨_, _, rfl, enters_of Tryz.func70 (by kernel_rfl) rfl, fun p B four u v a pv cv qv ov h _ => didW (rdr1 h) (did1 four v a)⟩
  · exact ⟨_, _, rfl, enters_of Tryz.func72 (by kernel_rfl) rfl, fun p B four u v a pv cv qv ov h hl => by
      obtain ⟨e1, e2⟩ := rest_all v
      have := rdr2 h (by rw [e1]; exact hl)
      rw [e1, e2] at this
      exact didW this (did2 four v a)⟩
  · exact ⟨_, _, rfl, enters_of Tryz.func74 (by kernel_rfl) rfl, fun p B four u v a pv cv qv ov h _ => didW (rdr3 h) (did3 four v a)⟩
  · exact ⟨_, _, rfl, enters_of Tryz.func76 (by kernel_rfl) rfl, fun p B four u v a pv cv qv ov h _ => didW (rdr4 h) (did4 four v a)⟩
  · exact ⟨_, _, rfl, enters_of Tryz.func77 (by kernel_rfl) rfl, fun p B four u v a pv cv qv ov h _ => didW (rdr5 h) (did5 four v a)⟩
  · exact ⟨_, _, rfl, enters_of Tryz.func78 (by kernel_rfl) rfl, fun p B four u v a pv cv qv ov h _ => rdr6.mono fun _ _ ⟨h1, h2⟩ => ⟨h1, ⟨_, _, pv, cv, qv, h2 ▸ h, did6 four v a⟩, h2 ▸ Kept.refl _ _⟩⟩
  · exact ⟨_, _, rfl, enters_of Tryz.func79 (by kernel_rfl) rfl, fun p B four u v a pv cv qv ov h _ => didW (rdr7 h) (did7 four v a)⟩
  · exact ⟨_, _, rfl, enters_of Tryz.func81 (by kernel_rfl) rfl, fun p B four u v a pv cv qv ov h _ => (rdr8 h).mono fun _ _ ⟨h1, ⟨pv', cv', qv', n, h2, h3, h4⟩, h5⟩ => ⟨h1, ⟨_, _, pv', cv', qv', h4, did8 four v a n h2 h3⟩, h5⟩⟩
  · exact ⟨_, _, rfl, enters_of Tryz.func83 (by kernel_rfl) rfl, fun p B four u v a pv cv qv ov h hl => by
      obtain ⟨e1, e2⟩ := rest_all v
      have := rdr9 h (by rw [e1]; exact hl)
      rw [e1, e2] at this
      exact didW this (did17 four v a)⟩
  · exact ⟨_, _, rfl, enters_of Tryz.func85 (by kernel_rfl) rfl, fun p B four u v a pv cv qv ov h _ => didW (rdr10 h) (did18 four v a)⟩

theorem AtO.atp {w : World} {B : Nat} {a : At} {pv cv qv ov : Value} (h : AtO w B a pv cv qv ov) (hov : Ots w ov a.others) : Atp w a pv cv qv ov :=
  ⟨h.1.pts, As.of_own h.2.1.1 h.2.1.2, h.2.2.1.pts, hov, h.2.2.2.2⟩
theorem Ors.at {w : World} {B : Nat} : ∀ {xs : List Value} {l : List Ot}, Ors w B xs l → xs.length = l.length * 3 ∧ ∀ i (h : i < l.length), xs[i * 3]? = some (by8 l[i].f) ∧ xs[i * 3 + 1]? = some (by8 l[i].t) ∧ ∃ u, xs[i * 3 + 2]? = some u ∧ w.ownsRow B 5 1 u l[i].v.length (bys l[i].v)
  | [], [], _ => ⟨rfl, fun i h => by simp at h⟩
  | a :: t :: v :: xs, c :: l, ⟨h1, h2, h3, h4⟩ => by
    obtain ⟨e, r⟩ := Ors.at h4
    refine ⟨by simp; omega, fun i h => ?_⟩
    cases i with
    | zero => exact ⟨by simp [h1], by simp [h2], v, by simp, by simpa using h3⟩
    | succ i =>
      have := r i (by simpa using h)
      simp only [List.getElem_cons_succ]
      rw [show (i + 1) * 3 = i * 3 + 3 by omega, show i * 3 + 3 + 1 = (i * 3 + 1) + 3 by omega, show i * 3 + 3 + 2 = (i * 3 + 2) + 3 by omega]
      exact this
  | [], _ :: _, h => h.elim
  | [_], _, h => by unfold Ors at h; exact h.elim
  | [_, _], _, h => by unfold Ors at h; exact h.elim
  | _ :: _ :: _ :: _, [], h => by unfold Ors at h; exact h.elim
theorem Oown.ots {w : World} {B : Nat} {v : Value} {l : List Ot} (h : Oown w B v l) : Ots w v l := by
  obtain ⟨xs, h1, h2⟩ := h
  obtain ⟨A, c, hv, hn, hm⟩ := ow_form h1
  obtain ⟨e, hx⟩ := Ors.at h2
  refine ⟨A, c, hv, hn, hm, fun h0 => ?_⟩
  rcases h1.2 with ⟨e1, h0'⟩ | ⟨g, cap, cur, e1, _, hg, _, _, _, ht⟩
  · omega
  · rw [hv] at e1
    injection e1 with e1
    refine ⟨g, 0, e1, fun i hi => ?_⟩
    have cell : ∀ j, j < l.length * 3 → w.cell? ⟨g, 0 + j, none⟩ = xs[j]? := fun j hj => by
      rw [cell_of_row w g _ cur _ (0, 0) hg, ← ht, List.getElem?_take_of_lt hj, Array.getElem?_toList, Nat.zero_add]
    obtain ⟨x1, x2, u, x3, x4⟩ := hx i hi
    refine ⟨by rw [cell _ (by omega), x1], by rw [Nat.add_assoc, cell _ (by omega), x2], u, by rw [Nat.add_assoc, cell _ (by omega), x3], (Bs.of_own x4).by⟩
theorem bits_or_u32_nat (a b : Nat) (ha : a < 4294967296) (hb : b < 4294967296) : bits .or .u32 (a : Int) (b : Int) = ((a ||| b : Nat) : Int) := by
  show IntKind.u32.wrap ((BitVec.ofInt 32 (a : Int) ||| BitVec.ofInt 32 (b : Int)).toNat : Int) = _
  rw [BitVec.ofInt_natCast, BitVec.ofInt_natCast, BitVec.toNat_or, BitVec.toNat_ofNat, BitVec.toNat_ofNat, Nat.mod_eq_of_lt ha, Nat.mod_eq_of_lt hb]
  have h : a ||| b < 2 ^ 32 := Nat.or_lt_two_pow ha hb
  simp [IntKind.wrap, IntKind.bits, IntKind.signed]
  omega
theorem Wtd.keptS {S : Nat → Prop} {w w' : World} (h : Wtd w) (k : Kept S w w') (hs : ¬ S 0) : Wtd w' := by
  obtain ⟨t, fr, h⟩ := h
  exact ⟨t, fr, (k.block _ (Array.getElem?_eq_some_iff.1 h).1 hs).trans h⟩
theorem Wtd.lt {w : World} (h : Wtd w) : 0 < w.heap.size := by
  obtain ⟨t, fr, h⟩ := h
  exact (Array.getElem?_eq_some_iff.1 h).1
end Go.Proofs.YteofbpdogmajoaaGreatDoor
