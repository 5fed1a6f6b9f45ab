
/-
  attrs: how much there is of what was read (pure).
-/
import Derived.Test.YteofbpdogmajoaaGreatDoorZqo
import Derived.Test.YteofbpdogmajoaaGreatDoorZys
namespace Go.Proofs.YteofbpdogmajoaaGreatDoor
open Go.RowKit

namespace Ax
theorem known_lt {t : UInt8} (h : known t = true) : t.toNat < 19 := by
  rcases known_cases t h with rfl | rfl | rfl | rfl | rfl | rfl | rfl | rfl | rfl | rfl <;> decide
theorem bit_known {t : UInt8} (h : known t = true) : bit t = 2 ^ t.toNat := if_pos (by have := known_lt h; omega)
theorem or_bit (x : Nat) {t : UInt8} (h : known t = true) (i : Nat) : (x ||| bit t).testBit i = (x.testBit i || decide (t.toNat = i)) := by
  rw [bit_known h, Nat.testBit_or, Nat.testBit_two_pow]
theorem off_bit (x : Nat) {t : UInt8} (h : known t = true) (i : Nat) : (off x (bit t)).testBit i = (decide (i < 32) && (x.testBit i && !decide (t.toNat = i))) := by
  unfold off
  rw [bit_known h, BitVec.testBit_toNat, BitVec.getLsbD_and, BitVec.getLsbD_not, BitVec.getLsbD_ofNat, BitVec.getLsbD_ofNat, Nat.testBit_two_pow]
  by_cases hi : i < 32 <;> simp [hi]
theorem is_known (a : At) {t : UInt8} (h : known t = true) : is a t = a.has.testBit t.toNat := by
  unfold is
  rw [if_pos h, bit_known h]
  cases hb : a.has.testBit t.toNat with
  | true =>
    rw [decide_eq_true_eq]
    intro e
    have h1 : (a.has &&& 2 ^ t.toNat).testBit t.toNat = true := by rw [Nat.testBit_and, hb, Nat.testBit_two_pow]; simp
    rw [e, Nat.zero_testBit] at h1
    cases h1
  | false =>
    rw [decide_eq_false_iff_not, Decidable.not_not]
    refine Nat.eq_of_testBit_eq (fun i => ?_)
    rw [Nat.testBit_and, Nat.testBit_two_pow, Nat.zero_testBit]
    by_cases e : t.toNat = i
    · rw [← e, hb]; rfl
    · rw [decide_eq_false e, Bool.and_false]
/-- Attributes as reading leaves them, the others aside. -/
structure Gv (four outside : Bool) (a : At) : Prop where
  on : ∀ t, known t = true → a.has.testBit t.toNat = true → t ∈ haves four outside ∧ Gt four a t
  out : ∀ t, known t = true → a.has.testBit t.toNat = false → eqf a zeroA t
  only : ∀ i, a.has.testBit i = true → ∃ t, known t = true ∧ t.toNat = i
structure Ov (l : List Ot) : Prop where
  ok : ∀ o ∈ l, o.f = 224 ∧ known o.t = false ∧ o.v.length ≤ 65535
  dis : l.Pairwise (fun x y => x.t ≠ y.t)
structure Gi (four outside : Bool) (s : Gs) : Prop where
  gv : Gv four outside s.a
  ov : Ov s.a.others
  sub : ∀ o ∈ s.a.others, o.t ∈ s.seen
  le : s.cls ≤ 2
theorem Gv.others {four outside : Bool} {a : At} (h : Gv four outside a) (l : List Ot) : Gv four outside { a with others := l } :=
  ⟨fun t hk hb => ⟨(h.on t hk hb).1, ((h.on t hk hb).2).of hk ((eqf_others a a t l).2 (eqf_refl a t))⟩, fun t hk hb => (eqf_others a zeroA t l).2 (h.out t hk hb), h.only⟩
theorem toNat_ne {t t' : UInt8} (h : t ≠ t') : t.toNat ≠ t'.toNat := fun e => h (UInt8.toNat_inj.1 e)
theorem rdv_others (four : Bool) (a : At) {t : UInt8} (v : List UInt8) : (rdv four a t v).others = a.others := (rdv_has four a t v).2
theorem drop_others (a : At) (t : UInt8) : (drop a t).others = a.others := rfl
theorem drop_has (a : At) {t : UInt8} (hk : known t = true) : (drop a t).has = off a.has (bit t) := by
  show hasOff a t = _
  unfold hasOff
  rw [if_pos hk]
theorem lost_le (t : UInt8) : lost t ≤ 2 := by unfold lost; split <;> omega
theorem keep_good {four outside : Bool} {a : At} {t : UInt8} (v : List UInt8) (hk : known t = true) (h : Gv four outside a) :
    Gv four outside (keepS four outside a t v).1 ∧ (keepS four outside a t v).2 ≤ 2 ∧ (keepS four outside a t v).1.others = a.others := by
  unfold keepS
  by_cases hin : t ∈ haves four outside
  · rw [if_pos hin]
    unfold keepM
    by_cases hok : (okv four t v && right (rdv four a t v) t) = true
    · rw [if_pos hok]
      rw [Bool.and_eq_true] at hok
      have hg := G_kept hk hok.1 hok.2
      refine ⟨⟨fun t' hk' hb => ?_, fun t' hk' hb => ?_, fun i hi => ?_⟩, by simp, rdv_others four a v⟩
      · by_cases e : t = t'
        · subst e
          exact ⟨hin, hg.of hk ((eqf_has _ _ t _).2 (eqf_refl _ t))⟩
        · have hb2 : a.has.testBit t'.toNat = true := by
            have : (a.has ||| bit t).testBit t'.toNat = true := hb
            rw [or_bit _ hk, decide_eq_false (toNat_ne e), Bool.or_false] at this
            exact this
          obtain ⟨h1, h2⟩ := h.on t' hk' hb2
          exact ⟨h1, h2.of hk' ((eqf_has _ _ t' _).2 ((eqf_rdv four a a v hk hk' e).2 (eqf_refl a t')))⟩
      · have : (a.has ||| bit t).testBit t'.toNat = false := hb
        rw [or_bit _ hk, Bool.or_eq_false_iff, decide_eq_false_iff_not] at this
        have e : t ≠ t' := fun e => this.2 (by rw [e])
        exact (eqf_has _ _ t' _).2 ((eqf_rdv four a zeroA v hk hk' e).2 (h.out t' hk' this.1))
      · have : (a.has ||| bit t).testBit i = true := hi
        rw [or_bit _ hk, Bool.or_eq_true, decide_eq_true_eq] at this
        rcases this with h1 | h1
        · exact h.only i h1
        · exact ⟨t, hk, h1⟩
    · rw [if_neg hok]
      refine ⟨⟨fun t' hk' hb => ?_, fun t' hk' hb => ?_, fun i hi => ?_⟩, lost_le t, rfl⟩
      · show t' ∈ haves four outside ∧ Gt four (drop a t) t'
        replace hb : (drop a t).has.testBit t'.toNat = true := hb
        rw [drop_has a hk, off_bit _ hk] at hb
        simp only [Bool.and_eq_true, Bool.not_eq_true', decide_eq_false_iff_not, decide_eq_true_eq] at hb
        have e : t ≠ t' := fun e => hb.2.2 (by rw [e])
        obtain ⟨h1, h2⟩ := h.on t' hk' hb.2.1
        exact ⟨h1, h2.of hk' ((eqf_drop a a hk hk' e).2 (eqf_refl a t'))⟩
      · show eqf (drop a t) zeroA t'
        by_cases e : t = t'
        · subst e
          exact drop_zero a hk
        · replace hb : (drop a t).has.testBit t'.toNat = false := hb
          rw [drop_has a hk, off_bit _ hk, decide_eq_false (toNat_ne e), decide_eq_true (by have := known_lt hk'; omega)] at hb
          exact (eqf_drop a zeroA hk hk' e).2 (h.out t' hk' (by simpa using hb))
      · replace hi : (drop a t).has.testBit i = true := hi
        rw [drop_has a hk, off_bit _ hk] at hi
        simp only [Bool.and_eq_true] at hi
        exact h.only i hi.2.1
  · rw [if_neg hin]
    exact ⟨h, by simp, rfl⟩
theorem Ov.snoc {l : List Ot} (h : Ov l) {t : UInt8} {v : List UInt8} (hk : known t = false) (hv : v.length ≤ 65535) (hn : ∀ o ∈ l, o.t ≠ t) : Ov (l ++ [⟨224, t, v⟩]) := by
  refine ⟨fun o ho => ?_, List.pairwise_append.2 ⟨h.dis, List.pairwise_singleton _ _, fun x hx y hy => ?_⟩⟩
  · rcases List.mem_append.1 ho with ho | ho
    · exact h.ok o ho
    · obtain rfl := List.mem_singleton.1 ho
      exact ⟨rfl, hk, hv⟩
  · obtain rfl := List.mem_singleton.1 hy
    exact hn x hx
theorem step_good {four outside : Bool} {s s' : Gs} {f t : UInt8} {v : List UInt8} (h : Gi four outside s) (hv : v.length ≤ 65535) (he : step four outside s f t v = .on s') : Gi four outside s' := by
  unfold step at he
  have hm : ∀ x y : Nat, x ≤ 2 → y ≤ 2 → max x y ≤ 2 := fun x y hx hy => by omega
  by_cases h1 : t ∈ s.seen
  · rw [if_pos h1] at he
    injection he with he
    subst he
    exact ⟨h.gv, h.ov, h.sub, hm _ _ h.le (by omega)⟩
  rw [if_neg h1] at he
  by_cases h2 : known t = true
  · rw [if_pos h2] at he
    by_cases h3 : f &&& 192 ≠ wanted t
    · rw [if_pos h3] at he; cases he
    · rw [if_neg h3] at he
      injection he with he
      subst he
      obtain ⟨g1, g2, g3⟩ := keep_good v h2 h.gv
      exact ⟨g1, by show Ov (keepS four outside s.a t v).1.others; rw [g3]; exact h.ov, fun o ho => List.mem_cons_of_mem _ (h.sub o (by rw [← g3]; exact ho)), hm _ _ h.le g2⟩
  rw [if_neg h2] at he
  by_cases h3 : f &&& 128 = 0
  · rw [if_pos h3] at he; cases he
  rw [if_neg h3] at he
  by_cases h4 : f &&& 64 ≠ 0
  · rw [if_pos h4] at he
    injection he with he
    subst he
    refine ⟨h.gv.others _, h.ov.snoc (by simpa using h2) hv (fun o ho e => h1 (by rw [← e]; exact h.sub o ho)), fun o ho => ?_, h.le⟩
    rcases List.mem_append.1 ho with ho | ho
    · exact List.mem_cons_of_mem _ (h.sub o ho)
    · obtain rfl := List.mem_singleton.1 ho
      exact List.mem_cons_self ..
  · rw [if_neg h4] at he
    injection he with he
    subst he
    exact ⟨h.gv, h.ov, fun o ho => List.mem_cons_of_mem _ (h.sub o ho), h.le⟩
/-- What reading answers. -/
def Ans (four outside : Bool) (r : At × Nat × List UInt8) : Prop :=
  (r.2.1 ≤ 1 ∧ r.2.2 = [] ∧ Gv four outside r.1 ∧ Ov r.1.others ∧ r.1.others.Pairwise lessO) ∨ (r.1 = zeroA ∧ (r.2.1 = 2 ∧ r.2.2 = [] ∨ r.2.1 = 3 ∧ r.2.2 ≠ []))
theorem fin_good {four outside : Bool} {s : Gs} (h : Gi four outside s) : Ans four outside (fin s) := by
  unfold fin
  by_cases hc : s.cls = 2
  · rw [if_pos hc]
    exact .inr ⟨rfl, .inl ⟨rfl, rfl⟩⟩
  · rw [if_neg hc]
    have hp := sortO_perm s.a.others
    refine .inl ⟨by have := h.le; show s.cls ≤ 1; omega, rfl, h.gv.others _, ⟨fun o ho => h.ov.ok o (hp.mem_iff.1 ho), (hp.pairwise_iff (fun {a b} (h : a.t ≠ b.t) => h.symm)).2 h.ov.dis⟩, sortO_sorted _ h.ov.dis⟩
theorem run_good {four outside : Bool} : ∀ (k : Nat) (b : List UInt8) (s : Gs), Gi four outside s → Ans four outside (run four outside k b s)
  | 0, _, s, h => fin_good h
  | k + 1, b, s, h => by
    unfold run
    by_cases hb : b = []
    · rw [if_pos hb]
      exact fin_good h
    · rw [if_neg hb]
      cases hf : formL b with
      | none => exact .inr ⟨rfl, .inl ⟨rfl, rfl⟩⟩
      | some x =>
        obtain ⟨f, t, v, n⟩ := x
        have hle := formL_le hf
        show Ans four outside (match step four outside s f t v with | .brk => _ | .rst => _ | .on s' => _)
        cases hs : step four outside s f t v with
        | brk => exact .inr ⟨rfl, .inl ⟨rfl, rfl⟩⟩
        | rst => exact .inr ⟨rfl, .inr ⟨rfl, fun e => by
            have : (b.take n).length = 0 := by rw [show b.take n = [] from e]; rfl
            rw [List.length_take] at this
            omega⟩⟩
        | on s' => exact run_good k _ s' (step_good h hle.2.2.1 hs)
theorem start_good (four outside : Bool) : Gi four outside ⟨zeroA, 0, []⟩ :=
  ⟨⟨fun t _ hb => (by simp [zeroA] at hb), fun t _ _ => eqf_refl _ t, fun i hi => (by simp [zeroA] at hi)⟩, ⟨fun o ho => (by cases ho), List.Pairwise.nil⟩, fun o ho => (by cases ho), Nat.zero_le _⟩
/-- What Get answers. -/
theorem get_good (b : List UInt8) (four outside : Bool) : Ans four outside (get b four outside) := run_good _ _ _ (start_good four outside)
end Ax
end Go.Proofs.YteofbpdogmajoaaGreatDoor
namespace Go.Proofs.YteofbpdogmajoaaGreatDoor
open Go.RowKit

namespace Ax
theorem drop_self {four outside : Bool} {a : At} (h : Gv four outside a) {t : UInt8} (hk : known t = true) (hb : a.has.testBit t.toNat = false) : drop a t = a := by
  have hh : hasOff a t = a.has := by
    unfold hasOff
    rw [if_pos hk]
    refine Nat.eq_of_testBit_eq (fun i => ?_)
    rw [off_bit _ hk]
    cases hi : a.has.testBit i with
    | false => simp
    | true =>
      obtain ⟨t', hk', rfl⟩ := h.only i hi
      have e : t.toNat ≠ t'.toNat := fun e => by rw [e, hi] at hb; cases hb
      have := known_lt hk'
      rw [decide_eq_false e, decide_eq_true (by omega : t'.toNat < 32)]
      rfl
  have he := h.out t hk hb
  unfold drop
  rw [hh]
  obtain ⟨has, origin, path, nh, med, pref, byA, byI, comms, path4, by4A, by4I, others⟩ := a
  clear hh hb h
  rcases known_cases t hk with rfl | rfl | rfl | rfl | rfl | rfl | rfl | rfl | rfl | rfl
  · obtain rfl : origin = 0 := he
    rfl
  · obtain rfl : path = [] := he
    rfl
  · obtain rfl : nh = 0 := he
    rfl
  · obtain rfl : med = 0 := he
    rfl
  · obtain rfl : pref = 0 := he
    rfl
  · rfl
  · obtain ⟨h1, h2⟩ : byA = 0 ∧ byI = 0 := he
    subst h1 h2
    rfl
  · obtain rfl : comms = [] := he
    rfl
  · obtain rfl : path4 = [] := he
    rfl
  · obtain ⟨h1, h2⟩ : by4A = 0 ∧ by4I = 0 := he
    subst h1 h2
    rfl
theorem ofNat_nat {k : Nat} (hk : k < 19) : (UInt8.ofNat k).toNat = k := by rw [UInt8.toNat_ofNat']; omega
theorem foldM_good {four outside : Bool} {a : At} (h : Gv four outside a) : ∀ k, k ≤ 19 → (foldM a k).1 = a ∧ ∀ i, (foldM a k).2.testBit i = (a.has.testBit i && !(decide (i < k) && known (UInt8.ofNat i)))
  | 0, _ => ⟨rfl, fun i => by show a.has.testBit i = _; simp⟩
  | k + 1, hk => by
    obtain ⟨h1, h2⟩ := foldM_good h k (by omega)
    have ek := ofNat_nat (k := k) (by omega)
    rw [foldM_succ]
    unfold stepM
    cases hkn : known (UInt8.ofNat k) with
    | false =>
      rw [if_pos rfl]
      refine ⟨h1, fun i => ?_⟩
      rw [h2 i]
      by_cases e : i = k
      · subst e
        rw [hkn]
        simp
      · rw [show decide (i < k + 1) = decide (i < k) by rw [Bool.eq_iff_iff, decide_eq_true_eq, decide_eq_true_eq]; omega]
    | true =>
      rw [if_neg (by simp)]
      cases his : is a (UInt8.ofNat k) with
      | false =>
        rw [if_pos rfl]
        have hb : a.has.testBit k = false := by
          rw [is_known a hkn, ek] at his
          exact his
        refine ⟨by rw [h1]; exact drop_self h hkn (by rw [ek]; exact hb), fun i => ?_⟩
        rw [h2 i]
        by_cases e : i = k
        · subst e
          rw [hb]
          rfl
        · rw [show decide (i < k + 1) = decide (i < k) by rw [Bool.eq_iff_iff, decide_eq_true_eq, decide_eq_true_eq]; omega]
      | true =>
        rw [if_neg (by simp)]
        refine ⟨h1, fun i => ?_⟩
        rw [off_bit _ hkn, h2 i, ek]
        cases hi : a.has.testBit i with
        | false => simp
        | true =>
          obtain ⟨t', hk', rfl⟩ := h.only i hi
          have hlt := known_lt hk'
          rw [decide_eq_true (by omega : t'.toNat < 32), UInt8.ofNat_toNat, hk']
          by_cases e : t'.toNat = k
          · rw [e]; simp
          · rw [show decide (t'.toNat < k + 1) = decide (t'.toNat < k) by rw [Bool.eq_iff_iff, decide_eq_true_eq, decide_eq_true_eq]; omega, show decide (k = t'.toNat) = false from decide_eq_false (fun e2 => e e2.symm)]
            simp
theorem same_self (a : At) : same a a = true := by unfold same; simp
theorem may_good {four outside : Bool} {a : At} (h : Gv four outside a) (ho : Ov a.others) (hs : a.others.Pairwise lessO) : mayM a = true := by
  obtain ⟨h1, h2⟩ := foldM_good h 19 (Nat.le_refl _)
  have hz : (foldM a 19).2 = 0 := by
    refine Nat.eq_of_testBit_eq (fun i => ?_)
    rw [h2 i, Nat.zero_testBit]
    cases hi : a.has.testBit i with
    | false => rfl
    | true =>
      obtain ⟨t', hk', rfl⟩ := h.only i hi
      rw [UInt8.ofNat_toNat, hk', decide_eq_true (known_lt hk')]
      rfl
  rw [mayM_good (fun k hk => ?_), h1, hz, same_self]
  · show mayOs a.others = true
    unfold mayOs
    rw [Bool.and_eq_true]
    refine ⟨List.all_eq_true.2 (fun o hm => ?_), decide_eq_true hs⟩
    obtain ⟨g1, g2, g3⟩ := ho.ok o hm
    unfold mayO
    rw [g1, g2, decide_eq_true g3]
    rfl
  · unfold badM
    cases hkn : known (UInt8.ofNat k) with
    | false => rfl
    | true =>
      cases his : is a (UInt8.ofNat k) with
      | false => rfl
      | true =>
        rw [is_known a hkn] at his
        rw [(h.on _ hkn his).2.2.2.1]
        rfl
theorem lays_bit {four : Bool} {a : At} {t : UInt8} (h : lays a four t = true) : known t = true ∧ a.has.testBit t.toNat = true := by
  unfold lays at h
  simp only [Bool.and_eq_true] at h
  exact ⟨h.2.1, by rw [← is_known a h.2.1]; exact h.1⟩
theorem err_good {four outside : Bool} {a : At} (h : Gv four outside a) : ∀ k, errP a four k = 0
  | 0 => rfl
  | k + 1 => by
    show (if errP a four k ≠ 0 then _ else _) = _
    rw [if_neg (by rw [err_good h k]; simp)]
    split
    · rename_i hl
      obtain ⟨h1, h2⟩ := lays_bit hl
      exact (h.on _ h1 h2).2.1
    · rfl
theorem haves_lays {four outside : Bool} {a : At} (h : Gv four outside a) {t : UInt8} (hk : known t = true) (hb : a.has.testBit t.toNat = true) : lays a four t = true := by
  have hin := (h.on t hk hb).1
  unfold lays
  rw [is_known a hk, hb, hk]
  cases four with
  | false => rfl
  | true =>
    have : beside t = false := by
      unfold beside
      rw [decide_eq_false_iff_not]
      rintro (e | e)
      · obtain rfl : t = 17 := UInt8.toNat_inj.1 e
        cases outside <;> revert hin <;> decide
      · obtain rfl : t = 18 := UInt8.toNat_inj.1 e
        cases outside <;> revert hin <;> decide
    rw [this]
    rfl
theorem mem_rows {a : At} {four : Bool} {o : Ot} : o ∈ rowsP a four 19 ↔ o ∈ a.others ∨ (lays a four o.t = true ∧ o.f = wanted o.t ∧ o.v = (val a four o.t).1) := by
  unfold rowsP
  rw [List.mem_append, List.mem_flatMap]
  constructor
  · rintro (h | ⟨k, hk, h⟩)
    · exact .inl h
    · unfold rowP at h
      split at h
      · rename_i hl
        obtain rfl := List.mem_singleton.1 h
        exact .inr ⟨hl, rfl, rfl⟩
      · cases h
  · rintro (h | ⟨h1, h2, h3⟩)
    · exact .inl h
    · refine .inr ⟨o.t.toNat, List.mem_range.2 (known_lt (lays_bit h1).1), ?_⟩
      unfold rowP
      rw [UInt8.ofNat_toNat, if_pos h1, ← h2, ← h3]
      exact List.mem_singleton.2 rfl
end Ax
end Go.Proofs.YteofbpdogmajoaaGreatDoor
namespace Go.Proofs.YteofbpdogmajoaaGreatDoor
open Go.RowKit

namespace Ax
/-- An attribute that can be read of its form. -/
def Ro (four outside : Bool) (a : At) (o : Ot) : Prop :=
  o.v.length ≤ 65535 ∧ ((known o.t = true ∧ o.f = wanted o.t ∧ o.t ∈ haves four outside ∧ Gt four a o.t ∧ o.v = (val a four o.t).1) ∨ (known o.t = false ∧ o.f = 224))
/-- What reading such an attribute leaves. -/
def nx (four : Bool) (s : Gs) (o : Ot) : Gs :=
  if known o.t = true then { a := { rdv four s.a o.t o.v with has := s.a.has ||| bit o.t }, cls := max s.cls 0, seen := o.t :: s.seen }
  else { a := { s.a with others := s.a.others ++ [⟨224, o.t, o.v⟩] }, cls := s.cls, seen := o.t :: s.seen }
def fl (o : Ot) : UInt8 := if 255 < o.v.length then o.f ||| 16 else o.f
theorem flags_or {four outside : Bool} {a : At} {o : Ot} (h : Ro four outside a o) : o.f = 64 ∨ o.f = 128 ∨ o.f = 192 ∨ o.f = 224 := by
  rcases h.2 with ⟨hk, hf, _⟩ | ⟨_, hf⟩
  · rw [hf]
    rcases known_cases _ hk with e | e | e | e | e | e | e | e | e | e <;> rw [e] <;> decide
  · exact .inr (.inr (.inr hf))
theorem two_num2 {n : Nat} (h : n ≤ 65535) : RS.num (two n) = n := by
  have := num_twos (n := n) (by omega)
  simpa [twos] using this
theorem form_back {four outside : Bool} {a : At} {o : Ot} (h : Ro four outside a o) (r : List UInt8) : formL (formO o ++ r) = some (fl o, o.t, o.v, (formO o).length) := by
  have hf := flags_or h
  have hl := h.1
  obtain ⟨f, t, v⟩ := o
  simp only at hf hl
  unfold formO fl
  by_cases hb : 255 < v.length
  · rw [if_pos hb, if_pos hb]
    have he : ext (f ||| 16).toNat = true := by rcases hf with rfl | rfl | rfl | rfl <;> decide
    show formL ((f ||| 16) :: t :: (two v.length ++ v ++ r)) = _
    unfold formL
    simp only [he, if_true]
    have h2 : (two v.length ++ v ++ r).take 2 = two v.length := by simp [two]
    have h3 : (two v.length ++ v ++ r).drop 2 = v ++ r := by simp [two]
    rw [h2, h3, two_num2 hl, if_neg (by simp [two]; omega)]
    simp [two]
    omega
  · rw [if_neg hb, if_neg hb]
    have he : ext f.toNat = false := by rcases hf with rfl | rfl | rfl | rfl <;> decide
    show formL (f :: t :: (UInt8.ofNat v.length :: (v ++ r))) = _
    unfold formL
    have h2 : RS.num [UInt8.ofNat v.length] = v.length := by rw [RS.num_one, UInt8.toNat_ofNat']; omega
    simp [he, h2]
    omega
theorem step_back {four outside : Bool} {a : At} {o : Ot} {s : Gs} (h : Ro four outside a o) (hn : o.t ∉ s.seen) : step four outside s (fl o) o.t o.v = .on (nx four s o) := by
  have hfl : fl o = o.f ∨ fl o = o.f ||| 16 := by unfold fl; split; exact .inr rfl; exact .inl rfl
  unfold step nx
  rw [if_neg hn]
  rcases h.2 with ⟨hk, hf, hin, hg, hv⟩ | ⟨hk, hf⟩
  · rw [if_pos hk, if_pos hk]
    have h1 : fl o &&& 192 = wanted o.t := by
      rcases hfl with e | e
      · rw [e, hf]
        rcases known_cases _ hk with e | e | e | e | e | e | e | e | e | e <;> rw [e] <;> decide
      · rw [e, hf]
        rcases known_cases _ hk with e | e | e | e | e | e | e | e | e | e <;> rw [e] <;> decide
    rw [if_neg (by rw [h1]; simp)]
    have h2 : keepS four outside s.a o.t o.v = ({ rdv four s.a o.t o.v with has := s.a.has ||| bit o.t }, 0) := by
      unfold keepS keepM
      rw [if_pos hin, hv, hg.2.1, right_eqf hk (hg.2.2.2 s.a), hg.2.2.1]
      rfl
    rw [h2]
  · have hkn : ¬ known o.t = true := by rw [hk]; simp
    have h1 : fl o = 224 ∨ fl o = 240 := by
      rcases hfl with e | e
      · rw [e, hf]; exact .inl rfl
      · rw [e, hf]; exact .inr rfl
    have h5 : ¬ fl o &&& 128 = 0 := by rcases h1 with e | e <;> rw [e] <;> decide
    have h6 : fl o &&& 64 ≠ 0 := by rcases h1 with e | e <;> rw [e] <;> decide
    simp only [if_neg hkn, if_neg h5, if_pos h6]
theorem formO_pos (o : Ot) : formO o ≠ [] := by unfold formO; split <;> simp
theorem nx_seen (four : Bool) (s : Gs) (o : Ot) : (nx four s o).seen = o.t :: s.seen := by unfold nx; split <;> rfl
theorem run_back {four outside : Bool} {a : At} : ∀ (L : List Ot) (s : Gs), (∀ o ∈ L, Ro four outside a o) → L.Pairwise (fun x y => x.t ≠ y.t) → (∀ o ∈ L, o.t ∉ s.seen) → rest four outside (L.flatMap formO) s = fin (L.foldl (nx four) s)
  | [], s, _, _, _ => rest_nil four outside s
  | o :: L, s, hR, hP, hS => by
    obtain ⟨p1, p2⟩ := List.pairwise_cons.1 hP
    have hR1 := hR o (List.mem_cons_self ..)
    rw [List.flatMap_cons, rest_some (form_back hR1 _), step_back hR1 (hS o (List.mem_cons_self ..))]
    show rest four outside ((formO o ++ L.flatMap formO).drop (formO o).length) (nx four s o) = _
    rw [List.drop_left, List.foldl_cons]
    refine run_back L (nx four s o) (fun x hx => hR x (List.mem_cons_of_mem _ hx)) p2 (fun x hx hm => ?_)
    rw [nx_seen] at hm
    rcases List.mem_cons.1 hm with e | hm
    · exact p1 x hx e.symm
    · exact hS x (List.mem_cons_of_mem _ hx) hm
/-- What has been read again. -/
structure Pv (a : At) (done : List Ot) (s : Gs) : Prop where
  cls : s.cls = 0
  has : ∀ i, s.a.has.testBit i = true ↔ ∃ o ∈ done, known o.t = true ∧ o.t.toNat = i
  on : ∀ o ∈ done, known o.t = true → eqf s.a a o.t
  out : ∀ t, known t = true → (∀ o ∈ done, o.t ≠ t) → eqf s.a zeroA t
  others : s.a.others = done.filter (fun o => !known o.t)
theorem Pv.start (a : At) : Pv a [] ⟨zeroA, 0, []⟩ :=
  ⟨rfl, fun i => ⟨fun h => (by simp [zeroA] at h), fun ⟨o, h, _⟩ => (by cases h)⟩, fun o h => (by cases h), fun t _ _ => eqf_refl _ t, rfl⟩
theorem Pv.next {four outside : Bool} {a : At} {done : List Ot} {s : Gs} {o : Ot} (h : Pv a done s) (hR : Ro four outside a o) (hn : ∀ x ∈ done, x.t ≠ o.t) : Pv a (done ++ [o]) (nx four s o) := by
  unfold nx
  rcases hR.2 with ⟨hk, hf, hin, hg, hv⟩ | ⟨hk, hf⟩
  · rw [if_pos hk]
    refine ⟨by show max s.cls 0 = 0; rw [h.cls]; rfl, fun i => ?_, fun x hx hkx => ?_, fun t hkt ht => ?_, ?_⟩
    · show (s.a.has ||| bit o.t).testBit i = true ↔ _
      rw [or_bit _ hk, Bool.or_eq_true, decide_eq_true_eq, h.has i]
      constructor
      · rintro (⟨x, h1, h2⟩ | e)
        · exact ⟨x, List.mem_append_left _ h1, h2⟩
        · exact ⟨o, List.mem_append_right _ (List.mem_singleton.2 rfl), hk, e⟩
      · rintro ⟨x, h1, h2, h3⟩
        rcases List.mem_append.1 h1 with h1 | h1
        · exact .inl ⟨x, h1, h2, h3⟩
        · obtain rfl := List.mem_singleton.1 h1
          exact .inr h3
    · rcases List.mem_append.1 hx with h1 | h1
      · exact (eqf_has _ _ x.t _).2 ((eqf_rdv four s.a a o.v hk hkx (fun e => hn x h1 e.symm)).2 (h.on x h1 hkx))
      · obtain rfl := List.mem_singleton.1 h1
        refine (eqf_has _ _ x.t _).2 ?_
        rw [hv]
        exact hg.2.2.2 s.a
    · have e : o.t ≠ t := ht o (List.mem_append_right _ (List.mem_singleton.2 rfl))
      exact (eqf_has _ _ t _).2 ((eqf_rdv four s.a zeroA o.v hk hkt e).2 (h.out t hkt (fun x hx => ht x (List.mem_append_left _ hx))))
    · show (rdv four s.a o.t o.v).others = _
      rw [rdv_others, h.others, List.filter_append]
      simp [hk]
  · rw [if_neg (by rw [hk]; simp)]
    refine ⟨h.cls, fun i => ?_, fun x hx hkx => ?_, fun t hkt ht => ?_, ?_⟩
    · show s.a.has.testBit i = true ↔ _
      rw [h.has i]
      constructor
      · rintro ⟨x, h1, h2⟩
        exact ⟨x, List.mem_append_left _ h1, h2⟩
      · rintro ⟨x, h1, h2, h3⟩
        rcases List.mem_append.1 h1 with h1 | h1
        · exact ⟨x, h1, h2, h3⟩
        · obtain rfl := List.mem_singleton.1 h1
          rw [hk] at h2
          cases h2
    · rcases List.mem_append.1 hx with h1 | h1
      · exact (eqf_others _ _ x.t _).2 (h.on x h1 hkx)
      · obtain rfl := List.mem_singleton.1 h1
        rw [hk] at hkx
        cases hkx
    · exact (eqf_others _ _ t _).2 (h.out t hkt (fun x hx => ht x (List.mem_append_left _ hx)))
    · show s.a.others ++ [⟨224, o.t, o.v⟩] = _
      rw [h.others, List.filter_append, ← hf]
      simp [hk]
theorem Pv.all {four outside : Bool} {a : At} : ∀ (L done : List Ot) (s : Gs), Pv a done s → (∀ o ∈ L, Ro four outside a o) → (done ++ L).Pairwise (fun x y => x.t ≠ y.t) → Pv a (done ++ L) (L.foldl (nx four) s)
  | [], done, s, h, _, _ => by rw [List.append_nil]; exact h
  | o :: L, done, s, h, hR, hP => by
    rw [List.foldl_cons, List.append_cons]
    refine Pv.all L (done ++ [o]) (nx four s o) (h.next (hR o (List.mem_cons_self ..)) (fun x hx => ?_)) (fun x hx => hR x (List.mem_cons_of_mem _ hx)) (by rw [← List.append_cons]; exact hP)
    exact (List.pairwise_append.1 hP).2.2 x hx o (List.mem_cons_self ..)
theorem at_ext {s a : At} (h : ∀ t, known t = true → eqf s a t) (hh : s.has = a.has) (ho : s.others = a.others) : s = a := by
  have h1 : s.origin = a.origin := h 1 (by decide)
  have h2 : s.path = a.path := h 2 (by decide)
  have h3 : s.nh = a.nh := h 3 (by decide)
  have h4 : s.med = a.med := h 4 (by decide)
  have h5 : s.pref = a.pref := h 5 (by decide)
  have h7 : s.byA = a.byA ∧ s.byI = a.byI := h 7 (by decide)
  have h8 : s.comms = a.comms := h 8 (by decide)
  have h17 : s.path4 = a.path4 := h 17 (by decide)
  have h18 : s.by4A = a.by4A ∧ s.by4I = a.by4I := h 18 (by decide)
  obtain ⟨_, _, _, _, _, _, _, _, _, _, _, _, _⟩ := s
  obtain ⟨_, _, _, _, _, _, _, _, _, _, _, _, _⟩ := a
  simp only at *
  obtain ⟨h7a, h7b⟩ := h7
  obtain ⟨h18a, h18b⟩ := h18
  subst h1 h2 h3 h4 h5 h7a h7b h8 h17 h18a h18b hh ho
  rfl
/-- THERE AND BACK: what was read is laid, and read again as it was. -/
theorem put_get {four outside : Bool} {a : At} (h : Gv four outside a) (ho : Ov a.others) (hs : a.others.Pairwise lessO) :
    mayM a = true ∧ (putM a four).2 = 0 ∧ get (putM a four).1 four outside = (a, 0, []) := by
  have hm := may_good h ho hs
  have hP : putM a four = ((sortO (rowsP a four 19)).flatMap formO, 0) := by
    unfold putM
    rw [if_neg (by rw [hm]; simp), if_neg (by rw [err_good h 19]; simp)]
  rw [hP]
  refine ⟨hm, rfl, ?_⟩
  have hperm := sortO_perm (rowsP a four 19)
  have hdis := (rowsP_unlike hm (four := four) (k := 19) (Nat.le_refl _)).1
  have hdis2 : (sortO (rowsP a four 19)).Pairwise (fun x y => x.t ≠ y.t) := (hperm.pairwise_iff (fun {a b} (h : a.t ≠ b.t) => h.symm)).2 hdis
  have hmem : ∀ o, o ∈ sortO (rowsP a four 19) ↔ o ∈ a.others ∨ (lays a four o.t = true ∧ o.f = wanted o.t ∧ o.v = (val a four o.t).1) := fun o => hperm.mem_iff.trans mem_rows
  have hR : ∀ o ∈ sortO (rowsP a four 19), Ro four outside a o := by
    intro o hm2
    refine ⟨rowsP_le hm (Nat.le_refl _) o (hperm.mem_iff.1 hm2), ?_⟩
    rcases (hmem o).1 hm2 with h1 | ⟨h1, h2, h3⟩
    · obtain ⟨g1, g2, _⟩ := ho.ok o h1
      exact .inr ⟨g2, g1⟩
    · obtain ⟨hk, hb⟩ := lays_bit h1
      obtain ⟨hin, hg⟩ := h.on _ hk hb
      exact .inl ⟨hk, h2, hin, hg, h3⟩
  have hrun := run_back (sortO (rowsP a four 19)) ⟨zeroA, 0, []⟩ hR hdis2 (fun o _ hx => by cases hx)
  have hpv := Pv.all (sortO (rowsP a four 19)) [] ⟨zeroA, 0, []⟩ (Pv.start a) hR (by simpa using hdis2)
  rw [List.nil_append] at hpv
  show rest four outside _ ⟨zeroA, 0, []⟩ = _
  rw [hrun]
  generalize (sortO (rowsP a four 19)).foldl (nx four) ⟨zeroA, 0, []⟩ = s at *
  unfold fin
  rw [if_neg (by rw [hpv.cls]; simp), hpv.cls]
  congr 1
  have hoth : sortO s.a.others = a.others := by
    refine sorted_uniq ((sortO_perm _).trans ?_) (sortO_sorted _ ?_) hs
    · rw [hpv.others]
      refine (hperm.filter _).trans ?_
      unfold rowsP
      rw [List.filter_append, List.filter_eq_self.2 (fun o hx => by rw [(ho.ok o hx).2.1]; rfl)]
      rw [show ((List.range 19).flatMap (rowP a four)).filter (fun o => !known o.t) = [] from List.filter_eq_nil_iff.2 (fun o hx => by
        obtain ⟨k, hk, hx⟩ := List.mem_flatMap.1 hx
        unfold rowP at hx
        split at hx
        · rename_i hl
          obtain rfl := List.mem_singleton.1 hx
          rw [(lays_bit hl).1]
          simp
        · cases hx), List.append_nil]
    · rw [hpv.others]
      exact hdis2.sublist List.filter_sublist
  refine at_ext (fun t hk => (eqf_others _ _ t _).2 ?_) ?_ hoth
  · cases hb : a.has.testBit t.toNat with
    | true =>
      have hl := haves_lays h hk hb
      exact hpv.on ⟨wanted t, t, (val a four t).1⟩ ((hmem _).2 (.inr ⟨hl, rfl, rfl⟩)) hk
    | false =>
      refine eqf_trans (hpv.out t hk (fun o hx e => ?_)) (eqf_symm (h.out t hk hb))
      rcases (hmem o).1 hx with h1 | ⟨h1, _⟩
      · have := (ho.ok o h1).2.1
        rw [e, hk] at this
        cases this
      · have := (lays_bit h1).2
        rw [e, hb] at this
        cases this
  · show s.a.has = a.has
    refine Nat.eq_of_testBit_eq (fun i => ?_)
    rw [Bool.eq_iff_iff, hpv.has i]
    constructor
    · rintro ⟨o, hx, hk, rfl⟩
      rcases (hmem o).1 hx with h1 | ⟨h1, _⟩
      · have := (ho.ok o h1).2.1
        rw [hk] at this
        cases this
      · exact (lays_bit h1).2
    · intro hi
      obtain ⟨t, hk, rfl⟩ := h.only i hi
      exact ⟨⟨wanted t, t, (val a four t).1⟩, (hmem _).2 (.inr ⟨haves_lays h hk hi, rfl, rfl⟩), hk, rfl⟩
end Ax
end Go.Proofs.YteofbpdogmajoaaGreatDoor
namespace Go.Proofs.YteofbpdogmajoaaGreatDoor
open Go.RowKit

namespace Ax
theorem sorted_len : ∀ (l : List Ot) (n : Nat), l.Pairwise lessO → (∀ o ∈ l, n ≤ o.t.toNat) → n ≤ 256 → l.length + n ≤ 256
  | [], n, _, _, h => by simpa using h
  | o :: l, n, hp, hn, _ => by
    obtain ⟨p1, p2⟩ := List.pairwise_cons.1 hp
    have h1 := hn o (List.mem_cons_self ..)
    have h2 := o.t.toNat_lt
    have := sorted_len l (o.t.toNat + 1) p2 (fun x hx => p1 x hx) (by omega)
    rw [List.length_cons]
    omega
theorem bounds {four outside : Bool} {a : At} (h : Gv four outside a) (hs : a.others.Pairwise lessO) : small a ∧ a.comms.length ≤ 1000000 ∧ a.others.length ≤ 256 := by
  have hp : a.path.length ≤ 32 ∧ ∀ s ∈ a.path, s.2.length ≤ 255 := by
    cases hb : a.has.testBit 2 with
    | true => exact Pt.may_len (show Pt.may a.path = true from (h.on 2 (by decide) hb).2.2.2.1)
    | false =>
      have : a.path = [] := h.out 2 (by decide) hb
      rw [this]
      exact ⟨by simp, fun s hs => by cases hs⟩
  have hq : a.path4.length ≤ 32 ∧ ∀ s ∈ a.path4, s.2.length ≤ 255 := by
    cases hb : a.has.testBit 17 with
    | true =>
      have hr : (decide (0 < (plains a.path4).length) && (decide ((plains a.path4).length = a.path4.length) && Pt.may a.path4)) = true := (h.on 17 (by decide) hb).2.2.2.1
      simp only [Bool.and_eq_true] at hr
      exact Pt.may_len hr.2.2
    | false =>
      have : a.path4 = [] := h.out 17 (by decide) hb
      rw [this]
      exact ⟨by simp, fun s hs => by cases hs⟩
  have hc : a.comms.length ≤ 16383 := by
    cases hb : a.has.testBit 8 with
    | true =>
      have hr : (decide (0 < a.comms.length) && decide (a.comms.length ≤ 16383)) = true := (h.on 8 (by decide) hb).2.2.2.1
      simp only [Bool.and_eq_true, decide_eq_true_eq] at hr
      exact hr.2
    | false =>
      have : a.comms = [] := h.out 8 (by decide) hb
      rw [this]
      simp
  have ho := sorted_len a.others 0 hs (fun _ _ => Nat.zero_le _) (by omega)
  exact ⟨⟨by omega, by omega, fun s hm => by have := hp.2 s hm; omega, fun s hm => by have := hq.2 s hm; omega⟩, by omega, by omega⟩
theorem put_len {four outside : Bool} {a : At} (h : Gv four outside a) (ho : Ov a.others) (hs : a.others.Pairwise lessO) : (putM a four).1.length ≤ 100000000 := by
  have hm := may_good h ho hs
  have hb := (bounds h hs).2.2
  unfold putM
  rw [if_neg (by rw [hm]; simp), if_neg (by rw [err_good h 19]; simp)]
  have h1 := forms_len (sortO (rowsP a four 19)) (fun o hx => rowsP_le hm (Nat.le_refl _) o ((sortO_perm _).mem_iff.1 hx))
  have h2 := (sortO_perm (rowsP a four 19)).length_eq
  have h3 := rowsP_len a four 19
  have h4 : (sortO (rowsP a four 19)).length * 65539 ≤ 275 * 65539 := Nat.mul_le_mul_right _ (by omega)
  exact Nat.le_trans h1 (Nat.le_trans h4 (by decide))
/-- What is passed over is not there. -/
theorem no_pref {four : Bool} {a : At} (h : Gv four true a) : is a 5 = false := by
  rw [is_known a (by decide)]
  cases hb : a.has.testBit (5 : UInt8).toNat with
  | false => rfl
  | true =>
    have := (h.on 5 (by decide) hb).1
    cases four <;> revert this <;> decide
end Ax
end Go.Proofs.YteofbpdogmajoaaGreatDoor
