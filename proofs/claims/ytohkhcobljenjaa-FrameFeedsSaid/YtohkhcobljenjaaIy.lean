
/-
  A drawn region, one fact an operation (Iv), where a slot that the region writes at its end is read ahead of that.
-/
import Derived.Test.YtohkhcobljenjaaIv
namespace Go.Proofs.Ytohkhcobljenjaa
open Go.RowKit

theorem putSome_away {listed : Nat → Bool} {vals : Nat → Value} {t : Nat} : ∀ (l : List Oper) (k : Nat) (a : Act), (∀ (j : Nat) (o : Oper), l[j]? = some o → o.dst = some t → listed (k + j) = false) → (putSome listed l k vals a).tmps.getD t undef = a.tmps.getD t undef
  | [], _, _, _ => rfl
  | o :: l, k, a, h => by
    unfold putSome
    have ih := fun a' => putSome_away (vals := vals) l (k + 1) a' (fun j o' h1 h2 => by have := h (j + 1) o' (by simpa using h1) h2; rwa [show k + 1 + j = k + (j + 1) by omega])
    by_cases hk : listed k = true
    · rw [if_pos hk, ih]
      have h1 : o.dst ≠ some t := fun e => by
        have := h 0 o (by simp) e
        rw [Nat.add_zero, hk] at this
        cases this
      cases hd : o.dst with
      | none => rfl
      | some d => exact put_getD a d t _ (fun e => h1 (by rw [hd, e]))
    · rw [if_neg hk, ih]
theorem dst_one : ∀ {l : List Oper} {i j t : Nat} {o p : Oper}, (dsts l).Nodup → l[i]? = some o → o.dst = some t → l[j]? = some p → p.dst = some t → i = j
  | [], _, _, _, _, _, _, h, _, _, _ => by simp at h
  | x :: l, i, j, t, o, p, hn, h1, h2, h3, h4 => by
    have hmem : ∀ {k : Nat} {q : Oper}, l[k]? = some q → q.dst = some t → t ∈ dsts l := fun a b => by unfold dsts; exact List.mem_filterMap.2 ⟨_, List.mem_of_getElem? a, b⟩
    unfold dsts at hn
    rw [List.filterMap_cons] at hn
    cases i with
    | zero =>
      obtain rfl : x = o := by simpa using h1
      rw [h2] at hn
      cases j with
      | zero => rfl
      | succ j => exact absurd (hmem (by simpa using h3) h4) (List.nodup_cons.1 hn).1
    | succ i =>
      cases j with
      | zero =>
        obtain rfl : x = p := by simpa using h3
        rw [h4] at hn
        exact absurd (hmem (by simpa using h1) h2) (List.nodup_cons.1 hn).1
      | succ j =>
        have hn' : (dsts l).Nodup := by
          split at hn
          · exact hn
          · exact (List.nodup_cons.1 hn).2
        have e1 : l[i]? = some o := by simpa using h1
        have e3 : l[j]? = some p := by simpa using h3
        have e : i = j := dst_one hn' e1 h2 e3 h4
        rw [e]
theorem putSome_off {listed : Nat → Bool} {vals : Nat → Value} {t j : Nat} {l : List Oper} {a : Act} (hn : (dsts l).Nodup) (h : (l[j]?).bind (·.dst) = some t) (hj : listed j = false) : (putSome listed l 0 vals a).tmps.getD t undef = a.tmps.getD t undef := by
  refine putSome_away l 0 a (fun i o h1 h2 => ?_)
  obtain ⟨p, h3, h4⟩ := Option.bind_eq_some_iff.1 h
  have e : i = j := dst_one (l := l) (t := t) (o := o) (p := p) hn h1 h2 h3 h4
  rw [e, Nat.zero_add]
  exact hj

section
variable {P : Program} {Q : Exit → Act → World → Prop}
/-- What each operation owes. -/
def Owes1 {Γ : Type} (P : Program) (Q : Exit → Act → World → Prop) (l : List Oper) (a0 : Act) (B : Γ → World → Prop) (J : Array Bool → Γ → Prop) (φ : Nat → Γ → Value → World → Prop) (R : Γ → World → Γ → World → Prop) (i : Nat) (o : Oper) : Prop :=
  ∀ (listed : Array Bool) (G : Γ) (w : World) (a : Act), listed.size = l.length → listed.getD i true = false → (∀ e ∈ o.after, Region.binds .any e = true → listed.getD e.on false = true) → J listed G → B G w → Known φ l listed G w a →
    (∀ t, t ∉ dsts l → a.tmps.getD t undef = a0.tmps.getD t undef) → (∀ t j, (l[j]?).bind (·.dst) = some t → listed.getD j false = false → a.tmps.getD t undef = a0.tmps.getD t undef) →
    o.wp P a w (fun a' w' => ∃ v G', a' = a.put o.dst v ∧ R G w G' w' ∧ B G' w' ∧ J (listed.setIfInBounds i true) G' ∧ φ i G' v w') Q

def OwesAll1 {Γ : Type} (P : Program) (Q : Exit → Act → World → Prop) (l : List Oper) (a0 : Act) (B : Γ → World → Prop) (J : Array Bool → Γ → Prop) (φ : Nat → Γ → Value → World → Prop) (R : Γ → World → Γ → World → Prop) (k : Nat) (r : List Oper) : Prop :=
  ∀ (i : Nat) (o : Oper), r[i]? = some o → Owes1 P Q l a0 B J φ R (k + i) o
theorem OwesAll1.nil {Γ : Type} {l : List Oper} {a0 : Act} {B : Γ → World → Prop} {J : Array Bool → Γ → Prop} {φ : Nat → Γ → Value → World → Prop} {R : Γ → World → Γ → World → Prop} {k : Nat} : OwesAll1 P Q l a0 B J φ R k [] := fun i o h => by simp at h
theorem OwesAll1.cons {Γ : Type} {l : List Oper} {a0 : Act} {B : Γ → World → Prop} {J : Array Bool → Γ → Prop} {φ : Nat → Γ → Value → World → Prop} {R : Γ → World → Γ → World → Prop} {k : Nat} {x : Oper} {r : List Oper}
    (h : Owes1 P Q l a0 B J φ R k x) (t : OwesAll1 P Q l a0 B J φ R (k + 1) r) : OwesAll1 P Q l a0 B J φ R k (x :: r) := fun i o hi => by
  cases i with
  | zero => obtain rfl : x = o := by simpa using hi
            exact h
  | succ i => have := t i o (by simpa using hi); rwa [show k + 1 + i = k + (i + 1) by omega] at this

theorem wp_region_facts1 {Γ : Type} {id : Nat} {l : List Oper} {a0 : Act} {w0 : World} (B : Γ → World → Prop) (J : Array Bool → Γ → Prop) (φ : Nat → Γ → Value → World → Prop) (R : Γ → World → Γ → World → Prop)
    (hm : P.follows .mixedOrders = true) (hn : (dsts l).Nodup) (hz : ∀ d ∈ dsts l, d < a0.tmps.size) (hg : (l.all fun o => o.guard.isNone) = true)
    (hd : ∀ listed : Array Bool, listed.size = l.length → Region.ready .any l.toArray listed = [] → ∀ j, j < l.length → listed.getD j false = true)
    (stab : ∀ k G w G' w' v, R G w G' w' → φ k G v w → φ k G' v w')
    (start : ∃ G, J (Array.replicate l.length false) G ∧ B G w0.drew)
    (owes : OwesAll1 P Q l a0 B J φ R 0 l)
    (fin : ∀ (vals : Nat → Value) G w, B G w → J (Array.replicate l.length true) G → (∀ (k : Nat) (o : Oper) (d : Nat), l[k]? = some o → o.dst = some d → φ k G (vals k) w) → Q .normal (putAll l 0 vals a0) w) :
    (Code.region id l.toArray true).wp P Q a0 w0 := by
  refine wp_region_any hm ?_
  change wpAny P .any l.toArray Q _ _ a0 w0.drew
  let I : Array Bool → Act → World → Prop := fun listed a w => listed.size = l.length ∧ ∃ (vals : Nat → Value) (G : Γ), a = putSome (fun j => listed.getD j false) l 0 vals a0 ∧ J listed G ∧ B G w ∧ Known φ l listed G w a
  refine wpAny_inv I ?_ ?_ _ _ _ _ ?_ ?_
  · rintro listed a w ⟨hsz, vals, G, ha, hJ, hB, hK⟩ i hi
    obtain ⟨hun, o, ho, haf⟩ := mem_ready.1 hi
    have ho' : l[i]? = some o := by simpa using ho
    have hgo : o.guard = none := by
      have := List.all_eq_true.1 hg o (List.mem_of_getElem? ho')
      simpa using this
    unfold wpOp
    simp only [ho]
    rw [if_pos (by simp [Region.wanted, hgo])]
    left
    have hall := owes i o ho'
    rw [Nat.zero_add] at hall
    have hilt : i < listed.size := by rw [hsz]; exact (List.getElem?_eq_some_iff.1 ho').1
    have hunF : listed.getD i false = false := by
      rw [Array.getD_eq_getD_getElem?] at hun ⊢
      rw [Array.getElem?_eq_getElem hilt] at hun ⊢
      exact hun
    refine Oper.wp_mono ?_ (hall listed G w a hsz hun haf hJ hB hK (fun t ht => by rw [ha]; exact putSome_far l 0 a0 ht) (fun t j h1 h2 => by rw [ha]; exact putSome_off hn h1 (by simpa using h2)))
    rintro a' w' ⟨v, G', rfl, hR, hB', hJ', hφ⟩
    have hst := putSome_step (listed := fun j => listed.getD j false) (vals := vals) (v := v) l 0 i o a0 ho' (by simpa using hunF) hn
    rw [Nat.zero_add] at hst
    have hfun : (fun j => (listed.setIfInBounds i true).getD j false) = (fun j => if j = i then true else listed.getD j false) := by
      funext j
      by_cases hj : j = i
      · subst hj
        simp [hilt]
      · rw [if_neg hj, getD_set_ne false (fun e => hj e.symm)]
    have hput : a.put o.dst v = putSome (fun j => (listed.setIfInBounds i true).getD j false) l 0 (fun j => if j = i then v else vals j) a0 := by
      rw [ha, hst, hfun]
    refine ⟨by simpa using hsz, _, G', hput, hJ', hB', ?_⟩
    intro k o' d hk hd' hl
    rw [hput]
    have hat := putSome_at (listed := fun j => (listed.setIfInBounds i true).getD j false) (vals := fun j => if j = i then v else vals j) (t := d) l 0 k o' a0 hk hd' (by simpa using hl) hn (hz d (by unfold dsts; exact List.mem_filterMap.2 ⟨o', List.mem_of_getElem? hk, hd'⟩))
    rw [hat, Nat.zero_add]
    by_cases hki : k = i
    · subst hki
      simpa using hφ
    · simp only [hki, if_false]
      have hlk : listed.getD k false = true := by rwa [getD_set_ne false (fun e => hki e.symm)] at hl
      have hold := hK k o' d hk hd' hlk
      rw [ha, putSome_at (listed := fun j => listed.getD j false) (vals := vals) (t := d) l 0 k o' a0 hk hd' (by simpa using hlk) hn (hz d (by unfold dsts; exact List.mem_filterMap.2 ⟨o', List.mem_of_getElem? hk, hd'⟩)), Nat.zero_add] at hold
      exact stab _ _ _ _ _ _ hR hold
  · rintro listed a w ⟨hsz, vals, G, ha, hJ, hB, hK⟩ hr
    have hall := hd listed hsz hr
    have hlist : listed = Array.replicate l.length true := by
      apply Array.ext
      · simpa using hsz
      · intro j h1 h2
        have := hall j (by omega)
        rw [Array.getD_eq_getD_getElem?, Array.getElem?_eq_getElem h1] at this
        simpa using this
    have hpa : a = putAll l 0 vals a0 := by rw [ha]; exact putSome_all l 0 vals a0 (fun j hj => by simpa using hall j hj)
    rw [hpa]
    refine fin vals G w hB (by rw [← hlist]; exact hJ) ?_
    intro k o' d hk hd'
    have hlk : listed.getD k false = true := hall k (List.getElem?_eq_some_iff.1 hk).1
    have hold := hK k o' d hk hd' hlk
    rw [ha, putSome_at (listed := fun j => listed.getD j false) (vals := vals) (t := d) l 0 k o' a0 hk hd' (by simpa using hlk) hn (hz d (by unfold dsts; exact List.mem_filterMap.2 ⟨o', List.mem_of_getElem? hk, hd'⟩)), Nat.zero_add] at hold
    exact hold
  · unfold falses
    refine Nat.le_trans (List.length_filter_le _ _) ?_
    simp
  · obtain ⟨G, hJ, hB⟩ := start
    refine ⟨by simp, fun _ => undef, G, ?_, by simpa using hJ, hB, ?_⟩
    · exact (putSome_none l 0 _ a0 (fun j hj => by simp [hj])).symm
    · intro k o d hk _ hl
      have : k < l.length := (List.getElem?_eq_some_iff.1 hk).1
      simp [this] at hl
end
end Go.Proofs.Ytohkhcobljenjaa
