
/-
  A region that draws its order, as in XIw, whose last operation waits for all others and may change memory.
-/
import Derived.Test.YtembdobkgpojfaaDoorIw
namespace Go.Proofs.YtembdobkgpojfaaDoor
open Go.RowKit

section
variable {P : Program} {Q : Exit → Act → World → Prop}

/-- Is an operation wanted, where the guards have the values gv? -/
def wantedB (gv : Nat → Bool) (o : Oper) : Bool := match o.guard with
  | none => true
  | some (g, b) => gv g == b
def OweTo (P : Program) (Q : Exit → Act → World → Prop) (gv : Nat → Bool) (n : Nat) (l : List Oper) (a0 : Act) (W : World) (φ : Nat → Value → World → Prop) (k : Nat) (r : List Oper) : Prop :=
  ∀ (i : Nat) (o : Oper), r[i]? = some o → k + i < n → (wantedB gv o = true → Owe P Q l a0 W φ (k + i) o) ∧ (wantedB gv o = false → ∀ u, φ (k + i) undef u)
section
variable {gv : Nat → Bool} {n : Nat} {l r : List Oper} {a0 : Act} {W : World} {φ : Nat → Value → World → Prop} {k : Nat} {x : Oper}
theorem OweTo.last (h : n ≤ k) : OweTo P Q gv n l a0 W φ k r := fun i o _ hk => absurd hk (by omega)
theorem OweTo.both (h : (wantedB gv x = true → Owe P Q l a0 W φ k x) ∧ (wantedB gv x = false → ∀ u, φ k undef u)) (t : OweTo P Q gv n l a0 W φ (k + 1) r) : OweTo P Q gv n l a0 W φ k (x :: r) := fun i o hi hn => by
  cases i with
  | zero => obtain rfl : x = o := by simpa using hi
            exact h
  | succ i => have := t i o (by simpa using hi) (by omega); rwa [show k + 1 + i = k + (i + 1) by omega] at this
theorem OweTo.cons (h : Owe P Q l a0 W φ k x) (hw : wantedB gv x = true) (t : OweTo P Q gv n l a0 W φ (k + 1) r) : OweTo P Q gv n l a0 W φ k (x :: r) :=
  .both ⟨fun _ => h, (fun e => by rw [hw] at e; cases e)⟩ t
theorem OweTo.skip (h : ∀ u, φ k undef u) (hw : wantedB gv x = false) (t : OweTo P Q gv n l a0 W φ (k + 1) r) : OweTo P Q gv n l a0 W φ k (x :: r) :=
  .both ⟨(fun e => by rw [hw] at e; cases e), fun _ => h⟩ t
end
theorem wanted_eq {gv : Nat → Bool} {φ : Nat → Value → World → Prop} {l : List Oper} (hB : guardB l = true) (hP : ∀ x ∈ l.filterMap (·.guard), ∀ v w, φ x.1 v w → v = .bool (gv x.1))
    {i : Nat} {o : Oper} (ho : l[i]? = some o) {u : World} {a : Act} (hf : FedG φ l o u a) : Region.wanted o (yielded l.toArray a.tmps) = wantedB gv o := by
  unfold Region.wanted wantedB
  cases hg : o.guard with
  | none => rfl
  | some x =>
    obtain ⟨g, b⟩ := x
    have h1 := List.all_eq_true.1 hB o (List.mem_of_getElem? ho)
    rw [hg] at h1
    simp only [Bool.and_eq_true] at h1
    obtain ⟨h2, h3⟩ := h1
    cases hl : l[g]? with
    | none => rw [hl] at h2; cases h2
    | some og =>
      rw [hl] at h2
      obtain ⟨d, hd⟩ := Option.isSome_iff_exists.1 h2
      obtain ⟨e, he, hbe⟩ := Array.any_eq_true'.1 h3
      simp only [Bool.and_eq_true, beq_iff_eq] at hbe
      have hv := hP (g, b) (List.mem_filterMap.2 ⟨o, List.mem_of_getElem? ho, hg⟩) _ _ (hf g og d hl hd ⟨e, he, hbe.1, hbe.2⟩)
      simp only at hv
      have hy : yielded l.toArray a.tmps g = some (gv g) := by
        unfold yielded
        have e1 : ((l.toArray[g]?).bind (·.dst)) = some d := by simp [hl, hd]
        rw [e1]
        have e2 : a.tmps[d]? = some (.bool (gv g)) := by
          rw [Array.getD_eq_getD_getElem?] at hv
          cases hx : a.tmps[d]? with
          | none => rw [hx] at hv; simp [undef] at hv
          | some y => rw [hx] at hv; simp at hv; rw [hv]
        simp [e2]
      simp only [hy]
      cases gv g <;> cases b <;> rfl

theorem wp_region_last {id : Nat} {l : List Oper} {a0 : Act} {w0 : World} (W : World) (φ : Nat → Value → World → Prop) (n : Nat) (z : Oper) (hz0 : l[n]? = some z) (hlen : l.length = n + 1)
    (hza : ((List.range n).all fun j => z.after.any fun e => Region.binds .any e && e.on == j) = true) (hzg : z.guard = none) (hzd : z.dst = none)
    (hm : P.follows .mixedOrders = true) (hn : (dsts l).Nodup) (hz : ∀ d ∈ dsts l, d < a0.tmps.size)
    (hd : ∀ listed : Array Bool, listed.size = l.length → Region.ready .any l.toArray listed = [] → ∀ j, j < l.length → listed.getD j false = true)
    (gv : Nat → Bool) (hB : guardB l = true) (hP : ∀ x ∈ l.filterMap (·.guard), ∀ v w, φ x.1 v w → v = .bool (gv x.1))
    (stab : ∀ k v w w', Kept Nothing w w' → φ k v w → φ k v w')
    (start : Kept Nothing W w0.drew)
    (owes : OweTo P Q gv n l a0 W φ 0 l)
    (fin : ∀ (A : Act) u, Kept Nothing W u → A.tmps.size = a0.tmps.size → A.defers = a0.defers → (∀ t, t ∉ dsts l → A.tmps.getD t undef = a0.tmps.getD t undef) →
      (∀ (k : Nat) (o : Oper) (d : Nat), l[k]? = some o → o.dst = some d → φ k (A.tmps.getD d undef) u) → z.wp P A u (fun a' u' => Q .normal a' u') Q) :
    (Code.region id l.toArray true).wp P Q a0 w0 := by
  refine wp_region_any hm ?_
  change wpAny P .any l.toArray Q _ _ a0 w0.drew
  let I : Array Bool → Act → World → Prop := fun listed a w => (listed.getD n true = false ∧ listed.size = l.length ∧ ∃ (vals : Nat → Value), a = putSome (fun j => listed.getD j false) l 0 vals a0 ∧ Kept Nothing W w ∧
    ∀ (k : Nat) (o : Oper) (d : Nat), l[k]? = some o → o.dst = some d → listed.getD k false = true → φ k (a.tmps.getD d undef) w) ∨ ((∀ j, listed.getD j true = true) ∧ Q .normal a w)
  have hdst : ∀ {k : Nat} {o : Oper} {d : Nat}, l[k]? = some o → o.dst = some d → d < a0.tmps.size := fun h1 h2 => hz _ (by unfold dsts; exact List.mem_filterMap.2 ⟨_, List.mem_of_getElem? h1, h2⟩)
  refine wpAny_inv I ?_ ?_ _ _ _ _ ?_ ?_
  · rintro listed a w (⟨hnl, hsz, vals, ha, hK, hA⟩ | ⟨hall, hq⟩) i hi
    · obtain ⟨hun, o, ho, haf⟩ := mem_ready.1 hi
      have ho' : l[i]? = some o := by simpa using ho
      have hfed : FedG φ l o w a := fun k o' d h1 h2 ⟨e, he, hb, hk⟩ => hA k o' d h1 h2 (by rw [← hk]; exact haf e he hb)
      have hw := wanted_eq hB hP ho' hfed
      unfold wpOp
      simp only [ho]
      rw [hw]
      have hilt : i < listed.size := by rw [hsz]; exact (List.getElem?_eq_some_iff.1 ho').1
      have hunF : listed.getD i false = false := by
        rw [Array.getD_eq_getD_getElem?] at hun ⊢
        rw [Array.getElem?_eq_getElem hilt] at hun ⊢
        exact hun
      have hfar : ∀ t, t ∉ dsts l → a.tmps.getD t undef = a0.tmps.getD t undef := fun t ht => by rw [ha]; exact putSome_far l 0 a0 ht
      by_cases hin : i = n
      · subst hin
        obtain rfl : z = o := by rw [hz0] at ho'; injection ho'
        rw [if_pos (by unfold wantedB; rw [hzg])]
        left
        have hprev : ∀ j, j < i → listed.getD j false = true := fun j hj => by
          have h1 := List.all_eq_true.1 hza j (List.mem_range.2 hj)
          obtain ⟨e, he, hbe⟩ := Array.any_eq_true'.1 h1
          simp only [Bool.and_eq_true, beq_iff_eq] at hbe
          rw [← hbe.2]
          exact haf e he hbe.1
        have hfacts : ∀ (k : Nat) (o : Oper) (d : Nat), l[k]? = some o → o.dst = some d → φ k (a.tmps.getD d undef) w := fun k o d h1 h2 => by
          refine hA k o d h1 h2 (hprev k ?_)
          have hk := (List.getElem?_eq_some_iff.1 h1).1
          rcases Nat.lt_or_ge k i with hlt | hge
          · exact hlt
          · obtain rfl : k = i := by omega
            rw [hz0] at h1
            injection h1 with h1
            subst h1
            rw [hzd] at h2
            cases h2
        refine Oper.wp_mono ?_ (fin a w hK (by rw [ha, (putSome_size l 0 a0).1]) (by rw [ha, (putSome_size l 0 a0).2]) hfar hfacts)
        intro a' w' hq
        refine .inr ⟨fun j => ?_, hq⟩
        by_cases hji : j = i
        · subst hji
          rw [Array.getD_eq_getD_getElem?, Array.getElem?_setIfInBounds_self_of_lt hilt]; rfl
        · rw [getD_set_ne true (fun e => hji e.symm)]
          rcases Nat.lt_or_ge j i with hlt | hge
          · have := hprev j hlt
            rw [Array.getD_eq_getD_getElem?] at this ⊢
            rw [Array.getElem?_eq_getElem (by omega)] at this ⊢
            exact this
          · rw [Array.getD_eq_getD_getElem?, Array.getElem?_eq_none (by omega)]; rfl
      · have hilt2 : i < n := by omega
        have hall := owes i o ho' (by omega)
        rw [Nat.zero_add] at hall
        suffices hgo : ∀ v w', Kept Nothing w w' → φ i v w' → I (listed.setIfInBounds i true) (a.put o.dst v) w' by
          cases hwb : wantedB gv o with
          | true =>
            rw [if_pos rfl]
            left
            refine Oper.wp_mono ?_ (hall.1 hwb w a hK hfed hfar)
            rintro a' w' ⟨v, rfl, hk', hφ⟩
            exact hgo v w' hk' hφ
          | false =>
            rw [if_neg (by decide)]
            exact hgo _ w (Kept.refl _ _) (hall.2 hwb w)
        intro v w' hk' hφ
        have hst := putSome_step (listed := fun j => listed.getD j false) (vals := vals) (v := v) l 0 i o a0 ho' (by simpa using hunF) hn
        rw [Nat.zero_add] at hst
        have hfun : (fun j => (listed.setIfInBounds i true).getD j false) = (fun j => if j = i then true else listed.getD j false) := by
          funext j
          by_cases hj : j = i
          · subst hj
            simp [hilt]
          · rw [if_neg hj, getD_set_ne false (fun e => hj e.symm)]
        have hput : a.put o.dst v = putSome (fun j => (listed.setIfInBounds i true).getD j false) l 0 (fun j => if j = i then v else vals j) a0 := by
          rw [ha, hst, hfun]
        refine .inl ⟨by rw [getD_set_ne true hin]; exact hnl, by simpa using hsz, _, hput, hK.trans hk', ?_⟩
        intro k o' d hk hd' hl
        rw [hput]
        have hat := putSome_at (listed := fun j => (listed.setIfInBounds i true).getD j false) (vals := fun j => if j = i then v else vals j) (t := d) l 0 k o' a0 hk hd' (by simpa using hl) hn (hdst hk hd')
        rw [hat, Nat.zero_add]
        by_cases hki : k = i
        · subst hki
          simpa using hφ
        · simp only [hki, if_false]
          have hlk : listed.getD k false = true := by rwa [getD_set_ne false (fun e => hki e.symm)] at hl
          have hold := hA k o' d hk hd' hlk
          rw [ha, putSome_at (listed := fun j => listed.getD j false) (vals := vals) (t := d) l 0 k o' a0 hk hd' (by simpa using hlk) hn (hdst hk hd'), Nat.zero_add] at hold
          exact stab _ _ _ _ hk' hold
    · obtain ⟨hun, _⟩ := mem_ready.1 hi
      rw [hall i] at hun
      cases hun
  · rintro listed a w (⟨hnl, hsz, vals, ha, hK, hA⟩ | ⟨hall, hq⟩) hr
    · have := hd listed hsz hr n (by omega)
      rw [Array.getD_eq_getD_getElem?] at this hnl
      rw [Array.getElem?_eq_getElem (by omega)] at this hnl
      simp only [Option.getD_some] at this hnl
      rw [this] at hnl
      cases hnl
    · exact hq
  · unfold falses
    refine Nat.le_trans (List.length_filter_le _ _) ?_
    simp
  · refine .inl ⟨by simp [hlen], by simp, fun _ => undef, ?_, start, ?_⟩
    · exact (putSome_none l 0 _ a0 (fun j hj => by simp [hj])).symm
    · intro k o d hk _ hl
      have : k < l.length := (List.getElem?_eq_some_iff.1 hk).1
      simp [this] at hl

/-- The guards' values out of a row of facts. -/
theorem Facts.guards2 {L : List (Option Value)} {S : Nat → Value → World → Prop} {gv : Nat → Bool} {gs : List (Nat × Bool)} {E : List Nat} (h1 : (gs.all fun x => E.contains x.1) = true) (h2 : ∀ x ∈ E, L[x]? = some (some (.bool (gv x)))) : ∀ x ∈ gs, ∀ v w, Facts L S x.1 v w → v = .bool (gv x.1) := by
  intro x hx v w h
  have h3 := List.all_eq_true.1 h1 x hx
  have h4 := h2 x.1 (by simpa using h3)
  unfold Facts at h
  rw [h4] at h
  exact h
end
end Go.Proofs.YtembdobkgpojfaaDoor

