
/-
  A region that draws its order, as in XIu, whose last operation waits for all others and writes a slot.
-/
import Derived.Test.YtembdobkgpojfaaDoorIu
namespace Go.Proofs.YtembdobkgpojfaaDoor
open Go.RowKit

section
variable {P : Program} {Q : Exit → Act → World → Prop}
theorem wp_region_last2 {id : Nat} {l : List Oper} {a0 : Act} {w0 : World} (W : World) (φ : Nat → Value → World → Prop) (n : Nat) (z : Oper) (hz0 : l[n]? = some z) (hlen : l.length = n + 1)
    (hza : ((List.range n).all fun j => z.after.any fun e => Region.binds .any e && e.on == j) = true) (hzg : z.guard = none)
    (hm : P.follows .mixedOrders = true) (hn : (dsts l).Nodup) (hz : ∀ d ∈ dsts l, d < a0.tmps.size)
    (hd : ∀ listed : Array Bool, listed.size = l.length → Region.ready .any l.toArray listed = [] → ∀ j, j < l.length → listed.getD j false = true)
    (gv : Nat → Bool) (hB : guardB l = true) (hP : ∀ x ∈ l.filterMap (·.guard), ∀ v w, φ x.1 v w → v = .bool (gv x.1))
    (stab : ∀ k v w w', Kept Nothing w w' → φ k v w → φ k v w')
    (start : Kept Nothing W w0.drew)
    (owes : OweTo P Q gv n l a0 W φ 0 l)
    (fin : ∀ (A : Act) u, Kept Nothing W u → A.tmps.size = a0.tmps.size → A.defers = a0.defers → (∀ t, t ∉ dsts l → A.tmps.getD t undef = a0.tmps.getD t undef) →
      (∀ (k : Nat) (o : Oper) (d : Nat), k < n → l[k]? = some o → o.dst = some d → φ k (A.tmps.getD d undef) u) → z.wp P A u (fun a' u' => Q .normal a' u') Q) :
    (Code.region id l.toArray true).wp P Q a0 w0 := by
  refine wp_region_any hm ?_
  change wpAny P .any l.toArray Q _ _ a0 w0.drew
  let I : Array Bool → Act → World → Prop := fun listed a w => (listed.getD n true = false ∧ listed.size = l.length ∧ ∃ (vals : Nat → Value), a = putSome (fun j => listed.getD j false) l 0 vals a0 ∧ Kept Nothing W w ∧
    ∀ (k : Nat) (o : Oper) (d : Nat), l[k]? = some o → o.dst = some d → listed.getD k false = true → φ k (a.tmps.getD d undef) w) ∨ ((∀ j, listed.getD j true = true) ∧ Q .normal a w)
  have hdst : ∀ {k : Nat} {o : Oper} {d : Nat}, l[k]? = some o → o.dst = some d → d < a0.tmps.size := fun h1 h2 => hz _ (by unfold dsts; exact List.mem_filterMap.2 ⟨_, List.mem_of_getElem? h1, h2⟩)
  refine wpAny_inv I ?_ ?_ _ _ _ _ ?_ ?_
  · rintro listed a w (⟨hnl, hsz, vals, ha, hK, hA⟩ | ⟨hall, hq⟩) i hi
    · obtain ⟨hun, o, ho, haf⟩ := mem_ready.1 hi
      have ho' : l[i]? = some o := by simpa using ho
      have hfed : FedG φ l o w a := fun k o' d h1 h2 ⟨e, he, hb, hk⟩ => hA k o' d h1 h2 (by rw [← hk]; exact haf e he hb)
      have hw := wanted_eq hB hP ho' hfed
      unfold wpOp
      simp only [ho]
      rw [hw]
      have hilt : i < listed.size := by rw [hsz]; exact (List.getElem?_eq_some_iff.1 ho').1
      have hunF : listed.getD i false = false := by
        rw [Array.getD_eq_getD_getElem?] at hun ⊢
        rw [Array.getElem?_eq_getElem hilt] at hun ⊢
        exact hun
      have hfar : ∀ t, t ∉ dsts l → a.tmps.getD t undef = a0.tmps.getD t undef := fun t ht => by rw [ha]; exact putSome_far l 0 a0 ht
      by_cases hin : i = n
      · subst hin
        obtain rfl : z = o := by rw [hz0] at ho'; injection ho'
        rw [if_pos (by unfold wantedB; rw [hzg])]
        left
        have hprev : ∀ j, j < i → listed.getD j false = true := fun j hj => by
          have h1 := List.all_eq_true.1 hza j (List.mem_range.2 hj)
          obtain ⟨e, he, hbe⟩ := Array.any_eq_true'.1 h1
          simp only [Bool.and_eq_true, beq_iff_eq] at hbe
          rw [← hbe.2]
          exact haf e he hbe.1
        have hfacts : ∀ (k : Nat) (o : Oper) (d : Nat), k < i → l[k]? = some o → o.dst = some d → φ k (a.tmps.getD d undef) w := fun k o d h0 h1 h2 => hA k o d h1 h2 (hprev k h0)
        refine Oper.wp_mono ?_ (fin a w hK (by rw [ha, (putSome_size l 0 a0).1]) (by rw [ha, (putSome_size l 0 a0).2]) hfar hfacts)
        intro a' w' hq
        refine .inr ⟨fun j => ?_, hq⟩
        by_cases hji : j = i
        · subst hji
          rw [Array.getD_eq_getD_getElem?, Array.getElem?_setIfInBounds_self_of_lt hilt]; rfl
        · rw [getD_set_ne true (fun e => hji e.symm)]
          rcases Nat.lt_or_ge j i with hlt | hge
          · have := hprev j hlt
            rw [Array.getD_eq_getD_getElem?] at this ⊢
            rw [Array.getElem?_eq_getElem (by omega)] at this ⊢
            exact this
          · rw [Array.getD_eq_getD_getElem?, Array.getElem?_eq_none (by omega)]; rfl
      · have hilt2 : i < n := by omega
        have hall := owes i o ho' (by omega)
        rw [Nat.zero_add] at hall
        suffices hgo : ∀ v w', Kept Nothing w w' → φ i v w' → I (listed.setIfInBounds i true) (a.put o.dst v) w' by
          cases hwb : wantedB gv o with
          | true =>
            rw [if_pos rfl]
            left
            refine Oper.wp_mono ?_ (hall.1 hwb w a hK hfed hfar)
            rintro a' w' ⟨v, rfl, hk', hφ⟩
            exact hgo v w' hk' hφ
          | false =>
            rw [if_neg (by decide)]
            exact hgo _ w (Kept.refl _ _) (hall.2 hwb w)
        intro v w' hk' hφ
        have hst := putSome_step (listed := fun j => listed.getD j false) (vals := vals) (v := v) l 0 i o a0 ho' (by simpa using hunF) hn
        rw [Nat.zero_add] at hst
        have hfun : (fun j => (listed.setIfInBounds i true).getD j false) = (fun j => if j = i then true else listed.getD j false) := by
          funext j
          by_cases hj : j = i
          · subst hj
            simp [hilt]
          · rw [if_neg hj, getD_set_ne false (fun e => hj e.symm)]
        have hput : a.put o.dst v = putSome (fun j => (listed.setIfInBounds i true).getD j false) l 0 (fun j => if j = i then v else vals j) a0 := by
          rw [ha, hst, hfun]
        refine .inl ⟨by rw [getD_set_ne true hin]; exact hnl, by simpa using hsz, _, hput, hK.trans hk', ?_⟩
        intro k o' d hk hd' hl
        rw [hput]
        have hat := putSome_at (listed := fun j => (listed.setIfInBounds i true).getD j false) (vals := fun j => if j = i then v else vals j) (t := d) l 0 k o' a0 hk hd' (by simpa using hl) hn (hdst hk hd')
        rw [hat, Nat.zero_add]
        by_cases hki : k = i
        · subst hki
          simpa using hφ
        · simp only [hki, if_false]
          have hlk : listed.getD k false = true := by rwa [getD_set_ne false (fun e => hki e.symm)] at hl
          have hold := hA k o' d hk hd' hlk
          rw [ha, putSome_at (listed := fun j => listed.getD j false) (vals := vals) (t := d) l 0 k o' a0 hk hd' (by simpa using hlk) hn (hdst hk hd'), Nat.zero_add] at hold
          exact stab _ _ _ _ hk' hold
    · obtain ⟨hun, _⟩ := mem_ready.1 hi
      rw [hall i] at hun
      cases hun
  · rintro listed a w (⟨hnl, hsz, vals, ha, hK, hA⟩ | ⟨hall, hq⟩) hr
    · have := hd listed hsz hr n (by omega)
      rw [Array.getD_eq_getD_getElem?] at this hnl
      rw [Array.getElem?_eq_getElem (by omega)] at this hnl
      simp only [Option.getD_some] at this hnl
      rw [this] at hnl
      cases hnl
    · exact hq
  · unfold falses
    refine Nat.le_trans (List.length_filter_le _ _) ?_
    simp
  · refine .inl ⟨by simp [hlen], by simp, fun _ => undef, ?_, start, ?_⟩
    · exact (putSome_none l 0 _ a0 (fun j hj => by simp [hj])).symm
    · intro k o d hk _ hl
      have : k < l.length := (List.getElem?_eq_some_iff.1 hk).1
      simp [this] at hl
end
end Go.Proofs.YtembdobkgpojfaaDoor
