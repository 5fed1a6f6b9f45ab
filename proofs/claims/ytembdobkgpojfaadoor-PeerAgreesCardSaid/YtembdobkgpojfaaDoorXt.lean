
/-
  A region that draws its order, as in XIs, whose last operations wait for all the others and come one by one: they may change memory.
-/
import Derived.Test.YtembdobkgpojfaaDoorIr
import Derived.StillTail
import Derived.Laws.Rows
import Derived.Laws.Tables
namespace Go.Proofs.YtembdobkgpojfaaDoor
open Go.RowKit

section
variable {P : Program} {Q : Exit → Act → World → Prop}
theorem wp_region_tailA {id : Nat} {l : List Oper} {a0 : Act} {w0 : World} (W : World) (φ : Nat → Value → World → Prop) (n : Nat) (hlen : n < l.length)
    (hza : ((List.range' n (l.length - n)).all fun z => ((l[z]?.map fun o => o.after.any fun e => Region.binds .any e && decide (n ≤ e.on)).getD false) || (List.range n).all fun j => l.zipIdx.any fun x => decide (j < x.2) && (decide (x.2 < n) || x.2 == z) && x.1.after.any fun e => Region.binds .any e && e.on == j) = true)
    (hm : P.follows .mixedOrders = true) (hn : (dsts l).Nodup) (hz : ∀ d ∈ dsts l, d < a0.tmps.size)
    (hd : ∀ listed : Array Bool, listed.size = l.length → Region.ready .any l.toArray listed = [] → ∀ j, j < l.length → listed.getD j false = true)
    (gv : Nat → Bool) (hB : guardB l = true) (hP : ∀ x ∈ l.filterMap (·.guard), ∀ v w, φ x.1 v w → v = .bool (gv x.1))
    (stab : ∀ k v w w', Kept Nothing w w' → φ k v w → φ k v w')
    (start : Kept Nothing W w0.drew)
    (owes : OweTo P Q gv n l a0 W φ 0 l)
    (fin : ∀ (A : Act) u, Kept Nothing W u → A.tmps.size = a0.tmps.size → A.defers = a0.defers → (∀ t, t ∉ dsts l → A.tmps.getD t undef = a0.tmps.getD t undef) →
      (∀ (k : Nat) (o : Oper) (d : Nat), k < n → l[k]? = some o → o.dst = some d → φ k (A.tmps.getD d undef) u) → wpAny P .any l.toArray Q (l.length - n) ((List.range l.length).map fun i => decide (i < n)).toArray A u) :
    (Code.region id l.toArray true).wp P Q a0 w0 := by
  refine wp_region_any hm ?_
  change wpAny P .any l.toArray Q _ _ a0 w0.drew
  let I : Array Bool → Act → World → Prop := fun listed a w => ((∀ j, n ≤ j → listed.getD j false = false) ∧ listed.size = l.length ∧ (∀ (k : Nat) (o : Oper), l[k]? = some o → listed.getD k false = true → ∀ e ∈ o.after, Region.binds .any e = true → listed.getD e.on false = true) ∧ ∃ (vals : Nat → Value), a = putSome (fun j => listed.getD j false) l 0 vals a0 ∧ Kept Nothing W w ∧
    ∀ (k : Nat) (o : Oper) (d : Nat), l[k]? = some o → o.dst = some d → listed.getD k false = true → φ k (a.tmps.getD d undef) w) ∨ (∃ f, wpAny P .any l.toArray Q f listed a w)
  have hdst : ∀ {k : Nat} {o : Oper} {d : Nat}, l[k]? = some o → o.dst = some d → d < a0.tmps.size := fun h1 h2 => hz _ (by unfold dsts; exact List.mem_filterMap.2 ⟨_, List.mem_of_getElem? h1, h2⟩)
  have step2 : ∀ (f : Nat) (listed : Array Bool) (a : Act) (w : World), wpAny P .any l.toArray Q f listed a w → ∀ i ∈ Region.ready .any l.toArray listed, wpOp P l.toArray Q i (I (listed.setIfInBounds i true)) a w := by
    intro f listed a w hw i hi
    cases f with
    | zero => rw [hw.1] at hi; cases hi
    | succ f => exact wpOp_mono (fun a' w' h => .inr ⟨f, h⟩) (hw.2 i hi)
  refine wpAny_inv I ?_ ?_ _ _ _ _ ?_ ?_
  · rintro listed a w (⟨hnl, hsz, hcl, vals, ha, hK, hA⟩ | ⟨f, hq⟩) i hi
    rotate_left
    · exact step2 f listed a w hq i hi
    · obtain ⟨hun, o, ho, haf⟩ := mem_ready.1 hi
      have ho' : l[i]? = some o := by simpa using ho
      have hfed : FedG φ l o w a := fun k o' d h1 h2 ⟨e, he, hb, hk⟩ => hA k o' d h1 h2 (by rw [← hk]; exact haf e he hb)
      have hw := wanted_eq hB hP ho' hfed
      unfold wpOp
      simp only [ho]
      rw [hw]
      have hilt : i < listed.size := by rw [hsz]; exact (List.getElem?_eq_some_iff.1 ho').1
      have hunF : listed.getD i false = false := by
        rw [Array.getD_eq_getD_getElem?] at hun ⊢
        rw [Array.getElem?_eq_getElem hilt] at hun ⊢
        exact hun
      have hfar : ∀ t, t ∉ dsts l → a.tmps.getD t undef = a0.tmps.getD t undef := fun t ht => by rw [ha]; exact putSome_far l 0 a0 ht
      by_cases hin : n ≤ i
      · have hprev0 : ∀ m j, n - j = m → j < n → listed.getD j false = true := by
          intro m
          induction m using Nat.strongRecOn with
          | _ m ih =>
            intro j hm hj
            have h0 := List.all_eq_true.1 hza i (List.mem_range'_1.2 ⟨hin, by rw [hsz] at hilt; omega⟩)
            rw [ho', Option.map_some, Option.getD_some, Bool.or_eq_true] at h0
            rcases h0 with h0 | h0
            · obtain ⟨e, he, hbe⟩ := Array.any_eq_true'.1 h0
              simp only [Bool.and_eq_true, decide_eq_true_eq] at hbe
              have h3 := haf e he hbe.1
              rw [hnl e.on hbe.2] at h3
              cases h3
            have h1 := List.all_eq_true.1 h0 j (List.mem_range.2 hj)
            obtain ⟨⟨x1, x2⟩, hx, hbx⟩ := List.any_eq_true.1 h1
            simp only [Bool.and_eq_true, decide_eq_true_eq, Bool.or_eq_true, beq_iff_eq] at hbx
            obtain ⟨⟨hlt, hor⟩, hbx⟩ := hbx
            obtain ⟨e, he, hbe⟩ := Array.any_eq_true'.1 hbx
            simp only [Bool.and_eq_true, beq_iff_eq] at hbe
            have hx2 : l[x2]? = some x1 := List.mem_zipIdx_iff_getElem?.1 hx
            rw [← hbe.2]
            rcases hor with hxn | hxi
            · exact hcl x2 x1 hx2 (ih (n - x2) (by omega) x2 rfl hxn) e he hbe.1
            · subst hxi
              obtain rfl : o = x1 := by rw [ho'] at hx2; injection hx2
              exact haf e he hbe.1
        have hprev : ∀ j, j < n → listed.getD j false = true := fun j hj => hprev0 _ j rfl hj
        have hfacts : ∀ (k : Nat) (o : Oper) (d : Nat), k < n → l[k]? = some o → o.dst = some d → φ k (a.tmps.getD d undef) w := fun k o d h0 h1 h2 => hA k o d h1 h2 (hprev k h0)
        have hL : listed = ((List.range l.length).map fun i => decide (i < n)).toArray := by
          refine Array.ext (by simp [hsz]) (fun j h1 h2 => ?_)
          have h3 : listed.getD j false = listed[j] := by rw [Array.getD_eq_getD_getElem?, Array.getElem?_eq_getElem h1]; rfl
          simp only [List.getElem_toArray, List.getElem_map, List.getElem_range]
          by_cases hj : j < n
          · rw [← h3, hprev j hj, decide_eq_true hj]
          · rw [← h3, hnl j (by omega), decide_eq_false hj]
        have hq := fin a w hK (by rw [ha, (putSome_size l 0 a0).1]) (by rw [ha, (putSome_size l 0 a0).2]) hfar hfacts
        rw [← hL] at hq
        have := step2 _ listed a w hq i hi
        unfold wpOp at this
        simp only [ho] at this
        rw [hw] at this
        exact this
      · have hilt2 : i < n := by omega
        have hall := owes i o ho' (by omega)
        rw [Nat.zero_add] at hall
        suffices hgo : ∀ v w', Kept Nothing w w' → φ i v w' → I (listed.setIfInBounds i true) (a.put o.dst v) w' by
          cases hwb : wantedB gv o with
          | true =>
            rw [if_pos rfl]
            left
            refine Oper.wp_mono ?_ (hall.1 hwb w a hK hfed hfar)
            rintro a' w' ⟨v, rfl, hk', hφ⟩
            exact hgo v w' hk' hφ
          | false =>
            rw [if_neg (by decide)]
            exact hgo _ w (Kept.refl _ _) (hall.2 hwb w)
        intro v w' hk' hφ
        have hst := putSome_step (listed := fun j => listed.getD j false) (vals := vals) (v := v) l 0 i o a0 ho' (by simpa using hunF) hn
        rw [Nat.zero_add] at hst
        have hfun : (fun j => (listed.setIfInBounds i true).getD j false) = (fun j => if j = i then true else listed.getD j false) := by
          funext j
          by_cases hj : j = i
          · subst hj
            simp [hilt]
          · rw [if_neg hj, getD_set_ne false (fun e => hj e.symm)]
        have hput : a.put o.dst v = putSome (fun j => (listed.setIfInBounds i true).getD j false) l 0 (fun j => if j = i then v else vals j) a0 := by
          rw [ha, hst, hfun]
        have hup : ∀ j, listed.getD j false = true → (listed.setIfInBounds i true).getD j false = true := fun j hj => by
          by_cases hji : j = i
          · subst hji; simp [hilt]
          · rw [getD_set_ne false (fun e => hji e.symm)]; exact hj
        have hcl2 : ∀ (k : Nat) (o : Oper), l[k]? = some o → (listed.setIfInBounds i true).getD k false = true → ∀ e ∈ o.after, Region.binds .any e = true → (listed.setIfInBounds i true).getD e.on false = true := fun k o2 hk hl e he hb => by
          by_cases hki : k = i
          · subst hki
            obtain rfl : o = o2 := by rw [ho'] at hk; injection hk
            exact hup _ (haf e he hb)
          · rw [getD_set_ne false (fun e => hki e.symm)] at hl
            exact hup _ (hcl k o2 hk hl e he hb)
        refine .inl ⟨fun j hj => by rw [getD_set_ne false (by omega)]; exact hnl j hj, by simpa using hsz, hcl2, _, hput, hK.trans hk', ?_⟩
        intro k o' d hk hd' hl
        rw [hput]
        have hat := putSome_at (listed := fun j => (listed.setIfInBounds i true).getD j false) (vals := fun j => if j = i then v else vals j) (t := d) l 0 k o' a0 hk hd' (by simpa using hl) hn (hdst hk hd')
        rw [hat, Nat.zero_add]
        by_cases hki : k = i
        · subst hki
          simpa using hφ
        · simp only [hki, if_false]
          have hlk : listed.getD k false = true := by rwa [getD_set_ne false (fun e => hki e.symm)] at hl
          have hold := hA k o' d hk hd' hlk
          rw [ha, putSome_at (listed := fun j => listed.getD j false) (vals := vals) (t := d) l 0 k o' a0 hk hd' (by simpa using hlk) hn (hdst hk hd'), Nat.zero_add] at hold
          exact stab _ _ _ _ hk' hold
  · rintro listed a w (⟨hnl, hsz, hcl, vals, ha, hK, hA⟩ | ⟨f, hq⟩) hr
    · have h1 := hd listed hsz hr n hlen
      rw [hnl n (Nat.le_refl n)] at h1
      cases h1
    · cases f with
      | zero => exact hq.2
      | succ f => exact hq.1 hr
  · unfold falses
    refine Nat.le_trans (List.length_filter_le _ _) ?_
    simp
  · refine .inl ⟨fun j _ => by simp [Array.getD_eq_getD_getElem?, Array.getElem?_replicate]; split <;> rfl, by simp, fun k o hk hl => by
      have : k < l.length := (List.getElem?_eq_some_iff.1 hk).1
      simp [this] at hl, fun _ => undef, ?_, start, ?_⟩
    · exact (putSome_none l 0 _ a0 (fun j hj => by simp [hj])).symm
    · intro k o d hk _ hl
      have : k < l.length := (List.getElem?_eq_some_iff.1 hk).1
      simp [this] at hl

/-- As above, the last ones in their own order. -/
theorem wp_region_tail {id : Nat} {l : List Oper} {a0 : Act} {w0 : World} (W : World) (φ : Nat → Value → World → Prop) (n : Nat) (hlen : n < l.length)
    (hza : ((List.range' n (l.length - n)).all fun z => ((l[z]?.map fun o => o.after.any fun e => Region.binds .any e && decide (n ≤ e.on)).getD false) || (List.range n).all fun j => l.zipIdx.any fun x => decide (j < x.2) && (decide (x.2 < n) || x.2 == z) && x.1.after.any fun e => Region.binds .any e && e.on == j) = true)
    (hsq : Region.seqB .any l.toArray (l.length - n) n ((List.range l.length).map fun i => decide (i < n)).toArray = true)
    (hm : P.follows .mixedOrders = true) (hn : (dsts l).Nodup) (hz : ∀ d ∈ dsts l, d < a0.tmps.size)
    (hd : ∀ listed : Array Bool, listed.size = l.length → Region.ready .any l.toArray listed = [] → ∀ j, j < l.length → listed.getD j false = true)
    (gv : Nat → Bool) (hB : guardB l = true) (hP : ∀ x ∈ l.filterMap (·.guard), ∀ v w, φ x.1 v w → v = .bool (gv x.1))
    (stab : ∀ k v w w', Kept Nothing w w' → φ k v w → φ k v w')
    (start : Kept Nothing W w0.drew)
    (owes : OweTo P Q gv n l a0 W φ 0 l)
    (fin : ∀ (A : Act) u, Kept Nothing W u → A.tmps.size = a0.tmps.size → A.defers = a0.defers → (∀ t, t ∉ dsts l → A.tmps.getD t undef = a0.tmps.getD t undef) →
      (∀ (k : Nat) (o : Oper) (d : Nat), k < n → l[k]? = some o → o.dst = some d → φ k (A.tmps.getD d undef) u) → wpList P l.toArray Q (l.drop n) A u) :
    (Code.region id l.toArray true).wp P Q a0 w0 :=
  wp_region_tailA W φ n hlen hza hm hn hz hd gv hB hP stab start owes (fun A u h1 h2 h3 h4 h5 => by
    have := wpAny_of_seq (md := .any) (ops := l.toArray) (Q' := Q) (l.drop n) n ((List.range l.length).map fun i => decide (i < n)).toArray A u (fun j => by simp [List.getElem?_drop]) (by rw [List.length_drop]; exact hsq) (fin A u h1 h2 h3 h4 h5)
    rwa [List.length_drop] at this)

def seqI (md : Region.Mode) (ops : Array Oper) : List Nat → Array Bool → Bool
  | [], listed => (Region.ready md ops listed).isEmpty
  | k :: is, listed => decide (Region.ready md ops listed = [k]) && seqI md ops is (listed.setIfInBounds k true)
/-- What comes one by one, in the order of the indices given. -/
theorem wpAny_of_idx {md : Region.Mode} {ops : Array Oper} : ∀ (is : List Nat) (listed : Array Bool) (a : Act) (w : World), seqI md ops is listed = true → wpList P ops Q (is.filterMap fun i => ops[i]?) a w → wpAny P md ops Q is.length listed a w
  | [], _, _, _, hB, h => ⟨by simpa [seqI] using hB, h⟩
  | k :: is, listed, a, w, hB, h => by
    simp only [seqI, Bool.and_eq_true, decide_eq_true_eq] at hB
    refine ⟨fun h1 => (by rw [hB.1] at h1; cases h1), fun i hi => ?_⟩
    rw [hB.1] at hi
    obtain rfl : i = k := by simpa using hi
    have hm : i ∈ Region.ready md ops listed := by rw [hB.1]; exact List.mem_cons_self ..
    obtain ⟨_, o, ho, _⟩ := mem_ready.1 hm
    have h0 : wpList P ops Q (o :: is.filterMap fun i => ops[i]?) a w := by simpa [ho] using h
    have hw : wpOp P ops Q i (wpList P ops Q (is.filterMap fun i => ops[i]?)) a w := by unfold wpOp; simp only [ho]; exact h0
    exact wpOp_mono (fun a' w' h' => wpAny_of_idx is _ a' w' hB.2 h') hw
theorem wpAny_skip {md : Region.Mode} {l : List Oper} (n m : Nat) (is : List Nat) (listed : Array Bool) (a : Act) (w : World) (hr : (is.map fun i => l.toArray[i]?) = ((l.drop n).eraseIdx m).map some) (hB : seqI md l.toArray is listed = true) (h : wpList P l.toArray Q ((l.drop n).eraseIdx m) a w) : wpAny P md l.toArray Q is.length listed a w := by
  refine wpAny_of_idx is listed a w hB ?_
  have e : (is.filterMap fun i => l.toArray[i]?) = (l.drop n).eraseIdx m := by
    have h1 : (is.filterMap fun i => l.toArray[i]?) = (is.map fun i => l.toArray[i]?).filterMap id := by rw [List.filterMap_map]; rfl
    rw [h1, hr, List.filterMap_map]
    exact List.filterMap_some
  rw [e]
  exact h
/-- A struct loaded whole at a guarded operation. -/
theorem wpList_load_rowG {ops : Array Oper} {rest : List Oper} {o : Oper} {a : Act} {w : World} (hgw : Region.wanted o (yielded ops a.tmps) = true) (ty : TypeId) (x : Operand) (ho : o.op = .load ty x)
    (g : Nat) (hx : a.eval x = .pointer (some ⟨g, 0, none⟩)) (t : TypeId) (cs : Array Value) (fr : Nat × Nat) (d : TypeDesc) (hg : w.heap[g]? = some (.cells cs t fr))
    (hu : P.underlying ty = some d) (hd : (match d with | .struct _ | .array _ _ => true | _ => false) = true) (hi : (P.info? ty).map (·.size) = some cs.size)
    (h : wpList P ops Q rest (a.put o.dst (.agg cs)) w) : wpList P ops Q (o :: rest) a w :=
  wpList_step fun _ hK => by
    rw [if_pos hgw]
    exact wp_load_row ty x ho g hx t cs fr d hg hu hd hi (hK _ _ h)
end
end Go.Proofs.YtembdobkgpojfaaDoor
