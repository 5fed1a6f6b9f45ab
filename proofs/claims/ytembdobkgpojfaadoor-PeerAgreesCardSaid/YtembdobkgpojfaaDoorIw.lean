
/-
  A region that draws its order, its operations guarded, whose calls and operations make memory and change none: one fact an operation, shown once, whatever has come up ahead of it.
-/
import Derived.Test.YtembdobkgpojfaaDoorIv
namespace Go.Proofs.YtembdobkgpojfaaDoor
open Go.RowKit

section
variable {P : Program} {Q : Exit → Act → World → Prop}

/-- What an operation may use: the facts of those that it waits for. -/
def FedG (φ : Nat → Value → World → Prop) (l : List Oper) (o : Oper) (u : World) (a : Act) : Prop :=
  ∀ (k : Nat) (o' : Oper) (d : Nat), l[k]? = some o' → o'.dst = some d → (∃ e ∈ o.after, Region.binds .any e = true ∧ e.on = k) → φ k (a.tmps.getD d undef) u
/-- What each operation owes. -/
def Owe (P : Program) (Q : Exit → Act → World → Prop) (l : List Oper) (a0 : Act) (W : World) (φ : Nat → Value → World → Prop) (i : Nat) (o : Oper) : Prop :=
  ∀ (u : World) (a : Act), Kept Nothing W u → FedG φ l o u a → (∀ t, t ∉ dsts l → a.tmps.getD t undef = a0.tmps.getD t undef) →
    o.wp P a u (fun a' u' => ∃ v, a' = a.put o.dst v ∧ Kept Nothing u u' ∧ φ i v u') Q
def OweAll (P : Program) (Q : Exit → Act → World → Prop) (l : List Oper) (a0 : Act) (W : World) (φ : Nat → Value → World → Prop) (k : Nat) (r : List Oper) : Prop :=
  ∀ (i : Nat) (o : Oper), r[i]? = some o → Owe P Q l a0 W φ (k + i) o
theorem OweAll.nil {l : List Oper} {a0 : Act} {W : World} {φ : Nat → Value → World → Prop} {k : Nat} : OweAll P Q l a0 W φ k [] := fun i o h => by simp at h
theorem OweAll.cons {l : List Oper} {a0 : Act} {W : World} {φ : Nat → Value → World → Prop} {k : Nat} {x : Oper} {r : List Oper}
    (h : Owe P Q l a0 W φ k x) (t : OweAll P Q l a0 W φ (k + 1) r) : OweAll P Q l a0 W φ k (x :: r) := fun i o hi => by
  cases i with
  | zero => obtain rfl : x = o := by simpa using hi
            exact h
  | succ i => have := t i o (by simpa using hi); rwa [show k + 1 + i = k + (i + 1) by omega] at this

/-- Each guard is an operation's own, that is waited for. -/
def guardB (l : List Oper) : Bool :=
  l.all fun o => match o.guard with
    | none => true
    | some (g, _) => (match l[g]? with
      | some og => og.dst.isSome
      | none => false) && o.after.any (fun e => Region.binds .any e && e.on == g)
theorem wanted_here {φ : Nat → Value → World → Prop} {l : List Oper} (hB : guardB l = true) (hP : ∀ x ∈ l.filterMap (·.guard), ∀ v w, φ x.1 v w → v = .bool x.2)
    {i : Nat} {o : Oper} (ho : l[i]? = some o) {u : World} {a : Act} (hf : FedG φ l o u a) : Region.wanted o (yielded l.toArray a.tmps) = true := by
  unfold Region.wanted
  cases hg : o.guard with
  | none => rfl
  | some x =>
    obtain ⟨g, b⟩ := x
    have h1 := List.all_eq_true.1 hB o (List.mem_of_getElem? ho)
    rw [hg] at h1
    simp only [Bool.and_eq_true] at h1
    obtain ⟨h2, h3⟩ := h1
    cases hl : l[g]? with
    | none => rw [hl] at h2; cases h2
    | some og =>
      rw [hl] at h2
      obtain ⟨d, hd⟩ := Option.isSome_iff_exists.1 h2
      obtain ⟨e, he, hbe⟩ := Array.any_eq_true'.1 h3
      simp only [Bool.and_eq_true, beq_iff_eq] at hbe
      have hv := hP (g, b) (List.mem_filterMap.2 ⟨o, List.mem_of_getElem? ho, hg⟩) _ _ (hf g og d hl hd ⟨e, he, hbe.1, hbe.2⟩)
      simp only at hv
      have hy : yielded l.toArray a.tmps g = some b := by
        unfold yielded
        have e1 : ((l.toArray[g]?).bind (·.dst)) = some d := by simp [hl, hd]
        rw [e1]
        have e2 : a.tmps[d]? = some (.bool b) := by
          rw [Array.getD_eq_getD_getElem?] at hv
          cases hx : a.tmps[d]? with
          | none => rw [hx] at hv; simp [undef] at hv
          | some y => rw [hx] at hv; simp at hv; rw [hv]
        simp [e2]
      simp [hy]

theorem wp_region_grow {id : Nat} {l : List Oper} {a0 : Act} {w0 : World} (W : World) (φ : Nat → Value → World → Prop)
    (hm : P.follows .mixedOrders = true) (hn : (dsts l).Nodup) (hz : ∀ d ∈ dsts l, d < a0.tmps.size)
    (hd : ∀ listed : Array Bool, listed.size = l.length → Region.ready .any l.toArray listed = [] → ∀ j, j < l.length → listed.getD j false = true)
    (hB : guardB l = true) (hP : ∀ x ∈ l.filterMap (·.guard), ∀ v w, φ x.1 v w → v = .bool x.2)
    (stab : ∀ k v w w', Kept Nothing w w' → φ k v w → φ k v w')
    (start : Kept Nothing W w0.drew)
    (owes : OweAll P Q l a0 W φ 0 l)
    (fin : ∀ (vals : Nat → Value) u, Kept Nothing W u → (∀ (k : Nat) (o : Oper) (d : Nat), l[k]? = some o → o.dst = some d → φ k (vals k) u) → Q .normal (putAll l 0 vals a0) u) :
    (Code.region id l.toArray true).wp P Q a0 w0 := by
  refine wp_region_any hm ?_
  change wpAny P .any l.toArray Q _ _ a0 w0.drew
  let I : Array Bool → Act → World → Prop := fun listed a w => listed.size = l.length ∧ ∃ (vals : Nat → Value), a = putSome (fun j => listed.getD j false) l 0 vals a0 ∧ Kept Nothing W w ∧
    ∀ (k : Nat) (o : Oper) (d : Nat), l[k]? = some o → o.dst = some d → listed.getD k false = true → φ k (a.tmps.getD d undef) w
  have hdst : ∀ {k : Nat} {o : Oper} {d : Nat}, l[k]? = some o → o.dst = some d → d < a0.tmps.size := fun h1 h2 => hz _ (by unfold dsts; exact List.mem_filterMap.2 ⟨_, List.mem_of_getElem? h1, h2⟩)
  refine wpAny_inv I ?_ ?_ _ _ _ _ ?_ ?_
  · rintro listed a w ⟨hsz, vals, ha, hK, hA⟩ i hi
    obtain ⟨hun, o, ho, haf⟩ := mem_ready.1 hi
    have ho' : l[i]? = some o := by simpa using ho
    have hfed : FedG φ l o w a := fun k o' d h1 h2 ⟨e, he, hb, hk⟩ => hA k o' d h1 h2 (by rw [← hk]; exact haf e he hb)
    have hw := wanted_here hB hP ho' hfed
    unfold wpOp
    simp only [ho]
    rw [if_pos hw]
    left
    have hall := owes i o ho'
    rw [Nat.zero_add] at hall
    have hilt : i < listed.size := by rw [hsz]; exact (List.getElem?_eq_some_iff.1 ho').1
    have hunF : listed.getD i false = false := by
      rw [Array.getD_eq_getD_getElem?] at hun ⊢
      rw [Array.getElem?_eq_getElem hilt] at hun ⊢
      exact hun
    refine Oper.wp_mono ?_ (hall w a hK hfed (fun t ht => by rw [ha]; exact putSome_far l 0 a0 ht))
    rintro a' w' ⟨v, rfl, hk', hφ⟩
    have hst := putSome_step (listed := fun j => listed.getD j false) (vals := vals) (v := v) l 0 i o a0 ho' (by simpa using hunF) hn
    rw [Nat.zero_add] at hst
    have hfun : (fun j => (listed.setIfInBounds i true).getD j false) = (fun j => if j = i then true else listed.getD j false) := by
      funext j
      by_cases hj : j = i
      · subst hj
        simp [hilt]
      · rw [if_neg hj, getD_set_ne false (fun e => hj e.symm)]
    have hput : a.put o.dst v = putSome (fun j => (listed.setIfInBounds i true).getD j false) l 0 (fun j => if j = i then v else vals j) a0 := by
      rw [ha, hst, hfun]
    refine ⟨by simpa using hsz, _, hput, hK.trans hk', ?_⟩
    intro k o' d hk hd' hl
    rw [hput]
    have hat := putSome_at (listed := fun j => (listed.setIfInBounds i true).getD j false) (vals := fun j => if j = i then v else vals j) (t := d) l 0 k o' a0 hk hd' (by simpa using hl) hn (hdst hk hd')
    rw [hat, Nat.zero_add]
    by_cases hki : k = i
    · subst hki
      simpa using hφ
    · simp only [hki, if_false]
      have hlk : listed.getD k false = true := by rwa [getD_set_ne false (fun e => hki e.symm)] at hl
      have hold := hA k o' d hk hd' hlk
      rw [ha, putSome_at (listed := fun j => listed.getD j false) (vals := vals) (t := d) l 0 k o' a0 hk hd' (by simpa using hlk) hn (hdst hk hd'), Nat.zero_add] at hold
      exact stab _ _ _ _ hk' hold
  · rintro listed a w ⟨hsz, vals, ha, hK, hA⟩ hr
    have hall := hd listed hsz hr
    have hpa : a = putAll l 0 vals a0 := by rw [ha]; exact putSome_all l 0 vals a0 (fun j hj => by simpa using hall j hj)
    rw [hpa]
    refine fin vals w hK ?_
    intro k o' d hk hd'
    have hlk : listed.getD k false = true := hall k (List.getElem?_eq_some_iff.1 hk).1
    have hold := hA k o' d hk hd' hlk
    rw [ha, putSome_at (listed := fun j => listed.getD j false) (vals := vals) (t := d) l 0 k o' a0 hk hd' (by simpa using hlk) hn (hdst hk hd'), Nat.zero_add] at hold
    exact hold
  · unfold falses
    refine Nat.le_trans (List.length_filter_le _ _) ?_
    simp
  · refine ⟨by simp, fun _ => undef, ?_, start, ?_⟩
    · exact (putSome_none l 0 _ a0 (fun j hj => by simp [hj])).symm
    · intro k o d hk _ hl
      have : k < l.length := (List.getElem?_eq_some_iff.1 hk).1
      simp [this] at hl

/-- A slot of the frame behind the whole region. -/
theorem putAll_at {l : List Oper} {vals : Nat → Value} {a0 : Act} (hn : (dsts l).Nodup) (hz : ∀ d ∈ dsts l, d < a0.tmps.size) {k : Nat} {o : Oper} {d : Nat} (h1 : l[k]? = some o) (h2 : o.dst = some d) :
    (putAll l 0 vals a0).tmps.getD d undef = vals k ∧ (putAll l 0 vals a0).defers = a0.defers := by
  have e := putSome_all (listed := fun _ => true) l 0 vals a0 (fun _ _ => rfl)
  rw [← e]
  have := putSome_at (listed := fun _ => true) (vals := vals) (t := d) l 0 k o a0 h1 h2 rfl hn (hz d (by unfold dsts; exact List.mem_filterMap.2 ⟨o, List.mem_of_getElem? h1, h2⟩))
  rw [Nat.zero_add] at this
  exact ⟨this, (putSome_size l 0 a0).2⟩
/-- .. where one slot alone is asked for behind it. -/
theorem wp_region_grow1 {id : Nat} {l : List Oper} {a0 : Act} {w0 : World} (W : World) (φ : Nat → Value → World → Prop) (k d : Nat) (hk : (l[k]?).bind (·.dst) = some d)
    (hm : P.follows .mixedOrders = true) (hn : (dsts l).Nodup) (hz : ∀ d ∈ dsts l, d < a0.tmps.size)
    (hd : ∀ listed : Array Bool, listed.size = l.length → Region.ready .any l.toArray listed = [] → ∀ j, j < l.length → listed.getD j false = true)
    (hB : guardB l = true) (hP : ∀ x ∈ l.filterMap (·.guard), ∀ v w, φ x.1 v w → v = .bool x.2)
    (stab : ∀ k v w w', Kept Nothing w w' → φ k v w → φ k v w')
    (start : Kept Nothing W w0.drew)
    (owes : OweAll P Q l a0 W φ 0 l)
    (fin : ∀ (A : Act) u, Kept Nothing W u → φ k (A.tmps.getD d undef) u → A.defers = a0.defers → Q .normal A u) :
    (Code.region id l.toArray true).wp P Q a0 w0 :=
  wp_region_grow W φ hm hn hz hd hB hP stab start owes (fun vals u hku hall => by
    cases hl : l[k]? with
    | none => rw [hl] at hk; cases hk
    | some o =>
      rw [hl] at hk
      have h2 := putAll_at (vals := vals) hn hz hl hk
      exact fin _ u hku (by rw [h2.1]; exact hall k o d hl hk) h2.2)

/-- The facts as a row: most operations hand back a value that is known; the others have a fact of their own. -/
def Facts (L : List (Option Value)) (S : Nat → Value → World → Prop) (k : Nat) (v : Value) (w : World) : Prop :=
  match L[k]? with
  | some (some c) => v = c
  | _ => S k v w
theorem Facts.stab {L : List (Option Value)} {S : Nat → Value → World → Prop} (hS : ∀ k v w w', Kept Nothing w w' → S k v w → S k v w') (k : Nat) (v : Value) (w w' : World) (kk : Kept Nothing w w') (h : Facts L S k v w) : Facts L S k v w' := by
  unfold Facts at h ⊢
  split
  · next hl => rw [hl] at h; exact h
  · next hn =>
    split at h
    · next c hl => exact absurd hl (hn c)
    · exact hS k v w w' kk h
theorem Facts.guards {L : List (Option Value)} {S : Nat → Value → World → Prop} {gs E : List (Nat × Bool)} (h1 : (gs.all fun x => E.contains x) = true) (h2 : ∀ x ∈ E, L[x.1]? = some (some (.bool x.2))) : ∀ x ∈ gs, ∀ v w, Facts L S x.1 v w → v = .bool x.2 := by
  intro x hx v w h
  have h3 := List.all_eq_true.1 h1 x hx
  have h4 := h2 x (by simpa using h3)
  unfold Facts at h
  rw [h4] at h
  exact h
end
end Go.Proofs.YtembdobkgpojfaaDoor
