
/-
  An array changed at some places.
-/
import Derived.Test.YteofbpdogmajoaaGreatDoorZa
import Derived.RegionTactic
namespace Go.Proofs.YteofbpdogmajoaaGreatDoor
open Go.RowKit

section
variable {P : Program} {Q : Exit → Act → World → Prop} {md : Region.Mode}

def falses (a : Array Bool) : Nat := (a.toList.filter (fun b => !b)).length
theorem falses_set {a : Array Bool} {i : Nat} (h : a.getD i true = false) : falses (a.setIfInBounds i true) + 1 = falses a := by
  obtain ⟨l⟩ := a
  unfold falses
  have h' : l[i]? = some false := by
    have : (l[i]?).getD true = false := by simpa [Array.getD_eq_getD_getElem?] using h
    cases hl : l[i]? with
    | none => rw [hl] at this; simp at this
    | some b => rw [hl] at this; simp at this; rw [this]
  clear h
  have e : ((⟨l⟩ : Array Bool).setIfInBounds i true).toList = l.set i true := by simp
  rw [e]
  show ((l.set i true).filter _).length + 1 = (l.filter _).length
  induction l generalizing i with
  | nil => simp at h'
  | cons b r ih =>
    cases i with
    | zero => simp at h'; subst h'; simp
    | succ i =>
      have := ih (i := i) (by simpa using h')
      cases b <;> simp_all

theorem wpAny_inv {ops : Array Oper} (I : Array Bool → Act → World → Prop)
    (step : ∀ listed a w, I listed a w → ∀ i ∈ Region.ready md ops listed, wpOp P ops Q i (I (listed.setIfInBounds i true)) a w)
    (fin : ∀ listed a w, I listed a w → Region.ready md ops listed = [] → Q .normal a w) :
    ∀ (fuel : Nat) (listed : Array Bool) (a : Act) (w : World), falses listed ≤ fuel → I listed a w → wpAny P md ops Q fuel listed a w
  | 0, listed, a, w, hf, hi => by
    have hr : Region.ready md ops listed = [] := by
      cases hc : Region.ready md ops listed with
      | nil => rfl
      | cons x xs =>
        have hx : x ∈ Region.ready md ops listed := by rw [hc]; exact List.mem_cons_self ..
        have := falses_set (mem_ready.1 hx).1
        omega
    exact ⟨hr, fin listed a w hi hr⟩
  | fuel + 1, listed, a, w, hf, hi =>
    ⟨fun hr => fin listed a w hi hr, fun i hx => wpOp_mono (fun a' w' h' => wpAny_inv I step fin fuel _ a' w' (by have := falses_set (mem_ready.1 hx).1; omega) h') (step listed a w hi i hx)⟩

/-- The frame behind those operations that are listed. -/
def putSome (listed : Nat → Bool) : List Oper → Nat → (Nat → Value) → Act → Act
  | [], _, _, a => a
  | o :: l, k, vals, a => putSome listed l (k + 1) vals (if listed k then a.put o.dst (vals k) else a)
/-- .. behind all. -/
def putAll : List Oper → Nat → (Nat → Value) → Act → Act
  | [], _, _, a => a
  | o :: l, k, vals, a => putAll l (k + 1) vals (a.put o.dst (vals k))

theorem putSome_all {listed : Nat → Bool} : ∀ (l : List Oper) (k : Nat) (vals : Nat → Value) (a : Act), (∀ j, j < l.length → listed (k + j) = true) → putSome listed l k vals a = putAll l k vals a
  | [], _, _, _, _ => rfl
  | o :: l, k, vals, a, h => by
    unfold putSome putAll
    rw [if_pos (by simpa using h 0 (by simp))]
    exact putSome_all l (k + 1) vals _ (fun j hj => by have := h (j + 1) (by simpa using hj); rwa [Nat.add_assoc, Nat.add_comm 1 j])
theorem putSome_none {listed : Nat → Bool} : ∀ (l : List Oper) (k : Nat) (vals : Nat → Value) (a : Act), (∀ j, j < l.length → listed (k + j) = false) → putSome listed l k vals a = a
  | [], _, _, _, _ => rfl
  | o :: l, k, vals, a, h => by
    unfold putSome
    rw [if_neg (by have := h 0 (by simp); simpa using this)]
    exact putSome_none l (k + 1) vals a (fun j hj => by have := h (j + 1) (by simpa using hj); rwa [Nat.add_assoc, Nat.add_comm 1 j])

def dsts (l : List Oper) : List Nat := l.filterMap (·.dst)

theorem putSome_put {listed : Nat → Bool} {vals : Nat → Value} {d : Nat} {v : Value} : ∀ (l : List Oper) (k : Nat) (a : Act), d ∉ dsts l → putSome listed l k vals (a.put (some d) v) = (putSome listed l k vals a).put (some d) v
  | [], _, _, _ => rfl
  | o :: l, k, a, h => by
    have h1 : o.dst ≠ some d := fun e => h (by unfold dsts; rw [List.filterMap_cons, e]; exact List.mem_cons_self ..)
    have h2 : d ∉ dsts l := fun e => h (by
      unfold dsts at e ⊢
      rw [List.filterMap_cons]
      split
      · exact e
      · exact List.mem_cons_of_mem _ e)
    unfold putSome
    split
    · rw [Act.put_comm a v (vals k) (fun d' hd' => by injection hd' with hd'; subst hd'; exact h1)]
      exact putSome_put l (k + 1) _ h2
    · exact putSome_put l (k + 1) _ h2

theorem putSome_congr {f g : Nat → Bool} {u v : Nat → Value} : ∀ (l : List Oper) (k : Nat) (a : Act), (∀ j, k ≤ j → f j = g j ∧ u j = v j) → putSome f l k u a = putSome g l k v a
  | [], _, _, _ => rfl
  | o :: l, k, a, h => by
    unfold putSome
    rw [(h k (Nat.le_refl _)).1, (h k (Nat.le_refl _)).2]
    exact putSome_congr l (k + 1) _ (fun j hj => h j (by omega))

/-- One more. -/
theorem putSome_step {listed : Nat → Bool} {vals : Nat → Value} {v : Value} : ∀ (l : List Oper) (k i : Nat) (o : Oper) (a : Act), l[i]? = some o → listed (k + i) = false → (dsts l).Nodup →
    (putSome listed l k vals a).put o.dst v = putSome (fun j => if j = k + i then true else listed j) l k (fun j => if j = k + i then v else vals j) a
  | [], _, _, _, _, h, _, _ => by simp at h
  | x :: l, k, 0, o, a, h, hf, hn => by
    obtain rfl : x = o := by simpa using h
    unfold putSome
    simp only [Nat.add_zero] at hf ⊢
    rw [hf]
    simp only [if_true, Bool.false_eq_true, if_false]
    rw [putSome_congr l (k + 1) (a.put x.dst v) (f := fun j => if j = k then true else listed j) (g := listed) (u := fun j => if j = k then v else vals j) (v := vals) (fun j hj => by
      have : j ≠ k := by omega
      simp [this])]
    cases hd : x.dst with
    | none => rfl
    | some d =>
      refine (putSome_put l (k + 1) a ?_).symm
      unfold dsts at hn
      rw [List.filterMap_cons, hd] at hn
      exact (List.nodup_cons.1 hn).1
  | x :: l, k, i + 1, o, a, h, hf, hn => by
    unfold putSome
    have hk : k ≠ k + (i + 1) := by omega
    simp only [hk, if_false]
    have hn' : (dsts l).Nodup := by
      unfold dsts at hn ⊢
      rw [List.filterMap_cons] at hn
      split at hn
      · exact hn
      · exact (List.nodup_cons.1 hn).2
    have := putSome_step (vals := vals) (v := v) l (k + 1) i o (if listed k then a.put x.dst (vals k) else a) (by simpa using h) (by rw [show k + 1 + i = k + (i + 1) by omega]; exact hf) hn'
    rw [this]
    rw [show k + 1 + i = k + (i + 1) by omega]

theorem put_getD (a : Act) (d t : Nat) (v : Value) (h : d ≠ t) : (a.put (some d) v).tmps.getD t undef = a.tmps.getD t undef := by
  simp [Act.put, Array.getElem?_setIfInBounds_ne h]
theorem put_getD_none (a : Act) (t : Nat) (v : Value) : (a.put none v).tmps.getD t undef = a.tmps.getD t undef := rfl
theorem put_size (a : Act) (d : Option Tmp) (v : Value) : (a.put d v).tmps.size = a.tmps.size := by
  cases d <;> simp [Act.put]
theorem put_defs (a : Act) (d : Option Tmp) (v : Value) : (a.put d v).defers = a.defers := by
  cases d <;> rfl

/-- A slot that the region does not write. -/
theorem putSome_far {listed : Nat → Bool} {vals : Nat → Value} {t : Nat} : ∀ (l : List Oper) (k : Nat) (a : Act), t ∉ dsts l → (putSome listed l k vals a).tmps.getD t undef = a.tmps.getD t undef
  | [], _, _, _ => rfl
  | o :: l, k, a, h => by
    have h1 : o.dst ≠ some t := fun e => h (by unfold dsts; rw [List.filterMap_cons, e]; exact List.mem_cons_self ..)
    have h2 : t ∉ dsts l := fun e => h (by
      unfold dsts at e ⊢
      rw [List.filterMap_cons]
      split
      · exact e
      · exact List.mem_cons_of_mem _ e)
    unfold putSome
    rw [putSome_far l (k + 1) _ h2]
    split
    · cases hd : o.dst with
      | none => rfl
      | some d => exact put_getD a d t _ (fun e => h1 (by rw [hd, e]))
    · rfl
theorem putSome_size {listed : Nat → Bool} {vals : Nat → Value} : ∀ (l : List Oper) (k : Nat) (a : Act), (putSome listed l k vals a).tmps.size = a.tmps.size ∧ (putSome listed l k vals a).defers = a.defers
  | [], _, _ => ⟨rfl, rfl⟩
  | o :: l, k, a => by
    unfold putSome
    rw [(putSome_size l (k + 1) _).1, (putSome_size l (k + 1) _).2]
    split
    · exact ⟨put_size .., put_defs ..⟩
    · exact ⟨rfl, rfl⟩
/-- A slot that it has written. -/
theorem putSome_at {listed : Nat → Bool} {vals : Nat → Value} {t : Nat} : ∀ (l : List Oper) (k i : Nat) (o : Oper) (a : Act), l[i]? = some o → o.dst = some t → listed (k + i) = true → (dsts l).Nodup → t < a.tmps.size → (putSome listed l k vals a).tmps.getD t undef = vals (k + i)
  | [], _, _, _, _, h, _, _, _, _ => by simp at h
  | x :: l, k, 0, o, a, h, hd, hl, hn, hs => by
    obtain rfl : x = o := by simpa using h
    unfold putSome
    simp only [Nat.add_zero] at hl ⊢
    rw [hl, if_pos rfl, hd]
    have : t ∉ dsts l := by
      unfold dsts at hn
      rw [List.filterMap_cons, hd] at hn
      exact (List.nodup_cons.1 hn).1
    rw [putSome_far l (k + 1) _ this]
    simp [Act.put, hs]
  | x :: l, k, i + 1, o, a, h, hd, hl, hn, hs => by
    unfold putSome
    have hn' : (dsts l).Nodup := by
      unfold dsts at hn ⊢
      rw [List.filterMap_cons] at hn
      split at hn
      · exact hn
      · exact (List.nodup_cons.1 hn).2
    have := putSome_at (listed := listed) (vals := vals) l (k + 1) i o (if listed k then a.put x.dst (vals k) else a) (by simpa using h) hd (by rw [show k + 1 + i = k + (i + 1) by omega]; exact hl) hn' (by
      split
      · rw [put_size]; exact hs
      · exact hs)
    rw [this, show k + 1 + i = k + (i + 1) by omega]

/-- What a step may use of the operations that have come up: each one's fact on its own value. -/
def Known {Γ : Type} (φ : Nat → Γ → Value → World → Prop) (l : List Oper) (listed : Array Bool) (G : Γ) (w : World) (a : Act) : Prop :=
  ∀ (k : Nat) (o : Oper) (d : Nat), l[k]? = some o → o.dst = some d → listed.getD k false = true → φ k G (a.tmps.getD d undef) w

/-- What each operation owes. -/
def Owes {Γ : Type} (P : Program) (Q : Exit → Act → World → Prop) (l : List Oper) (a0 : Act) (B : Γ → World → Prop) (J : Array Bool → Γ → Prop) (φ : Nat → Γ → Value → World → Prop) (R : Γ → World → Γ → World → Prop) (i : Nat) (o : Oper) : Prop :=
  ∀ (listed : Array Bool) (G : Γ) (w : World) (a : Act), listed.size = l.length → listed.getD i true = false → (∀ e ∈ o.after, Region.binds .any e = true → listed.getD e.on false = true) → J listed G → B G w → Known φ l listed G w a →
    (∀ t, t ∉ dsts l → a.tmps.getD t undef = a0.tmps.getD t undef) →
    o.wp P a w (fun a' w' => ∃ v G', a' = a.put o.dst v ∧ R G w G' w' ∧ B G' w' ∧ J (listed.setIfInBounds i true) G' ∧ φ i G' v w') Q

def OwesAll {Γ : Type} (P : Program) (Q : Exit → Act → World → Prop) (l : List Oper) (a0 : Act) (B : Γ → World → Prop) (J : Array Bool → Γ → Prop) (φ : Nat → Γ → Value → World → Prop) (R : Γ → World → Γ → World → Prop) (k : Nat) (r : List Oper) : Prop :=
  ∀ (i : Nat) (o : Oper), r[i]? = some o → Owes P Q l a0 B J φ R (k + i) o
theorem OwesAll.nil {Γ : Type} {l : List Oper} {a0 : Act} {B : Γ → World → Prop} {J : Array Bool → Γ → Prop} {φ : Nat → Γ → Value → World → Prop} {R : Γ → World → Γ → World → Prop} {k : Nat} : OwesAll P Q l a0 B J φ R k [] := fun i o h => by simp at h
theorem OwesAll.cons {Γ : Type} {l : List Oper} {a0 : Act} {B : Γ → World → Prop} {J : Array Bool → Γ → Prop} {φ : Nat → Γ → Value → World → Prop} {R : Γ → World → Γ → World → Prop} {k : Nat} {x : Oper} {r : List Oper}
    (h : Owes P Q l a0 B J φ R k x) (t : OwesAll P Q l a0 B J φ R (k + 1) r) : OwesAll P Q l a0 B J φ R k (x :: r) := fun i o hi => by
  cases i with
  | zero => obtain rfl : x = o := by simpa using hi
            exact h
  | succ i => have := t i o (by simpa using hi); rwa [show k + 1 + i = k + (i + 1) by omega] at this

theorem wp_region_facts {Γ : Type} {id : Nat} {l : List Oper} {a0 : Act} {w0 : World} (B : Γ → World → Prop) (J : Array Bool → Γ → Prop) (φ : Nat → Γ → Value → World → Prop) (R : Γ → World → Γ → World → Prop)
    (hm : P.follows .mixedOrders = true) (hn : (dsts l).Nodup) (hz : ∀ d ∈ dsts l, d < a0.tmps.size) (hg : (l.all fun o => o.guard.isNone) = true)
    (hd : ∀ listed : Array Bool, listed.size = l.length → Region.ready .any l.toArray listed = [] → ∀ j, j < l.length → listed.getD j false = true)
    (stab : ∀ k G w G' w' v, R G w G' w' → φ k G v w → φ k G' v w')
    (start : ∃ G, J (Array.replicate l.length false) G ∧ B G w0.drew)
    (owes : OwesAll P Q l a0 B J φ R 0 l)
    (fin : ∀ (vals : Nat → Value) G w, B G w → J (Array.replicate l.length true) G → (∀ (k : Nat) (o : Oper) (d : Nat), l[k]? = some o → o.dst = some d → φ k G (vals k) w) → Q .normal (putAll l 0 vals a0) w) :
    (Code.region id l.toArray true).wp P Q a0 w0 := by
  refine wp_region_any hm ?_
  change wpAny P .any l.toArray Q _ _ a0 w0.drew
  let I : Array Bool → Act → World → Prop := fun listed a w => listed.size = l.length ∧ ∃ (vals : Nat → Value) (G : Γ), a = putSome (fun j => listed.getD j false) l 0 vals a0 ∧ J listed G ∧ B G w ∧ Known φ l listed G w a
  refine wpAny_inv I ?_ ?_ _ _ _ _ ?_ ?_
  · rintro listed a w ⟨hsz, vals, G, ha, hJ, hB, hK⟩ i hi
    obtain ⟨hun, o, ho, haf⟩ := mem_ready.1 hi
    have ho' : l[i]? = some o := by simpa using ho
    have hgo : o.guard = none := by
      have := List.all_eq_true.1 hg o (List.mem_of_getElem? ho')
      simpa using this
    unfold wpOp
    simp only [ho]
    rw [if_pos (by simp [Region.wanted, hgo])]
    left
    have hall := owes i o ho'
    rw [Nat.zero_add] at hall
    have hilt : i < listed.size := by rw [hsz]; exact (List.getElem?_eq_some_iff.1 ho').1
    have hunF : listed.getD i false = false := by
      rw [Array.getD_eq_getD_getElem?] at hun ⊢
      rw [Array.getElem?_eq_getElem hilt] at hun ⊢
      exact hun
    refine Oper.wp_mono ?_ (hall listed G w a hsz hun haf hJ hB hK (fun t ht => by rw [ha]; exact putSome_far l 0 a0 ht))
    rintro a' w' ⟨v, G', rfl, hR, hB', hJ', hφ⟩
    have hst := putSome_step (listed := fun j => listed.getD j false) (vals := vals) (v := v) l 0 i o a0 ho' (by simpa using hunF) hn
    rw [Nat.zero_add] at hst
    have hfun : (fun j => (listed.setIfInBounds i true).getD j false) = (fun j => if j = i then true else listed.getD j false) := by
      funext j
      by_cases hj : j = i
      · subst hj
        simp [hilt]
      · rw [if_neg hj, getD_set_ne false (fun e => hj e.symm)]
    have hput : a.put o.dst v = putSome (fun j => (listed.setIfInBounds i true).getD j false) l 0 (fun j => if j = i then v else vals j) a0 := by
      rw [ha, hst, hfun]
    refine ⟨by simpa using hsz, _, G', hput, hJ', hB', ?_⟩
    intro k o' d hk hd' hl
    rw [hput]
    have hat := putSome_at (listed := fun j => (listed.setIfInBounds i true).getD j false) (vals := fun j => if j = i then v else vals j) (t := d) l 0 k o' a0 hk hd' (by simpa using hl) hn (hz d (by unfold dsts; exact List.mem_filterMap.2 ⟨o', List.mem_of_getElem? hk, hd'⟩))
    rw [hat, Nat.zero_add]
    by_cases hki : k = i
    · subst hki
      simpa using hφ
    · simp only [hki, if_false]
      have hlk : listed.getD k false = true := by rwa [getD_set_ne false (fun e => hki e.symm)] at hl
      have hold := hK k o' d hk hd' hlk
      rw [ha, putSome_at (listed := fun j => listed.getD j false) (vals := vals) (t := d) l 0 k o' a0 hk hd' (by simpa using hlk) hn (hz d (by unfold dsts; exact List.mem_filterMap.2 ⟨o', List.mem_of_getElem? hk, hd'⟩)), Nat.zero_add] at hold
      exact stab _ _ _ _ _ _ hR hold
  · rintro listed a w ⟨hsz, vals, G, ha, hJ, hB, hK⟩ hr
    have hall := hd listed hsz hr
    have hlist : listed = Array.replicate l.length true := by
      apply Array.ext
      · simpa using hsz
      · intro j h1 h2
        have := hall j (by omega)
        rw [Array.getD_eq_getD_getElem?, Array.getElem?_eq_getElem h1] at this
        simpa using this
    have hpa : a = putAll l 0 vals a0 := by rw [ha]; exact putSome_all l 0 vals a0 (fun j hj => by simpa using hall j hj)
    rw [hpa]
    refine fin vals G w hB (by rw [← hlist]; exact hJ) ?_
    intro k o' d hk hd'
    have hlk : listed.getD k false = true := hall k (List.getElem?_eq_some_iff.1 hk).1
    have hold := hK k o' d hk hd' hlk
    rw [ha, putSome_at (listed := fun j => listed.getD j false) (vals := vals) (t := d) l 0 k o' a0 hk hd' (by simpa using hlk) hn (hz d (by unfold dsts; exact List.mem_filterMap.2 ⟨o', List.mem_of_getElem? hk, hd'⟩)), Nat.zero_add] at hold
    exact hold
  · unfold falses
    refine Nat.le_trans (List.length_filter_le _ _) ?_
    simp
  · obtain ⟨G, hJ, hB⟩ := start
    refine ⟨by simp, fun _ => undef, G, ?_, by simpa using hJ, hB, ?_⟩
    · exact (putSome_none l 0 _ a0 (fun j hj => by simp [hj])).symm
    · intro k o d hk _ hl
      have : k < l.length := (List.getElem?_eq_some_iff.1 hk).1
      simp [this] at hl

/-- Each operation comes up at last: where each waits for earlier ones alone. -/
theorem ready_nil {l : List Oper} (hB : (l.zipIdx.all fun x => x.1.after.all fun e => decide (e.on < x.2)) = true) : ∀ listed : Array Bool, listed.size = l.length → Region.ready .any l.toArray listed = [] → ∀ j, j < l.length → listed.getD j false = true := by
  intro listed hsz hr j
  induction j using Nat.strongRecOn with
  | _ j ih =>
    intro hj
    cases hc : listed.getD j false with
    | true => rfl
    | false =>
      exfalso
      have hjl : j < listed.size := by omega
      have : j ∈ Region.ready .any l.toArray listed := mem_ready.2 ⟨by
          rw [Array.getD_eq_getD_getElem?] at hc ⊢
          rw [Array.getElem?_eq_getElem hjl] at hc ⊢
          exact hc, l[j], by simp [hj], fun e he _ => by
            have h1 := List.all_eq_true.1 hB (l[j], j) (by rw [List.mem_zipIdx_iff_getElem?]; simp [hj])
            have h2 := (Array.all_eq_true_iff_forall_mem.1 h1) e he
            have h3 : e.on < j := by simpa using h2
            exact ih e.on h3 (by omega)⟩
      rw [hr] at this
      cases this
end
end Go.Proofs.YteofbpdogmajoaaGreatDoor
namespace Go.Proofs.YteofbpdogmajoaaGreatDoor
open Go.RowKit

section
variable {P : Program} {Q : Exit → Act → World → Prop}

/-- What an operation may use: the facts of those that it waits for. -/
def FedG (φ : Nat → Value → World → Prop) (l : List Oper) (o : Oper) (u : World) (a : Act) : Prop :=
  ∀ (k : Nat) (o' : Oper) (d : Nat), l[k]? = some o' → o'.dst = some d → (∃ e ∈ o.after, Region.binds .any e = true ∧ e.on = k) → φ k (a.tmps.getD d undef) u
/-- What each operation owes. -/
def Owe (P : Program) (Q : Exit → Act → World → Prop) (l : List Oper) (a0 : Act) (W : World) (φ : Nat → Value → World → Prop) (i : Nat) (o : Oper) : Prop :=
  ∀ (u : World) (a : Act), Kept Nothing W u → FedG φ l o u a → (∀ t, t ∉ dsts l → a.tmps.getD t undef = a0.tmps.getD t undef) →
    o.wp P a u (fun a' u' => ∃ v, a' = a.put o.dst v ∧ Kept Nothing u u' ∧ φ i v u') Q
def OweAll (P : Program) (Q : Exit → Act → World → Prop) (l : List Oper) (a0 : Act) (W : World) (φ : Nat → Value → World → Prop) (k : Nat) (r : List Oper) : Prop :=
  ∀ (i : Nat) (o : Oper), r[i]? = some o → Owe P Q l a0 W φ (k + i) o
theorem OweAll.nil {l : List Oper} {a0 : Act} {W : World} {φ : Nat → Value → World → Prop} {k : Nat} : OweAll P Q l a0 W φ k [] := fun i o h => by simp at h
theorem OweAll.cons {l : List Oper} {a0 : Act} {W : World} {φ : Nat → Value → World → Prop} {k : Nat} {x : Oper} {r : List Oper}
    (h : Owe P Q l a0 W φ k x) (t : OweAll P Q l a0 W φ (k + 1) r) : OweAll P Q l a0 W φ k (x :: r) := fun i o hi => by
  cases i with
  | zero => obtain rfl : x = o := by simpa using hi
            exact h
  | succ i => have := t i o (by simpa using hi); rwa [show k + 1 + i = k + (i + 1) by omega] at this

/-- Each guard is an operation's own, that is waited for. -/
def guardB (l : List Oper) : Bool :=
  l.all fun o => match o.guard with
    | none => true
    | some (g, _) => (match l[g]? with
      | some og => og.dst.isSome
      | none => false) && o.after.any (fun e => Region.binds .any e && e.on == g)
theorem wanted_here {φ : Nat → Value → World → Prop} {l : List Oper} (hB : guardB l = true) (hP : ∀ x ∈ l.filterMap (·.guard), ∀ v w, φ x.1 v w → v = .bool x.2)
    {i : Nat} {o : Oper} (ho : l[i]? = some o) {u : World} {a : Act} (hf : FedG φ l o u a) : Region.wanted o (yielded l.toArray a.tmps) = true := by
  unfold Region.wanted
  cases hg : o.guard with
  | none => rfl
  | some x =>
    obtain ⟨g, b⟩ := x
    have h1 := List.all_eq_true.1 hB o (List.mem_of_getElem? ho)
    rw [hg] at h1
    simp only [Bool.and_eq_true] at h1
    obtain ⟨h2, h3⟩ := h1
    cases hl : l[g]? with
    | none => rw [hl] at h2; cases h2
    | some og =>
      rw [hl] at h2
      obtain ⟨d, hd⟩ := Option.isSome_iff_exists.1 h2
      obtain ⟨e, he, hbe⟩ := Array.any_eq_true'.1 h3
      simp only [Bool.and_eq_true, beq_iff_eq] at hbe
      have hv := hP (g, b) (List.mem_filterMap.2 ⟨o, List.mem_of_getElem? ho, hg⟩) _ _ (hf g og d hl hd ⟨e, he, hbe.1, hbe.2⟩)
      simp only at hv
      have hy : yielded l.toArray a.tmps g = some b := by
        unfold yielded
        have e1 : ((l.toArray[g]?).bind (·.dst)) = some d := by simp [hl, hd]
        rw [e1]
        have e2 : a.tmps[d]? = some (.bool b) := by
          rw [Array.getD_eq_getD_getElem?] at hv
          cases hx : a.tmps[d]? with
          | none => rw [hx] at hv; simp [undef] at hv
          | some y => rw [hx] at hv; simp at hv; rw [hv]
        simp [e2]
      simp [hy]

theorem wp_region_grow {id : Nat} {l : List Oper} {a0 : Act} {w0 : World} (W : World) (φ : Nat → Value → World → Prop)
    (hm : P.follows .mixedOrders = true) (hn : (dsts l).Nodup) (hz : ∀ d ∈ dsts l, d < a0.tmps.size)
    (hd : ∀ listed : Array Bool, listed.size = l.length → Region.ready .any l.toArray listed = [] → ∀ j, j < l.length → listed.getD j false = true)
    (hB : guardB l = true) (hP : ∀ x ∈ l.filterMap (·.guard), ∀ v w, φ x.1 v w → v = .bool x.2)
    (stab : ∀ k v w w', Kept Nothing w w' → φ k v w → φ k v w')
    (start : Kept Nothing W w0.drew)
    (owes : OweAll P Q l a0 W φ 0 l)
    (fin : ∀ (vals : Nat → Value) u, Kept Nothing W u → (∀ (k : Nat) (o : Oper) (d : Nat), l[k]? = some o → o.dst = some d → φ k (vals k) u) → Q .normal (putAll l 0 vals a0) u) :
    (Code.region id l.toArray true).wp P Q a0 w0 := by
  refine wp_region_any hm ?_
  change wpAny P .any l.toArray Q _ _ a0 w0.drew
  let I : Array Bool → Act → World → Prop := fun listed a w => listed.size = l.length ∧ ∃ (vals : Nat → Value), a = putSome (fun j => listed.getD j false) l 0 vals a0 ∧ Kept Nothing W w ∧
    ∀ (k : Nat) (o : Oper) (d : Nat), l[k]? = some o → o.dst = some d → listed.getD k false = true → φ k (a.tmps.getD d undef) w
  have hdst : ∀ {k : Nat} {o : Oper} {d : Nat}, l[k]? = some o → o.dst = some d → d < a0.tmps.size := fun h1 h2 => hz _ (by unfold dsts; exact List.mem_filterMap.2 ⟨_, List.mem_of_getElem? h1, h2⟩)
  refine wpAny_inv I ?_ ?_ _ _ _ _ ?_ ?_
  · rintro listed a w ⟨hsz, vals, ha, hK, hA⟩ i hi
    obtain ⟨hun, o, ho, haf⟩ := mem_ready.1 hi
    have ho' : l[i]? = some o := by simpa using ho
    have hfed : FedG φ l o w a := fun k o' d h1 h2 ⟨e, he, hb, hk⟩ => hA k o' d h1 h2 (by rw [← hk]; exact haf e he hb)
    have hw := wanted_here hB hP ho' hfed
    unfold wpOp
    simp only [ho]
    rw [if_pos hw]
    left
    have hall := owes i o ho'
    rw [Nat.zero_add] at hall
    have hilt : i < listed.size := by rw [hsz]; exact (List.getElem?_eq_some_iff.1 ho').1
    have hunF : listed.getD i false = false := by
      rw [Array.getD_eq_getD_getElem?] at hun ⊢
      rw [Array.getElem?_eq_getElem hilt] at hun ⊢
      exact hun
    refine Oper.wp_mono ?_ (hall w a hK hfed (fun t ht => by rw [ha]; exact putSome_far l 0 a0 ht))
    rintro a' w' ⟨v, rfl, hk', hφ⟩
    have hst := putSome_step (listed := fun j => listed.getD j false) (vals := vals) (v := v) l 0 i o a0 ho' (by simpa using hunF) hn
    rw [Nat.zero_add] at hst
    have hfun : (fun j => (listed.setIfInBounds i true).getD j false) = (fun j => if j = i then true else listed.getD j false) := by
      funext j
      by_cases hj : j = i
      · subst hj
        simp [hilt]
      · rw [if_neg hj, getD_set_ne false (fun e => hj e.symm)]
    have hput : a.put o.dst v = putSome (fun j => (listed.setIfInBounds i true).getD j false) l 0 (fun j => if j = i then v else vals j) a0 := by
      rw [ha, hst, hfun]
    refine ⟨by simpa using hsz, _, hput, hK.trans hk', ?_⟩
    intro k o' d hk hd' hl
    rw [hput]
    have hat := putSome_at (listed := fun j => (listed.setIfInBounds i true).getD j false) (vals := fun j => if j = i then v else vals j) (t := d) l 0 k o' a0 hk hd' (by simpa using hl) hn (hdst hk hd')
    rw [hat, Nat.zero_add]
    by_cases hki : k = i
    · subst hki
      simpa using hφ
    · simp only [hki, if_false]
      have hlk : listed.getD k false = true := by rwa [getD_set_ne false (fun e => hki e.symm)] at hl
      have hold := hA k o' d hk hd' hlk
      rw [ha, putSome_at (listed := fun j => listed.getD j false) (vals := vals) (t := d) l 0 k o' a0 hk hd' (by simpa using hlk) hn (hdst hk hd'), Nat.zero_add] at hold
      exact stab _ _ _ _ hk' hold
  · rintro listed a w ⟨hsz, vals, ha, hK, hA⟩ hr
    have hall := hd listed hsz hr
    have hpa : a = putAll l 0 vals a0 := by rw [ha]; exact putSome_all l 0 vals a0 (fun j hj => by simpa using hall j hj)
    rw [hpa]
    refine fin vals w hK ?_
    intro k o' d hk hd'
    have hlk : listed.getD k false = true := hall k (List.getElem?_eq_some_iff.1 hk).1
    have hold := hA k o' d hk hd' hlk
    rw [ha, putSome_at (listed := fun j => listed.getD j false) (vals := vals) (t := d) l 0 k o' a0 hk hd' (by simpa using hlk) hn (hdst hk hd'), Nat.zero_add] at hold
    exact hold
  · unfold falses
    refine Nat.le_trans (List.length_filter_le _ _) ?_
    simp
  · refine ⟨by simp, fun _ => undef, ?_, start, ?_⟩
    · exact (putSome_none l 0 _ a0 (fun j hj => by simp [hj])).symm
    · intro k o d hk _ hl
      have : k < l.length := (List.getElem?_eq_some_iff.1 hk).1
      simp [this] at hl

/-- A slot of the frame behind the whole region. -/
theorem putAll_at {l : List Oper} {vals : Nat → Value} {a0 : Act} (hn : (dsts l).Nodup) (hz : ∀ d ∈ dsts l, d < a0.tmps.size) {k : Nat} {o : Oper} {d : Nat} (h1 : l[k]? = some o) (h2 : o.dst = some d) :
    (putAll l 0 vals a0).tmps.getD d undef = vals k ∧ (putAll l 0 vals a0).defers = a0.defers := by
  have e := putSome_all (listed := fun _ => true) l 0 vals a0 (fun _ _ => rfl)
  rw [← e]
  have := putSome_at (listed := fun _ => true) (vals := vals) (t := d) l 0 k o a0 h1 h2 rfl hn (hz d (by unfold dsts; exact List.mem_filterMap.2 ⟨o, List.mem_of_getElem? h1, h2⟩))
  rw [Nat.zero_add] at this
  exact ⟨this, (putSome_size l 0 a0).2⟩
/-- .. where one slot alone is asked for behind it. -/
theorem wp_region_grow1 {id : Nat} {l : List Oper} {a0 : Act} {w0 : World} (W : World) (φ : Nat → Value → World → Prop) (k d : Nat) (hk : (l[k]?).bind (·.dst) = some d)
    (hm : P.follows .mixedOrders = true) (hn : (dsts l).Nodup) (hz : ∀ d ∈ dsts l, d < a0.tmps.size)
    (hd : ∀ listed : Array Bool, listed.size = l.length → Region.ready .any l.toArray listed = [] → ∀ j, j < l.length → listed.getD j false = true)
    (hB : guardB l = true) (hP : ∀ x ∈ l.filterMap (·.guard), ∀ v w, φ x.1 v w → v = .bool x.2)
    (stab : ∀ k v w w', Kept Nothing w w' → φ k v w → φ k v w')
    (start : Kept Nothing W w0.drew)
    (owes : OweAll P Q l a0 W φ 0 l)
    (fin : ∀ (A : Act) u, Kept Nothing W u → φ k (A.tmps.getD d undef) u → A.defers = a0.defers → Q .normal A u) :
    (Code.region id l.toArray true).wp P Q a0 w0 :=
  wp_region_grow W φ hm hn hz hd hB hP stab start owes (fun vals u hku hall => by
    cases hl : l[k]? with
    | none => rw [hl] at hk; cases hk
    | some o =>
      rw [hl] at hk
      have h2 := putAll_at (vals := vals) hn hz hl hk
      exact fin _ u hku (by rw [h2.1]; exact hall k o d hl hk) h2.2)

/-- The facts as a row: most operations hand back a value that is known; the others have a fact of their own. -/
def Facts (L : List (Option Value)) (S : Nat → Value → World → Prop) (k : Nat) (v : Value) (w : World) : Prop :=
  match L[k]? with
  | some (some c) => v = c
  | _ => S k v w
theorem Facts.stab {L : List (Option Value)} {S : Nat → Value → World → Prop} (hS : ∀ k v w w', Kept Nothing w w' → S k v w → S k v w') (k : Nat) (v : Value) (w w' : World) (kk : Kept Nothing w w') (h : Facts L S k v w) : Facts L S k v w' := by
  unfold Facts at h ⊢
  split
  · next hl => rw [hl] at h; exact h
  · next hn =>
    split at h
    · next c hl => exact absurd hl (hn c)
    · exact hS k v w w' kk h
theorem Facts.guards {L : List (Option Value)} {S : Nat → Value → World → Prop} {gs E : List (Nat × Bool)} (h1 : (gs.all fun x => E.contains x) = true) (h2 : ∀ x ∈ E, L[x.1]? = some (some (.bool x.2))) : ∀ x ∈ gs, ∀ v w, Facts L S x.1 v w → v = .bool x.2 := by
  intro x hx v w h
  have h3 := List.all_eq_true.1 h1 x hx
  have h4 := h2 x (by simpa using h3)
  unfold Facts at h
  rw [h4] at h
  exact h
end
end Go.Proofs.YteofbpdogmajoaaGreatDoor
namespace Go.Proofs.YteofbpdogmajoaaGreatDoor
open Go.RowKit

section
variable {P : Program} {Q : Exit → Act → World → Prop}

/-- Is an operation wanted, where the guards have the values gv? -/
def wantedB (gv : Nat → Bool) (o : Oper) : Bool := match o.guard with
  | none => true
  | some (g, b) => gv g == b
def OweTo (P : Program) (Q : Exit → Act → World → Prop) (gv : Nat → Bool) (n : Nat) (l : List Oper) (a0 : Act) (W : World) (φ : Nat → Value → World → Prop) (k : Nat) (r : List Oper) : Prop :=
  ∀ (i : Nat) (o : Oper), r[i]? = some o → k + i < n → (wantedB gv o = true → Owe P Q l a0 W φ (k + i) o) ∧ (wantedB gv o = false → ∀ u, φ (k + i) undef u)
section
variable {gv : Nat → Bool} {n : Nat} {l r : List Oper} {a0 : Act} {W : World} {φ : Nat → Value → World → Prop} {k : Nat} {x : Oper}
theorem OweTo.last (h : n ≤ k) : OweTo P Q gv n l a0 W φ k r := fun i o _ hk => absurd hk (by omega)
theorem OweTo.both (h : (wantedB gv x = true → Owe P Q l a0 W φ k x) ∧ (wantedB gv x = false → ∀ u, φ k undef u)) (t : OweTo P Q gv n l a0 W φ (k + 1) r) : OweTo P Q gv n l a0 W φ k (x :: r) := fun i o hi hn => by
  cases i with
  | zero => obtain rfl : x = o := by simpa using hi
            exact h
  | succ i => have := t i o (by simpa using hi) (by omega); rwa [show k + 1 + i = k + (i + 1) by omega] at this
theorem OweTo.cons (h : Owe P Q l a0 W φ k x) (hw : wantedB gv x = true) (t : OweTo P Q gv n l a0 W φ (k + 1) r) : OweTo P Q gv n l a0 W φ k (x :: r) :=
  .both ⟨fun _ => h, (fun e => by rw [hw] at e; cases e)⟩ t
theorem OweTo.skip (h : ∀ u, φ k undef u) (hw : wantedB gv x = false) (t : OweTo P Q gv n l a0 W φ (k + 1) r) : OweTo P Q gv n l a0 W φ k (x :: r) :=
  .both ⟨(fun e => by rw [hw] at e; cases e), fun _ => h⟩ t
end
theorem wanted_eq {gv : Nat → Bool} {φ : Nat → Value → World → Prop} {l : List Oper} (hB : guardB l = true) (hP : ∀ x ∈ l.filterMap (·.guard), ∀ v w, φ x.1 v w → v = .bool (gv x.1))
    {i : Nat} {o : Oper} (ho : l[i]? = some o) {u : World} {a : Act} (hf : FedG φ l o u a) : Region.wanted o (yielded l.toArray a.tmps) = wantedB gv o := by
  unfold Region.wanted wantedB
  cases hg : o.guard with
  | none => rfl
  | some x =>
    obtain ⟨g, b⟩ := x
    have h1 := List.all_eq_true.1 hB o (List.mem_of_getElem? ho)
    rw [hg] at h1
    simp only [Bool.and_eq_true] at h1
    obtain ⟨h2, h3⟩ := h1
    cases hl : l[g]? with
    | none => rw [hl] at h2; cases h2
    | some og =>
      rw [hl] at h2
      obtain ⟨d, hd⟩ := Option.isSome_iff_exists.1 h2
      obtain ⟨e, he, hbe⟩ := Array.any_eq_true'.1 h3
      simp only [Bool.and_eq_true, beq_iff_eq] at hbe
      have hv := hP (g, b) (List.mem_filterMap.2 ⟨o, List.mem_of_getElem? ho, hg⟩) _ _ (hf g og d hl hd ⟨e, he, hbe.1, hbe.2⟩)
      simp only at hv
      have hy : yielded l.toArray a.tmps g = some (gv g) := by
        unfold yielded
        have e1 : ((l.toArray[g]?).bind (·.dst)) = some d := by simp [hl, hd]
        rw [e1]
        have e2 : a.tmps[d]? = some (.bool (gv g)) := by
          rw [Array.getD_eq_getD_getElem?] at hv
          cases hx : a.tmps[d]? with
          | none => rw [hx] at hv; simp [undef] at hv
          | some y => rw [hx] at hv; simp at hv; rw [hv]
        simp [e2]
      simp only [hy]
      cases gv g <;> cases b <;> rfl

theorem wp_region_last {id : Nat} {l : List Oper} {a0 : Act} {w0 : World} (W : World) (φ : Nat → Value → World → Prop) (n : Nat) (z : Oper) (hz0 : l[n]? = some z) (hlen : l.length = n + 1)
    (hza : ((List.range n).all fun j => z.after.any fun e => Region.binds .any e && e.on == j) = true) (hzg : z.guard = none) (hzd : z.dst = none)
    (hm : P.follows .mixedOrders = true) (hn : (dsts l).Nodup) (hz : ∀ d ∈ dsts l, d < a0.tmps.size)
    (hd : ∀ listed : Array Bool, listed.size = l.length → Region.ready .any l.toArray listed = [] → ∀ j, j < l.length → listed.getD j false = true)
    (gv : Nat → Bool) (hB : guardB l = true) (hP : ∀ x ∈ l.filterMap (·.guard), ∀ v w, φ x.1 v w → v = .bool (gv x.1))
    (stab : ∀ k v w w', Kept Nothing w w' → φ k v w → φ k v w')
    (start : Kept Nothing W w0.drew)
    (owes : OweTo P Q gv n l a0 W φ 0 l)
    (fin : ∀ (A : Act) u, Kept Nothing W u → A.tmps.size = a0.tmps.size → A.defers = a0.defers → (∀ t, t ∉ dsts l → A.tmps.getD t undef = a0.tmps.getD t undef) →
      (∀ (k : Nat) (o : Oper) (d : Nat), l[k]? = some o → o.dst = some d → φ k (A.tmps.getD d undef) u) → z.wp P A u (fun a' u' => Q .normal a' u') Q) :
    (Code.region id l.toArray true).wp P Q a0 w0 := by
  refine wp_region_any hm ?_
  change wpAny P .any l.toArray Q _ _ a0 w0.drew
  let I : Array Bool → Act → World → Prop := fun listed a w => (listed.getD n true = false ∧ listed.size = l.length ∧ ∃ (vals : Nat → Value), a = putSome (fun j => listed.getD j false) l 0 vals a0 ∧ Kept Nothing W w ∧
    ∀ (k : Nat) (o : Oper) (d : Nat), l[k]? = some o → o.dst = some d → listed.getD k false = true → φ k (a.tmps.getD d undef) w) ∨ ((∀ j, listed.getD j true = true) ∧ Q .normal a w)
  have hdst : ∀ {k : Nat} {o : Oper} {d : Nat}, l[k]? = some o → o.dst = some d → d < a0.tmps.size := fun h1 h2 => hz _ (by unfold dsts; exact List.mem_filterMap.2 ⟨_, List.mem_of_getElem? h1, h2⟩)
  refine wpAny_inv I ?_ ?_ _ _ _ _ ?_ ?_
  · rintro listed a w (⟨hnl, hsz, vals, ha, hK, hA⟩ | ⟨hall, hq⟩) i hi
    · obtain ⟨hun, o, ho, haf⟩ := mem_ready.1 hi
      have ho' : l[i]? = some o := by simpa using ho
      have hfed : FedG φ l o w a := fun k o' d h1 h2 ⟨e, he, hb, hk⟩ => hA k o' d h1 h2 (by rw [← hk]; exact haf e he hb)
      have hw := wanted_eq hB hP ho' hfed
      unfold wpOp
      simp only [ho]
      rw [hw]
      have hilt : i < listed.size := by rw [hsz]; exact (List.getElem?_eq_some_iff.1 ho').1
      have hunF : listed.getD i false = false := by
        rw [Array.getD_eq_getD_getElem?] at hun ⊢
        rw [Array.getElem?_eq_getElem hilt] at hun ⊢
        exact hun
      have hfar : ∀ t, t ∉ dsts l → a.tmps.getD t undef = a0.tmps.getD t undef := fun t ht => by rw [ha]; exact putSome_far l 0 a0 ht
      by_cases hin : i = n
      · subst hin
        obtain rfl : z = o := by rw [hz0] at ho'; injection ho'
        rw [if_pos (by unfold wantedB; rw [hzg])]
        left
        have hprev : ∀ j, j < i → listed.getD j false = true := fun j hj => by
          have h1 := List.all_eq_true.1 hza j (List.mem_range.2 hj)
          obtain ⟨e, he, hbe⟩ := Array.any_eq_true'.1 h1
          simp only [Bool.and_eq_true, beq_iff_eq] at hbe
          rw [← hbe.2]
          exact haf e he hbe.1
        have hfacts : ∀ (k : Nat) (o : Oper) (d : Nat), l[k]? = some o → o.dst = some d → φ k (a.tmps.getD d undef) w := fun k o d h1 h2 => by
          refine hA k o d h1 h2 (hprev k ?_)
          have hk := (List.getElem?_eq_some_iff.1 h1).1
          rcases Nat.lt_or_ge k i with hlt | hge
          · exact hlt
          · obtain rfl : k = i := by omega
            rw [hz0] at h1
            injection h1 with h1
            subst h1
            rw [hzd] at h2
            cases h2
        refine Oper.wp_mono ?_ (fin a w hK (by rw [ha, (putSome_size l 0 a0).1]) (by rw [ha, (putSome_size l 0 a0).2]) hfar hfacts)
        intro a' w' hq
        refine .inr ⟨fun j => ?_, hq⟩
        by_cases hji : j = i
        · subst hji
          rw [Array.getD_eq_getD_getElem?, Array.getElem?_setIfInBounds_self_of_lt hilt]; rfl
        · rw [getD_set_ne true (fun e => hji e.symm)]
          rcases Nat.lt_or_ge j i with hlt | hge
          · have := hprev j hlt
            rw [Array.getD_eq_getD_getElem?] at this ⊢
            rw [Array.getElem?_eq_getElem (by omega)] at this ⊢
            exact this
          · rw [Array.getD_eq_getD_getElem?, Array.getElem?_eq_none (by omega)]; rfl
      · have hilt2 : i < n := by omega
        have hall := owes i o ho' (by omega)
        rw [Nat.zero_add] at hall
        suffices hgo : ∀ v w', Kept Nothing w w' → φ i v w' → I (listed.setIfInBounds i true) (a.put o.dst v) w' by
          cases hwb : wantedB gv o with
          | true =>
            rw [if_pos rfl]
            left
            refine Oper.wp_mono ?_ (hall.1 hwb w a hK hfed hfar)
            rintro a' w' ⟨v, rfl, hk', hφ⟩
            exact hgo v w' hk' hφ
          | false =>
            rw [if_neg (by decide)]
            exact hgo _ w (Kept.refl _ _) (hall.2 hwb w)
        intro v w' hk' hφ
        have hst := putSome_step (listed := fun j => listed.getD j false) (vals := vals) (v := v) l 0 i o a0 ho' (by simpa using hunF) hn
        rw [Nat.zero_add] at hst
        have hfun : (fun j => (listed.setIfInBounds i true).getD j false) = (fun j => if j = i then true else listed.getD j false) := by
          funext j
          by_cases hj : j = i
          · subst hj
            simp [hilt]
          · rw [if_neg hj, getD_set_ne false (fun e => hj e.symm)]
        have hput : a.put o.dst v = putSome (fun j => (listed.setIfInBounds i true).getD j false) l 0 (fun j => if j = i then v else vals j) a0 := by
          rw [ha, hst, hfun]
        refine .inl ⟨by rw [getD_set_ne true hin]; exact hnl, by simpa using hsz, _, hput, hK.trans hk', ?_⟩
        intro k o' d hk hd' hl
        rw [hput]
        have hat := putSome_at (listed := fun j => (listed.setIfInBounds i true).getD j false) (vals := fun j => if j = i then v else vals j) (t := d) l 0 k o' a0 hk hd' (by simpa using hl) hn (hdst hk hd')
        rw [hat, Nat.zero_add]
        by_cases hki : k = i
        · subst hki
          simpa using hφ
        · simp only [hki, if_false]
          have hlk : listed.getD k false = true := by rwa [getD_set_ne false (fun e => hki e.symm)] at hl
          have hold := hA k o' d hk hd' hlk
          rw [ha, putSome_at (listed := fun j => listed.getD j false) (vals := vals) (t := d) l 0 k o' a0 hk hd' (by simpa using hlk) hn (hdst hk hd'), Nat.zero_add] at hold
          exact stab _ _ _ _ hk' hold
    · obtain ⟨hun, _⟩ := mem_ready.1 hi
      rw [hall i] at hun
      cases hun
  · rintro listed a w (⟨hnl, hsz, vals, ha, hK, hA⟩ | ⟨hall, hq⟩) hr
    · have := hd listed hsz hr n (by omega)
      rw [Array.getD_eq_getD_getElem?] at this hnl
      rw [Array.getElem?_eq_getElem (by omega)] at this hnl
      simp only [Option.getD_some] at this hnl
      rw [this] at hnl
      cases hnl
    · exact hq
  · unfold falses
    refine Nat.le_trans (List.length_filter_le _ _) ?_
    simp
  · refine .inl ⟨by simp [hlen], by simp, fun _ => undef, ?_, start, ?_⟩
    · exact (putSome_none l 0 _ a0 (fun j hj => by simp [hj])).symm
    · intro k o d hk _ hl
      have : k < l.length := (List.getElem?_eq_some_iff.1 hk).1
      simp [this] at hl

/-- The guards' values out of a row of facts. -/
theorem Facts.guards2 {L : List (Option Value)} {S : Nat → Value → World → Prop} {gv : Nat → Bool} {gs : List (Nat × Bool)} {E : List Nat} (h1 : (gs.all fun x => E.contains x.1) = true) (h2 : ∀ x ∈ E, L[x]? = some (some (.bool (gv x)))) : ∀ x ∈ gs, ∀ v w, Facts L S x.1 v w → v = .bool (gv x.1) := by
  intro x hx v w h
  have h3 := List.all_eq_true.1 h1 x hx
  have h4 := h2 x.1 (by simpa using h3)
  unfold Facts at h
  rw [h4] at h
  exact h
end
end Go.Proofs.YteofbpdogmajoaaGreatDoor

namespace Go.Proofs.YteofbpdogmajoaaGreatDoor
open Go.RowKit

section
variable {P : Program} {Q : Exit → Act → World → Prop}
theorem wp_region_last2 {id : Nat} {l : List Oper} {a0 : Act} {w0 : World} (W : World) (φ : Nat → Value → World → Prop) (n : Nat) (z : Oper) (hz0 : l[n]? = some z) (hlen : l.length = n + 1)
    (hza : ((List.range n).all fun j => z.after.any fun e => Region.binds .any e && e.on == j) = true) (hzg : z.guard = none)
    (hm : P.follows .mixedOrders = true) (hn : (dsts l).Nodup) (hz : ∀ d ∈ dsts l, d < a0.tmps.size)
    (hd : ∀ listed : Array Bool, listed.size = l.length → Region.ready .any l.toArray listed = [] → ∀ j, j < l.length → listed.getD j false = true)
    (gv : Nat → Bool) (hB : guardB l = true) (hP : ∀ x ∈ l.filterMap (·.guard), ∀ v w, φ x.1 v w → v = .bool (gv x.1))
    (stab : ∀ k v w w', Kept Nothing w w' → φ k v w → φ k v w')
    (start : Kept Nothing W w0.drew)
    (owes : OweTo P Q gv n l a0 W φ 0 l)
    (fin : ∀ (A : Act) u, Kept Nothing W u → A.tmps.size = a0.tmps.size → A.defers = a0.defers → (∀ t, t ∉ dsts l → A.tmps.getD t undef = a0.tmps.getD t undef) →
      (∀ (k : Nat) (o : Oper) (d : Nat), k < n → l[k]? = some o → o.dst = some d → φ k (A.tmps.getD d undef) u) → z.wp P A u (fun a' u' => Q .normal a' u') Q) :
    (Code.region id l.toArray true).wp P Q a0 w0 := by
  refine wp_region_any hm ?_
  change wpAny P .any l.toArray Q _ _ a0 w0.drew
  let I : Array Bool → Act → World → Prop := fun listed a w => (listed.getD n true = false ∧ listed.size = l.length ∧ ∃ (vals : Nat → Value), a = putSome (fun j => listed.getD j false) l 0 vals a0 ∧ Kept Nothing W w ∧
    ∀ (k : Nat) (o : Oper) (d : Nat), l[k]? = some o → o.dst = some d → listed.getD k false = true → φ k (a.tmps.getD d undef) w) ∨ ((∀ j, listed.getD j true = true) ∧ Q .normal a w)
  have hdst : ∀ {k : Nat} {o : Oper} {d : Nat}, l[k]? = some o → o.dst = some d → d < a0.tmps.size := fun h1 h2 => hz _ (by unfold dsts; exact List.mem_filterMap.2 ⟨_, List.mem_of_getElem? h1, h2⟩)
  refine wpAny_inv I ?_ ?_ _ _ _ _ ?_ ?_
  · rintro listed a w (⟨hnl, hsz, vals, ha, hK, hA⟩ | ⟨hall, hq⟩) i hi
    · obtain ⟨hun, o, ho, haf⟩ := mem_ready.1 hi
      have ho' : l[i]? = some o := by simpa using ho
      have hfed : FedG φ l o w a := fun k o' d h1 h2 ⟨e, he, hb, hk⟩ => hA k o' d h1 h2 (by rw [← hk]; exact haf e he hb)
      have hw := wanted_eq hB hP ho' hfed
      unfold wpOp
      simp only [ho]
      rw [hw]
      have hilt : i < listed.size := by rw [hsz]; exact (List.getElem?_eq_some_iff.1 ho').1
      have hunF : listed.getD i false = false := by
        rw [Array.getD_eq_getD_getElem?] at hun ⊢
        rw [Array.getElem?_eq_getElem hilt] at hun ⊢
        exact hun
      have hfar : ∀ t, t ∉ dsts l → a.tmps.getD t undef = a0.tmps.getD t undef := fun t ht => by rw [ha]; exact putSome_far l 0 a0 ht
      by_cases hin : i = n
      · subst hin
        obtain rfl : z = o := by rw [hz0] at ho'; injection ho'
        rw [if_pos (by unfold wantedB; rw [hzg])]
        left
        have hprev : ∀ j, j < i → listed.getD j false = true := fun j hj => by
          have h1 := List.all_eq_true.1 hza j (List.mem_range.2 hj)
          obtain ⟨e, he, hbe⟩ := Array.any_eq_true'.1 h1
          simp only [Bool.and_eq_true, beq_iff_eq] at hbe
          rw [← hbe.2]
          exact haf e he hbe.1
        have hfacts : ∀ (k : Nat) (o : Oper) (d : Nat), k < i → l[k]? = some o → o.dst = some d → φ k (a.tmps.getD d undef) w := fun k o d h0 h1 h2 => hA k o d h1 h2 (hprev k h0)
        refine Oper.wp_mono ?_ (fin a w hK (by rw [ha, (putSome_size l 0 a0).1]) (by rw [ha, (putSome_size l 0 a0).2]) hfar hfacts)
        intro a' w' hq
        refine .inr ⟨fun j => ?_, hq⟩
        by_cases hji : j = i
        · subst hji
          rw [Array.getD_eq_getD_getElem?, Array.getElem?_setIfInBounds_self_of_lt hilt]; rfl
        · rw [getD_set_ne true (fun e => hji e.symm)]
          rcases Nat.lt_or_ge j i with hlt | hge
          · have := hprev j hlt
            rw [Array.getD_eq_getD_getElem?] at this ⊢
            rw [Array.getElem?_eq_getElem (by omega)] at this ⊢
            exact this
          · rw [Array.getD_eq_getD_getElem?, Array.getElem?_eq_none (by omega)]; rfl
      · have hilt2 : i < n := by omega
        have hall := owes i o ho' (by omega)
        rw [Nat.zero_add] at hall
        suffices hgo : ∀ v w', Kept Nothing w w' → φ i v w' → I (listed.setIfInBounds i true) (a.put o.dst v) w' by
          cases hwb : wantedB gv o with
          | true =>
            rw [if_pos rfl]
            left
            refine Oper.wp_mono ?_ (hall.1 hwb w a hK hfed hfar)
            rintro a' w' ⟨v, rfl, hk', hφ⟩
            exact hgo v w' hk' hφ
          | false =>
            rw [if_neg (by decide)]
            exact hgo _ w (Kept.refl _ _) (hall.2 hwb w)
        intro v w' hk' hφ
        have hst := putSome_step (listed := fun j => listed.getD j false) (vals := vals) (v := v) l 0 i o a0 ho' (by simpa using hunF) hn
        rw [Nat.zero_add] at hst
        have hfun : (fun j => (listed.setIfInBounds i true).getD j false) = (fun j => if j = i then true else listed.getD j false) := by
          funext j
          by_cases hj : j = i
          · subst hj
            simp [hilt]
          · rw [if_neg hj, getD_set_ne false (fun e => hj e.symm)]
        have hput : a.put o.dst v = putSome (fun j => (listed.setIfInBounds i true).getD j false) l 0 (fun j => if j = i then v else vals j) a0 := by
          rw [ha, hst, hfun]
        refine .inl ⟨by rw [getD_set_ne true hin]; exact hnl, by simpa using hsz, _, hput, hK.trans hk', ?_⟩
        intro k o' d hk hd' hl
        rw [hput]
        have hat := putSome_at (listed := fun j => (listed.setIfInBounds i true).getD j false) (vals := fun j => if j = i then v else vals j) (t := d) l 0 k o' a0 hk hd' (by simpa using hl) hn (hdst hk hd')
        rw [hat, Nat.zero_add]
        by_cases hki : k = i
        · subst hki
          simpa using hφ
        · simp only [hki, if_false]
          have hlk : listed.getD k false = true := by rwa [getD_set_ne false (fun e => hki e.symm)] at hl
          have hold := hA k o' d hk hd' hlk
          rw [ha, putSome_at (listed := fun j => listed.getD j false) (vals := vals) (t := d) l 0 k o' a0 hk hd' (by simpa using hlk) hn (hdst hk hd'), Nat.zero_add] at hold
          exact stab _ _ _ _ hk' hold
    · obtain ⟨hun, _⟩ := mem_ready.1 hi
      rw [hall i] at hun
      cases hun
  · rintro listed a w (⟨hnl, hsz, vals, ha, hK, hA⟩ | ⟨hall, hq⟩) hr
    · have := hd listed hsz hr n (by omega)
      rw [Array.getD_eq_getD_getElem?] at this hnl
      rw [Array.getElem?_eq_getElem (by omega)] at this hnl
      simp only [Option.getD_some] at this hnl
      rw [this] at hnl
      cases hnl
    · exact hq
  · unfold falses
    refine Nat.le_trans (List.length_filter_le _ _) ?_
    simp
  · refine .inl ⟨by simp [hlen], by simp, fun _ => undef, ?_, start, ?_⟩
    · exact (putSome_none l 0 _ a0 (fun j hj => by simp [hj])).symm
    · intro k o d hk _ hl
      have : k < l.length := (List.getElem?_eq_some_iff.1 hk).1
      simp [this] at hl
end
end Go.Proofs.YteofbpdogmajoaaGreatDoor
namespace Go.Proofs.YteofbpdogmajoaaGreatDoor
open Go.RowKit

section
variable {P : Program} {Q : Exit → Act → World → Prop}
theorem wp_region_last3 {id : Nat} {l : List Oper} {a0 : Act} {w0 : World} (W : World) (φ : Nat → Value → World → Prop) (n : Nat) (z : Oper) (hz0 : l[n]? = some z) (hlen : l.length = n + 1)
    (hza : ((List.range n).all fun j => l.zipIdx.any fun x => decide (j < x.2) && x.1.after.any fun e => Region.binds .any e && e.on == j) = true) (hzg : z.guard = none)
    (hm : P.follows .mixedOrders = true) (hn : (dsts l).Nodup) (hz : ∀ d ∈ dsts l, d < a0.tmps.size)
    (hd : ∀ listed : Array Bool, listed.size = l.length → Region.ready .any l.toArray listed = [] → ∀ j, j < l.length → listed.getD j false = true)
    (gv : Nat → Bool) (hB : guardB l = true) (hP : ∀ x ∈ l.filterMap (·.guard), ∀ v w, φ x.1 v w → v = .bool (gv x.1))
    (stab : ∀ k v w w', Kept Nothing w w' → φ k v w → φ k v w')
    (start : Kept Nothing W w0.drew)
    (owes : OweTo P Q gv n l a0 W φ 0 l)
    (fin : ∀ (A : Act) u, Kept Nothing W u → A.tmps.size = a0.tmps.size → A.defers = a0.defers → (∀ t, t ∉ dsts l → A.tmps.getD t undef = a0.tmps.getD t undef) →
      (∀ (k : Nat) (o : Oper) (d : Nat), k < n → l[k]? = some o → o.dst = some d → φ k (A.tmps.getD d undef) u) → z.wp P A u (fun a' u' => Q .normal a' u') Q) :
    (Code.region id l.toArray true).wp P Q a0 w0 := by
  refine wp_region_any hm ?_
  change wpAny P .any l.toArray Q _ _ a0 w0.drew
  let I : Array Bool → Act → World → Prop := fun listed a w => (listed.getD n true = false ∧ listed.size = l.length ∧ (∀ (k : Nat) (o : Oper), l[k]? = some o → listed.getD k false = true → ∀ e ∈ o.after, Region.binds .any e = true → listed.getD e.on false = true) ∧ ∃ (vals : Nat → Value), a = putSome (fun j => listed.getD j false) l 0 vals a0 ∧ Kept Nothing W w ∧
    ∀ (k : Nat) (o : Oper) (d : Nat), l[k]? = some o → o.dst = some d → listed.getD k false = true → φ k (a.tmps.getD d undef) w) ∨ ((∀ j, listed.getD j true = true) ∧ Q .normal a w)
  have hdst : ∀ {k : Nat} {o : Oper} {d : Nat}, l[k]? = some o → o.dst = some d → d < a0.tmps.size := fun h1 h2 => hz _ (by unfold dsts; exact List.mem_filterMap.2 ⟨_, List.mem_of_getElem? h1, h2⟩)
  refine wpAny_inv I ?_ ?_ _ _ _ _ ?_ ?_
  · rintro listed a w (⟨hnl, hsz, hcl, vals, ha, hK, hA⟩ | ⟨hall, hq⟩) i hi
    · obtain ⟨hun, o, ho, haf⟩ := mem_ready.1 hi
      have ho' : l[i]? = some o := by simpa using ho
      have hfed : FedG φ l o w a := fun k o' d h1 h2 ⟨e, he, hb, hk⟩ => hA k o' d h1 h2 (by rw [← hk]; exact haf e he hb)
      have hw := wanted_eq hB hP ho' hfed
      unfold wpOp
      simp only [ho]
      rw [hw]
      have hilt : i < listed.size := by rw [hsz]; exact (List.getElem?_eq_some_iff.1 ho').1
      have hunF : listed.getD i false = false := by
        rw [Array.getD_eq_getD_getElem?] at hun ⊢
        rw [Array.getElem?_eq_getElem hilt] at hun ⊢
        exact hun
      have hfar : ∀ t, t ∉ dsts l → a.tmps.getD t undef = a0.tmps.getD t undef := fun t ht => by rw [ha]; exact putSome_far l 0 a0 ht
      by_cases hin : i = n
      · subst hin
        obtain rfl : z = o := by rw [hz0] at ho'; injection ho'
        rw [if_pos (by unfold wantedB; rw [hzg])]
        left
        have hprev0 : ∀ m j, i - j = m → j < i → listed.getD j false = true := by
          intro m
          induction m using Nat.strongRecOn with
          | _ m ih =>
            intro j hm hj
            have h1 := List.all_eq_true.1 hza j (List.mem_range.2 hj)
            obtain ⟨⟨x1, x2⟩, hx, hbx⟩ := List.any_eq_true.1 h1
            simp only [Bool.and_eq_true, decide_eq_true_eq] at hbx
            obtain ⟨hlt, hbx⟩ := hbx
            obtain ⟨e, he, hbe⟩ := Array.any_eq_true'.1 hbx
            simp only [Bool.and_eq_true, beq_iff_eq] at hbe
            have hx2 : l[x2]? = some x1 := List.mem_zipIdx_iff_getElem?.1 hx
            have hx3 := (List.getElem?_eq_some_iff.1 hx2).1
            rw [← hbe.2]
            by_cases hxi : x2 = i
            · subst hxi
              obtain rfl : z = x1 := by rw [hz0] at hx2; injection hx2
              exact haf e he hbe.1
            · exact hcl x2 x1 hx2 (ih (i - x2) (by omega) x2 rfl (by omega)) e he hbe.1
        have hprev : ∀ j, j < i → listed.getD j false = true := fun j hj => hprev0 _ j rfl hj
        have hfacts : ∀ (k : Nat) (o : Oper) (d : Nat), k < i → l[k]? = some o → o.dst = some d → φ k (a.tmps.getD d undef) w := fun k o d h0 h1 h2 => hA k o d h1 h2 (hprev k h0)
        refine Oper.wp_mono ?_ (fin a w hK (by rw [ha, (putSome_size l 0 a0).1]) (by rw [ha, (putSome_size l 0 a0).2]) hfar hfacts)
        intro a' w' hq
        refine .inr ⟨fun j => ?_, hq⟩
        by_cases hji : j = i
        · subst hji
          rw [Array.getD_eq_getD_getElem?, Array.getElem?_setIfInBounds_self_of_lt hilt]; rfl
        · rw [getD_set_ne true (fun e => hji e.symm)]
          rcases Nat.lt_or_ge j i with hlt | hge
          · have := hprev j hlt
            rw [Array.getD_eq_getD_getElem?] at this ⊢
            rw [Array.getElem?_eq_getElem (by omega)] at this ⊢
            exact this
          · rw [Array.getD_eq_getD_getElem?, Array.getElem?_eq_none (by omega)]; rfl
      · have hilt2 : i < n := by omega
        have hall := owes i o ho' (by omega)
        rw [Nat.zero_add] at hall
        suffices hgo : ∀ v w', Kept Nothing w w' → φ i v w' → I (listed.setIfInBounds i true) (a.put o.dst v) w' by
          cases hwb : wantedB gv o with
          | true =>
            rw [if_pos rfl]
            left
            refine Oper.wp_mono ?_ (hall.1 hwb w a hK hfed hfar)
            rintro a' w' ⟨v, rfl, hk', hφ⟩
            exact hgo v w' hk' hφ
          | false =>
            rw [if_neg (by decide)]
            exact hgo _ w (Kept.refl _ _) (hall.2 hwb w)
        intro v w' hk' hφ
        have hst := putSome_step (listed := fun j => listed.getD j false) (vals := vals) (v := v) l 0 i o a0 ho' (by simpa using hunF) hn
        rw [Nat.zero_add] at hst
        have hfun : (fun j => (listed.setIfInBounds i true).getD j false) = (fun j => if j = i then true else listed.getD j false) := by
          funext j
          by_cases hj : j = i
          · subst hj
            simp [hilt]
          · rw [if_neg hj, getD_set_ne false (fun e => hj e.symm)]
        have hput : a.put o.dst v = putSome (fun j => (listed.setIfInBounds i true).getD j false) l 0 (fun j => if j = i then v else vals j) a0 := by
          rw [ha, hst, hfun]
        have hup : ∀ j, listed.getD j false = true → (listed.setIfInBounds i true).getD j false = true := fun j hj => by
          by_cases hji : j = i
          · subst hji; simp [hilt]
          · rw [getD_set_ne false (fun e => hji e.symm)]; exact hj
        have hcl2 : ∀ (k : Nat) (o : Oper), l[k]? = some o → (listed.setIfInBounds i true).getD k false = true → ∀ e ∈ o.after, Region.binds .any e = true → (listed.setIfInBounds i true).getD e.on false = true := fun k o2 hk hl e he hb => by
          by_cases hki : k = i
          · subst hki
            obtain rfl : o = o2 := by rw [ho'] at hk; injection hk
            exact hup _ (haf e he hb)
          · rw [getD_set_ne false (fun e => hki e.symm)] at hl
            exact hup _ (hcl k o2 hk hl e he hb)
        refine .inl ⟨by rw [getD_set_ne true hin]; exact hnl, by simpa using hsz, hcl2, _, hput, hK.trans hk', ?_⟩
        intro k o' d hk hd' hl
        rw [hput]
        have hat := putSome_at (listed := fun j => (listed.setIfInBounds i true).getD j false) (vals := fun j => if j = i then v else vals j) (t := d) l 0 k o' a0 hk hd' (by simpa using hl) hn (hdst hk hd')
        rw [hat, Nat.zero_add]
        by_cases hki : k = i
        · subst hki
          simpa using hφ
        · simp only [hki, if_false]
          have hlk : listed.getD k false = true := by rwa [getD_set_ne false (fun e => hki e.symm)] at hl
          have hold := hA k o' d hk hd' hlk
          rw [ha, putSome_at (listed := fun j => listed.getD j false) (vals := vals) (t := d) l 0 k o' a0 hk hd' (by simpa using hlk) hn (hdst hk hd'), Nat.zero_add] at hold
          exact stab _ _ _ _ hk' hold
    · obtain ⟨hun, _⟩ := mem_ready.1 hi
      rw [hall i] at hun
      cases hun
  · rintro listed a w (⟨hnl, hsz, hcl, vals, ha, hK, hA⟩ | ⟨hall, hq⟩) hr
    · have := hd listed hsz hr n (by omega)
      rw [Array.getD_eq_getD_getElem?] at this hnl
      rw [Array.getElem?_eq_getElem (by omega)] at this hnl
      simp only [Option.getD_some] at this hnl
      rw [this] at hnl
      cases hnl
    · exact hq
  · unfold falses
    refine Nat.le_trans (List.length_filter_le _ _) ?_
    simp
  · refine .inl ⟨by simp [hlen], by simp, fun k o hk hl => by
      have : k < l.length := (List.getElem?_eq_some_iff.1 hk).1
      simp [this] at hl, fun _ => undef, ?_, start, ?_⟩
    · exact (putSome_none l 0 _ a0 (fun j hj => by simp [hj])).symm
    · intro k o d hk _ hl
      have : k < l.length := (List.getElem?_eq_some_iff.1 hk).1
      simp [this] at hl
end
end Go.Proofs.YteofbpdogmajoaaGreatDoor
namespace Go.Proofs.YteofbpdogmajoaaGreatDoor
open Go.RowKit
theorem arr_put (b : Array Value) : ∀ (ds : List Nat) (a : Array Value), b.size = a.size → (∀ t, t ∉ ds → b.getD t undef = a.getD t undef) → b = ds.foldl (fun t d => t.setIfInBounds d (b.getD d undef)) a
  | [], a, hsz, hfar => by
    refine Array.ext hsz (fun i h1 (h2 : i < a.size) => ?_)
    have h := hfar i (by simp)
    rw [Array.getD_eq_getD_getElem?, Array.getD_eq_getD_getElem?, Array.getElem?_eq_getElem h1, Array.getElem?_eq_getElem h2] at h
    simpa using h
  | d :: ds, a, hsz, hfar => by
    refine arr_put b ds (a.setIfInBounds d (b.getD d undef)) (by simpa using hsz) (fun t ht => ?_)
    by_cases e : t = d
    · subst e
      by_cases hlt : t < a.size
      · rw [Array.getD_eq_getD_getElem? (xs := a.setIfInBounds t _), Array.getElem?_setIfInBounds_self_of_lt hlt]
        rfl
      · rw [Array.getD_eq_getD_getElem?, Array.getD_eq_getD_getElem?, Array.getElem?_eq_none (by omega), Array.getElem?_eq_none (by simp; omega)]
    · rw [hfar t (by simp [e, ht]), Array.getD_eq_getD_getElem?, Array.getD_eq_getD_getElem?, Array.getElem?_setIfInBounds_ne (by omega)]
end Go.Proofs.YteofbpdogmajoaaGreatDoor
