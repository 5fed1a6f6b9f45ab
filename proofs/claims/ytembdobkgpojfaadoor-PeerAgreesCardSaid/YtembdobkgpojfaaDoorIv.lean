
/-
  A region that draws its order, whatever its operations make of memory: one fact an operation, shown once, whatever has come up ahead of it.
-/
import Derived.Test.YtembdobkgpojfaaDoorMem
import Derived.RegionTactic
namespace Go.Proofs.YtembdobkgpojfaaDoor
open Go.RowKit

section
variable {P : Program} {Q : Exit → Act → World → Prop} {md : Region.Mode}

def falses (a : Array Bool) : Nat := (a.toList.filter (fun b => !b)).length
theorem falses_set {a : Array Bool} {i : Nat} (h : a.getD i true = false) : falses (a.setIfInBounds i true) + 1 = falses a := by
  obtain ⟨l⟩ := a
  unfold falses
  have h' : l[i]? = some false := by
    have : (l[i]?).getD true = false := by simpa [Array.getD_eq_getD_getElem?] using h
    cases hl : l[i]? with
    | none => rw [hl] at this; simp at this
    | some b => rw [hl] at this; simp at this; rw [this]
  clear h
  have e : ((⟨l⟩ : Array Bool).setIfInBounds i true).toList = l.set i true := by simp
  rw [e]
  show ((l.set i true).filter _).length + 1 = (l.filter _).length
  induction l generalizing i with
  | nil => simp at h'
  | cons b r ih =>
    cases i with
    | zero => simp at h'; subst h'; simp
    | succ i =>
      have := ih (i := i) (by simpa using h')
      cases b <;> simp_all

theorem wpAny_inv {ops : Array Oper} (I : Array Bool → Act → World → Prop)
    (step : ∀ listed a w, I listed a w → ∀ i ∈ Region.ready md ops listed, wpOp P ops Q i (I (listed.setIfInBounds i true)) a w)
    (fin : ∀ listed a w, I listed a w → Region.ready md ops listed = [] → Q .normal a w) :
    ∀ (fuel : Nat) (listed : Array Bool) (a : Act) (w : World), falses listed ≤ fuel → I listed a w → wpAny P md ops Q fuel listed a w
  | 0, listed, a, w, hf, hi => by
    have hr : Region.ready md ops listed = [] := by
      cases hc : Region.ready md ops listed with
      | nil => rfl
      | cons x xs =>
        have hx : x ∈ Region.ready md ops listed := by rw [hc]; exact List.mem_cons_self ..
        have := falses_set (mem_ready.1 hx).1
        omega
    exact ⟨hr, fin listed a w hi hr⟩
  | fuel + 1, listed, a, w, hf, hi =>
    ⟨fun hr => fin listed a w hi hr, fun i hx => wpOp_mono (fun a' w' h' => wpAny_inv I step fin fuel _ a' w' (by have := falses_set (mem_ready.1 hx).1; omega) h') (step listed a w hi i hx)⟩

/-- The frame behind those operations that are listed. -/
def putSome (listed : Nat → Bool) : List Oper → Nat → (Nat → Value) → Act → Act
  | [], _, _, a => a
  | o :: l, k, vals, a => putSome listed l (k + 1) vals (if listed k then a.put o.dst (vals k) else a)
/-- .. behind all. -/
def putAll : List Oper → Nat → (Nat → Value) → Act → Act
  | [], _, _, a => a
  | o :: l, k, vals, a => putAll l (k + 1) vals (a.put o.dst (vals k))

theorem putSome_all {listed : Nat → Bool} : ∀ (l : List Oper) (k : Nat) (vals : Nat → Value) (a : Act), (∀ j, j < l.length → listed (k + j) = true) → putSome listed l k vals a = putAll l k vals a
  | [], _, _, _, _ => rfl
  | o :: l, k, vals, a, h => by
    unfold putSome putAll
    rw [if_pos (by simpa using h 0 (by simp))]
    exact putSome_all l (k + 1) vals _ (fun j hj => by have := h (j + 1) (by simpa using hj); rwa [Nat.add_assoc, Nat.add_comm 1 j])
theorem putSome_none {listed : Nat → Bool} : ∀ (l : List Oper) (k : Nat) (vals : Nat → Value) (a : Act), (∀ j, j < l.length → listed (k + j) = false) → putSome listed l k vals a = a
  | [], _, _, _, _ => rfl
  | o :: l, k, vals, a, h => by
    unfold putSome
    rw [if_neg (by have := h 0 (by simp); simpa using this)]
    exact putSome_none l (k + 1) vals a (fun j hj => by have := h (j + 1) (by simpa using hj); rwa [Nat.add_assoc, Nat.add_comm 1 j])

def dsts (l : List Oper) : List Nat := l.filterMap (·.dst)

theorem putSome_put {listed : Nat → Bool} {vals : Nat → Value} {d : Nat} {v : Value} : ∀ (l : List Oper) (k : Nat) (a : Act), d ∉ dsts l → putSome listed l k vals (a.put (some d) v) = (putSome listed l k vals a).put (some d) v
  | [], _, _, _ => rfl
  | o :: l, k, a, h => by
    have h1 : o.dst ≠ some d := fun e => h (by unfold dsts; rw [List.filterMap_cons, e]; exact List.mem_cons_self ..)
    have h2 : d ∉ dsts l := fun e => h (by
      unfold dsts at e ⊢
      rw [List.filterMap_cons]
      split
      · exact e
      · exact List.mem_cons_of_mem _ e)
    unfold putSome
    split
    · rw [Act.put_comm a v (vals k) (fun d' hd' => by injection hd' with hd'; subst hd'; exact h1)]
      exact putSome_put l (k + 1) _ h2
    · exact putSome_put l (k + 1) _ h2

theorem putSome_congr {f g : Nat → Bool} {u v : Nat → Value} : ∀ (l : List Oper) (k : Nat) (a : Act), (∀ j, k ≤ j → f j = g j ∧ u j = v j) → putSome f l k u a = putSome g l k v a
  | [], _, _, _ => rfl
  | o :: l, k, a, h => by
    unfold putSome
    rw [(h k (Nat.le_refl _)).1, (h k (Nat.le_refl _)).2]
    exact putSome_congr l (k + 1) _ (fun j hj => h j (by omega))

/-- One more. -/
theorem putSome_step {listed : Nat → Bool} {vals : Nat → Value} {v : Value} : ∀ (l : List Oper) (k i : Nat) (o : Oper) (a : Act), l[i]? = some o → listed (k + i) = false → (dsts l).Nodup →
    (putSome listed l k vals a).put o.dst v = putSome (fun j => if j = k + i then true else listed j) l k (fun j => if j = k + i then v else vals j) a
  | [], _, _, _, _, h, _, _ => by simp at h
  | x :: l, k, 0, o, a, h, hf, hn => by
    obtain rfl : x = o := by simpa using h
    unfold putSome
    simp only [Nat.add_zero] at hf ⊢
    rw [hf]
    simp only [if_true, Bool.false_eq_true, if_false]
    rw [putSome_congr l (k + 1) (a.put x.dst v) (f := fun j => if j = k then true else listed j) (g := listed) (u := fun j => if j = k then v else vals j) (v := vals) (fun j hj => by
      have : j ≠ k := by omega
      simp [this])]
    cases hd : x.dst with
    | none => rfl
    | some d =>
      refine (putSome_put l (k + 1) a ?_).symm
      unfold dsts at hn
      rw [List.filterMap_cons, hd] at hn
      exact (List.nodup_cons.1 hn).1
  | x :: l, k, i + 1, o, a, h, hf, hn => by
    unfold putSome
    have hk : k ≠ k + (i + 1) := by omega
    simp only [hk, if_false]
    have hn' : (dsts l).Nodup := by
      unfold dsts at hn ⊢
      rw [List.filterMap_cons] at hn
      split at hn
      · exact hn
      · exact (List.nodup_cons.1 hn).2
    have := putSome_step (vals := vals) (v := v) l (k + 1) i o (if listed k then a.put x.dst (vals k) else a) (by simpa using h) (by rw [show k + 1 + i = k + (i + 1) by omega]; exact hf) hn'
    rw [this]
    rw [show k + 1 + i = k + (i + 1) by omega]

theorem put_getD (a : Act) (d t : Nat) (v : Value) (h : d ≠ t) : (a.put (some d) v).tmps.getD t undef = a.tmps.getD t undef := by
  simp [Act.put, Array.getElem?_setIfInBounds_ne h]
theorem put_getD_none (a : Act) (t : Nat) (v : Value) : (a.put none v).tmps.getD t undef = a.tmps.getD t undef := rfl
theorem put_size (a : Act) (d : Option Tmp) (v : Value) : (a.put d v).tmps.size = a.tmps.size := by
  cases d <;> simp [Act.put]
theorem put_defs (a : Act) (d : Option Tmp) (v : Value) : (a.put d v).defers = a.defers := by
  cases d <;> rfl

/-- A slot that the region does not write. -/
theorem putSome_far {listed : Nat → Bool} {vals : Nat → Value} {t : Nat} : ∀ (l : List Oper) (k : Nat) (a : Act), t ∉ dsts l → (putSome listed l k vals a).tmps.getD t undef = a.tmps.getD t undef
  | [], _, _, _ => rfl
  | o :: l, k, a, h => by
    have h1 : o.dst ≠ some t := fun e => h (by unfold dsts; rw [List.filterMap_cons, e]; exact List.mem_cons_self ..)
    have h2 : t ∉ dsts l := fun e => h (by
      unfold dsts at e ⊢
      rw [List.filterMap_cons]
      split
      · exact e
      · exact List.mem_cons_of_mem _ e)
    unfold putSome
    rw [putSome_far l (k + 1) _ h2]
    split
    · cases hd : o.dst with
      | none => rfl
      | some d => exact put_getD a d t _ (fun e => h1 (by rw [hd, e]))
    · rfl
theorem putSome_size {listed : Nat → Bool} {vals : Nat → Value} : ∀ (l : List Oper) (k : Nat) (a : Act), (putSome listed l k vals a).tmps.size = a.tmps.size ∧ (putSome listed l k vals a).defers = a.defers
  | [], _, _ => ⟨rfl, rfl⟩
  | o :: l, k, a => by
    unfold putSome
    rw [(putSome_size l (k + 1) _).1, (putSome_size l (k + 1) _).2]
    split
    · exact ⟨put_size .., put_defs ..⟩
    · exact ⟨rfl, rfl⟩
/-- A slot that it has written. -/
theorem putSome_at {listed : Nat → Bool} {vals : Nat → Value} {t : Nat} : ∀ (l : List Oper) (k i : Nat) (o : Oper) (a : Act), l[i]? = some o → o.dst = some t → listed (k + i) = true → (dsts l).Nodup → t < a.tmps.size → (putSome listed l k vals a).tmps.getD t undef = vals (k + i)
  | [], _, _, _, _, h, _, _, _, _ => by simp at h
  | x :: l, k, 0, o, a, h, hd, hl, hn, hs => by
    obtain rfl : x = o := by simpa using h
    unfold putSome
    simp only [Nat.add_zero] at hl ⊢
    rw [hl, if_pos rfl, hd]
    have : t ∉ dsts l := by
      unfold dsts at hn
      rw [List.filterMap_cons, hd] at hn
      exact (List.nodup_cons.1 hn).1
    rw [putSome_far l (k + 1) _ this]
    simp [Act.put, hs]
  | x :: l, k, i + 1, o, a, h, hd, hl, hn, hs => by
    unfold putSome
    have hn' : (dsts l).Nodup := by
      unfold dsts at hn ⊢
      rw [List.filterMap_cons] at hn
      split at hn
      · exact hn
      · exact (List.nodup_cons.1 hn).2
    have := putSome_at (listed := listed) (vals := vals) l (k + 1) i o (if listed k then a.put x.dst (vals k) else a) (by simpa using h) hd (by rw [show k + 1 + i = k + (i + 1) by omega]; exact hl) hn' (by
      split
      · rw [put_size]; exact hs
      · exact hs)
    rw [this, show k + 1 + i = k + (i + 1) by omega]

/-- What a step may use of the operations that have come up: each one's fact on its own value. -/
def Known {Γ : Type} (φ : Nat → Γ → Value → World → Prop) (l : List Oper) (listed : Array Bool) (G : Γ) (w : World) (a : Act) : Prop :=
  ∀ (k : Nat) (o : Oper) (d : Nat), l[k]? = some o → o.dst = some d → listed.getD k false = true → φ k G (a.tmps.getD d undef) w

/-- What each operation owes. -/
def Owes {Γ : Type} (P : Program) (Q : Exit → Act → World → Prop) (l : List Oper) (a0 : Act) (B : Γ → World → Prop) (J : Array Bool → Γ → Prop) (φ : Nat → Γ → Value → World → Prop) (R : Γ → World → Γ → World → Prop) (i : Nat) (o : Oper) : Prop :=
  ∀ (listed : Array Bool) (G : Γ) (w : World) (a : Act), listed.size = l.length → listed.getD i true = false → (∀ e ∈ o.after, Region.binds .any e = true → listed.getD e.on false = true) → J listed G → B G w → Known φ l listed G w a →
    (∀ t, t ∉ dsts l → a.tmps.getD t undef = a0.tmps.getD t undef) →
    o.wp P a w (fun a' w' => ∃ v G', a' = a.put o.dst v ∧ R G w G' w' ∧ B G' w' ∧ J (listed.setIfInBounds i true) G' ∧ φ i G' v w') Q

def OwesAll {Γ : Type} (P : Program) (Q : Exit → Act → World → Prop) (l : List Oper) (a0 : Act) (B : Γ → World → Prop) (J : Array Bool → Γ → Prop) (φ : Nat → Γ → Value → World → Prop) (R : Γ → World → Γ → World → Prop) (k : Nat) (r : List Oper) : Prop :=
  ∀ (i : Nat) (o : Oper), r[i]? = some o → Owes P Q l a0 B J φ R (k + i) o
theorem OwesAll.nil {Γ : Type} {l : List Oper} {a0 : Act} {B : Γ → World → Prop} {J : Array Bool → Γ → Prop} {φ : Nat → Γ → Value → World → Prop} {R : Γ → World → Γ → World → Prop} {k : Nat} : OwesAll P Q l a0 B J φ R k [] := fun i o h => by simp at h
theorem OwesAll.cons {Γ : Type} {l : List Oper} {a0 : Act} {B : Γ → World → Prop} {J : Array Bool → Γ → Prop} {φ : Nat → Γ → Value → World → Prop} {R : Γ → World → Γ → World → Prop} {k : Nat} {x : Oper} {r : List Oper}
    (h : Owes P Q l a0 B J φ R k x) (t : OwesAll P Q l a0 B J φ R (k + 1) r) : OwesAll P Q l a0 B J φ R k (x :: r) := fun i o hi => by
  cases i with
  | zero => obtain rfl : x = o := by simpa using hi
            exact h
  | succ i => have := t i o (by simpa using hi); rwa [show k + 1 + i = k + (i + 1) by omega] at this

theorem wp_region_facts {Γ : Type} {id : Nat} {l : List Oper} {a0 : Act} {w0 : World} (B : Γ → World → Prop) (J : Array Bool → Γ → Prop) (φ : Nat → Γ → Value → World → Prop) (R : Γ → World → Γ → World → Prop)
    (hm : P.follows .mixedOrders = true) (hn : (dsts l).Nodup) (hz : ∀ d ∈ dsts l, d < a0.tmps.size) (hg : (l.all fun o => o.guard.isNone) = true)
    (hd : ∀ listed : Array Bool, listed.size = l.length → Region.ready .any l.toArray listed = [] → ∀ j, j < l.length → listed.getD j false = true)
    (stab : ∀ k G w G' w' v, R G w G' w' → φ k G v w → φ k G' v w')
    (start : ∃ G, J (Array.replicate l.length false) G ∧ B G w0.drew)
    (owes : OwesAll P Q l a0 B J φ R 0 l)
    (fin : ∀ (vals : Nat → Value) G w, B G w → J (Array.replicate l.length true) G → (∀ (k : Nat) (o : Oper) (d : Nat), l[k]? = some o → o.dst = some d → φ k G (vals k) w) → Q .normal (putAll l 0 vals a0) w) :
    (Code.region id l.toArray true).wp P Q a0 w0 := by
  refine wp_region_any hm ?_
  change wpAny P .any l.toArray Q _ _ a0 w0.drew
  let I : Array Bool → Act → World → Prop := fun listed a w => listed.size = l.length ∧ ∃ (vals : Nat → Value) (G : Γ), a = putSome (fun j => listed.getD j false) l 0 vals a0 ∧ J listed G ∧ B G w ∧ Known φ l listed G w a
  refine wpAny_inv I ?_ ?_ _ _ _ _ ?_ ?_
  · rintro listed a w ⟨hsz, vals, G, ha, hJ, hB, hK⟩ i hi
    obtain ⟨hun, o, ho, haf⟩ := mem_ready.1 hi
    have ho' : l[i]? = some o := by simpa using ho
    have hgo : o.guard = none := by
      have := List.all_eq_true.1 hg o (List.mem_of_getElem? ho')
      simpa using this
    unfold wpOp
    simp only [ho]
    rw [if_pos (by simp [Region.wanted, hgo])]
    left
    have hall := owes i o ho'
    rw [Nat.zero_add] at hall
    have hilt : i < listed.size := by rw [hsz]; exact (List.getElem?_eq_some_iff.1 ho').1
    have hunF : listed.getD i false = false := by
      rw [Array.getD_eq_getD_getElem?] at hun ⊢
      rw [Array.getElem?_eq_getElem hilt] at hun ⊢
      exact hun
    refine Oper.wp_mono ?_ (hall listed G w a hsz hun haf hJ hB hK (fun t ht => by rw [ha]; exact putSome_far l 0 a0 ht))
    rintro a' w' ⟨v, G', rfl, hR, hB', hJ', hφ⟩
    have hst := putSome_step (listed := fun j => listed.getD j false) (vals := vals) (v := v) l 0 i o a0 ho' (by simpa using hunF) hn
    rw [Nat.zero_add] at hst
    have hfun : (fun j => (listed.setIfInBounds i true).getD j false) = (fun j => if j = i then true else listed.getD j false) := by
      funext j
      by_cases hj : j = i
      · subst hj
        simp [hilt]
      · rw [if_neg hj, getD_set_ne false (fun e => hj e.symm)]
    have hput : a.put o.dst v = putSome (fun j => (listed.setIfInBounds i true).getD j false) l 0 (fun j => if j = i then v else vals j) a0 := by
      rw [ha, hst, hfun]
    refine ⟨by simpa using hsz, _, G', hput, hJ', hB', ?_⟩
    intro k o' d hk hd' hl
    rw [hput]
    have hat := putSome_at (listed := fun j => (listed.setIfInBounds i true).getD j false) (vals := fun j => if j = i then v else vals j) (t := d) l 0 k o' a0 hk hd' (by simpa using hl) hn (hz d (by unfold dsts; exact List.mem_filterMap.2 ⟨o', List.mem_of_getElem? hk, hd'⟩))
    rw [hat, Nat.zero_add]
    by_cases hki : k = i
    · subst hki
      simpa using hφ
    · simp only [hki, if_false]
      have hlk : listed.getD k false = true := by rwa [getD_set_ne false (fun e => hki e.symm)] at hl
      have hold := hK k o' d hk hd' hlk
      rw [ha, putSome_at (listed := fun j => listed.getD j false) (vals := vals) (t := d) l 0 k o' a0 hk hd' (by simpa using hlk) hn (hz d (by unfold dsts; exact List.mem_filterMap.2 ⟨o', List.mem_of_getElem? hk, hd'⟩)), Nat.zero_add] at hold
      exact stab _ _ _ _ _ _ hR hold
  · rintro listed a w ⟨hsz, vals, G, ha, hJ, hB, hK⟩ hr
    have hall := hd listed hsz hr
    have hlist : listed = Array.replicate l.length true := by
      apply Array.ext
      · simpa using hsz
      · intro j h1 h2
        have := hall j (by omega)
        rw [Array.getD_eq_getD_getElem?, Array.getElem?_eq_getElem h1] at this
        simpa using this
    have hpa : a = putAll l 0 vals a0 := by rw [ha]; exact putSome_all l 0 vals a0 (fun j hj => by simpa using hall j hj)
    rw [hpa]
    refine fin vals G w hB (by rw [← hlist]; exact hJ) ?_
    intro k o' d hk hd'
    have hlk : listed.getD k false = true := hall k (List.getElem?_eq_some_iff.1 hk).1
    have hold := hK k o' d hk hd' hlk
    rw [ha, putSome_at (listed := fun j => listed.getD j false) (vals := vals) (t := d) l 0 k o' a0 hk hd' (by simpa using hlk) hn (hz d (by unfold dsts; exact List.mem_filterMap.2 ⟨o', List.mem_of_getElem? hk, hd'⟩)), Nat.zero_add] at hold
    exact hold
  · unfold falses
    refine Nat.le_trans (List.length_filter_le _ _) ?_
    simp
  · obtain ⟨G, hJ, hB⟩ := start
    refine ⟨by simp, fun _ => undef, G, ?_, by simpa using hJ, hB, ?_⟩
    · exact (putSome_none l 0 _ a0 (fun j hj => by simp [hj])).symm
    · intro k o d hk _ hl
      have : k < l.length := (List.getElem?_eq_some_iff.1 hk).1
      simp [this] at hl

/-- Each operation comes up at last: where each waits for earlier ones alone. -/
theorem ready_nil {l : List Oper} (hB : (l.zipIdx.all fun x => x.1.after.all fun e => decide (e.on < x.2)) = true) : ∀ listed : Array Bool, listed.size = l.length → Region.ready .any l.toArray listed = [] → ∀ j, j < l.length → listed.getD j false = true := by
  intro listed hsz hr j
  induction j using Nat.strongRecOn with
  | _ j ih =>
    intro hj
    cases hc : listed.getD j false with
    | true => rfl
    | false =>
      exfalso
      have hjl : j < listed.size := by omega
      have : j ∈ Region.ready .any l.toArray listed := mem_ready.2 ⟨by
          rw [Array.getD_eq_getD_getElem?] at hc ⊢
          rw [Array.getElem?_eq_getElem hjl] at hc ⊢
          exact hc, l[j], by simp [hj], fun e he _ => by
            have h1 := List.all_eq_true.1 hB (l[j], j) (by rw [List.mem_zipIdx_iff_getElem?]; simp [hj])
            have h2 := (Array.all_eq_true_iff_forall_mem.1 h1) e he
            have h3 : e.on < j := by simpa using h2
            exact ih e.on h3 (by omega)⟩
      rw [hr] at this
      cases this
end
end Go.Proofs.YtembdobkgpojfaaDoor
