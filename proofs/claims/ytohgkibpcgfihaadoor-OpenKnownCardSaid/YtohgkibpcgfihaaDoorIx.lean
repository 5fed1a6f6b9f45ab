
/-
  A region in the text's order, its operations guarded, whose calls and operations make memory and change none: one fact an operation (the twin of Iw's law).
-/
import Derived.Test.YtohgkibpcgfihaaDoorIw
namespace Go.Proofs.YtohgkibpcgfihaaDoor
open Go.RowKit

section
variable {P : Program} {Q : Exit → Act → World → Prop}

/-- Each operation waits for earlier ones alone. -/
def ordB (l : List Oper) : Bool := (List.range l.length).all fun i => match l[i]? with
  | some o => o.after.toList.all fun e => !(Region.binds .any e) || decide (e.on < i)
  | none => true
theorem ord_of {l : List Oper} (h : ordB l = true) {i : Nat} {o : Oper} (ho : l[i]? = some o) : ∀ e ∈ o.after, Region.binds .any e = true → e.on < i := by
  intro e he hb
  unfold ordB at h
  have hi : i < l.length := (List.getElem?_eq_some_iff.1 ho).1
  have h1 := List.all_eq_true.1 h i (List.mem_range.2 hi)
  rw [ho] at h1
  have h2 := List.all_eq_true.1 h1 e (Array.mem_toList_iff.2 he)
  rw [hb] at h2
  simpa using h2

theorem wp_list_seq {l : List Oper} {a0 : Act} (W : World) (φ : Nat → Value → World → Prop)
    (hn : (dsts l).Nodup) (hz : ∀ d ∈ dsts l, d < a0.tmps.size) (hO : ordB l = true)
    (hB : guardB l = true) (hP : ∀ x ∈ l.filterMap (·.guard), ∀ v w, φ x.1 v w → v = .bool x.2)
    (stab : ∀ k v w w', Kept Nothing w w' → φ k v w → φ k v w')
    (owes : OweAll P Q l a0 W φ 0 l)
    (fin : ∀ (vals : Nat → Value) u, Kept Nothing W u → (∀ (k : Nat) (o : Oper) (d : Nat), l[k]? = some o → o.dst = some d → φ k (vals k) u) → Q .normal (putAll l 0 vals a0) u) :
    ∀ (r : List Oper) (k : Nat) (w : World) (vals : Nat → Value), l.drop k = r → k ≤ l.length → Kept Nothing W w →
      (∀ (j : Nat) (o : Oper) (d : Nat), j < k → l[j]? = some o → o.dst = some d → φ j (vals j) w) →
      wpList P l.toArray Q r (putSome (fun j => decide (j < k)) l 0 vals a0) w := by
  have hdst : ∀ {k : Nat} {o : Oper} {d : Nat}, l[k]? = some o → o.dst = some d → d < a0.tmps.size := fun h1 h2 => hz _ (by unfold dsts; exact List.mem_filterMap.2 ⟨_, List.mem_of_getElem? h1, h2⟩)
  intro r
  induction r with
  | nil =>
    intro k w vals hr hkl hK hF
    have hlen : l.length ≤ k := List.drop_eq_nil_iff.1 hr
    rw [putSome_all l 0 vals a0 (fun j hj => by simp; omega)]
    exact fin vals w hK (fun j o d h1 h2 => hF j o d (by have := (List.getElem?_eq_some_iff.1 h1).1; omega) h1 h2)
  | cons o r ih =>
    intro k w vals hr hkl hK hF
    have hk : k < l.length := by
      by_cases h : k < l.length
      · exact h
      · rw [List.drop_eq_nil_of_le (by omega)] at hr; cases hr
    have ho : l[k]? = some o := by
      rw [List.drop_eq_getElem_cons hk] at hr
      injection hr with h1 h2
      rw [List.getElem?_eq_getElem hk, h1]
    have hr2 : l.drop (k + 1) = r := by
      rw [List.drop_eq_getElem_cons hk] at hr
      injection hr
    have hval : ∀ (j : Nat) (o' : Oper) (d : Nat), j < k → l[j]? = some o' → o'.dst = some d → (putSome (fun j => decide (j < k)) l 0 vals a0).tmps.getD d undef = vals j := fun j o' d hj h1 h2 => by
      rw [putSome_at (listed := fun j => decide (j < k)) (vals := vals) (t := d) l 0 j o' a0 h1 h2 (by simp; omega) hn (hdst h1 h2), Nat.zero_add]
    have hfed : FedG φ l o w (putSome (fun j => decide (j < k)) l 0 vals a0) := fun j o' d h1 h2 ⟨e, he, hb, hj⟩ => by
      have hlt : j < k := by rw [← hj]; exact ord_of hO ho e he hb
      rw [hval j o' d hlt h1 h2]
      exact hF j o' d hlt h1 h2
    have hw := wanted_here hB hP ho hfed
    unfold wpList
    rw [if_pos hw]
    left
    have hall := owes k o ho
    rw [Nat.zero_add] at hall
    refine Oper.wp_mono ?_ (hall w _ hK hfed (fun t ht => putSome_far l 0 a0 ht))
    rintro a' w' ⟨v, rfl, hk', hφ⟩
    have hst := putSome_step (listed := fun j => decide (j < k)) (vals := vals) (v := v) l 0 k o a0 ho (by simp) hn
    rw [Nat.zero_add] at hst
    rw [hst]
    have hfun : (fun j => if j = k then true else decide (j < k)) = (fun j => decide (j < k + 1)) := by
      funext j
      by_cases hj : j = k
      · simp [hj]
      · rw [if_neg hj]; simp only [decide_eq_decide]; omega
    rw [hfun]
    refine ih (k + 1) w' _ hr2 (by omega) (hK.trans hk') ?_
    intro j o' d hj h1 h2
    by_cases hjk : j = k
    · subst hjk
      simpa using hφ
    · simp only [hjk, if_false]
      exact stab _ _ _ _ hk' (hF j o' d (by omega) h1 h2)

theorem wp_region_seq1 {id : Nat} {l : List Oper} {a0 : Act} {w0 : World} (W : World) (φ : Nat → Value → World → Prop) (k d : Nat) (hk : (l[k]?).bind (·.dst) = some d)
    (hn : (dsts l).Nodup) (hz : ∀ d ∈ dsts l, d < a0.tmps.size) (hO : ordB l = true)
    (hB : guardB l = true) (hP : ∀ x ∈ l.filterMap (·.guard), ∀ v w, φ x.1 v w → v = .bool x.2)
    (stab : ∀ k v w w', Kept Nothing w w' → φ k v w → φ k v w')
    (start : Kept Nothing W w0)
    (owes : OweAll P Q l a0 W φ 0 l)
    (fin : ∀ (A : Act) u, Kept Nothing W u → φ k (A.tmps.getD d undef) u → A.defers = a0.defers → Q .normal A u) :
    (Code.region id l.toArray false).wp P Q a0 w0 := by
  refine wp_region_lit ?_
  have h := wp_list_seq (P := P) (Q := Q) (l := l) (a0 := a0) W φ hn hz hO hB hP stab owes (fun vals u hku hall => by
    cases hl : l[k]? with
    | none => rw [hl] at hk; cases hk
    | some o =>
      rw [hl] at hk
      have h2 := putAll_at (vals := vals) hn hz hl hk
      exact fin _ u hku (by rw [h2.1]; exact hall k o d hl hk) h2.2) l 0 w0 (fun _ => undef) rfl (Nat.zero_le _) start (fun j o d hj => absurd hj (Nat.not_lt_zero _))
  rwa [putSome_none l 0 _ a0 (fun j hj => by simp)] at h
end
end Go.Proofs.YtohgkibpcgfihaaDoor
