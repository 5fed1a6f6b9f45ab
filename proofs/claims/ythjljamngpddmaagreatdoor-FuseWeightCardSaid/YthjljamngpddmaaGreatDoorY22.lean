
/-
  The whole way, as plain data: what is fused is the path with the numbers put ahead.
-/
import Derived.Test.YthjljamngpddmaaGreatDoorY19
import Derived.Test.YthjljamngpddmaaGreatDoorY17
namespace Go.Proofs.YthjljamngpddmaaGreatDoor
open Go.RowKit

namespace Fz
/-- A number put ahead. -/
def ahd (l : List Seg) (n : Nat) : List Seg :=
  match l with
  | [] => [(2, [n])]
  | s :: r => if s.1.toNat = 2 ∧ s.2.length < 255 then (s.1, n :: s.2) :: r else (2, [n]) :: s :: r
/-- Numbers put ahead, the last one first. -/
def pre (l : List Seg) : List Nat → List Seg
  | [] => l
  | n :: t => ahd (pre l t) n
/-- The kind of the first segment, and how many numbers it has. -/
def hd (l : List Seg) : Option (UInt8 × Nat) := match l with | [] => none | s :: _ => some (s.1, s.2.length)

theorem ahd_yes {s : Seg} {r : List Seg} {n : Nat} (h : s.1.toNat = 2 ∧ s.2.length < 255) : ahd (s :: r) n = (s.1, n :: s.2) :: r := by
  show (if _ then _ else _) = _
  rw [if_pos h]
theorem ahd_no {s : Seg} {r : List Seg} {n : Nat} (h : ¬ (s.1.toNat = 2 ∧ s.2.length < 255)) : ahd (s :: r) n = (2, [n]) :: s :: r := by
  show (if _ then _ else _) = _
  rw [if_neg h]
theorem hd_ahd {a b : List Seg} (n : Nat) (h : hd a = hd b) : hd (ahd a n) = hd (ahd b n) := by
  cases a with
  | nil =>
    cases b with
    | nil => rfl
    | cons t r => cases h
  | cons s l =>
    cases b with
    | nil => cases h
    | cons t r =>
      have h1 : (s.1, s.2.length) = (t.1, t.2.length) := Option.some.inj h
      injection h1 with h1 h2
      by_cases hc : s.1.toNat = 2 ∧ s.2.length < 255
      · rw [ahd_yes hc, ahd_yes (by rw [← h1, ← h2]; exact hc)]
        show some (s.1, (n :: s.2).length) = some (t.1, (n :: t.2).length)
        rw [h1, List.length_cons, List.length_cons, h2]
      · rw [ahd_no hc, ahd_no (by rw [← h1, ← h2]; exact hc)]
        rfl
theorem hd_pre {a b : List Seg} (h : hd a = hd b) : ∀ t, hd (pre a t) = hd (pre b t)
  | [] => h
  | n :: t => hd_ahd n (hd_pre h t)
theorem hd_nar (l : List Seg) : hd (nar l) = hd l := by
  cases l with
  | nil => rfl
  | cons s l =>
    show some (s.1, (s.2.map short).length) = some (s.1, s.2.length)
    rw [List.length_map]
theorem wt_ahd (l : List Seg) (n : Nat) : wt (ahd l n) = wt l + 1 := by
  cases l with
  | nil => rfl
  | cons s l =>
    by_cases hc : s.1.toNat = 2 ∧ s.2.length < 255
    · rw [ahd_yes hc, wt_cons, wt_cons]
      unfold wt1
      simp only [hc.1, if_true, List.length_cons]
      omega
    · rw [ahd_no hc, wt_cons]
      show 1 + wt (s :: l) = _
      omega
theorem wt_pre (l : List Seg) : ∀ t, wt (pre l t) = wt l + t.length
  | [] => rfl
  | n :: t => by
    show wt (ahd (pre l t) n) = _
    rw [wt_ahd, wt_pre l t, List.length_cons]
    omega
theorem joined_cons (a b : Seg) (x m : List Seg) : joined (a :: b :: x) m = a :: joined (b :: x) m := by
  unfold joined
  cases m with
  | nil => simp
  | cons f r =>
    rw [List.getLast?_cons_cons]
    cases h : (b :: x).getLast? with
    | none => simp at h
    | some z =>
      simp only
      split
      · rw [List.dropLast_cons_cons]
        split <;> simp
      · simp
/-- One segment, joined. -/
theorem joined_one_seq {x f : Seg} {r : List Seg} (h : x.1.toNat = 2 ∧ f.1.toNat = 2) : joined [x] (f :: r) = (if left x f = 0 then [] else [(x.1, x.2.take (left x f))]) ++ (f.1, x.2.drop (left x f) ++ f.2) :: r := by
  by_cases h0 : left x f = 0
  · rw [if_pos h0]
    exact joined_0' h h0
  · rw [if_neg h0]
    exact joined_n' h h0
where
  joined_0' {x f : Seg} {r : List Seg} (h : x.1.toNat = 2 ∧ f.1.toNat = 2) (h0 : left x f = 0) : joined [x] (f :: r) = [] ++ (f.1, x.2.drop (left x f) ++ f.2) :: r := by
    unfold joined
    simp [h, h0]
  joined_n' {x f : Seg} {r : List Seg} (h : x.1.toNat = 2 ∧ f.1.toNat = 2) (h0 : ¬ left x f = 0) : joined [x] (f :: r) = [(x.1, x.2.take (left x f))] ++ (f.1, x.2.drop (left x f) ++ f.2) :: r := by
    unfold joined
    simp [h, h0]
theorem joined_one_no {x : Seg} {m : List Seg} (h : ∀ f r, m = f :: r → ¬ (x.1.toNat = 2 ∧ f.1.toNat = 2)) : joined [x] m = x :: m := by
  cases m with
  | nil => simp [joined]
  | cons f r =>
    have := h f r rfl
    unfold joined
    simp only [List.getLast?_singleton, if_neg this]
    rfl
theorem lead_zero {l : List Seg} (h : ∀ s ∈ l, Wk.confed s.1 = false) : lead l 0 = [] := by
  cases l with
  | nil => rfl
  | cons s l => rw [lead_cons, if_pos ⟨rfl, h s (List.mem_cons_self ..)⟩]
theorem seq_plain {k : UInt8} (h : k.toNat = 2) : Wk.confed k = false := by unfold Wk.confed; simp; omega
theorem ahd_plain {l : List Seg} (n : Nat) (h : ∀ s ∈ l, Wk.confed s.1 = false) : ∀ s ∈ ahd l n, Wk.confed s.1 = false := by
  cases l with
  | nil =>
    intro s hs
    obtain rfl := List.mem_singleton.1 hs
    rfl
  | cons t l =>
    by_cases hc : t.1.toNat = 2 ∧ t.2.length < 255
    · rw [ahd_yes hc]
      intro s hs
      rcases List.mem_cons.1 hs with rfl | hs
      · exact h t (List.mem_cons_self ..)
      · exact h s (List.mem_cons_of_mem _ hs)
    · rw [ahd_no hc]
      intro s hs
      rcases List.mem_cons.1 hs with rfl | hs
      · rfl
      · exact h s hs
theorem pre_plain {l : List Seg} (h : ∀ s ∈ l, Wk.confed s.1 = false) : ∀ t, ∀ s ∈ pre l t, Wk.confed s.1 = false
  | [] => h
  | n :: t => ahd_plain n (pre_plain h t)

/-- What goes ahead grows at its head, where there is room. -/
theorem lead_grow {s : Seg} {r : List Seg} {n m : Nat} (h : s.1.toNat = 2) (hm : m ≠ 0) : ∃ y X, lead (s :: r) m = (s.1, y) :: X ∧ lead ((s.1, n :: s.2) :: r) (m + 1) = (s.1, n :: y) :: X := by
  have hc := seq_plain h
  have e1 : takn s m = (s.1, s.2.take m) := if_pos h
  have e2 : takn (s.1, n :: s.2) (m + 1) = (s.1, n :: s.2.take m) := by
    unfold takn
    rw [if_pos h]
    rfl
  have c1 : ¬ (m = 0 ∧ Wk.confed s.1 = false) := fun h => hm h.1
  have c2 : ¬ (m + 1 = 0 ∧ Wk.confed ((s.1, n :: s.2) : Seg).1 = false) := fun h => by omega
  by_cases hl : (s.2.take m).length < s.2.length
  · rw [lead_cut c1 (by rw [e1]; exact hl), lead_cut c2 (by rw [e2]; simp only [List.length_cons]; omega), e1, e2]
    exact ⟨_, [], rfl, rfl⟩
  · rw [lead_on c1 (by rw [e1]; exact hl), lead_on c2 (by rw [e2]; simp only [List.length_cons]; omega), e1, e2]
    have e3 : m + 1 - wt1 (s.1, n :: s.2.take m) = m - wt1 (s.1, s.2.take m) := by
      unfold wt1
      simp only [h, if_true, List.length_cons]
      omega
    rw [e3]
    exact ⟨_, _, rfl, rfl⟩
/-- A new segment goes ahead of all. -/
theorem lead_new {l : List Seg} {n m : Nat} : lead ((2, [n]) :: l) (m + 1) = (2, [n]) :: lead l m := by
  have e : takn ((2 : UInt8), [n]) (m + 1) = (2, [n]) := by
    unfold takn
    rw [if_pos (by rfl)]
    simp
  rw [lead_cons, e, if_neg (by simp), if_neg (by simp)]
  rfl
/-- The whole way: what goes ahead of the narrow path, joined with the path. -/
theorem way {P : List Seg} (hp : ∀ s ∈ P, Wk.confed s.1 = false) : ∀ t, joined (lead (pre (nar P) t) t.length) P = pre P t
  | [] => by
    have h : ∀ s ∈ nar P, Wk.confed s.1 = false := fun s hs => by
      obtain ⟨u, hu, rfl⟩ := List.mem_map.1 hs
      exact hp u hu
    show joined (lead (nar P) 0) P = P
    rw [lead_zero h]
    rfl
  | n :: t => by
    have ih := way hp t
    have hh := hd_pre (hd_nar P) t
    have hnp : ∀ s ∈ nar P, Wk.confed s.1 = false := fun s hs => by
      obtain ⟨u, hu, rfl⟩ := List.mem_map.1 hs
      exact hp u hu
    have hq := pre_plain hnp t
    show joined (lead (ahd (pre (nar P) t) n) (t.length + 1)) P = ahd (pre P t) n
    generalize pre P t = W at *
    generalize pre (nar P) t = Q at *
    generalize t.length = m at *
    have caseB : (lead (ahd Q n) (m + 1) = (2, [n]) :: lead Q m) → (ahd W n = (2, [n]) :: W) → (∀ f r, W = f :: r → ¬ (f.1.toNat = 2 ∧ f.2.length < 255)) → joined (lead (ahd Q n) (m + 1)) P = ahd W n := fun h1 h2 h3 => by
      rw [h1, h2]
      cases hX : lead Q m with
      | cons b X => rw [joined_cons, ← hX, ih]
      | nil =>
        rw [hX] at ih
        have ih' : P = W := ih
        subst ih'
        cases P with
        | nil => rfl
        | cons f r =>
          have h4 := h3 f r rfl
          by_cases h5 : f.1.toNat = 2
          · have h6 : ¬ f.2.length < 255 := fun h => h4 ⟨h5, h⟩
            rw [joined_one_seq ⟨rfl, h5⟩]
            have h7 : left ((2 : UInt8), [n]) f = 1 := by unfold left; simp; omega
            rw [h7]
            simp
          · exact joined_one_no (fun f' r' e => by injection e with e1 _; subst e1; exact fun h => h5 h.2)
    cases hQ : Q with
    | nil =>
      subst hQ
      have hW : W = [] := by
        cases W with
        | nil => rfl
        | cons s l => cases hh
      exact caseB lead_new (by rw [hW]; rfl) (fun f r e => by rw [hW] at e; cases e)
    | cons s r =>
      subst hQ
      cases hW : W with
      | nil => rw [hW] at hh; cases hh
      | cons w1 wr =>
        subst hW
        have h1 : (s.1, s.2.length) = (w1.1, w1.2.length) := Option.some.inj hh
        injection h1 with h1 h2
        by_cases hc : s.1.toNat = 2 ∧ s.2.length < 255
        · have hcw : w1.1.toNat = 2 ∧ w1.2.length < 255 := by rw [← h1, ← h2]; exact hc
          rw [ahd_yes hc, ahd_yes hcw]
          by_cases hm : m = 0
          · subst hm
            rw [lead_zero hq] at ih
            have ih' : P = w1 :: wr := ih
            have e : lead ((s.1, n :: s.2) :: r) (0 + 1) = [(s.1, [n])] ∨ (s.2 = [] ∧ lead ((s.1, n :: s.2) :: r) (0 + 1) = (s.1, [n]) :: lead r 0) := by
              have e2 : takn (s.1, n :: s.2) (0 + 1) = (s.1, [n]) := by
                unfold takn
                rw [if_pos hc.1]
                rfl
              rw [lead_cons, e2, if_neg (by simp)]
              cases hs : s.2 with
              | nil =>
                rw [if_neg (by simp)]
                refine .inr ⟨rfl, ?_⟩
                have : 0 + 1 - wt1 (s.1, [n]) = 0 := by unfold wt1; simp [hc.1]
                rw [this]
              | cons a b => rw [if_pos (by simp)]; exact .inl rfl
            have hr0 : lead r 0 = [] := lead_zero (fun x hx => hq x (List.mem_cons_of_mem _ hx))
            have e' : lead ((s.1, n :: s.2) :: r) (0 + 1) = [(s.1, [n])] := by
              rcases e with e | ⟨_, e⟩
              · exact e
              · rw [e, hr0]
            rw [e', ih', joined_one_seq (x := (s.1, [n])) ⟨hc.1, hcw.1⟩]
            have h7 : left (s.1, [n]) w1 = 0 := by unfold left; simp; omega
            rw [h7]
            simp
          · obtain ⟨y, X, e1, e2⟩ := lead_grow (n := n) (r := r) hc.1 hm
            rw [e1] at ih
            rw [e2]
            cases X with
            | cons b X =>
              rw [joined_cons] at ih ⊢
              injection ih with i1 i2
              rw [i2, ← i1]
            | nil =>
              cases P with
              | nil =>
                have i : [(s.1, y)] = w1 :: wr := ih
                injection i with i1 i2
                subst i2
                rw [← i1]
                rfl
              | cons f pr =>
                by_cases h5 : f.1.toNat = 2
                · rw [joined_one_seq (x := (s.1, y)) ⟨hc.1, h5⟩] at ih
                  rw [joined_one_seq (x := (s.1, n :: y)) ⟨hc.1, h5⟩]
                  by_cases h0 : left (s.1, y) f = 0
                  · rw [h0] at ih
                    simp at ih
                    obtain ⟨i1, i2⟩ := ih
                    have hw : w1.2.length = y.length + f.2.length := by rw [← i1]; simp
                    have h7 : left (s.1, n :: y) f = 0 := by
                      unfold left
                      simp
                      omega
                    rw [h7, ← i1, ← i2]
                    simp
                  · have hl : left (s.1, n :: y) f = left (s.1, y) f + 1 := by
                      unfold left at h0 ⊢
                      simp at h0 ⊢
                      omega
                    rw [if_neg h0] at ih
                    rw [hl, if_neg (by omega)]
                    simp at ih ⊢
                    obtain ⟨i1, i2⟩ := ih
                    rw [← i1, ← i2]
                    simp
                · rw [joined_one_no (x := (s.1, y)) (fun f' r' e => by injection e with g1 _; subst g1; exact fun h => h5 h.2)] at ih
                  rw [joined_one_no (x := (s.1, n :: y)) (fun f' r' e => by injection e with g1 _; subst g1; exact fun h => h5 h.2)]
                  injection ih with i1 i2
                  rw [← i1, ← i2]
        · have hcw : ¬ (w1.1.toNat = 2 ∧ w1.2.length < 255) := by rw [← h1, ← h2]; exact hc
          exact caseB (by rw [ahd_no hc]; exact lead_new) (ahd_no hcw) (fun f r e => by injection e with g1 _; subst g1; exact hcw)
theorem plains_of {P : List Seg} (hp : ∀ s ∈ P, Wk.confed s.1 = false) : plains P = P := by
  unfold plains
  exact List.filter_eq_self.2 (fun s hs => by simp [hp s hs])
theorem fuse_way {P : List Seg} (hp : ∀ s ∈ P, Wk.confed s.1 = false) (t : List Nat) : fuse (pre (nar P) t) P = pre P t := by
  unfold fuse
  rw [wt_pre, nar_wt, if_neg (by omega), plains_of hp, show wt P + t.length - wt P = t.length by omega]
  exact way hp t
theorem nar_self {P : List Seg} (hp : ∀ s ∈ P, Wk.confed s.1 = false) (hw : P.any wideS = false) : nar P = P := by
  rw [List.any_eq_false] at hw
  unfold nar
  conv => rhs; rw [← List.map_id P]
  refine List.map_congr_left (fun s hs => ?_)
  have h1 := hw s hs
  unfold wideS at h1
  rw [hp s hs] at h1
  simp at h1
  have : s.2.map short = s.2 := by
    conv => rhs; rw [← List.map_id s.2]
    refine List.map_congr_left (fun n hn => ?_)
    have := h1 n hn
    unfold big at this
    simp at this
    unfold short
    rw [if_neg (by omega)]
    rfl
  unfold nar1
  rw [this]
  rfl
end Fz
end Go.Proofs.YthjljamngpddmaaGreatDoor
