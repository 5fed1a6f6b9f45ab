
/-
  Chapter 3 as plain data: what a stream of bytes tells: messages, a fault (its subcode, its data), what waits; a message's form.
-/
import Derived.Test.YtdhbfhjlholnlaaGreatDoorRows
namespace Go.Proofs.YtdhbfhjlholnlaaGreatDoor

/-- A message: its type, its body. -/
abbrev Msg := UInt8 × List UInt8

namespace Fr
def len (h : List UInt8) : Nat := 256 * (h.getD 16 0).toNat + (h.getD 17 0).toNat
def kind (h : List UInt8) : UInt8 := h.getD 18 0
def marked (h : List UInt8) : Bool := h.take 16 == List.replicate 16 255
/-- Is n one of the type's lengths? -/
def fits (t n : Nat) : Bool :=
  if t = 1 then decide (29 ≤ n) else if t = 2 then decide (23 ≤ n) else if t = 3 then decide (21 ≤ n) else if t = 4 then decide (n = 19) else if t = 5 then decide (n = 23) else false
/-- The first thing that is wrong with a head: the fault's subcode (0: nothing), its data. -/
def judge (h : List UInt8) : Nat × List UInt8 :=
  if marked h = false then (1, [])
  else if len h < 19 ∨ 4096 < len h then (2, [h.getD 16 0, h.getD 17 0])
  else if (kind h).toNat < 1 ∨ 5 < (kind h).toNat then (3, [kind h])
  else if fits (kind h).toNat (len h) = false then (2, [h.getD 16 0, h.getD 17 0])
  else (0, [])

theorem judge_zero {h : List UInt8} (e : (judge h).1 = 0) : judge h = (0, []) ∧ marked h = true ∧ 19 ≤ len h ∧ len h ≤ 4096 ∧ 1 ≤ (kind h).toNat ∧ (kind h).toNat ≤ 5 ∧ fits (kind h).toNat (len h) = true := by
  unfold judge at e ⊢
  by_cases h1 : marked h = false
  · rw [if_pos h1] at e; simp at e
  · rw [if_neg h1] at e ⊢
    by_cases h2 : len h < 19 ∨ 4096 < len h
    · rw [if_pos h2] at e; simp at e
    · rw [if_neg h2] at e ⊢
      by_cases h3 : (kind h).toNat < 1 ∨ 5 < (kind h).toNat
      · rw [if_pos h3] at e; simp at e
      · rw [if_neg h3] at e ⊢
        by_cases h4 : fits (kind h).toNat (len h) = false
        · rw [if_pos h4] at e; simp at e
        · rw [if_neg h4]
          exact ⟨rfl, by simpa using h1, by omega, by omega, by omega, by omega, by simpa using h4⟩
theorem judge_le (h : List UInt8) : (judge h).1 ≤ 3 ∧ (judge h).2.length ≤ 2 := by
  unfold judge
  repeat' split
  all_goals simp

structure IS where
  l : List UInt8
  s : Nat
  d : List UInt8

/-- What a whole stream tells. -/
def run (b : List UInt8) : List Msg × IS :=
  if _h19 : b.length < 19 then ([], ⟨b, 0, []⟩)
  else if _hj : (judge b).1 = 0 then
    if _hl : b.length < len b then ([], ⟨b, 0, []⟩)
    else ((kind b, (b.take (len b)).drop 19) :: (run (b.drop (len b))).1, (run (b.drop (len b))).2)
  else ([], ⟨[], (judge b).1, (judge b).2⟩)
termination_by b.length
decreasing_by all_goals (have := (judge_zero _hj).2.2.1; simp; omega)

theorem run_short {b : List UInt8} (h : b.length < 19) : run b = ([], ⟨b, 0, []⟩) := by rw [run, dif_pos h]
theorem run_bad {b : List UInt8} (h : ¬ b.length < 19) (hj : (judge b).1 ≠ 0) : run b = ([], ⟨[], (judge b).1, (judge b).2⟩) := by rw [run, dif_neg h, dif_neg hj]
theorem run_wait {b : List UInt8} (h : ¬ b.length < 19) (hj : (judge b).1 = 0) (hl : b.length < len b) : run b = ([], ⟨b, 0, []⟩) := by rw [run, dif_neg h, dif_pos hj, dif_pos hl]
theorem run_step {b : List UInt8} (hj : (judge b).1 = 0) (hl : len b ≤ b.length) : run b = ((kind b, (b.take (len b)).drop 19) :: (run (b.drop (len b))).1, (run (b.drop (len b))).2) := by
  have := (judge_zero hj).2.2.1
  rw [run, dif_neg (by omega), dif_pos hj, dif_neg (by omega)]

theorem getD_app (a b : List UInt8) (i : Nat) (h : i < a.length) : (a ++ b).getD i 0 = a.getD i 0 := by
  simp only [List.getD_eq_getElem?_getD, List.getElem?_append_left h]
theorem len_app {a : List UInt8} (b : List UInt8) (h : 19 ≤ a.length) : len (a ++ b) = len a := by
  unfold len; rw [getD_app a b 16 (by omega), getD_app a b 17 (by omega)]
theorem kind_app {a : List UInt8} (b : List UInt8) (h : 19 ≤ a.length) : kind (a ++ b) = kind a := by
  unfold kind; rw [getD_app a b 18 (by omega)]
theorem marked_app {a : List UInt8} (b : List UInt8) (h : 19 ≤ a.length) : marked (a ++ b) = marked a := by
  unfold marked; rw [List.take_append_of_le_length (by omega)]
theorem judge_app {a : List UInt8} (b : List UInt8) (h : 19 ≤ a.length) : judge (a ++ b) = judge a := by
  unfold judge; rw [len_app b h, kind_app b h, marked_app b h, getD_app a b 16 (by omega), getD_app a b 17 (by omega)]
/-- A head is judged by its first 19 bytes. -/
theorem judge_take {a : List UInt8} (h : 19 ≤ a.length) : judge (a.take 19) = judge a ∧ len (a.take 19) = len a ∧ kind (a.take 19) = kind a := by
  have e := List.take_append_drop 19 a
  have hl : 19 ≤ (a.take 19).length := by simp; omega
  have h1 := judge_app (a.drop 19) hl
  have h2 := len_app (a.drop 19) hl
  have h3 := kind_app (a.drop 19) hl
  rw [e] at h1 h2 h3
  exact ⟨h1.symm, h2.symm, h3.symm⟩

/-- A stream that is going on. -/
def Waits (b : List UInt8) : Prop := run b = ([], ⟨b, 0, []⟩)
theorem Waits.nil : Waits [] := run_short (by simp)
theorem Waits.lt {b : List UInt8} (h : Waits b) : b.length < 4096 := by
  unfold Waits at h
  by_cases h1 : b.length < 19
  · omega
  · by_cases h2 : (judge b).1 = 0
    · by_cases h3 : b.length < len b
      · have := (judge_zero h2).2.2.2.1; omega
      · rw [run_step h2 (by omega)] at h; simp at h
    · rw [run_bad h1 h2] at h
      have := congrArg (fun x => x.2.s) h
      exact absurd this h2

theorem run_parts : ∀ (n : Nat) (b : List UInt8), b.length ≤ n → ((run b).2.s = 0 → Waits (run b).2.l ∧ (run b).2.d = []) ∧ ((run b).2.s ≠ 0 → (run b).2.l = [] ∧ (run b).2.s ≤ 3 ∧ (run b).2.d.length ≤ 2) := by
  intro n
  induction n with
  | zero =>
    intro b hb
    have h1 : b.length < 19 := by omega
    have e := run_short h1
    rw [e]
    exact ⟨fun _ => ⟨e, rfl⟩, fun h => absurd rfl h⟩
  | succ n ih =>
    intro b hb
    by_cases h1 : b.length < 19
    · have e := run_short h1
      rw [e]
      exact ⟨fun _ => ⟨e, rfl⟩, fun h => absurd rfl h⟩
    · by_cases h2 : (judge b).1 = 0
      · by_cases h3 : b.length < len b
        · have e := run_wait h1 h2 h3
          rw [e]
          exact ⟨fun _ => ⟨e, rfl⟩, fun h => absurd rfl h⟩
        · have := (judge_zero h2).2.2.1
          rw [run_step h2 (by omega)]
          exact ih (b.drop (len b)) (by simp; omega)
      · rw [run_bad h1 h2]
        exact ⟨fun h => absurd h h2, fun _ => ⟨rfl, (judge_le b).1, (judge_le b).2⟩⟩

theorem run_app : ∀ (n : Nat) (a b : List UInt8), a.length ≤ n → run (a ++ b) = if (run a).2.s = 0 then ((run a).1 ++ (run ((run a).2.l ++ b)).1, (run ((run a).2.l ++ b)).2) else run a := by
  intro n
  induction n with
  | zero =>
    intro a b ha
    have h1 : a.length < 19 := by omega
    rw [run_short h1]
    simp
  | succ n ih =>
    intro a b ha
    by_cases h1 : a.length < 19
    · rw [run_short h1]
      simp
    · by_cases h2 : (judge a).1 = 0
      · by_cases h3 : a.length < len a
        · rw [run_wait h1 h2 h3]
          simp
        · have h4 := (judge_zero h2).2.2.1
          have hj : (judge (a ++ b)).1 = 0 := by rw [judge_app b (by omega)]; exact h2
          have hl := len_app b (a := a) (by omega)
          have := ih (a.drop (len a)) b (by simp; omega)
          rw [run_step h2 (by omega), run_step hj (by rw [hl]; simp; omega), hl, kind_app b (by omega), List.take_append_of_le_length (by omega), List.drop_append_of_le_length (by omega), this]
          split <;> rfl
      · rw [run_bad h1 h2, run_bad (by simp; omega) (by rw [judge_app b (by omega)]; exact h2), judge_app b (by omega)]
        rw [if_neg h2]

/-- What an intake tells of a chunk, and what it is then. -/
def feed (s : IS) (b : List UInt8) : List Msg × IS := if s.s = 0 then run (s.l ++ b) else ([], s)
def IS.ok (s : IS) : Prop := (s.s = 0 → Waits s.l ∧ s.d = []) ∧ (s.s ≠ 0 → s.l = [] ∧ s.s ≤ 3 ∧ s.d.length ≤ 2)
def IS.new : IS := ⟨[], 0, []⟩
theorem IS.new_ok : IS.new.ok := ⟨fun _ => ⟨Waits.nil, rfl⟩, fun h => absurd rfl h⟩
theorem feed_ok {s : IS} (h : s.ok) (b : List UInt8) : (feed s b).2.ok := by
  unfold feed
  split
  · exact run_parts _ _ (Nat.le_refl _)
  · exact h
theorem feed_app {s : IS} (a b : List UInt8) : feed s (a ++ b) = ((feed s a).1 ++ (feed (feed s a).2 b).1, (feed (feed s a).2 b).2) := by
  by_cases h0 : s.s = 0
  · have e : feed s a = run (s.l ++ a) := if_pos h0
    have e2 : feed s (a ++ b) = run ((s.l ++ a) ++ b) := by unfold feed; rw [if_pos h0, List.append_assoc]
    rw [e, e2, run_app _ _ b (Nat.le_refl _)]
    by_cases h1 : (run (s.l ++ a)).2.s = 0
    · rw [if_pos h1]
      unfold feed
      rw [if_pos h1]
    · rw [if_neg h1]
      unfold feed
      rw [if_neg h1]
      simp
  · have e : feed s a = ([], s) := if_neg h0
    have e2 : feed s (a ++ b) = ([], s) := if_neg h0
    have e3 : feed s b = ([], s) := if_neg h0
    rw [e, e2]
    simp only
    rw [e3]
    rfl

/-- A message's form, or what is wrong with it. -/
def bytes (m : Msg) : List UInt8 × Int :=
  if fits m.1.toNat (19 + m.2.length) = false then ([], 1)
  else if 4096 < 19 + m.2.length then ([], 3)
  else (List.replicate 16 255 ++ ([UInt8.ofNat ((19 + m.2.length) / 256), UInt8.ofNat (19 + m.2.length)] ++ (m.1 :: m.2)), 0)

theorem fits_kind {t n : Nat} (h : fits t n = true) : 1 ≤ t ∧ t ≤ 5 := by
  unfold fits at h
  repeat' split at h
  all_goals first | omega | simp at h

theorem bytes_ok {m : Msg} (h : (bytes m).2 = 0) : fits m.1.toNat (19 + m.2.length) = true ∧ 19 + m.2.length ≤ 4096 ∧ (bytes m).1 = List.replicate 16 255 ++ ([UInt8.ofNat ((19 + m.2.length) / 256), UInt8.ofNat (19 + m.2.length)] ++ (m.1 :: m.2)) := by
  unfold bytes at h ⊢
  by_cases h1 : fits m.1.toNat (19 + m.2.length) = false
  · rw [if_pos h1] at h; simp at h
  · rw [if_neg h1] at h ⊢
    by_cases h2 : 4096 < 19 + m.2.length
    · rw [if_pos h2] at h; simp at h
    · rw [if_neg h2]
      exact ⟨by simpa using h1, by omega, rfl⟩
theorem bytes_length {m : Msg} (h : (bytes m).2 = 0) : (bytes m).1.length = 19 + m.2.length := by
  rw [(bytes_ok h).2.2]; simp; omega

theorem len_two (n : Nat) (h : n < 65536) : 256 * (UInt8.ofNat (n / 256)).toNat + (UInt8.ofNat n).toNat = n := by
  simp only [UInt8.toNat_ofNat']; omega

theorem form_parts (t : UInt8) (n : Nat) (h : n < 65536) (r : List UInt8) :
    let b := List.replicate 16 255 ++ ([UInt8.ofNat (n / 256), UInt8.ofNat n] ++ (t :: r))
    marked b = true ∧ len b = n ∧ kind b = t ∧ b.drop 19 = r := by
  refine ⟨?_, ?_, ?_, ?_⟩
  · unfold marked; simp
  · unfold len
    have e1 : (List.replicate 16 255 ++ ([UInt8.ofNat (n / 256), UInt8.ofNat n] ++ (t :: r))).getD 16 0 = UInt8.ofNat (n / 256) := rfl
    have e2 : (List.replicate 16 255 ++ ([UInt8.ofNat (n / 256), UInt8.ofNat n] ++ (t :: r))).getD 17 0 = UInt8.ofNat n := rfl
    rw [e1, e2, len_two n h]
  · rfl
  · rfl

/-- THERE AND BACK: a form ahead of a stream is told as its message. -/
theorem run_bytes {m : Msg} (h : (bytes m).2 = 0) (rest : List UInt8) : run ((bytes m).1 ++ rest) = (m :: (run rest).1, (run rest).2) := by
  obtain ⟨h1, h2, h3⟩ := bytes_ok h
  have hl := bytes_length h
  obtain ⟨p1, p2, p3, p4⟩ := form_parts m.1 (19 + m.2.length) (by omega) m.2
  rw [← h3] at p1 p2 p3 p4
  generalize (bytes m).1 = b at *
  have hk := fits_kind h1
  have hj : (judge b) = (0, []) := by
    unfold judge
    rw [p1, p2, p3]
    rw [if_neg (by simp), if_neg (by omega), if_neg (by omega), if_neg (by simp [h1])]
  have hj2 : (judge (b ++ rest)).1 = 0 := by rw [judge_app rest (by omega), hj]
  have hl2 := len_app rest (a := b) (by omega)
  rw [run_step hj2 (by rw [hl2, p2]; simp; omega), hl2, p2, ← hl, List.take_left' rfl, List.drop_left' rfl, kind_app rest (by omega), p3, p4]

/-- The forms of messages, one behind the other. -/
def forms (l : List Msg) : List UInt8 := l.flatMap fun m => (bytes m).1
theorem run_forms : ∀ (l : List Msg) (rest : List UInt8), (∀ m ∈ l, (bytes m).2 = 0) → run (forms l ++ rest) = (l ++ (run rest).1, (run rest).2)
  | [], rest, _ => by simp [forms]
  | m :: l, rest, h => by
    have e : forms (m :: l) ++ rest = (bytes m).1 ++ (forms l ++ rest) := by simp [forms]
    rw [e, run_bytes (h m (List.mem_cons_self ..)), run_forms l rest (fun x hx => h x (List.mem_cons_of_mem _ hx))]
    simp

theorem u8_eq {a b : UInt8} (h : a.toNat = b.toNat) : a = b := UInt8.toNat_inj.1 h
theorem form_of {b : List UInt8} (hm : marked b = true) (h : 19 ≤ b.length) : b = List.replicate 16 255 ++ ([b.getD 16 0, b.getD 17 0] ++ (b.getD 18 0 :: b.drop 19)) := by
  have e : b.take 16 = List.replicate 16 255 := by unfold marked at hm; simpa using hm
  have h16 : b.drop 16 = b.getD 16 0 :: b.drop 17 := by
    rw [List.drop_eq_getElem_cons (by omega : 16 < b.length), List.getD_eq_getElem?_getD, List.getElem?_eq_getElem (by omega)]; rfl
  have h17 : b.drop 17 = b.getD 17 0 :: b.drop 18 := by
    rw [List.drop_eq_getElem_cons (by omega : 17 < b.length), List.getD_eq_getElem?_getD, List.getElem?_eq_getElem (by omega)]; rfl
  have h18 : b.drop 18 = b.getD 18 0 :: b.drop 19 := by
    rw [List.drop_eq_getElem_cons (by omega : 18 < b.length), List.getD_eq_getElem?_getD, List.getElem?_eq_getElem (by omega)]; rfl
  conv => lhs; rw [← List.take_append_drop 16 b, e, h16, h17, h18]
  rfl

/-- What is told of a head has that form. -/
theorem bytes_of {b : List UInt8} (hj : (judge b).1 = 0) (hl : len b ≤ b.length) : (bytes (kind b, (b.take (len b)).drop 19)).2 = 0 ∧ (bytes (kind b, (b.take (len b)).drop 19)).1 = b.take (len b) := by
  obtain ⟨_, h1, h2, h3, h4, h5, h6⟩ := judge_zero hj
  have hlen : ((b.take (len b)).drop 19).length = len b - 19 := by simp; omega
  have hn : 19 + (len b - 19) = len b := by omega
  unfold bytes
  simp only [hlen, hn]
  rw [if_neg (by simp [h6]), if_neg (by omega)]
  refine ⟨rfl, ?_⟩
  have hbt : 19 ≤ (b.take (len b)).length := by simp; omega
  have e := List.take_append_drop (len b) b
  have hm : marked (b.take (len b)) = true := by rw [← marked_app (b.drop (len b)) hbt, e]; exact h1
  have hk : kind (b.take (len b)) = kind b := by have := kind_app (b.drop (len b)) hbt; rw [e] at this; exact this.symm
  have g16 : (b.take (len b)).getD 16 0 = b.getD 16 0 := by have := getD_app (b.take (len b)) (b.drop (len b)) 16 (by omega); rw [e] at this; exact this.symm
  have g17 : (b.take (len b)).getD 17 0 = b.getD 17 0 := by have := getD_app (b.take (len b)) (b.drop (len b)) 17 (by omega); rw [e] at this; exact this.symm
  have f := form_of hm hbt
  rw [g16, g17] at f
  have u1 : UInt8.ofNat (len b / 256) = b.getD 16 0 := u8_eq (by
    rw [UInt8.toNat_ofNat']
    have a1 := (b.getD 17 0).toNat_lt
    have a2 := (b.getD 16 0).toNat_lt
    unfold len; omega)
  have u2 : UInt8.ofNat (len b) = b.getD 17 0 := u8_eq (by
    rw [UInt8.toNat_ofNat']
    have a1 := (b.getD 17 0).toNat_lt
    unfold len; omega)
  rw [u1, u2, ← hk]
  exact f.symm

/-- WHAT IS TOLD IS MADE OF BYTES THAT CAME. -/
theorem run_made : ∀ (n : Nat) (b : List UInt8), b.length ≤ n → (∀ m ∈ (run b).1, (bytes m).2 = 0) ∧ ((run b).2.s = 0 → forms (run b).1 ++ (run b).2.l = b) ∧ ∃ r, forms (run b).1 ++ r = b := by
  intro n
  induction n with
  | zero =>
    intro b hb
    rw [run_short (by omega)]
    exact ⟨(fun m h => by cases h), fun _ => by simp [forms], b, by simp [forms]⟩
  | succ n ih =>
    intro b hb
    by_cases h1 : b.length < 19
    · rw [run_short h1]
      exact ⟨(fun m h => by cases h), fun _ => by simp [forms], b, by simp [forms]⟩
    · by_cases h2 : (judge b).1 = 0
      · by_cases h3 : b.length < len b
        · rw [run_wait h1 h2 h3]
          exact ⟨(fun m h => by cases h), fun _ => by simp [forms], b, by simp [forms]⟩
        · have h4 := (judge_zero h2).2.2.1
          obtain ⟨i1, i2, r, i3⟩ := ih (b.drop (len b)) (by simp; omega)
          obtain ⟨b1, b2⟩ := bytes_of h2 (by omega)
          rw [run_step h2 (by omega)]
          refine ⟨fun m hm => ?_, fun h => ?_, r, ?_⟩
          · rcases List.mem_cons.1 hm with rfl | hm
            · exact b1
            · exact i1 m hm
          · have e := i2 h
            show forms (_ :: _) ++ _ = b
            unfold forms at e ⊢
            rw [List.flatMap_cons, b2, List.append_assoc, e, List.take_append_drop]
          · unfold forms at i3 ⊢
            show List.flatMap _ (_ :: _) ++ _ = b
            rw [List.flatMap_cons, b2, List.append_assoc, i3, List.take_append_drop]
      · rw [run_bad h1 h2]
        exact ⟨(fun m h => by cases h), fun h => absurd h h2, b, by simp [forms]⟩
end Fr
end Go.Proofs.YtdhbfhjlholnlaaGreatDoor
