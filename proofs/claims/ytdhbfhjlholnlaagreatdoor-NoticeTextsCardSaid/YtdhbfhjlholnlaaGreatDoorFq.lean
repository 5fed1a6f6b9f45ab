
/-
  Chapter 3 as plain data: bytes gathered up to a head, up to a message.
-/
import Derived.Test.YtdhbfhjlholnlaaGreatDoorFa
namespace Go.Proofs.YtdhbfhjlholnlaaGreatDoor
namespace Fr
def takes (b l : List UInt8) (many : Nat) : Nat := min b.length (many - l.length)

theorem takes_join (b l : List UInt8) (many : Nat) : (l ++ b.take (takes b l many)) ++ b.drop (takes b l many) = l ++ b := by
  rw [List.append_assoc, List.take_append_drop]
theorem takes_len (b l : List UInt8) (many : Nat) : (l ++ b.take (takes b l many)).length = l.length + takes b l many ∧ takes b l many ≤ b.length ∧ (b.drop (takes b l many)).length = b.length - takes b l many := by
  have : takes b l many ≤ b.length := Nat.min_le_left _ _
  refine ⟨by rw [List.length_append, List.length_take]; omega, this, by rw [List.length_drop]⟩
/-- Too few: all were taken. -/
theorem takes_few {b l : List UInt8} {many : Nat} (h : (l ++ b.take (takes b l many)).length < many) : b.drop (takes b l many) = [] ∧ l ++ b.take (takes b l many) = l ++ b := by
  obtain ⟨h1, h2, h3⟩ := takes_len b l many
  have h4 : takes b l many = b.length := by
    have hd : takes b l many = min b.length (many - l.length) := rfl
    omega
  rw [h4]
  exact ⟨List.drop_length, by rw [List.take_length]⟩
theorem takes_le (b l : List UInt8) (many : Nat) : (l ++ b.take (takes b l many)).length ≤ max l.length many := by
  obtain ⟨h1, _, _⟩ := takes_len b l many
  rw [h1]
  unfold takes
  omega

theorem Waits.head {l : List UInt8} (h : Waits l) (h19 : 19 ≤ l.length) : (judge l).1 = 0 ∧ l.length < len l := by
  unfold Waits at h
  have h1 : ¬ l.length < 19 := by omega
  by_cases h2 : (judge l).1 = 0
  · refine ⟨h2, ?_⟩
    by_cases h3 : l.length < len l
    · exact h3
    · rw [run_step h2 (by omega)] at h; simp at h
  · rw [run_bad h1 h2] at h
    have := congrArg (fun x => x.2.s) h
    exact absurd this h2

/-- A head is there: it is the stream's. -/
theorem head_of {l b : List UInt8} (h : 19 ≤ (l ++ b.take (takes b l 19)).length) : (l ++ b.take (takes b l 19)).take 19 = (l ++ b).take 19 ∧ 19 ≤ (l ++ b).length := by
  have e := takes_join b l 19
  obtain ⟨h1, h2, h3⟩ := takes_len b l 19
  refine ⟨?_, by rw [List.length_append]; omega⟩
  rw [← e, List.take_append_of_le_length h]

/-- All of a message is there: what is gathered is just it. -/
theorem whole_of {l b : List UInt8} (hw : Waits l) (h : 19 ≤ (l ++ b.take (takes b l 19)).length) {l1 b1 : List UInt8} (e1 : l1 = l ++ b.take (takes b l 19)) (e2 : b1 = b.drop (takes b l 19))
    (hj : (judge ((l ++ b).take 19)).1 = 0) (hl : len ((l ++ b).take 19) ≤ (l1 ++ b1.take (takes b1 l1 (len ((l ++ b).take 19)))).length) :
    l1 ++ b1.take (takes b1 l1 (len ((l ++ b).take 19))) = (l ++ b).take (len (l ++ b)) ∧ b1.drop (takes b1 l1 (len ((l ++ b).take 19))) = (l ++ b).drop (len (l ++ b)) ∧ len (l ++ b) ≤ (l ++ b).length := by
  obtain ⟨hh, h19⟩ := head_of h
  obtain ⟨j1, j2, j3⟩ := judge_take h19
  rw [j1] at hj
  rw [j2] at hl ⊢
  have h4 := judge_zero hj
  have hjoin := takes_join b l 19
  rw [← e1, ← e2] at hjoin
  have hl1 : l1.length ≤ len (l ++ b) := by
    have hle := takes_le b l 19
    rw [← e1] at hle
    by_cases hc : 19 ≤ l.length
    · have := (hw.head hc).2
      have e := len_app b hc
      omega
    · omega
  have hjoin2 := takes_join b1 l1 (len (l ++ b))
  rw [hjoin] at hjoin2
  have hle2 := takes_le b1 l1 (len (l ++ b))
  have hlen : (l1 ++ b1.take (takes b1 l1 (len (l ++ b)))).length = len (l ++ b) := by omega
  generalize len (l ++ b) = n at *
  have ht := congrArg List.length hjoin2
  rw [List.length_append] at ht
  refine ⟨?_, ?_, by omega⟩
  · rw [← hjoin2, List.take_left' hlen]
  · rw [← hjoin2, List.drop_left' hlen]
theorem run_len : ∀ (n : Nat) (b : List UInt8), b.length ≤ n → (run b).1.length ≤ b.length := by
  intro n
  induction n with
  | zero => intro b hb; rw [run_short (by omega)]; exact Nat.zero_le _
  | succ n ih =>
    intro b hb
    by_cases h1 : b.length < 19
    · rw [run_short h1]; exact Nat.zero_le _
    · by_cases h2 : (judge b).1 = 0
      · by_cases h3 : b.length < len b
        · rw [run_wait h1 h2 h3]; exact Nat.zero_le _
        · have h4 := (judge_zero h2).2.2.1
          rw [run_step h2 (by omega)]
          have := ih (b.drop (len b)) (by rw [List.length_drop]; omega)
          rw [List.length_drop] at this
          simp only [List.length_cons]
          omega
      · rw [run_bad h1 h2]; exact Nat.zero_le _
end Fr
end Go.Proofs.YtdhbfhjlholnlaaGreatDoor
