
/-
  Numbers' texts: rows of digits read (strconv.ParseUint), numbers told (strconv.FormatUint).
-/
import Derived.Test.YtdeblmolgmadiaaGreatDoorLaw
import Derived.Test.YtdeblmolgmadiaaGreatDoorPd
import Derived.Lib.AppendIntMem
namespace Go.Proofs.YtdeblmolgmadiaaGreatDoor
open Go.RowKit Go.Sort

/-- What the calls of strconv need of the world: its table, and what ErrSyntax holds. -/
def Rdy2 (w : World) : Prop := Rdy w ∧ ∃ tp p, w.cell? ⟨6, 0, none⟩ = some (.iface tp p)
theorem Rdy2.kept {w w' : World} (h : Rdy2 w) (k : Kept Nothing w w') : Rdy2 w' := by
  obtain ⟨h1, tp, p, h2⟩ := h
  exact ⟨h1.kept k, tp, p, k.cell_some h2 (fun x => x)⟩

theorem pum : ∀ (l : List UInt8) (acc : Nat), (acc + 1) * 10 ^ l.length ≤ 10000000000 →
    Lib.parseUintM 18446744073709551615 acc l = if l.all isD = true then .ok (l.foldl (fun n c => n * 10 + (c.toNat - 48)) acc) else .syntax
  | [], acc, _ => by simp [Lib.parseUintM]
  | c :: l, acc, h => by
    rw [List.length_cons, Nat.pow_succ, Nat.mul_comm (10 ^ l.length) 10, ← Nat.mul_assoc] at h
    have h1 : (acc + 1) * 10 ≤ 10000000000 := Nat.le_trans (Nat.le_mul_of_pos_right _ (Nat.pow_pos (by omega))) h
    unfold Lib.parseUintM
    by_cases hd : 48 ≤ c.toNat ∧ c.toNat ≤ 57
    · have hD : isD c = true := by simp [isD, hd.1, hd.2]
      rw [if_pos hd, if_neg (by omega), if_neg (by omega), pum l _ (Nat.le_trans (Nat.mul_le_mul_right _ (by omega)) h)]
      simp [hD]
    · have hD : isD c = false := by simp only [isD, Bool.and_eq_false_iff, decide_eq_false_iff_not]; omega
      rw [if_neg hd]
      simp [hD]
theorem pub_num (l : List UInt8) (h10 : l.length ≤ 10) (hz : ¬ (1 < l.length ∧ l.getD 0 0 = 48)) :
    Lib.parseUintB 64 l = match num l with | some v => .ok v | none => .syntax := by
  unfold Lib.parseUintB
  by_cases h0 : l = []
  · subst h0; rfl
  · rw [if_neg h0]
    have e : (2 : Nat) ^ 64 - 1 = 18446744073709551615 := by decide
    rw [e, pum l 0 (by simpa using Nat.pow_le_pow_right (n := 10) (by omega) h10)]
    have hl : 0 < l.length := List.length_pos_iff.2 h0
    have ho : numOk l = l.all isD := by
      unfold numOk
      have h2 : (decide (l.getD 0 0 = 48) && decide (1 < l.length)) = false := by
        simp only [Bool.and_eq_false_iff, decide_eq_false_iff_not]
        by_cases h1 : 1 < l.length
        · exact .inl (fun e => hz ⟨h1, e⟩)
        · exact .inr h1
      rw [h2]
      simp [hl, h10]
    unfold num
    rw [ho]
    cases h : l.all isD
    · simp
    · simp [numV]
theorem pu_kept {w w' : World} {s : ByteArray} (h : w' = w ∨ w' = Lib.bytesWorld w 5 s) : Kept Nothing w w' := by
  rcases h with rfl | rfl
  · exact Kept.refl _ _
  · exact grows (Lib.bytesWorld_below _ _ _)
theorem row_any (s : ByteArray) (hs : s.size ≤ 100000) (w : World) (hr : Rdy2 w) :
    Calls Tryz.prog 195 #[.string s] w fun e w' => e = .returned (.tuple #[.int .u64 ((num s.data.toList).getD 0 : Nat), .bool (num s.data.toList).isSome]) ∧ Kept Nothing w w' := by
  by_cases h10 : 10 < s.size
  · have hN := Lib.hid (num_short s (.inr h10))
    have hi : (10 : Int) < (s.size : Int) := by omega
    go_enter Tryz.func195, Tryz.ntmps195
    go_wp2
    go_ret2
    exact ⟨by rw [hN.out]; rfl, Kept.refl _ _⟩
  have hle : (s.size : Int) ≤ 10 := by omega
  have hparts : (∃ h : 1 < s.size, s[0].toNat = 48) ∨ s.size ≤ 1 ∨ (∃ h : 1 < s.size, s[0].toNat ≠ 48) := by
    by_cases h1 : 1 < s.size
    · by_cases h : s[0].toNat = 48
      · exact .inl ⟨h1, h⟩
      · exact .inr (.inr ⟨h1, h⟩)
    · exact .inr (.inl (by omega))
  rcases hparts with ⟨h1, hc⟩ | hparts
  · have hN := Lib.hid (num_nought s h1 hc)
    have hi : (1 : Int) < (s.size : Int) := by omega
    have hpos : 0 < s.size := by omega
    have hz : ((s[0].toNat : Int) == 48) = true := by simp [hc]
    clear hc
    go_enter Tryz.func195, Tryz.ntmps195
    go_wp2
    go_ret2
    exact ⟨by rw [hN.out]; rfl, Kept.refl _ _⟩
  have hP := pub_num s.data.toList (by simpa using (by omega : s.size ≤ 10)) (fun ⟨h1, h2⟩ => by
    have h1 : 1 < s.size := by simpa using h1
    rcases hparts with h | ⟨_, h⟩
    · omega
    · have h3 : s.data.toList.getD 0 0 = s[0] := by rw [List.getD_eq_getElem?_getD, List.getElem?_eq_getElem (by simpa using (by omega : 0 < s.size))]; rfl
      rw [h3] at h2
      exact h (by rw [h2]; rfl))
  have HC : Hid (Calls Tryz.prog 206 #[.string s, .int .i64 10, .int .i64 64] w fun e w' => (∃ u : Value, e = .returned (.tuple #[.int .u64 ((num s.data.toList).getD 0 : Nat), u]) ∧ ((num s.data.toList).isSome = true ∧ u = .nilIface ∨ (num s.data.toList).isSome = false ∧ ∃ p, u = .iface 279 p)) ∧ Kept Nothing w w') := by
    obtain ⟨hr1, tp, p, hr2⟩ := hr
    cases hn : num s.data.toList with
    | some v =>
      rw [hn] at hP
      exact Lib.hid ((Tryz.strconv_ParseUint_10_at64_ok s (by omega) v hP w).mono fun e w' ⟨he, hw⟩ => ⟨⟨_, he, .inl ⟨rfl, rfl⟩⟩, pu_kept hw⟩)
    | none =>
      rw [hn] at hP
      exact Lib.hid ((Tryz.strconv_ParseUint_10_at64_syntax s (by omega) hP _ w hr2 (.inr ⟨_, _, rfl⟩)).mono fun e w' ⟨N, he, _, _, hb⟩ => ⟨⟨_, he, .inr ⟨rfl, _, rfl⟩⟩, grows hb⟩)
  clear hP hr
  generalize (num s.data.toList).isSome = ok at HC ⊢
  generalize (num s.data.toList).getD 0 = v at HC ⊢
  rcases hparts with h1 | ⟨h1, hc⟩
  · have hi : (s.size : Int) ≤ 1 := by omega
    go_enter Tryz.func195, Tryz.ntmps195
    go_wp2_with (go_at_call 206; refine (HC.out).mono ?_; rintro e w1 ⟨⟨u, rfl, hu⟩, hk⟩)
    rcases hu with ⟨rfl, rfl⟩ | ⟨rfl, p, rfl⟩
    all_goals
      go_quiet (fail)
      go_wp2
      go_ret2
      exact ⟨rfl, hk.drewN _⟩
  · have hi : (1 : Int) < (s.size : Int) := by omega
    have hpos : 0 < s.size := by omega
    have hz : ((s[0].toNat : Int) == 48) = false := by simp; omega
    clear hc
    go_enter Tryz.func195, Tryz.ntmps195
    go_wp2_with (go_at_call 206; refine (HC.out).mono ?_; rintro e w1 ⟨⟨u, rfl, hu⟩, hk⟩)
    rcases hu with ⟨rfl, rfl⟩ | ⟨rfl, p, rfl⟩
    all_goals
      go_quiet (fail)
      go_wp2
      go_ret2
      exact ⟨rfl, hk.drewN _⟩
end Go.Proofs.YtdeblmolgmadiaaGreatDoor
