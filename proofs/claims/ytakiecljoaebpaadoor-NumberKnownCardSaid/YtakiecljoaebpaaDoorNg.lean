
/-
  The laws NumberReads, NumberShort, NumberBack.
-/
import Derived.Test.YtakiecljoaebpaaDoorNf
namespace Go.Proofs.YtakiecljoaebpaaDoor
open Go.RowKit

theorem take60 (s : ByteArray) (k : Nat) : s.extract 0 k = ⟨(s.data.toList.take k).toArray⟩ := by
  have : s = ⟨s.data.toList.toArray⟩ := by cases s; rfl
  conv => lhs; rw [this]
  exact ext_lo _ k
set_option maxHeartbeats 1000000 in
theorem reads_law (s : ByteArray) (hs : s.size ≤ 9223372036854775807) (w : World) (hr : Rdy2 w) :
    Calls Tryd.prog 4 #[.string s] w fun e w' => e = .returned (.bool true) ∧ Kept Nothing w w' := by
  have HT := Lib.hid tells_any
  obtain ⟨l, hl⟩ : ∃ l, s.data.toList.take (min (s.size : Int) 40).toNat = l := ⟨_, rfl⟩
  have hll : l.length ≤ 40 := by rw [← hl]; simp; omega
  have HE := take60 s (min (s.size : Int) 40).toNat
  rw [hl] at HE
  clear hl
  have HP := parse_any l (by omega)
  have HQ : ∀ w, Calls Tryd.prog 19 #[.string ⟨l.toArray⟩] w fun e w' => e = .returned (.tuple #[.int .u32 ((parse l).1 : Nat), .int .i64 ((parse l).2 : Nat)]) ∧ w = w' := fun w => by
    have := rparse_any ⟨l.toArray⟩ (by show l.length ≤ _; omega) w
    have e : (⟨l.toArray⟩ : ByteArray).data.toList = l := rfl
    rw [e, rparse_eq] at this
    exact this
  generalize (parse l).1 = a at HP HQ
  generalize (parse l).2 = b at HP HQ
  replace HP := Lib.hid HP
  replace HQ := Lib.hid HQ
  go_enter Tryd.func4, Tryd.ntmps4
  go_wp2_with (first
    | (go_at_call 18; (with_reducible refine (HP.out _ hr).mono ?_); rintro e w1 ⟨rfl, k1⟩)
    | (go_at_call 19; (with_reducible refine (HQ.out _).mono ?_); rintro e w2 ⟨rfl, rfl⟩)
    | (go_at_call 17; (with_reducible refine (HT.out _ (hr.kept k1)).mono ?_); rintro e w3 ⟨rfl, k3⟩))
  go_ret
  exact ⟨rfl, k1.trans k3⟩

theorem dot_eq_dec (n : Nat) : (dot n == Lib.decDigits n) = !wide n := by
  unfold dot wide
  by_cases h : 65535 < n
  · rw [if_pos h]
    have hne : Lib.decDigits (n / 65536) ++ 46 :: Lib.decDigits (n % 65536) ≠ Lib.decDigits n := fun e => by
      have := no_dot (dec_all n)
      rw [← e] at this
      exact this (by simp)
    simp [hne, h]
  · rw [if_neg h]
    simp [h]
theorem dec_beq (n m : Nat) : (Lib.decDigits n == Lib.decDigits m) = ((n : Int) == (m : Int)) := by
  rw [Bool.eq_iff_iff]
  simp only [beq_iff_eq]
  constructor
  · intro h; rw [dec_inj h]
  · intro h; rw [Int.ofNat.inj h]
set_option maxHeartbeats 4000000 in
theorem short_law (n m : Nat) (hn : n < 4294967296) (hm : m < 4294967296) (w : World) (hr : Rdy2 w) :
    Calls Tryd.prog 6 #[.int .u32 (n : Int), .int .u32 (m : Int)] w fun e w' => e = .returned (.bool true) ∧ Kept Nothing w w' := by
  have HT := Lib.hid tells_any
  have HSn := Lib.hid (short_any n hn)
  have HSm := Lib.hid (short_any m hm)
  have HWn := Lib.hid (wide_any n)
  have HWm := Lib.hid (wide_any m)
  have HTn := Lib.hid (text_any n hn)
  have HTm := Lib.hid (text_any m hm)
  have HDn := Lib.hid (dotted_any n hn)
  have e1 := dot_eq_dec n
  have e2 := dec_beq n m
  have k := Kept.refl Nothing w
  have hc : (wide n = true ∧ short n = 23456 ∨ wide n = false ∧ short n = n ∧ n < 65536 ∧ ((n : Int) == 23456) = true ∨ wide n = false ∧ short n = n ∧ n < 65536 ∧ ((n : Int) == 23456) = false) := by
    unfold wide short
    by_cases h : 65535 < n
    · exact .inl ⟨by simp [h], if_pos h⟩
    · by_cases h2 : n = 23456
      · exact .inr (.inl ⟨by simp [h], if_neg h, by omega, by simp [h2]⟩)
      · exact .inr (.inr ⟨by simp [h], if_neg h, by omega, by simp; omega⟩)
  have hd : (wide m = true ∧ short m = 23456 ∨ wide m = false ∧ short m = m ∧ m < 65536) := by
    unfold wide short
    by_cases h : 65535 < m
    · exact .inl ⟨by simp [h], if_pos h⟩
    · exact .inr ⟨by simp [h], if_neg h, by omega⟩
  have hq : ((n : Int) == (m : Int)) = true ∨ ((n : Int) == (m : Int)) = false := by cases ((n : Int) == (m : Int)) <;> simp
  generalize hwn : wide n = wn at *
  generalize hwm : wide m = wm at *
  generalize short n = sn at *
  generalize short m = sm at *
  rcases hc with ⟨rfl, rfl⟩ | ⟨rfl, rfl, h3, h4⟩ | ⟨rfl, rfl, h3, h4⟩
  all_goals rcases hd with ⟨rfl, rfl⟩ | ⟨rfl, rfl, h6⟩
  all_goals rcases hq with h7 | h7
  all_goals rw [h7] at e2
  all_goals clear hwn hwm
  all_goals
    go_enter Tryd.func6, Tryd.ntmps6
    go_wp2_with (first
      | (go_at_call 9; (with_reducible refine (HSn.out _).mono ?_); rintro e w1 ⟨rfl, rfl⟩)
      | (go_at_call 9; (with_reducible refine (HSm.out _).mono ?_); rintro e w1 ⟨rfl, rfl⟩)
      | (go_at_call 8; (with_reducible refine (HWn.out _).mono ?_); rintro e w1 ⟨rfl, rfl⟩)
      | (go_at_call 8; (with_reducible refine (HWm.out _).mono ?_); rintro e w1 ⟨rfl, rfl⟩)
      | (go_at_call 15; (with_reducible refine (HDn.out _ (hr.kept k)).mono ?_); rintro e w1 ⟨rfl, k1⟩; replace k := k.trans k1)
      | (go_at_call 13; (with_reducible refine (HTn.out _ (hr.kept k)).mono ?_); rintro e w1 ⟨rfl, k1⟩; replace k := k.trans k1)
      | (go_at_call 13; (with_reducible refine (HTm.out _ (hr.kept k)).mono ?_); rintro e w1 ⟨rfl, k1⟩; replace k := k.trans k1)
      | (go_at_call 17; (with_reducible refine (HT.out _ (hr.kept k)).mono ?_); rintro e w3 ⟨rfl, k3⟩; replace k := k.trans k3))
    go_ret
    exact ⟨rfl, k⟩
end Go.Proofs.YtakiecljoaebpaaDoor
