
/-
  The law NumberBack.
-/
import Derived.Test.YtakiecljoaebpaaDoorNg
namespace Go.Proofs.YtakiecljoaebpaaDoor
open Go.RowKit

set_option maxHeartbeats 4000000 in
theorem back_law (x : Nat) (s : ByteArray) (hx : x < 4294967296) (hs : s.size ≤ 9223372036854775807) (w : World) (hr : Rdy2 w) :
    Calls Tryd.prog 5 #[.int .u32 (x : Int), .string s] w fun e w' => e = .returned (.bool true) ∧ Kept Nothing w w' := by
  have HT := Lib.hid tells_any
  have H1 := Lib.hid (text_any x hx)
  have H2 := Lib.hid (dotted_any x hx)
  have P1 : ∀ w, Rdy2 w → Calls Tryd.prog 18 #[.string ⟨(Lib.decDigits x).toArray⟩] w fun e w' => e = .returned (.tuple #[.int .u32 (x : Nat), .int .i64 0]) ∧ Kept Nothing w w' := fun w h => by
    have := parse_any (Lib.decDigits x) (by have := dec_len32 x hx; omega) w h
    rwa [parse_dec x hx] at this
  have P2 : ∀ w, Rdy2 w → Calls Tryd.prog 18 #[.string ⟨(dot x).toArray⟩] w fun e w' => e = .returned (.tuple #[.int .u32 (x : Nat), .int .i64 0]) ∧ Kept Nothing w w' := fun w h => by
    have := parse_any (dot x) (by have := dot_len x hx; omega) w h
    rwa [parse_dot x hx] at this
  have P3 : ∃ g : Nat, ∀ w, Rdy2 w → Calls Tryd.prog 18 #[.string ⟨(48 :: Lib.decDigits x).toArray⟩] w fun e w' => e = .returned (.tuple #[.int .u32 (g : Nat), .int .i64 5]) ∧ Kept Nothing w w' := ⟨(parse (48 :: Lib.decDigits x)).1, fun w h => by
    have := parse_any (48 :: Lib.decDigits x) (by have := dec_len32 x hx; simp; omega) w h
    rwa [parse_nought x] at this⟩
  obtain ⟨g, P3⟩ := P3
  have s1 := add_run [48] (Lib.decDigits x) (by simp) (by have := dec_len32 x hx; omega)
  obtain ⟨l, hl⟩ : ∃ l, s.data.toList.take (min (s.size : Int) 40).toNat = l := ⟨_, rfl⟩
  have hll : l.length ≤ 40 := by rw [← hl]; simp; omega
  have HE := take60 s (min (s.size : Int) 40).toNat
  rw [hl] at HE
  clear hl
  have HP := parse_any l (by omega)
  have hc := parse_lt l
  have he := parse_err l
  have hi := parse_inv l
  generalize (parse l).1 = c at HP hc he hi
  generalize (parse l).2 = h at HP he hi
  replace HP := Lib.hid HP
  have P1 := Lib.hid P1
  have P2 := Lib.hid P2
  have P3 := Lib.hid P3
  have t1 : True := trivial
  have t2 : True := trivial
  have t3 : True := trivial
  have k := Kept.refl Nothing w
  by_cases h0 : h = 0
  · subst h0
    have hi := hi rfl
    clear he
    have H3 := Lib.hid (text_any c hc)
    have H4 := Lib.hid (dotted_any c hc)
    have s2 := add_run [48, 46] (Lib.decDigits c) (by simp) (by have := dec_len32 c hc; omega)
    have hb : (Lib.decDigits c == l) = true ∨ (Lib.decDigits c == l) = false ∧ ((dot c == l) = true ∨ (dot c == l) = false ∧ (48 :: 46 :: Lib.decDigits c == l) = true ∧ ∀ w, Calls Tryd.prog 20 #[.string ⟨l.toArray⟩, .string ⟨#[48, 46]⟩] w fun e w' => e = .returned (.bool true) ∧ w' = w) := by
      cases b1 : (Lib.decDigits c == l) with
      | true => exact .inl rfl
      | false =>
        refine .inr ⟨rfl, ?_⟩
        cases b2 : (dot c == l) with
        | true => exact .inl rfl
        | false =>
          rcases hi with hi | hi | ⟨⟨r, hr1⟩, hr2⟩
          · rw [hi] at b1; simp at b1
          · rw [hi] at b2; simp at b2
          · refine .inr ⟨rfl, by rw [← hr2]; simp, fun w => ?_⟩
            have := Tryd.strings_HasPrefix ⟨l.toArray⟩ ⟨#[48, 46]⟩ w
            have e : Lib.hasPrefix (⟨l.toArray⟩ : ByteArray).data.toList (⟨#[48, 46]⟩ : ByteArray).data.toList = true := by
              show Lib.hasPrefix l [48, 46] = true
              rw [hr1]; rfl
            rwa [e] at this
    clear hi
    rcases hb with b1 | ⟨b1, b2 | ⟨b2, b3, HH⟩⟩
    · go_enter Tryd.func5, Tryd.ntmps5
      go_wp2_with (first
        | (go_at_call 13; (with_reducible refine (H1.out _ (hr.kept k)).mono ?_); rintro e w1 ⟨rfl, k1⟩; replace k := k.trans k1)
        | (go_at_call 18; (with_reducible refine (P1.out _ (hr.kept k)).mono ?_); rintro e w1 ⟨rfl, k1⟩; replace k := k.trans k1)
        | (go_at_call 15; (with_reducible refine (H2.out _ (hr.kept k)).mono ?_); rintro e w1 ⟨rfl, k1⟩; replace k := k.trans k1)
        | (go_at_call 18; (with_reducible refine (P2.out _ (hr.kept k)).mono ?_); rintro e w1 ⟨rfl, k1⟩; replace k := k.trans k1)
        | (go_at_call 18; (with_reducible refine (P3.out _ (hr.kept k)).mono ?_); rintro e w1 ⟨rfl, k1⟩; replace k := k.trans k1)
        | (go_at_call 18; (with_reducible refine (HP.out _ (hr.kept k)).mono ?_); rintro e w1 ⟨rfl, k1⟩; replace k := k.trans k1)
        | (go_at_call 13; (with_reducible refine (H3.out _ (hr.kept k)).mono ?_); rintro e w1 ⟨rfl, k1⟩; replace k := k.trans k1)
        | (go_at_call 15; (with_reducible refine (H4.out _ (hr.kept k)).mono ?_); rintro e w1 ⟨rfl, k1⟩; replace k := k.trans k1)
        | (go_at_call 17; (with_reducible refine (HT.out _ (hr.kept k)).mono ?_); rintro e w3 ⟨rfl, k3⟩; replace k := k.trans k3))
      go_ret
      exact ⟨rfl, k⟩
    · go_enter Tryd.func5, Tryd.ntmps5
      go_wp2_with (first
        | (go_at_call 13; (with_reducible refine (H1.out _ (hr.kept k)).mono ?_); rintro e w1 ⟨rfl, k1⟩; replace k := k.trans k1)
        | (go_at_call 18; (with_reducible refine (P1.out _ (hr.kept k)).mono ?_); rintro e w1 ⟨rfl, k1⟩; replace k := k.trans k1)
        | (go_at_call 15; (with_reducible refine (H2.out _ (hr.kept k)).mono ?_); rintro e w1 ⟨rfl, k1⟩; replace k := k.trans k1)
        | (go_at_call 18; (with_reducible refine (P2.out _ (hr.kept k)).mono ?_); rintro e w1 ⟨rfl, k1⟩; replace k := k.trans k1)
        | (go_at_call 18; (with_reducible refine (P3.out _ (hr.kept k)).mono ?_); rintro e w1 ⟨rfl, k1⟩; replace k := k.trans k1)
        | (go_at_call 18; (with_reducible refine (HP.out _ (hr.kept k)).mono ?_); rintro e w1 ⟨rfl, k1⟩; replace k := k.trans k1)
        | (go_at_call 13; (with_reducible refine (H3.out _ (hr.kept k)).mono ?_); rintro e w1 ⟨rfl, k1⟩; replace k := k.trans k1)
        | (go_at_call 15; (with_reducible refine (H4.out _ (hr.kept k)).mono ?_); rintro e w1 ⟨rfl, k1⟩; replace k := k.trans k1)
        | (go_at_call 17; (with_reducible refine (HT.out _ (hr.kept k)).mono ?_); rintro e w3 ⟨rfl, k3⟩; replace k := k.trans k3))
      go_ret
      exact ⟨rfl, k⟩
    · have HH := Lib.hid HH
      go_enter Tryd.func5, Tryd.ntmps5
      go_wp2_with (first
        | (go_at_call 13; (with_reducible refine (H1.out _ (hr.kept k)).mono ?_); rintro e w1 ⟨rfl, k1⟩; replace k := k.trans k1)
        | (go_at_call 18; (with_reducible refine (P1.out _ (hr.kept k)).mono ?_); rintro e w1 ⟨rfl, k1⟩; replace k := k.trans k1)
        | (go_at_call 15; (with_reducible refine (H2.out _ (hr.kept k)).mono ?_); rintro e w1 ⟨rfl, k1⟩; replace k := k.trans k1)
        | (go_at_call 18; (with_reducible refine (P2.out _ (hr.kept k)).mono ?_); rintro e w1 ⟨rfl, k1⟩; replace k := k.trans k1)
        | (go_at_call 18; (with_reducible refine (P3.out _ (hr.kept k)).mono ?_); rintro e w1 ⟨rfl, k1⟩; replace k := k.trans k1)
        | (go_at_call 18; (with_reducible refine (HP.out _ (hr.kept k)).mono ?_); rintro e w1 ⟨rfl, k1⟩; replace k := k.trans k1)
        | (go_at_call 20; (with_reducible refine (HH.out _).mono ?_); rintro e w1 ⟨rfl, rfl⟩)
        | (go_at_call 13; (with_reducible refine (H3.out _ (hr.kept k)).mono ?_); rintro e w1 ⟨rfl, k1⟩; replace k := k.trans k1)
        | (go_at_call 15; (with_reducible refine (H4.out _ (hr.kept k)).mono ?_); rintro e w1 ⟨rfl, k1⟩; replace k := k.trans k1)
        | (go_at_call 17; (with_reducible refine (HT.out _ (hr.kept k)).mono ?_); rintro e w3 ⟨rfl, k3⟩; replace k := k.trans k3))
      go_ret
      exact ⟨rfl, k⟩
  · have he : c = 0 ∧ (h = 5 ∨ h = 24) := by rcases he with he | he; exact absurd he h0; exact he
    clear hi
    obtain ⟨rfl, rfl | rfl⟩ := he
    all_goals
      go_enter Tryd.func5, Tryd.ntmps5
      go_wp2_with (first
        | (go_at_call 13; (with_reducible refine (H1.out _ (hr.kept k)).mono ?_); rintro e w1 ⟨rfl, k1⟩; replace k := k.trans k1)
        | (go_at_call 18; (with_reducible refine (P1.out _ (hr.kept k)).mono ?_); rintro e w1 ⟨rfl, k1⟩; replace k := k.trans k1)
        | (go_at_call 15; (with_reducible refine (H2.out _ (hr.kept k)).mono ?_); rintro e w1 ⟨rfl, k1⟩; replace k := k.trans k1)
        | (go_at_call 18; (with_reducible refine (P2.out _ (hr.kept k)).mono ?_); rintro e w1 ⟨rfl, k1⟩; replace k := k.trans k1)
        | (go_at_call 18; (with_reducible refine (P3.out _ (hr.kept k)).mono ?_); rintro e w1 ⟨rfl, k1⟩; replace k := k.trans k1)
        | (go_at_call 18; (with_reducible refine (HP.out _ (hr.kept k)).mono ?_); rintro e w1 ⟨rfl, k1⟩; replace k := k.trans k1)
        | (go_at_call 17; (with_reducible refine (HT.out _ (hr.kept k)).mono ?_); rintro e w3 ⟨rfl, k3⟩; replace k := k.trans k3))
      go_ret
      exact ⟨rfl, k⟩
end Go.Proofs.YtakiecljoaebpaaDoor
