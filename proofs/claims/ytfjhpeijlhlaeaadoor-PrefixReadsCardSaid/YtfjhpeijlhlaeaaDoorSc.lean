
/-
  PrefixReads: the document's address, ParseIP, Parse, walked.
-/
import Derived.Test.YtfjhpeijlhlaeaaDoorSb
import Derived.Test.YtfjhpeijlhlaeaaDoorRh2
namespace Go.Proofs.YtfjhpeijlhlaeaaDoor
open Go.RowKit

theorem rr_lt (l : List UInt8) : (rr l).1 < 10000000000 := by
  by_cases h : (rr l).2 = 0
  · unfold rr at h ⊢
    split at h
    next hc => rw [if_pos hc]; simp
    next hc =>
      rw [if_neg hc]
      have h : dl l = 0 := h
      simp [h, numV]
  · exact num_lt (rr_some l h).2.1
theorem rr_le (l : List UInt8) : (rr l).2 ≤ l.length := by
  by_cases h : (rr l).2 = 0
  · omega
  · exact (rr_some l h).1
theorem adc_sep {m : Nat} (hm : m < 3) {s : List UInt8} (h : s = [] ∨ s.getD 0 0 ≠ 46) (x : Nat) (f : Bool) : adc (m + 1) s x f = none := by
  rw [adc, if_pos ⟨by omega, h⟩]
theorem adc_non {m : Nat} (hm : m < 3) {s : List UInt8} (h : (rr (s.drop 1)).2 = 0) (x : Nat) (f : Bool) : adc (m + 1) s x f = none := by
  rw [adc]
  split
  · rfl
  · rw [if_neg (show ¬ m = 3 by omega), if_pos h]
theorem adc_go {m : Nat} (hm : m < 3) {s : List UInt8} (h0 : s ≠ []) (h1 : s.getD 0 0 = 46) (h : (rr (s.drop 1)).2 ≠ 0) (x : Nat) (f : Bool) : adc (m + 1) s x f = adc m ((s.drop 1).drop (rr (s.drop 1)).2) (256 * x + (rr (s.drop 1)).1 % 256) (f && decide ((rr (s.drop 1)).1 ≤ 255)) := by
  rw [adc, if_neg (fun e => by rcases e.2 with e | e; exact h0 e; exact e h1), if_neg (show ¬ m = 3 by omega), if_neg h]
theorem adc_non0 {s : List UInt8} (h : (rr s).2 = 0) (x : Nat) (f : Bool) : adc 4 s x f = none := by
  rw [adc, if_neg (by omega), if_pos rfl, if_pos h]
theorem adc_go0 {s : List UInt8} (h : (rr s).2 ≠ 0) (x : Nat) (f : Bool) : adc 4 s x f = adc 3 (s.drop (rr s).2) (256 * x + (rr s).1 % 256) (f && decide ((rr s).1 ≤ 255)) := by
  rw [adc, if_neg (by omega), if_pos rfl, if_neg h]
/-- What the document's address answers. -/
def adv (l : List UInt8) : Nat × Nat × Bool :=
  match adc 4 l 0 true with
  | some (r, x, f) => (x, l.length - r.length, f)
  | none => (0, 0, false)
theorem adv_none {l : List UInt8} (h : adc 4 l 0 true = none) : adv l = (0, 0, false) := by unfold adv; rw [h]
theorem adv_some {l r : List UInt8} {x : Nat} {f : Bool} (h : adc 4 l 0 true = some (r, x, f)) : adv l = (x, l.length - r.length, f) := by unfold adv; rw [h]
set_option maxHeartbeats 4000000 in
theorem raddress_any (s : ByteArray) (hs : s.size ≤ 100000) (w : World) :
    Calls Tryd.prog 51 #[.string s] w fun e w' => e = .returned (.tuple #[.int .u32 ((adv s.data.toList).1 : Nat), .int .i64 ((adv s.data.toList).2.1 : Nat), .bool (adv s.data.toList).2.2]) ∧ w = w' := by
  have hI := fun p h w => str_at0 s p h w
  have hN := fun p hp w => rnumber_any s p hp hs w
  have hl : s.data.toList.length = s.size := by simp
  generalize s.data.toList = l at *
  go_enter Tryd.func51, Tryd.ntmps51
  go_wp2
  go_loop [5, 6, 7, 8] (fun at_ ip fi m => ∃ (k a x : Nat) (f : Bool), k ≤ 4 ∧ a ≤ s.size ∧ x < 256 ^ k ∧ at_ = .int .i64 a ∧ ip = .int .i64 x ∧ fi = .bool f ∧ m = .int .i64 k ∧ Hid (adc 4 l 0 true = adc (4 - k) (l.drop a) x f)) (fun _ _ _ m => 4 - (intOf m).toNat)
  case atStart => exact ⟨0, 0, 0, true, by omega, by omega, by decide, rfl, rfl, rfl, rfl, Lib.hid rfl⟩
  case round =>
    obtain ⟨k, a, x, f, hk, ha, hx, rfl, rfl, rfl, rfl, HI⟩ := hrel
    by_cases h4 : k = 4
    · subst h4
      have HE := Lib.hid (adv_some HI.out)
      have hx2 : x < 4294967296 := by omega
      have ea : l.length - (l.drop a).length = a := by rw [List.length_drop]; omega
      rw [ea] at HE
      clear hI hN HI hx
      go_wp2
      go_ret3
      exact ⟨by rw [HE.out]; go_num, rfl⟩
    by_cases h0 : k = 0
    · subst h0
      have HN := Lib.hid (hN a ha)
      have hlt := rr_lt (l.drop a)
      have hle := rr_le (l.drop a)
      rw [List.length_drop, hl] at hle
      by_cases hz : (rr (l.drop a)).2 = 0
      · have HE := Lib.hid (adv_none (HI.out.trans (adc_non0 hz x f)))
        rw [hz] at HN
        clear hI hN HI hx hle
        generalize (rr (l.drop a)).1 = n at HN hlt
        go_wp2_with (go_at_call 53; refine (HN.out _).mono ?_; rintro e w1 ⟨rfl, rfl⟩)
        go_ret3
        exact ⟨by rw [HE.out]; rfl, rfl⟩
      · have HE := HI.out.trans (adc_go0 hz x f)
        rw [List.drop_drop] at HE
        have HE := Lib.hid HE
        clear hI hN HI
        generalize (rr (l.drop a)).1 = n at HN hlt HE
        generalize (rr (l.drop a)).2 = j at HN hle HE hz
        have hj : ((j : Int) == 0) = false := by simp; omega
        by_cases h255 : 255 < n
        · have h6 : (255 : Int) < (n : Int) := by omega
          have hf : decide (n ≤ 255) = false := by simp; omega
          rw [hf] at HE
          rw [Bool.and_false] at HE
          have hmod : Int.tmod (n : Int) 256 = ((n % 256 : Nat) : Int) := rfl
          have hm2 := Nat.mod_lt n (show 256 > 0 by decide)
          generalize n % 256 = q at HE hmod hm2
          go_wp2_with (go_at_call 53; refine (HN.out _).mono ?_; rintro e w1 ⟨rfl, rfl⟩)
          go_round
          case rel => exact ⟨1, a + j, 256 * x + q, false, by omega, by omega, by omega, by go_num, by go_num, rfl, by go_num, Lib.hid HE.out⟩
          case measure => simp [intOf] <;> omega
        · have h6 : (n : Int) ≤ 255 := by omega
          have hf : decide (n ≤ 255) = true := by simp; omega
          rw [hf] at HE
          rw [Bool.and_true] at HE
          have hmod : Int.tmod (n : Int) 256 = ((n % 256 : Nat) : Int) := rfl
          have hm2 := Nat.mod_lt n (show 256 > 0 by decide)
          generalize n % 256 = q at HE hmod hm2
          go_wp2_with (go_at_call 53; refine (HN.out _).mono ?_; rintro e w1 ⟨rfl, rfl⟩)
          go_round
          case rel => exact ⟨1, a + j, 256 * x + q, f, by omega, by omega, by omega, by go_num, by go_num, rfl, by go_num, Lib.hid HE.out⟩
          case measure => simp [intOf] <;> omega
    · have hm : 4 - k = (3 - k) + 1 := by omega
      have hkp : (0 : Int) < (k : Int) := by omega
      rw [hm] at HI
      have hxb : x < 16777216 := by
        have : (256:Nat) ^ k ≤ 256 ^ 3 := Nat.pow_le_pow_right (by omega) (by omega)
        omega
      have hxn : 256 * x + 255 < 256 ^ (k + 1) := by rw [Nat.pow_succ]; omega
      by_cases hsz : a < s.size
      · have hi := hI a hsz
        have hne : l.drop a ≠ [] := fun e => by have := congrArg List.length e; rw [List.length_drop] at this; simp at this; omega
        have hsz2 : (a : Int) < (s.size : Int) := by omega
        by_cases h46 : (l.drop a).getD 0 0 = 46
        · rw [h46] at hi
          have hi : ∀ w, (Instr.index 9 (.string s) (.int .i64 (a : Int))).run Tryd.prog w = .ok (.int .u8 46) w := hi
          have HN := Lib.hid (hN (a + 1) (by omega))
          have ea : ((a + 1 : Nat) : Int) = (a : Int) + 1 := by omega
          rw [ea] at HN
          have hd : (l.drop a).drop 1 = l.drop (a + 1) := by rw [List.drop_drop]
          have hlt := rr_lt (l.drop (a + 1))
          have hle := rr_le (l.drop (a + 1))
          rw [List.length_drop, hl] at hle
          by_cases hz : (rr (l.drop (a + 1))).2 = 0
          · have HE := Lib.hid (adv_none (HI.out.trans (adc_non (by omega) (by rw [hd]; exact hz) x f)))
            rw [hz] at HN
            clear hI hN HI hx hle ea hd
            generalize (rr (l.drop (a + 1))).1 = n at HN hlt
            go_wp2_with (go_at_call 53; refine (HN.out _).mono ?_; rintro e w1 ⟨rfl, rfl⟩)
            go_ret3
            exact ⟨by rw [HE.out]; rfl, rfl⟩
          · have HE := HI.out.trans (adc_go (by omega) hne h46 (by rw [hd]; exact hz) x f)
            rw [hd, List.drop_drop, show 3 - k = 4 - (k + 1) by omega] at HE
            have HE := Lib.hid HE
            clear hI hN HI hd hne h46
            generalize (rr (l.drop (a + 1))).1 = n at HN hlt HE
            generalize (rr (l.drop (a + 1))).2 = j at HN hle HE hz
            have hj : ((j : Int) == 0) = false := by simp; omega
            by_cases h255 : 255 < n
            · have h6 : (255 : Int) < (n : Int) := by omega
              have hf : decide (n ≤ 255) = false := by simp; omega
              rw [hf] at HE
              rw [Bool.and_false] at HE
              have hmod : Int.tmod (n : Int) 256 = ((n % 256 : Nat) : Int) := rfl
              have hm2 := Nat.mod_lt n (show 256 > 0 by decide)
              generalize n % 256 = q at HE hmod hm2
              go_wp2_with (go_at_call 53; refine (HN.out _).mono ?_; rintro e w1 ⟨rfl, rfl⟩)
              go_round
              case rel => exact ⟨k + 1, a + 1 + j, 256 * x + q, false, by omega, by omega, by omega, by go_num, by go_num, rfl, by go_num, Lib.hid HE.out⟩
              case measure => simp [intOf] <;> omega
            · have h6 : (n : Int) ≤ 255 := by omega
              have hf : decide (n ≤ 255) = true := by simp; omega
              rw [hf] at HE
              rw [Bool.and_true] at HE
              have hmod : Int.tmod (n : Int) 256 = ((n % 256 : Nat) : Int) := rfl
              have hm2 := Nat.mod_lt n (show 256 > 0 by decide)
              generalize n % 256 = q at HE hmod hm2
              go_wp2_with (go_at_call 53; refine (HN.out _).mono ?_; rintro e w1 ⟨rfl, rfl⟩)
              go_round
              case rel => exact ⟨k + 1, a + 1 + j, 256 * x + q, f, by omega, by omega, by omega, by go_num, by go_num, rfl, by go_num, Lib.hid HE.out⟩
              case measure => simp [intOf] <;> omega
        · have HE := Lib.hid (adv_none (HI.out.trans (adc_sep (by omega) (.inr h46) x f)))
          have h3 : (((((l.drop a).getD 0 0).toNat : Nat) : Int) == 46) = false := by
            have : ((l.drop a).getD 0 0).toNat ≠ 46 := fun e => h46 (UInt8.toNat_inj.1 (by rw [e]; rfl))
            simp only [beq_eq_false_iff_ne]
            omega
          have h3' : (((((l.drop a).getD 0 0).toNat : Nat) : Int) != 46) = true := by simp only [bne, h3]; rfl
          clear hI hN HI hx h46 hne
          generalize (l.drop a).getD 0 0 = c at hi h3 h3'
          go_wp2
          go_ret3
          exact ⟨by rw [HE.out]; rfl, rfl⟩
      · have HE := Lib.hid (adv_none (HI.out.trans (adc_sep (by omega) (.inl (List.drop_eq_nil_of_le (by omega))) x f)))
        have hsz2 : (s.size : Int) ≤ (a : Int) := by omega
        clear hI hN HI hx
        go_wp2
        go_ret3
        exact ⟨by rw [HE.out]; rfl, rfl⟩
theorem adv_spec (l : List UInt8) : (adc 4 l 0 true = none ∧ adv l = (0, 0, false)) ∨ ∃ (r : List UInt8) (x : Nat) (f : Bool), adc 4 l 0 true = some (r, x, f) ∧ r.length < l.length ∧ l.drop (l.length - r.length) = r ∧ adv l = (x, l.length - r.length, f) ∧ x < 4294967296 := by
  cases h : adc 4 l 0 true with
  | none => exact .inl ⟨rfl, adv_none h⟩
  | some z =>
    obtain ⟨a, b, c, d, r, va, vb, vc, vd, h4, hc⟩ := four_of_adc h
    have e := h4.adc hc
    rw [h] at e
    refine .inr ⟨r, ipv va vb vc vd, fit va vb vc vd, by rw [← e], ?_, ?_, adv_some (by rw [h, e]), ?_⟩
    · rw [h4.eq]; simp; omega
    · have : l = (a ++ 46 :: (b ++ 46 :: (c ++ 46 :: d))) ++ r := by rw [h4.eq]; simp
      rw [this, List.length_append, Nat.add_sub_cancel, List.drop_left]
    · unfold ipv; omega
set_option maxHeartbeats 1000000 in
theorem rparseIP_any (s : ByteArray) (hs : s.size ≤ 100000) (w : World) :
    Calls Tryd.prog 30 #[.string s] w fun e w' => e = .returned (.tuple #[.int .u32 ((rparseIP s.data.toList).1 : Nat), .int .i64 (rparseIP s.data.toList).2]) ∧ w = w' := by
  have HA := raddress_any s hs
  have hl : s.data.toList.length = s.size := by simp
  have hD := rparseIP.eq_1 s.data.toList
  have hsp := adv_spec s.data.toList
  generalize s.data.toList = l at *
  rcases hsp with ⟨h, e⟩ | ⟨r, x, f, h, hr, _, e, hx⟩
  · rw [e] at HA
    rw [h] at hD
    have HD := Lib.hid (show rparseIP l = (0, 5) from hD)
    have HA := Lib.hid HA
    clear hD h e
    go_enter Tryd.func30, Tryd.ntmps30
    go_wp2_with (go_at_call 51; refine (HA.out _).mono ?_; rintro e w1 ⟨rfl, rfl⟩)
    go_ret2
    exact ⟨by rw [HD.out]; rfl, rfl⟩
  · rw [e] at HA
    rw [h] at hD
    have hD : rparseIP l = if r ≠ [] then (0, 5) else if f = false then (0, 24) else (x, 0) := hD
    have h0 : (((l.length - r.length : Nat) : Int) == 0) = false := by simp; omega
    clear h e
    by_cases hn : r = []
    · subst hn
      rw [if_neg (by simp)] at hD
      rw [List.length_nil, Nat.sub_zero, hl] at HA h0
      cases f with
      | false =>
        have HD := Lib.hid (show rparseIP l = (0, 24) from hD)
        have HA := Lib.hid HA
        clear hD hr
        go_enter Tryd.func30, Tryd.ntmps30
        go_wp2_with (go_at_call 51; refine (HA.out _).mono ?_; rintro e w1 ⟨rfl, rfl⟩)
        go_ret2
        exact ⟨by rw [HD.out]; rfl, rfl⟩
      | true =>
        have HD := Lib.hid (show rparseIP l = (x, 0) from hD)
        have HA := Lib.hid HA
        clear hD hr
        go_enter Tryd.func30, Tryd.ntmps30
        go_wp2_with (go_at_call 51; refine (HA.out _).mono ?_; rintro e w1 ⟨rfl, rfl⟩)
        go_ret2
        exact ⟨by rw [HD.out]; rfl, rfl⟩
    · rw [if_pos hn] at hD
      have hp := List.length_pos_iff.2 hn
      have hlt : ((l.length - r.length : Nat) : Int) < (s.size : Int) := by omega
      generalize l.length - r.length = m at HA h0 hlt
      have HD := Lib.hid hD
      have HA := Lib.hid HA
      clear hD hr hn hp
      go_enter Tryd.func30, Tryd.ntmps30
      go_wp2_with (go_at_call 51; refine (HA.out _).mono ?_; rintro e w1 ⟨rfl, rfl⟩)
      go_ret2
      exact ⟨by rw [HD.out]; rfl, rfl⟩
end Go.Proofs.YtfjhpeijlhlaeaaDoor
