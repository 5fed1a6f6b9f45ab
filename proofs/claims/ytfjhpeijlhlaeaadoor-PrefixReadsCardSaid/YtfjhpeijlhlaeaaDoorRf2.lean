
/-
  The document's digits, IPText, Text, Bit; the law's sign.
-/
import Derived.Test.YtfjhpeijlhlaeaaDoorRe2
namespace Go.Proofs.YtfjhpeijlhlaeaaDoor
open Go.RowKit

theorem dec_step (m : Nat) (h : ¬ m < 10) : Lib.decDigits m = Lib.decDigits (m / 10) ++ [UInt8.ofNat (48 + m % 10)] := by
  rw [Lib.decDigits, dif_neg h]
set_option maxHeartbeats 1000000 in
theorem rdigits_any (n : Nat) (hn : n < 1000) (w : World) :
    Calls Tryd.prog 40 #[.int .i64 (n : Int)] w fun e w' => e = .returned (.string ⟨(Lib.decDigits n).toArray⟩) ∧ Kept Nothing w w' := by
  go_enter Tryd.func40, Tryd.ntmps40
  go_wp2
  go_loopw [0, 3] (fun v s wr => ∃ (m : Nat) (t : List UInt8), m < 1000 ∧ v = .int .i64 m ∧ s = .string ⟨t.toArray⟩ ∧ Hid (Lib.decDigits m ++ t = Lib.decDigits n) ∧ t.length ≤ 3 ∧ Kept Nothing w wr) (fun v _ _ => (intOf v).toNat)
  case atStart => exact ⟨n, [], hn, rfl, rfl, Lib.hid (by simp), by simp, Kept.refl _ w⟩
  case round =>
    obtain ⟨m, t, hm, rfl, rfl, HD, ht, hkw⟩ := hrel
    have hc : (UInt8.ofNat (48 + m % 10)).toNat = 48 + m % 10 := ofNat_lt _ (by omega)
    have hy := conv_str (by_new wr [UInt8.ofNat (48 + m % 10)] (by simp [maxLen]))
    have e1 : (bys [UInt8.ofNat (48 + m % 10)]).toArray = #[.int .u8 (48 + (m : Int) % 10)] := by
      have : bys [UInt8.ofNat (48 + m % 10)] = [.int .u8 (48 + (m : Int) % 10)] := by
        unfold bys by8
        rw [List.map_cons, List.map_nil, hc]
        congr 2
      rw [this]
    rw [e1] at hy
    have hadd := add_run [UInt8.ofNat (48 + m % 10)] t (by simp) (by omega)
    have kk := hkw.alloc (.cells #[.int .u8 (48 + (m : Int) % 10)] 5)
    have HL := Lib.hid (dig_len n hn)
    simp only [List.length_cons, List.length_nil] at hy
    generalize UInt8.ofNat (48 + m % 10) = c0 at hy hadd hc
    clear e1
    by_cases h10 : m < 10
    · have HR := Lib.hid (show c0 :: t = Lib.decDigits n by
        have e2 : c0 = UInt8.ofNat (48 + m) := by
          rw [← UInt8.toNat_inj, hc, ofNat_lt _ (by omega)]; omega
        have := HD.out
        rw [Lib.decDigits_one h10] at this
        rw [e2]
        exact this)
      have hz : ((m : Int) / 10 == 0) = true := by simp; omega
      have hz2 : (m : Int) / 10 = 0 := by omega
      clear hc
      go_wp2
      go_ret
      exact ⟨by rw [← HR.out]; rfl, kk⟩
    · have HR := Lib.hid (show Lib.decDigits (m / 10) ++ c0 :: t = Lib.decDigits n by
        have e2 : c0 = UInt8.ofNat (48 + m % 10) := by
          rw [← UInt8.toNat_inj, hc, ofNat_lt _ (by omega)]
        have := HD.out
        rw [dec_step m h10] at this
        rw [e2]
        simpa using this)
      have hz : ((m : Int) / 10 == 0) = false := by simp; omega
      have hlt : t.length + 1 ≤ 3 := by
        have h1 := congrArg List.length HR.out
        have h2 := HL.out
        have h3 : 0 < (Lib.decDigits (m / 10)).length := by
          rw [dd_eq _ (by omega)]
          unfold dd
          split; simp; split; simp; simp
        simp at h1
        omega
      clear hc
      go_wp2
      go_roundw
      case rel => exact ⟨m / 10, c0 :: t, by omega, by go_num, rfl, HR, by simpa using hlt, kk⟩
      case measure => simp [intOf]; omega
end Go.Proofs.YtfjhpeijlhlaeaaDoor
