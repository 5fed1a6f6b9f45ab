
/-
  The chapter's rows; a row's contract at closed texts; the document's Short, Kind, Text, Dotted.
-/
import Derived.Test.YtakiecljoaebpaaDoorNc
namespace Go.Proofs.YtakiecljoaebpaaDoor
open Go.RowKit

theorem parse_closed (l : List UInt8) (v : Nat × Nat) (h : parse l = v) (hl : l.length ≤ 100000) (w : World) (hr : Rdy2 w) :
    Calls Tryd.prog 18 #[.string ⟨l.toArray⟩] w fun e w' => e = .returned (.tuple #[.int .u32 (v.1 : Nat), .int .i64 (v.2 : Nat)]) ∧ Kept Nothing w w' := by
  subst h; exact parse_any l hl w hr
theorem tells_any (w : World) (hr : Rdy2 w) : Calls Tryd.prog 17 #[] w fun e w' => e = .returned (.bool true) ∧ Kept Nothing w w' := by
  have H1 := Lib.hid (parse_closed [49, 46, 49, 48] (65546, 0) (by decide) (by decide))
  have H2 := Lib.hid (parse_closed [54, 53, 53, 52, 54] (65546, 0) (by decide) (by decide))
  have H3 := Lib.hid (parse_closed [54, 53, 53, 51, 54, 46, 48] (0, 24) (by decide) (by decide))
  have H4 := Lib.hid (parse_closed [52, 50, 57, 52, 57, 54, 55, 50, 57, 54] (0, 24) (by decide) (by decide))
  have H5 := Lib.hid (parse_closed [49, 46] (0, 5) (by decide) (by decide))
  have t1 : True := trivial
  have t2 : True := trivial
  have t3 : True := trivial
  have t4 : True := trivial
  have t5 : True := trivial
  go_enter Tryd.func17, Tryd.ntmps17
  go_wp2_with (first
    | (go_at_call 18; have _t := t1; refine (H1.out _ hr).mono ?_; rintro e w1 ⟨rfl, k1⟩; clear t1)
    | (go_at_call 18; have _t := t2; refine (H2.out _ (hr.kept k1)).mono ?_; rintro e w2 ⟨rfl, k2⟩; replace k2 := k1.trans k2; clear t2)
    | (go_at_call 18; have _t := t3; refine (H3.out _ (hr.kept k2)).mono ?_; rintro e w3 ⟨rfl, k3⟩; replace k3 := k2.trans k3; clear t3)
    | (go_at_call 18; have _t := t4; refine (H4.out _ (hr.kept k3)).mono ?_; rintro e w4 ⟨rfl, k4⟩; replace k4 := k3.trans k4; clear t4)
    | (go_at_call 18; have _t := t5; refine (H5.out _ (hr.kept k4)).mono ?_; rintro e w5 ⟨rfl, k5⟩; replace k5 := k4.trans k5; clear t5)
    | (go_at_call 9; refine (short_any 65546 (by decide) _).mono ?_; rintro e w6 ⟨rfl, rfl⟩))
  go_ret
  exact ⟨rfl, k5⟩
theorem rshort_any (n : Nat) (hn : n < 4294967296) (w : World) :
    Calls Tryd.prog 10 #[.int .u32 (n : Int)] w fun e w' => e = .returned (.int .u16 (short n : Nat)) ∧ w = w' := by
  by_cases h : 65535 < n
  · have hi : (65535 : Int) < (n : Int) := by omega
    have hS := Lib.hid (show short n = 23456 from if_pos h)
    go_enter Tryd.func10, Tryd.ntmps10
    go_wp2
    go_ret
    exact ⟨by rw [hS.out]; rfl, rfl⟩
  · have hi : (n : Int) ≤ 65535 := by omega
    have hS := Lib.hid (show short n = n from if_neg h)
    go_enter Tryd.func10, Tryd.ntmps10
    go_wp2
    go_ret
    exact ⟨by rw [hS.out]; exact ret_int (by omega), rfl⟩

theorem src_new (w : World) (t : TypeId) (cs : Array Value) (size m : Nat) (hm : cs.size = m * size) (h1 : ∀ u ∈ cs.toList, u.oneCell' = true) : Src (w.alloc (.cells cs t)) size (some ⟨w.heap.size, 0, none⟩) m cs.toList :=
  ⟨by simpa using hm, (fun h => by cases h), fun a ha j u hu => by
    injection ha with ha
    subst ha
    rw [add_none, Nat.zero_add, (Blk.fresh w t cs).cell, ← hu, Array.getElem?_toList], h1⟩
theorem by_new (w : World) (l : List UInt8) (hm : l.length ≤ maxLen) : By (w.alloc (.cells (bys l).toArray 5)) (.slice (some ⟨w.heap.size, 0, none⟩) l.length l.length) l :=
  ⟨_, _, rfl, Nat.le_refl _, hm, by
    have := src_new w 5 (bys l).toArray 1 l.length (by simp [length_bys]) (fun u hu => by
      unfold bys at hu
      obtain ⟨b, _, rfl⟩ := List.mem_map.1 hu
      rfl)
    exact this⟩
theorem conv_str {w : World} {v : Value} {l : List UInt8} (h : By w v l) : (convert 50 9 v).run Tryd.prog w = .ok (.string ⟨l.toArray⟩) w := by
  obtain ⟨A, c, rfl, _, _⟩ := h.form
  have hs := h.src
  rw [run_convert_bytes_string w _ _ 5 A l.length c Tryd.underlying50 Tryd.underlying5 Tryd.underlying9]
  cases A with
  | none =>
    obtain rfl : l = [] := List.eq_nil_of_length_eq_zero (hs.2.1 rfl)
    rfl
  | some a =>
    have hl := run_loadCells_list (P := Tryd.prog) w a (bys l) (fun j u hu => hs.2.2.1 a rfl j u hu)
    rw [length_bys] at hl
    rw [run_bytesToString w a l.length c (l.map fun b => (b.toNat : Int)) (by rw [hl]; simp [bys, by8, Function.comp_def]), foldl_push_byteCells]
    simp
set_option maxHeartbeats 1000000 in
theorem rtext_any (n : Nat) (hn : n < 4294967296) (w : World) :
    Calls Tryd.prog 14 #[.int .u32 (n : Int)] w fun e w' => e = .returned (.string ⟨(Lib.decDigits n).toArray⟩) ∧ Kept Nothing w w' := by
  go_enter Tryd.func14, Tryd.ntmps14
  go_wp2
  go_loopw [0, 3] (fun v s wr => ∃ (m : Nat) (t : List UInt8), m < 4294967296 ∧ v = .int .u32 m ∧ s = .string ⟨t.toArray⟩ ∧ Hid (Lib.decDigits m ++ t = Lib.decDigits n) ∧ t.length ≤ 10 ∧ Kept Nothing w wr) (fun v _ _ => (intOf v).toNat)
  case atStart => exact ⟨n, [], hn, rfl, rfl, Lib.hid (by simp), by simp, Kept.refl _ w⟩
  case round =>
    obtain ⟨m, t, hm, rfl, rfl, HD, ht, hkw⟩ := hrel
    have hc : (UInt8.ofNat (48 + m % 10)).toNat = 48 + m % 10 := dg_nat _ (by omega)
    have hy := conv_str (by_new wr [UInt8.ofNat (48 + m % 10)] (by simp [maxLen]))
    have e1 : (bys [UInt8.ofNat (48 + m % 10)]).toArray = #[.int .u8 (48 + (m : Int) % 10)] := by
      have : bys [UInt8.ofNat (48 + m % 10)] = [.int .u8 (48 + (m : Int) % 10)] := by
        unfold bys by8
        rw [List.map_cons, List.map_nil, hc]
        congr 2
      rw [this]
    rw [e1] at hy
    have hadd := add_run [UInt8.ofNat (48 + m % 10)] t (by simp) (by omega)
    have kk := hkw.alloc (.cells #[.int .u8 (48 + (m : Int) % 10)] 5)
    have HL := Lib.hid (dec_len32 n hn)
    simp only [List.length_cons, List.length_nil] at hy
    generalize UInt8.ofNat (48 + m % 10) = c0 at hy hadd hc
    clear e1
    by_cases h10 : m < 10
    · have HR := Lib.hid (show c0 :: t = Lib.decDigits n by
        have e2 : c0 = UInt8.ofNat (48 + m) := by
          rw [← UInt8.toNat_inj, hc, dg_nat _ (by omega)]; omega
        have := HD.out
        rw [dec_small h10] at this
        rw [e2]
        exact this)
      have hz : ((m : Int) / 10 == 0) = true := by simp; omega
      have hz2 : (m : Int) / 10 = 0 := by omega
      clear hc
      go_wp2
      go_ret
      exact ⟨by rw [← HR.out]; rfl, kk⟩
    · have HR := Lib.hid (show Lib.decDigits (m / 10) ++ c0 :: t = Lib.decDigits n by
        have e2 : c0 = UInt8.ofNat (48 + m % 10) := by
          rw [← UInt8.toNat_inj, hc, dg_nat _ (by omega)]
        have := HD.out
        rw [dec_step h10] at this
        rw [e2]
        simpa using this)
      have hz : ((m : Int) / 10 == 0) = false := by simp; omega
      have hlt : t.length + 1 ≤ 10 := by
        have h1 := congrArg List.length HR.out
        have h2 := HL.out
        have h3 := List.length_pos_iff.2 (dec_ne (m / 10))
        simp at h1
        omega
      clear hc
      go_wp2
      go_roundw
      case rel => exact ⟨m / 10, c0 :: t, by omega, by go_num, rfl, HR, by simpa using hlt, kk⟩
      case measure => simp [intOf]; omega
theorem rdotted_any (n : Nat) (hn : n < 4294967296) (w : World) :
    Calls Tryd.prog 16 #[.int .u32 (n : Int)] w fun e w' => e = .returned (.string ⟨(dot n).toArray⟩) ∧ Kept Nothing w w' := by
  by_cases h : 65535 < n
  · have hi : (65535 : Int) < (n : Int) := by omega
    have hS := Lib.hid (show dot n = Lib.decDigits (n / 65536) ++ 46 :: Lib.decDigits (n % 65536) from if_pos h)
    have ha : n / 65536 < 4294967296 := by omega
    have hb : n % 65536 < 4294967296 := by omega
    have ea : (n : Int) / 65536 = ((n / 65536 : Nat) : Int) := by omega
    have eb : (n : Int) % 65536 = ((n % 65536 : Nat) : Int) := by omega
    generalize n / 65536 = a at hS ha ea
    generalize n % 65536 = b at hS hb eb
    have s1 := add_run (Lib.decDigits a) [46] (by have := dec_len32 a ha; omega) (by simp)
    have s2 := add_run (Lib.decDigits a ++ [46]) (Lib.decDigits b) (by have := dec_len32 a ha; simp; omega) (by have := dec_len32 b hb; omega)
    have tok : True := trivial
    clear h
    go_enter Tryd.func16, Tryd.ntmps16
    go_wp2_with (first | (go_at_call 14; have _t := tok; refine (rtext_any a ha _).mono ?_; rintro e w1 ⟨rfl, hk1⟩; clear tok) | (go_at_call 14; refine (rtext_any b hb _).mono ?_; rintro e w2 ⟨rfl, hk2⟩))
    go_ret
    exact ⟨by rw [hS.out]; simp, hk1.trans hk2⟩
  · have hi : (n : Int) ≤ 65535 := by omega
    have hS := Lib.hid (show dot n = Lib.decDigits n from if_neg h)
    go_enter Tryd.func16, Tryd.ntmps16
    go_wp2_with (go_at_call 14; refine (rtext_any n hn _).mono ?_; rintro e w1 ⟨rfl, hk⟩)
    go_ret
    exact ⟨by rw [hS.out]; rfl, hk⟩
end Go.Proofs.YtakiecljoaebpaaDoor
