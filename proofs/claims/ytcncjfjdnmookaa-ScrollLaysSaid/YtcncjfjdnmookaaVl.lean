/-
  What the calls of the document's own writer (package consulateref01) do: Lay.
-/
import Derived.Test.YtcncjfjdnmookaaVs
import Derived.Deep.RegionLaw
import Derived.Deep.DeepCutAuto
import Derived.Deep.CutBlock
import Derived.Handy
namespace Go.Proofs.Ytcncjfjdnmookaa
open Go.RowKit

theorem be_take (n wide i : Nat) (h : i < wide) : (be n wide).take (i + 1) = (be n wide).take i ++ [UInt8.ofNat (n / 256 ^ (wide - 1 - i))] := by
  rw [List.take_succ_eq_append_getElem (by simp [be, h])]
  simp [be]
theorem length_be (n wide : Nat) : (be n wide).length = wide := by simp [be]


set_option maxHeartbeats 1600000 in
theorem vr_lay1 (q : Nat) (F : Nat → Prop) (s : WS) (n : Nat) (w : World) (h : Vr w F q s) (he : s.e = 0) (hn : n < 4294967296) (hl : s.l.length + 4 ≤ 1099511627776) :
    Calls Try.prog 20 #[.pointer (some ⟨q, 0, none⟩), .int .i64 (n : Int), .int .i64 1] w fun r w' => ∃ F', r = .returned (.tuple #[]) ∧ Vr w' F' q (s.lay (be n 1)) ∧ Kept F w w' ∧ Sub w F' F := by
  have HV := Lib.hid h
  obtain ⟨bv, hv, hFF, hb, h1, h2, hok⟩ := h
  obtain ⟨⟨-, -, c2⟩, -⟩ := v_cells hb
  clear hb h1 h2 hFF hok
  have hne : (s.e != 0) = false := by simpa using he
  have HLE : Hid (∀ b, s.lay b = { s with l := s.l ++ b }) := fun b => if_pos he
  have HE := Lib.hid he
  clear he
  go_enter Try.func20, Try.ntmps20
  go_wp2_with fail
  go_rounds 1
  go_loopw [6, 8] (fun y i wr => ∃ (j : Nat) (F' : Nat → Prop), i = .int .i64 (j : Int) ∧ j ≤ 1 ∧ y = .int .i64 ((256 ^ (1 - 1 - j) : Nat) : Int) ∧ Vr wr F' q (s.lay ((be n 1).take j)) ∧ Kept F w wr ∧ Sub w F' F) (fun _ i _ => 1 - (intOf i).toNat)
  case atStart => exact ⟨0, F, rfl, Nat.zero_le _, rfl, by rw [List.take_zero, WS.lay_nil]; exact HV.out, Kept.refl _ _, Sub.refl _ _⟩
  case round =>
    obtain ⟨j, F', rfl, hj, rfl, hvr, hk, hs⟩ := hrel
    have K1 := Lib.hid hk
    have S1 := Lib.hid hs
    have V1 := Lib.hid hvr
    by_cases hlt : j < 1
    · have HT := Lib.hid (be_take n 1 j hlt)
      have hd0 : 0 < 256 ^ (1 - 1 - j) := Nat.pow_pos (by decide)
      have hd1 : 256 ^ (1 - 1 - j) ≤ 16777216 := Nat.le_trans (Nat.pow_le_pow_right (by decide) (show 1 - 1 - j ≤ 3 by omega)) (by decide)
      have HD : Hid (max (256 ^ (1 - 1 - j) / 256) 1 = 256 ^ (1 - 1 - (j + 1))) := by
        show _ = _
        rcases Nat.lt_or_ge (j + 1) 1 with h' | h'
        · rw [show 1 - 1 - j = (1 - 1 - (j + 1)) + 1 by omega, Nat.pow_succ, Nat.mul_div_cancel _ (by decide)]
          exact Nat.max_eq_left (Nat.pow_pos (by decide))
        · rw [show 1 - 1 - j = 0 by omega, show 1 - 1 - (j + 1) = 0 by omega]; decide
      generalize 256 ^ (1 - 1 - j) = d at *
      have hok1 := hvr.ok
      rw [HLE.out] at hvr hok1
      obtain ⟨bv, hv, hFF, hb, h1, h2, _⟩ := hvr
      obtain ⟨⟨c0, -, -⟩, f0, -, -⟩ := v_cells hb
      have hlen : (s.l ++ (be n 1).take j).length = s.l.length + j := by rw [List.length_append, List.length_take, length_be]; omega
      simp only at h1 hb
      have hm0 := own_form h1
      obtain ⟨A0, cc0, rfl, _, _⟩ := hm0
      have HB := Lib.hid hb
      have H1 := Lib.hid h1
      have H2 := Lib.hid h2
      have HFF := Lib.hid hFF
      have plt := hb.lt
      have HOK : Hid (WS.small { s with l := s.l ++ (be n 1).take j ++ [UInt8.ofNat (n / d)] }) := by
        refine ⟨?_, hok1.2⟩
        · simp only [List.length_append, List.length_take, length_be, List.length_cons, List.length_nil]; omega
      have hq0 : (0 : Int) ≤ (n : Int) / (d : Int) := Int.ediv_nonneg (by omega) (by omega)
      have HV8 : Hid ((.int .u8 ((n : Int) / (d : Int) % 256) : Value) = by8 (UInt8.ofNat (n / d))) := by8_of (by rw [Int.natCast_emod, Int.natCast_ediv]; rfl)
      have hdI : (0 : Int) < (d : Int) := by omega
      have hdn : ((d : Int) == 0) = false := by simp; omega
      obtain ⟨i1, hi, hz0, hz1, hz2⟩ := info_parts u8_info
      generalize hLL : s.l ++ (be n 1).take j = L at *
      have hLb : L.length ≤ 1099511627775 := by omega
      have HLN : Hid (L.length + 1 ≤ maxLen ∧ (L.length + 1) * 1 ≤ 140737488355328) := ⟨by unfold maxLen; omega, by omega⟩
      have HLL := Lib.hid hLL
      have HLEN := Lib.hid hlen
      clear hb h1 h2 hFF hk hs hok1 hlen hLL
      have hq1 : (n : Int) / (d : Int) ≤ 4294967295 := by rw [← Int.natCast_ediv]; have := Nat.div_le_self n d; omega
      have hdz : ¬ d = 0 := by omega
      have wq : IntKind.i64.wrap ((n : Int) / (d : Int)) = (n : Int) / (d : Int) := IntWalk.i64_in _ (by omega)
      have w8 : IntKind.u8.wrap ((n : Int) / (d : Int) % 256) = (n : Int) / (d : Int) % 256 := by rw [IntKind.wrap_u8']; omega
      have td : (n : Int).tdiv (d : Int) = (n : Int) / (d : Int) := Int.tdiv_eq_ediv_of_nonneg (by omega)
      have tm : ((n : Int) / (d : Int)).tmod 256 = (n : Int) / (d : Int) % 256 := Int.tmod_eq_emod_of_nonneg hq0
      go_wp2_with fail
      go_region_law (first | (refine step_app _ (by rfl) _ _ 22 (by rfl) 0 5 i1 _ 1 1 Try.underlying22 hi hz0 hz1 hz2 rfl (by decide) (.slice A0 L.length cc0) L.length (bys L) (by rfl) (own_kept H1.out (((Kept.refl Nothing wr).alloc _).drew) (fun _ _ x => x)) (some ⟨wr.heap.size, 0, none⟩) 1 1 [.int .u8 ((n : Int) / (d : Int) % 256)] (by rfl) (cells_src (cs := #[.int .u8 ((n : Int) / (d : Int) % 256)]) (Blk.fresh wr 5 #[.int .u8 ((n : Int) / (d : Int) % 256)]).drew rfl (by simp [Value.oneCell'])) HLN.out.1 HLN.out.2 (Nat.zero_le _) ?_; intro v' w2 ho hg hat; (have HPE := Lib.hid (Vr.put0 (s := { s with l := L }) (l := L ++ [UInt8.ofNat (n / d)]) HB.out H1.out H2.out HOK.out (by simp) (by rw [HV8.out, bys_append]; rfl) ho hg hat)); (obtain ⟨⟨x0, -, -⟩, y0, -, -⟩ := v_cells HPE.out.1); (obtain ⟨A2, cc2, rfl, _, _⟩ := own_form ho); clear ho hg hat))
      all_goals
        clear td tm wq w8 hq0 hq1
        go_wp2
      all_goals
        obtain ⟨F2, a1, a2, a3⟩ := HPE.out.2
        rw [← HFF.out] at a2 a3
        refine ⟨⟨j + 1, F2, by go_num, by omega, ?_, ?_, K1.out.sub S1.out a2, S1.out.trans a3 K1.out.size⟩, by simp [intOf]; omega⟩
        · rw [← HD.out]
          congr 1
          split <;> omega
        · rw [HLE.out, HT.out, ← List.append_assoc, HLL.out]
          exact a1
    · obtain rfl : j = 1 := by omega
      have V2 := V1.out
      rw [List.take_of_length_le (by rw [length_be]; exact Nat.le_refl _)] at V2
      have V3 := Lib.hid V2
      clear V2 hvr hk hs
      go_wp2
      first | go_end0 | refine bodyPost_ret (results_none rfl _ _ _) rfl ?_
      exact ⟨F', rfl, V3.out, K1.out, S1.out⟩

set_option maxHeartbeats 1600000 in
theorem vr_lay2 (q : Nat) (F : Nat → Prop) (s : WS) (n : Nat) (w : World) (h : Vr w F q s) (he : s.e = 0) (hn : n < 4294967296) (hl : s.l.length + 4 ≤ 1099511627776) :
    Calls Try.prog 20 #[.pointer (some ⟨q, 0, none⟩), .int .i64 (n : Int), .int .i64 2] w fun r w' => ∃ F', r = .returned (.tuple #[]) ∧ Vr w' F' q (s.lay (be n 2)) ∧ Kept F w w' ∧ Sub w F' F := by
  have HV := Lib.hid h
  obtain ⟨bv, hv, hFF, hb, h1, h2, hok⟩ := h
  obtain ⟨⟨-, -, c2⟩, -⟩ := v_cells hb
  clear hb h1 h2 hFF hok
  have hne : (s.e != 0) = false := by simpa using he
  have HLE : Hid (∀ b, s.lay b = { s with l := s.l ++ b }) := fun b => if_pos he
  have HE := Lib.hid he
  clear he
  go_enter Try.func20, Try.ntmps20
  go_wp2_with fail
  go_rounds 2
  go_loopw [6, 8] (fun y i wr => ∃ (j : Nat) (F' : Nat → Prop), i = .int .i64 (j : Int) ∧ j ≤ 2 ∧ y = .int .i64 ((256 ^ (2 - 1 - j) : Nat) : Int) ∧ Vr wr F' q (s.lay ((be n 2).take j)) ∧ Kept F w wr ∧ Sub w F' F) (fun _ i _ => 2 - (intOf i).toNat)
  case atStart => exact ⟨0, F, rfl, Nat.zero_le _, rfl, by rw [List.take_zero, WS.lay_nil]; exact HV.out, Kept.refl _ _, Sub.refl _ _⟩
  case round =>
    obtain ⟨j, F', rfl, hj, rfl, hvr, hk, hs⟩ := hrel
    have K1 := Lib.hid hk
    have S1 := Lib.hid hs
    have V1 := Lib.hid hvr
    by_cases hlt : j < 2
    · have HT := Lib.hid (be_take n 2 j hlt)
      have hd0 : 0 < 256 ^ (2 - 1 - j) := Nat.pow_pos (by decide)
      have hd1 : 256 ^ (2 - 1 - j) ≤ 16777216 := Nat.le_trans (Nat.pow_le_pow_right (by decide) (show 2 - 1 - j ≤ 3 by omega)) (by decide)
      have HD : Hid (max (256 ^ (2 - 1 - j) / 256) 1 = 256 ^ (2 - 1 - (j + 1))) := by
        show _ = _
        rcases Nat.lt_or_ge (j + 1) 2 with h' | h'
        · rw [show 2 - 1 - j = (2 - 1 - (j + 1)) + 1 by omega, Nat.pow_succ, Nat.mul_div_cancel _ (by decide)]
          exact Nat.max_eq_left (Nat.pow_pos (by decide))
        · rw [show 2 - 1 - j = 0 by omega, show 2 - 1 - (j + 1) = 0 by omega]; decide
      generalize 256 ^ (2 - 1 - j) = d at *
      have hok1 := hvr.ok
      rw [HLE.out] at hvr hok1
      obtain ⟨bv, hv, hFF, hb, h1, h2, _⟩ := hvr
      obtain ⟨⟨c0, -, -⟩, f0, -, -⟩ := v_cells hb
      have hlen : (s.l ++ (be n 2).take j).length = s.l.length + j := by rw [List.length_append, List.length_take, length_be]; omega
      simp only at h1 hb
      have hm0 := own_form h1
      obtain ⟨A0, cc0, rfl, _, _⟩ := hm0
      have HB := Lib.hid hb
      have H1 := Lib.hid h1
      have H2 := Lib.hid h2
      have HFF := Lib.hid hFF
      have plt := hb.lt
      have HOK : Hid (WS.small { s with l := s.l ++ (be n 2).take j ++ [UInt8.ofNat (n / d)] }) := by
        refine ⟨?_, hok1.2⟩
        · simp only [List.length_append, List.length_take, length_be, List.length_cons, List.length_nil]; omega
      have hq0 : (0 : Int) ≤ (n : Int) / (d : Int) := Int.ediv_nonneg (by omega) (by omega)
      have HV8 : Hid ((.int .u8 ((n : Int) / (d : Int) % 256) : Value) = by8 (UInt8.ofNat (n / d))) := by8_of (by rw [Int.natCast_emod, Int.natCast_ediv]; rfl)
      have hdI : (0 : Int) < (d : Int) := by omega
      have hdn : ((d : Int) == 0) = false := by simp; omega
      obtain ⟨i1, hi, hz0, hz1, hz2⟩ := info_parts u8_info
      generalize hLL : s.l ++ (be n 2).take j = L at *
      have hLb : L.length ≤ 1099511627775 := by omega
      have HLN : Hid (L.length + 1 ≤ maxLen ∧ (L.length + 1) * 1 ≤ 140737488355328) := ⟨by unfold maxLen; omega, by omega⟩
      have HLL := Lib.hid hLL
      have HLEN := Lib.hid hlen
      clear hb h1 h2 hFF hk hs hok1 hlen hLL
      have hq1 : (n : Int) / (d : Int) ≤ 4294967295 := by rw [← Int.natCast_ediv]; have := Nat.div_le_self n d; omega
      have hdz : ¬ d = 0 := by omega
      have wq : IntKind.i64.wrap ((n : Int) / (d : Int)) = (n : Int) / (d : Int) := IntWalk.i64_in _ (by omega)
      have w8 : IntKind.u8.wrap ((n : Int) / (d : Int) % 256) = (n : Int) / (d : Int) % 256 := by rw [IntKind.wrap_u8']; omega
      have td : (n : Int).tdiv (d : Int) = (n : Int) / (d : Int) := Int.tdiv_eq_ediv_of_nonneg (by omega)
      have tm : ((n : Int) / (d : Int)).tmod 256 = (n : Int) / (d : Int) % 256 := Int.tmod_eq_emod_of_nonneg hq0
      go_wp2_with fail
      go_region_law (first | (refine step_app _ (by rfl) _ _ 22 (by rfl) 0 5 i1 _ 1 1 Try.underlying22 hi hz0 hz1 hz2 rfl (by decide) (.slice A0 L.length cc0) L.length (bys L) (by rfl) (own_kept H1.out (((Kept.refl Nothing wr).alloc _).drew) (fun _ _ x => x)) (some ⟨wr.heap.size, 0, none⟩) 1 1 [.int .u8 ((n : Int) / (d : Int) % 256)] (by rfl) (cells_src (cs := #[.int .u8 ((n : Int) / (d : Int) % 256)]) (Blk.fresh wr 5 #[.int .u8 ((n : Int) / (d : Int) % 256)]).drew rfl (by simp [Value.oneCell'])) HLN.out.1 HLN.out.2 (Nat.zero_le _) ?_; intro v' w2 ho hg hat; (have HPE := Lib.hid (Vr.put0 (s := { s with l := L }) (l := L ++ [UInt8.ofNat (n / d)]) HB.out H1.out H2.out HOK.out (by simp) (by rw [HV8.out, bys_append]; rfl) ho hg hat)); (obtain ⟨⟨x0, -, -⟩, y0, -, -⟩ := v_cells HPE.out.1); (obtain ⟨A2, cc2, rfl, _, _⟩ := own_form ho); clear ho hg hat))
      all_goals
        clear td tm wq w8 hq0 hq1
        go_wp2
      all_goals
        obtain ⟨F2, a1, a2, a3⟩ := HPE.out.2
        rw [← HFF.out] at a2 a3
        refine ⟨⟨j + 1, F2, by go_num, by omega, ?_, ?_, K1.out.sub S1.out a2, S1.out.trans a3 K1.out.size⟩, by simp [intOf]; omega⟩
        · rw [← HD.out]
          congr 1
          split <;> omega
        · rw [HLE.out, HT.out, ← List.append_assoc, HLL.out]
          exact a1
    · obtain rfl : j = 2 := by omega
      have V2 := V1.out
      rw [List.take_of_length_le (by rw [length_be]; exact Nat.le_refl _)] at V2
      have V3 := Lib.hid V2
      clear V2 hvr hk hs
      go_wp2
      first | go_end0 | refine bodyPost_ret (results_none rfl _ _ _) rfl ?_
      exact ⟨F', rfl, V3.out, K1.out, S1.out⟩

set_option maxHeartbeats 1600000 in
theorem vr_lay4 (q : Nat) (F : Nat → Prop) (s : WS) (n : Nat) (w : World) (h : Vr w F q s) (he : s.e = 0) (hn : n < 4294967296) (hl : s.l.length + 4 ≤ 1099511627776) :
    Calls Try.prog 20 #[.pointer (some ⟨q, 0, none⟩), .int .i64 (n : Int), .int .i64 4] w fun r w' => ∃ F', r = .returned (.tuple #[]) ∧ Vr w' F' q (s.lay (be n 4)) ∧ Kept F w w' ∧ Sub w F' F := by
  have HV := Lib.hid h
  obtain ⟨bv, hv, hFF, hb, h1, h2, hok⟩ := h
  obtain ⟨⟨-, -, c2⟩, -⟩ := v_cells hb
  clear hb h1 h2 hFF hok
  have hne : (s.e != 0) = false := by simpa using he
  have HLE : Hid (∀ b, s.lay b = { s with l := s.l ++ b }) := fun b => if_pos he
  have HE := Lib.hid he
  clear he
  go_enter Try.func20, Try.ntmps20
  go_wp2_with fail
  go_rounds 4
  go_loopw [6, 8] (fun y i wr => ∃ (j : Nat) (F' : Nat → Prop), i = .int .i64 (j : Int) ∧ j ≤ 4 ∧ y = .int .i64 ((256 ^ (4 - 1 - j) : Nat) : Int) ∧ Vr wr F' q (s.lay ((be n 4).take j)) ∧ Kept F w wr ∧ Sub w F' F) (fun _ i _ => 4 - (intOf i).toNat)
  case atStart => exact ⟨0, F, rfl, Nat.zero_le _, rfl, by rw [List.take_zero, WS.lay_nil]; exact HV.out, Kept.refl _ _, Sub.refl _ _⟩
  case round =>
    obtain ⟨j, F', rfl, hj, rfl, hvr, hk, hs⟩ := hrel
    have K1 := Lib.hid hk
    have S1 := Lib.hid hs
    have V1 := Lib.hid hvr
    by_cases hlt : j < 4
    · have HT := Lib.hid (be_take n 4 j hlt)
      have hd0 : 0 < 256 ^ (4 - 1 - j) := Nat.pow_pos (by decide)
      have hd1 : 256 ^ (4 - 1 - j) ≤ 16777216 := Nat.le_trans (Nat.pow_le_pow_right (by decide) (show 4 - 1 - j ≤ 3 by omega)) (by decide)
      have HD : Hid (max (256 ^ (4 - 1 - j) / 256) 1 = 256 ^ (4 - 1 - (j + 1))) := by
        show _ = _
        rcases Nat.lt_or_ge (j + 1) 4 with h' | h'
        · rw [show 4 - 1 - j = (4 - 1 - (j + 1)) + 1 by omega, Nat.pow_succ, Nat.mul_div_cancel _ (by decide)]
          exact Nat.max_eq_left (Nat.pow_pos (by decide))
        · rw [show 4 - 1 - j = 0 by omega, show 4 - 1 - (j + 1) = 0 by omega]; decide
      generalize 256 ^ (4 - 1 - j) = d at *
      have hok1 := hvr.ok
      rw [HLE.out] at hvr hok1
      obtain ⟨bv, hv, hFF, hb, h1, h2, _⟩ := hvr
      obtain ⟨⟨c0, -, -⟩, f0, -, -⟩ := v_cells hb
      have hlen : (s.l ++ (be n 4).take j).length = s.l.length + j := by rw [List.length_append, List.length_take, length_be]; omega
      simp only at h1 hb
      have hm0 := own_form h1
      obtain ⟨A0, cc0, rfl, _, _⟩ := hm0
      have HB := Lib.hid hb
      have H1 := Lib.hid h1
      have H2 := Lib.hid h2
      have HFF := Lib.hid hFF
      have plt := hb.lt
      have HOK : Hid (WS.small { s with l := s.l ++ (be n 4).take j ++ [UInt8.ofNat (n / d)] }) := by
        refine ⟨?_, hok1.2⟩
        · simp only [List.length_append, List.length_take, length_be, List.length_cons, List.length_nil]; omega
      have hq0 : (0 : Int) ≤ (n : Int) / (d : Int) := Int.ediv_nonneg (by omega) (by omega)
      have HV8 : Hid ((.int .u8 ((n : Int) / (d : Int) % 256) : Value) = by8 (UInt8.ofNat (n / d))) := by8_of (by rw [Int.natCast_emod, Int.natCast_ediv]; rfl)
      have hdI : (0 : Int) < (d : Int) := by omega
      have hdn : ((d : Int) == 0) = false := by simp; omega
      obtain ⟨i1, hi, hz0, hz1, hz2⟩ := info_parts u8_info
      generalize hLL : s.l ++ (be n 4).take j = L at *
      have hLb : L.length ≤ 1099511627775 := by omega
      have HLN : Hid (L.length + 1 ≤ maxLen ∧ (L.length + 1) * 1 ≤ 140737488355328) := ⟨by unfold maxLen; omega, by omega⟩
      have HLL := Lib.hid hLL
      have HLEN := Lib.hid hlen
      clear hb h1 h2 hFF hk hs hok1 hlen hLL
      have hq1 : (n : Int) / (d : Int) ≤ 4294967295 := by rw [← Int.natCast_ediv]; have := Nat.div_le_self n d; omega
      have hdz : ¬ d = 0 := by omega
      have wq : IntKind.i64.wrap ((n : Int) / (d : Int)) = (n : Int) / (d : Int) := IntWalk.i64_in _ (by omega)
      have w8 : IntKind.u8.wrap ((n : Int) / (d : Int) % 256) = (n : Int) / (d : Int) % 256 := by rw [IntKind.wrap_u8']; omega
      have td : (n : Int).tdiv (d : Int) = (n : Int) / (d : Int) := Int.tdiv_eq_ediv_of_nonneg (by omega)
      have tm : ((n : Int) / (d : Int)).tmod 256 = (n : Int) / (d : Int) % 256 := Int.tmod_eq_emod_of_nonneg hq0
      go_wp2_with fail
      go_region_law (first | (refine step_app _ (by rfl) _ _ 22 (by rfl) 0 5 i1 _ 1 1 Try.underlying22 hi hz0 hz1 hz2 rfl (by decide) (.slice A0 L.length cc0) L.length (bys L) (by rfl) (own_kept H1.out (((Kept.refl Nothing wr).alloc _).drew) (fun _ _ x => x)) (some ⟨wr.heap.size, 0, none⟩) 1 1 [.int .u8 ((n : Int) / (d : Int) % 256)] (by rfl) (cells_src (cs := #[.int .u8 ((n : Int) / (d : Int) % 256)]) (Blk.fresh wr 5 #[.int .u8 ((n : Int) / (d : Int) % 256)]).drew rfl (by simp [Value.oneCell'])) HLN.out.1 HLN.out.2 (Nat.zero_le _) ?_; intro v' w2 ho hg hat; (have HPE := Lib.hid (Vr.put0 (s := { s with l := L }) (l := L ++ [UInt8.ofNat (n / d)]) HB.out H1.out H2.out HOK.out (by simp) (by rw [HV8.out, bys_append]; rfl) ho hg hat)); (obtain ⟨⟨x0, -, -⟩, y0, -, -⟩ := v_cells HPE.out.1); (obtain ⟨A2, cc2, rfl, _, _⟩ := own_form ho); clear ho hg hat))
      all_goals
        clear td tm wq w8 hq0 hq1
        go_wp2
      all_goals
        obtain ⟨F2, a1, a2, a3⟩ := HPE.out.2
        rw [← HFF.out] at a2 a3
        refine ⟨⟨j + 1, F2, by go_num, by omega, ?_, ?_, K1.out.sub S1.out a2, S1.out.trans a3 K1.out.size⟩, by simp [intOf]; omega⟩
        · rw [← HD.out]
          congr 1
          split <;> omega
        · rw [HLE.out, HT.out, ← List.append_assoc, HLL.out]
          exact a1
    · obtain rfl : j = 4 := by omega
      have V2 := V1.out
      rw [List.take_of_length_le (by rw [length_be]; exact Nat.le_refl _)] at V2
      have V3 := Lib.hid V2
      clear V2 hvr hk hs
      go_wp2
      first | go_end0 | refine bodyPost_ret (results_none rfl _ _ _) rfl ?_
      exact ⟨F', rfl, V3.out, K1.out, S1.out⟩

theorem vr_lay (q : Nat) (F : Nat → Prop) (s : WS) (n wide : Nat) (z y : Int) (hz : z = (n : Int)) (hy : y = (wide : Int)) (w : World) (h : Vr w F q s) (hw : wide = 1 ∨ wide = 2 ∨ wide = 4) (hn : n < 4294967296) (hl : s.l.length + 4 ≤ 1099511627776) :
    Calls Try.prog 20 #[.pointer (some ⟨q, 0, none⟩), .int .i64 z, .int .i64 y] w fun r w' => ∃ F', r = .returned (.tuple #[]) ∧ Vr w' F' q (s.lay (be n wide)) ∧ Kept F w w' ∧ Sub w F' F := by
  subst hz hy
  by_cases he : s.e = 0
  · rcases hw with rfl | rfl | rfl
    · exact vr_lay1 q F s n w h he hn hl
    · exact vr_lay2 q F s n w h he hn hl
    · exact vr_lay4 q F s n w h he hn hl
  · have HV := Lib.hid h
    obtain ⟨bv, hv, hFF, hb, h1, h2, hok⟩ := h
    obtain ⟨⟨-, -, c2⟩, -⟩ := v_cells hb
    have hne : (s.e != 0) = true := by simpa using he
    have HL : Hid (s.lay (be n wide) = s) := if_neg he
    rw [HL.out]
    clear hb h1 h2 hFF hok HL he
    go_enter Try.func20, Try.ntmps20
    go_wp2
    first | go_end0 | refine bodyPost_ret (results_none rfl _ _ _) rfl ?_
    exact ⟨F, rfl, HV.out, Kept.refl _ _, Sub.refl _ _⟩
end Go.Proofs.Ytcncjfjdnmookaa
