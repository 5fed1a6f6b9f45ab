
/-
  The program's table of kinds; Kind; the document's Kind; the law NumberTells.
-/
import Derived.Test.YtakiecljoaebpaaDoorNg
import Derived.Laws.Rows
namespace Go.Proofs.YtakiecljoaebpaaDoor
open Go.RowKit

/-- The table: first, last, kind. -/
def spF : Nat → Nat | 0 => 0 | 1 => 23456 | 2 => 64496 | 3 => 64512 | 4 => 65535 | 5 => 65536 | 6 => 4200000000 | _ => 4294967295
def spL : Nat → Nat | 0 => 0 | 1 => 23456 | 2 => 64511 | 3 => 65534 | 4 => 65535 | 5 => 65551 | 6 => 4294967294 | _ => 4294967295
def spK : Nat → Nat | 0 => 1 | 1 => 2 | 2 => 4 | 3 => 3 | 4 => 4 | 5 => 4 | 6 => 3 | _ => 4
def spc : Array Value := #[.int .u32 0, .int .u32 0, .int .i64 1, .int .u32 23456, .int .u32 23456, .int .i64 2, .int .u32 64496, .int .u32 64511, .int .i64 4, .int .u32 64512, .int .u32 65534, .int .i64 3, .int .u32 65535, .int .u32 65535, .int .i64 4, .int .u32 65536, .int .u32 65551, .int .i64 4, .int .u32 4200000000, .int .u32 4294967294, .int .i64 3, .int .u32 4294967295, .int .u32 4294967295, .int .i64 4]
theorem spc_at (i : Nat) (hi : i < 8) : spc.toList[i * 3]? = some (.int .u32 (spF i : Nat)) ∧ spc.toList[i * 3 + 1]? = some (.int .u32 (spL i : Nat)) ∧ spc.toList[i * 3 + 2]? = some (.int .i64 (spK i : Nat)) := by
  obtain rfl | rfl | rfl | rfl | rfl | rfl | rfl | rfl : i = 0 ∨ i = 1 ∨ i = 2 ∨ i = 3 ∨ i = 4 ∨ i = 5 ∨ i = 6 ∨ i = 7 := by omega
  all_goals exact ⟨rfl, rfl, rfl⟩
/-- The table is there. -/
def Spans (w : World) : Prop := ∃ t fr, w.heap[0]? = some (.cells spc t fr)
theorem Spans.kept {w w' : World} (h : Spans w) (k : Kept Nothing w w') : Spans w' := by
  obtain ⟨t, fr, h⟩ := h
  exact ⟨t, fr, (k.block _ (Array.getElem?_eq_some_iff.1 h).1 (fun x => x)).trans h⟩
theorem Spans.load {w : World} (h : Spans w) : (loadVar 47 ⟨0, 0, none⟩).run Tryd.prog w = .ok (.agg spc) w := by
  obtain ⟨t, fr, h⟩ := h
  exact run_loadVar_row w _ t _ spc fr _ h Tryd.underlying47 rfl (by kernel_rfl)
theorem span_at (k : Nat) (hk : k < 8) (w : World) : (Instr.index 47 (.agg spc) (.int .i64 (k : Int))).run Tryd.prog w = .ok (.agg #[.int .u32 (spF k : Nat), .int .u32 (spL k : Nat), .int .i64 (spK k : Nat)]) w := by
  obtain rfl | rfl | rfl | rfl | rfl | rfl | rfl | rfl : k = 0 ∨ k = 1 ∨ k = 2 ∨ k = 3 ∨ k = 4 ∨ k = 5 ∨ k = 6 ∨ k = 7 := by omega
  all_goals kernel_rfl

def kind (n : Nat) : Nat :=
  if n = 0 then 1 else if n = 23456 then 2
  else if 64512 ≤ n ∧ n ≤ 65534 ∨ 4200000000 ≤ n ∧ n ≤ 4294967294 then 3
  else if (64496 ≤ n ∧ n ≤ 64511 ∨ 65535 ≤ n ∧ n ≤ 65551) ∨ n = 4294967295 then 4 else 5
theorem kind_hit (n k : Nat) (hk : k < 8) (h1 : spF k ≤ n) (h2 : n ≤ spL k) : kind n = spK k := by
  obtain rfl | rfl | rfl | rfl | rfl | rfl | rfl | rfl : k = 0 ∨ k = 1 ∨ k = 2 ∨ k = 3 ∨ k = 4 ∨ k = 5 ∨ k = 6 ∨ k = 7 := by omega
  all_goals
    simp only [spF, spL] at h1 h2
    unfold kind
    simp only [spK]
    repeat' split
    all_goals first | rfl | omega
theorem kind_miss (n : Nat) (h : ∀ j < 8, ¬ (spF j ≤ n ∧ n ≤ spL j)) (hn : n < 4294967296) : kind n = 5 := by
  have a0 := h 0 (by omega)
  have a1 := h 1 (by omega)
  have a2 := h 2 (by omega)
  have a3 := h 3 (by omega)
  have a4 := h 4 (by omega)
  have a5 := h 5 (by omega)
  have a6 := h 6 (by omega)
  have a7 := h 7 (by omega)
  simp only [spF, spL] at a0 a1 a2 a3 a4 a5 a6 a7
  unfold kind
  repeat' split
  all_goals first | rfl | omega
set_option maxHeartbeats 2000000 in
theorem kind_any (n : Nat) (hn : n < 4294967296) (w : World) (hs : Spans w) :
    Calls Tryd.prog 11 #[.int .u32 (n : Int)] w fun e w' => e = .returned (.int .i64 (kind n : Nat)) ∧ Kept Nothing w w' := by
  obtain ⟨tt, fr, hg⟩ := hs
  go_enter Tryd.func11, Tryd.ntmps11
  go_wp2_with (refine wpList_load_row rfl 47 _ rfl 0 rfl tt _ fr _ hg Tryd.underlying47 rfl (by kernel_rfl) ?_)
  clear hg
  go_loopw [6] (fun i wr => ∃ k : Nat, k ≤ 8 ∧ i = .int .i64 k ∧ Hid (∀ j < k, ¬ (spF j ≤ n ∧ n ≤ spL j)) ∧ Kept Nothing w wr) (fun i _ => 8 - (intOf i).toNat)
  case atStart => exact ⟨0, by omega, rfl, Lib.hid (fun j hj => absurd hj (by omega)), Kept.refl _ w⟩
  case round =>
    obtain ⟨k, hk, rfl, HM, hkw⟩ := hrel
    by_cases h8 : k < 8
    · have hx := span_at k h8
      have hi : (k : Int) < 8 := by omega
      have HH := Lib.hid (kind_hit n k h8)
      have HN : Hid (¬ (spF k ≤ n ∧ n ≤ spL k) → ∀ j < k + 1, ¬ (spF j ≤ n ∧ n ≤ spL j)) := Lib.hid (fun hno j hj => by
        by_cases e : j = k
        · subst e; exact hno
        · exact HM.out j (by omega))
      generalize spF k = F at hx HH HN
      generalize spL k = L at hx HH HN
      generalize spK k = K at hx HH
      have kk := hkw.alloc (.cells #[.int .u32 (F : Nat), .int .u32 (L : Nat), .int .i64 (K : Nat)] 46)
      have hw : ((F : Int) ≤ (n : Int) ∧ (n : Int) ≤ (L : Int) ∧ Hid (kind n = K)) ∨ (((F : Int) ≤ (n : Int) ∧ (L : Int) < (n : Int) ∨ (n : Int) < (F : Int)) ∧ Hid (∀ j < k + 1, ¬ (spF j ≤ n ∧ n ≤ spL j))) := by
        by_cases h1 : F ≤ n
        · by_cases h2 : n ≤ L
          · exact .inl ⟨by omega, by omega, Lib.hid (HH.out h1 h2)⟩
          · exact .inr ⟨.inl ⟨by omega, by omega⟩, Lib.hid (HN.out (by omega))⟩
        · exact .inr ⟨.inr (by omega), Lib.hid (HN.out (by omega))⟩
      clear HH HN
      rcases hw with ⟨j1, j2, HH⟩ | ⟨⟨j1, j2⟩ | j1, HN⟩
      · go_wp2
        go_ret
        exact ⟨by rw [HH.out]; rfl, kk⟩
      · go_wp2
        go_roundw
        case rel => exact ⟨k + 1, by omega, by go_num, HN, kk⟩
        case measure => simp [intOf]; omega
      · go_wp2
        go_roundw
        case rel => exact ⟨k + 1, by omega, by go_num, HN, kk⟩
        case measure => simp [intOf]; omega
    · obtain rfl : k = 8 := by omega
      have HH := Lib.hid (kind_miss n HM.out hn)
      go_wp2
      go_ret
      exact ⟨by rw [HH.out]; rfl, hkw⟩
set_option maxRecDepth 100000 in
set_option maxHeartbeats 2000000 in
theorem rkind_any (n : Nat) (w : World) :
    Calls Tryd.prog 12 #[.int .u32 (n : Int)] w fun e w' => e = .returned (.int .i64 (kind n : Nat)) ∧ w = w' := by
  have HK := Lib.hid (kind.eq_1 n)
  have hw : ((n : Int) == 0) = true ∧ Hid (kind n = 1) ∨ ((n : Int) == 0) = false ∧ (((n : Int) == 23456) = true ∧ Hid (kind n = 2) ∨ ((n : Int) == 23456) = false ∧ (
      ((64512 : Int) ≤ (n : Int) ∧ (n : Int) ≤ 65534) ∧ Hid (kind n = 3) ∨ (4200000000 : Int) ≤ (n : Int) ∧ (n : Int) ≤ 4294967294 ∧ Hid (kind n = 3) ∨
      ((64496 : Int) ≤ (n : Int) ∧ (n : Int) ≤ 64511) ∧ Hid (kind n = 4) ∨ ((65535 : Int) ≤ (n : Int) ∧ (n : Int) ≤ 65551) ∧ Hid (kind n = 4) ∨ ((4294967295 : Int) ≤ (n : Int) ∧ ((n : Int) == 4294967295) = true) ∧ Hid (kind n = 4) ∨
      (((n : Int) < 64496 ∧ (n : Int) < 64512 ∧ (n : Int) < 65535 ∧ (n : Int) < 4200000000) ∨ ((64511 : Int) < (n : Int) ∧ (65534 : Int) < (n : Int) ∧ (65551 : Int) < (n : Int) ∧ (n : Int) < 4200000000) ∨ (4294967295 : Int) < (n : Int)) ∧ ((n : Int) == 4294967295) = false ∧ Hid (kind n = 5))) := by
    by_cases h0 : n = 0
    · exact .inl ⟨by simp [h0], Lib.hid (by rw [HK.out, if_pos h0])⟩
    refine .inr ⟨by simp; omega, ?_⟩
    by_cases h1 : n = 23456
    · exact .inl ⟨by simp [h1], Lib.hid (by rw [HK.out, if_neg h0, if_pos h1])⟩
    refine .inr ⟨by simp; omega, ?_⟩
    rw [if_neg h0, if_neg h1] at HK
    by_cases a : 64512 ≤ n ∧ n ≤ 65534
    · exact .inl ⟨by omega, Lib.hid (by rw [HK.out, if_pos (.inl a)])⟩
    refine .inr ?_
    by_cases b : 4200000000 ≤ n ∧ n ≤ 4294967294
    · exact .inl ⟨by omega, by omega, Lib.hid (by rw [HK.out, if_pos (.inr b)])⟩
    refine .inr ?_
    rw [if_neg (by omega)] at HK
    by_cases c : 64496 ≤ n ∧ n ≤ 64511
    · exact .inl ⟨by omega, Lib.hid (by rw [HK.out, if_pos (.inl (.inl c))])⟩
    refine .inr ?_
    by_cases d : 65535 ≤ n ∧ n ≤ 65551
    · exact .inl ⟨by omega, Lib.hid (by rw [HK.out, if_pos (.inl (.inr d))])⟩
    refine .inr ?_
    by_cases e : n = 4294967295
    · exact .inl ⟨⟨by omega, by simp [e]⟩, Lib.hid (by rw [HK.out, if_pos (.inr e)])⟩
    exact .inr ⟨by omega, by simp; omega, Lib.hid (by rw [HK.out, if_neg (by omega)])⟩
  clear HK
  generalize hz : (n : Int) = z at hw ⊢
  clear hz
  rcases hw with ⟨z0, HH⟩ | ⟨z0, ⟨z1, HH⟩ | ⟨z1, ⟨⟨a1, a2⟩, HH⟩ | ⟨a1, a2, HH⟩ | ⟨⟨a1, a2⟩, HH⟩ | ⟨⟨a1, a2⟩, HH⟩ | ⟨⟨a1, a2⟩, HH⟩ | ⟨⟨a1, a2, a3, a4⟩ | ⟨a1, a2, a3, a4⟩ | a1, z9, HH⟩⟩⟩
  all_goals
    go_enter Tryd.func12, Tryd.ntmps12
    go_wp2
    go_ret
    exact ⟨by rw [HH.out]; rfl, rfl⟩
set_option maxHeartbeats 4000000 in
theorem tells_law (n : Nat) (hn : n < 4294967296) (w : World) (hr : Rdy2 w) (hs : Spans w) :
    Calls Tryd.prog 3 #[.int .u32 (n : Int)] w fun e w' => e = .returned (.bool true) ∧ Kept Nothing w w' := by
  have HT := Lib.hid tells_any
  have HS := Lib.hid (short_any n hn)
  have HS2 := Lib.hid (rshort_any n hn)
  have HW := Lib.hid (wide_any n)
  have HK := Lib.hid (kind_any n hn)
  have HK2 := Lib.hid (rkind_any n)
  have HX := Lib.hid (text_any n hn)
  have HX2 := Lib.hid (rtext_any n hn)
  have HD := Lib.hid (dotted_any n hn)
  have HD2 := Lib.hid (rdotted_any n hn)
  have hw : wide n = true ∧ (65535 : Int) < (n : Int) ∨ wide n = false ∧ (n : Int) ≤ 65535 := by
    unfold wide
    by_cases h : 65535 < n
    · exact .inl ⟨by simp [h], by omega⟩
    · exact .inr ⟨by simp [h], by omega⟩
  have k := Kept.refl Nothing w
  generalize wide n = wn at *
  generalize kind n = kn at *
  generalize short n = sn at *
  generalize Lib.decDigits n = tn at *
  generalize dot n = dn at *
  rcases hw with ⟨rfl, hw⟩ | ⟨rfl, hw⟩
  all_goals
    go_enter Tryd.func3, Tryd.ntmps3
    go_wp2_with (first
      | (go_at_call 8; (with_reducible refine (HW.out _).mono ?_); rintro e w1 ⟨rfl, rfl⟩)
      | (go_at_call 9; (with_reducible refine (HS.out _).mono ?_); rintro e w1 ⟨rfl, rfl⟩)
      | (go_at_call 10; (with_reducible refine (HS2.out _).mono ?_); rintro e w1 ⟨rfl, rfl⟩)
      | (go_at_call 11; (with_reducible refine (HK.out _ (hs.kept k)).mono ?_); rintro e w1 ⟨rfl, k1⟩; replace k := k.trans k1)
      | (go_at_call 12; (with_reducible refine (HK2.out _).mono ?_); rintro e w1 ⟨rfl, rfl⟩)
      | (go_at_call 13; (with_reducible refine (HX.out _ (hr.kept k)).mono ?_); rintro e w1 ⟨rfl, k1⟩; replace k := k.trans k1)
      | (go_at_call 14; (with_reducible refine (HX2.out _).mono ?_); rintro e w1 ⟨rfl, k1⟩; replace k := k.trans k1)
      | (go_at_call 15; (with_reducible refine (HD.out _ (hr.kept k)).mono ?_); rintro e w1 ⟨rfl, k1⟩; replace k := k.trans k1)
      | (go_at_call 16; (with_reducible refine (HD2.out _).mono ?_); rintro e w1 ⟨rfl, k1⟩; replace k := k.trans k1)
      | (go_at_call 17; (with_reducible refine (HT.out _ (hr.kept k)).mono ?_); rintro e w3 ⟨rfl, k3⟩; replace k := k.trans k3))
    go_ret
    first | exact ⟨rfl, k⟩ | exact ⟨ret_bool (by simp; omega), k⟩
end Go.Proofs.YtakiecljoaebpaaDoor
