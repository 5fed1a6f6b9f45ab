
/-
  peer: number.Kind, what is agreed on of both times, Told, Tells.
-/
import Derived.Test.YtembdobkgpojfaaDoorJb
import Derived.Laws.Rows
import Derived.Deep.DeepCutAuto
import Derived.Deep.CutBlock
namespace Go.Proofs.YtembdobkgpojfaaDoor
open Go.RowKit

/-- The table: first, last, kind. -/
def spF : Nat → Nat | 0 => 0 | 1 => 23456 | 2 => 64496 | 3 => 64512 | 4 => 65535 | 5 => 65536 | 6 => 4200000000 | _ => 4294967295
def spL : Nat → Nat | 0 => 0 | 1 => 23456 | 2 => 64511 | 3 => 65534 | 4 => 65535 | 5 => 65551 | 6 => 4294967294 | _ => 4294967295
def spK : Nat → Nat | 0 => 1 | 1 => 2 | 2 => 4 | 3 => 3 | 4 => 4 | 5 => 4 | 6 => 3 | _ => 4
def spc : Array Value := #[.int .u32 0, .int .u32 0, .int .i64 1, .int .u32 23456, .int .u32 23456, .int .i64 2, .int .u32 64496, .int .u32 64511, .int .i64 4, .int .u32 64512, .int .u32 65534, .int .i64 3, .int .u32 65535, .int .u32 65535, .int .i64 4, .int .u32 65536, .int .u32 65551, .int .i64 4, .int .u32 4200000000, .int .u32 4294967294, .int .i64 3, .int .u32 4294967295, .int .u32 4294967295, .int .i64 4]
theorem spc_at (i : Nat) (hi : i < 8) : spc.toList[i * 3]? = some (.int .u32 (spF i : Nat)) ∧ spc.toList[i * 3 + 1]? = some (.int .u32 (spL i : Nat)) ∧ spc.toList[i * 3 + 2]? = some (.int .i64 (spK i : Nat)) := by
  obtain rfl | rfl | rfl | rfl | rfl | rfl | rfl | rfl : i = 0 ∨ i = 1 ∨ i = 2 ∨ i = 3 ∨ i = 4 ∨ i = 5 ∨ i = 6 ∨ i = 7 := by omega
  all_goals exact ⟨rfl, rfl, rfl⟩
/-- The table is there. -/
def Spans (w : World) : Prop := ∃ t fr, w.heap[4]? = some (.cells spc t fr)
theorem Spans.kept {w w' : World} (h : Spans w) (k : Kept Nothing w w') : Spans w' := by
  obtain ⟨t, fr, h⟩ := h
  exact ⟨t, fr, (k.block _ (Array.getElem?_eq_some_iff.1 h).1 (fun x => x)).trans h⟩
theorem Spans.load {w : World} (h : Spans w) : (loadVar 138 ⟨4, 0, none⟩).run Tryd.prog w = .ok (.agg spc) w := by
  obtain ⟨t, fr, h⟩ := h
  exact run_loadVar_row w _ t _ spc fr _ h Tryd.underlying138 rfl (by kernel_rfl)
theorem span_at (k : Nat) (hk : k < 8) (w : World) : (Instr.index 138 (.agg spc) (.int .i64 (k : Int))).run Tryd.prog w = .ok (.agg #[.int .u32 (spF k : Nat), .int .u32 (spL k : Nat), .int .i64 (spK k : Nat)]) w := by
  obtain rfl | rfl | rfl | rfl | rfl | rfl | rfl | rfl : k = 0 ∨ k = 1 ∨ k = 2 ∨ k = 3 ∨ k = 4 ∨ k = 5 ∨ k = 6 ∨ k = 7 := by omega
  all_goals kernel_rfl

def kind (n : Nat) : Nat :=
  if n = 0 then 1 else if n = 23456 then 2
  else if 64512 ≤ n ∧ n ≤ 65534 ∨ 4200000000 ≤ n ∧ n ≤ 4294967294 then 3
  else if (64496 ≤ n ∧ n ≤ 64511 ∨ 65535 ≤ n ∧ n ≤ 65551) ∨ n = 4294967295 then 4 else 5
theorem kind_hit (n k : Nat) (hk : k < 8) (h1 : spF k ≤ n) (h2 : n ≤ spL k) : kind n = spK k := by
  obtain rfl | rfl | rfl | rfl | rfl | rfl | rfl | rfl : k = 0 ∨ k = 1 ∨ k = 2 ∨ k = 3 ∨ k = 4 ∨ k = 5 ∨ k = 6 ∨ k = 7 := by omega
  all_goals
    simp only [spF, spL] at h1 h2
    unfold kind
    simp only [spK]
    repeat' split
    all_goals first | rfl | omega
theorem kind_miss (n : Nat) (h : ∀ j < 8, ¬ (spF j ≤ n ∧ n ≤ spL j)) (hn : n < 4294967296) : kind n = 5 := by
  have a0 := h 0 (by omega)
  have a1 := h 1 (by omega)
  have a2 := h 2 (by omega)
  have a3 := h 3 (by omega)
  have a4 := h 4 (by omega)
  have a5 := h 5 (by omega)
  have a6 := h 6 (by omega)
  have a7 := h 7 (by omega)
  simp only [spF, spL] at a0 a1 a2 a3 a4 a5 a6 a7
  unfold kind
  repeat' split
  all_goals first | rfl | omega
set_option maxHeartbeats 2000000 in
theorem kind_any (n : Nat) (hn : n < 4294967296) (w : World) (hs : Spans w) :
    Calls Tryd.prog 64 #[.int .u32 (n : Int)] w fun e w' => e = .returned (.int .i64 (kind n : Nat)) ∧ Kept Nothing w w' := by
  obtain ⟨tt, fr, hg⟩ := hs
  go_enter Tryd.func64, Tryd.ntmps64
  go_wp2_with (refine wpList_load_row rfl 138 _ rfl 4 rfl tt _ fr _ hg Tryd.underlying138 rfl (by kernel_rfl) ?_)
  clear hg
  go_loopw [6] (fun i wr => ∃ k : Nat, k ≤ 8 ∧ i = .int .i64 k ∧ Hid (∀ j < k, ¬ (spF j ≤ n ∧ n ≤ spL j)) ∧ Kept Nothing w wr) (fun i _ => 8 - (intOf i).toNat)
  case atStart => exact ⟨0, by omega, rfl, Lib.hid (fun j hj => absurd hj (by omega)), Kept.refl _ w⟩
  case round =>
    obtain ⟨k, hk, rfl, HM, hkw⟩ := hrel
    by_cases h8 : k < 8
    · have hx := span_at k h8
      have hi : (k : Int) < 8 := by omega
      have HH := Lib.hid (kind_hit n k h8)
      have HN : Hid (¬ (spF k ≤ n ∧ n ≤ spL k) → ∀ j < k + 1, ¬ (spF j ≤ n ∧ n ≤ spL j)) := Lib.hid (fun hno j hj => by
        by_cases e : j = k
        · subst e; exact hno
        · exact HM.out j (by omega))
      generalize spF k = F at hx HH HN
      generalize spL k = L at hx HH HN
      generalize spK k = K at hx HH
      have kk := hkw.alloc (.cells #[.int .u32 (F : Nat), .int .u32 (L : Nat), .int .i64 (K : Nat)] 137)
      have hw : ((F : Int) ≤ (n : Int) ∧ (n : Int) ≤ (L : Int) ∧ Hid (kind n = K)) ∨ (((F : Int) ≤ (n : Int) ∧ (L : Int) < (n : Int) ∨ (n : Int) < (F : Int)) ∧ Hid (∀ j < k + 1, ¬ (spF j ≤ n ∧ n ≤ spL j))) := by
        by_cases h1 : F ≤ n
        · by_cases h2 : n ≤ L
          · exact .inl ⟨by omega, by omega, Lib.hid (HH.out h1 h2)⟩
          · exact .inr ⟨.inl ⟨by omega, by omega⟩, Lib.hid (HN.out (by omega))⟩
        · exact .inr ⟨.inr (by omega), Lib.hid (HN.out (by omega))⟩
      clear HH HN
      rcases hw with ⟨j1, j2, HH⟩ | ⟨⟨j1, j2⟩ | j1, HN⟩
      · go_wp2
        go_ret
        exact ⟨by rw [HH.out]; rfl, kk⟩
      · go_wp2
        go_roundw
        case rel => exact ⟨k + 1, by omega, by go_num, HN, kk⟩
        case measure => simp [intOf]; omega
      · go_wp2
        go_roundw
        case rel => exact ⟨k + 1, by omega, by go_num, HN, kk⟩
        case measure => simp [intOf]; omega
    · obtain rfl : k = 8 := by omega
      have HH := Lib.hid (kind_miss n HM.out hn)
      go_wp2
      go_ret
      exact ⟨by rw [HH.out]; rfl, hkw⟩
def Ck.agreed (a b : Int) : Int × Int := if min a b ≤ 0 then (0, 0) else (min a b, if min a b < 3 then 1 else min a b / 3)
theorem ck_agreed (a b : Int) (ha : a < 9223372036854775808) (hb : b < 9223372036854775808) (w : World) :
    Calls Tryd.prog 68 #[.int .i64 a, .int .i64 b] w fun r w' => r = .returned (.tuple #[.int .i64 (Ck.agreed a b).1, .int .i64 (Ck.agreed a b).2]) ∧ w = w' := by
  have HA : Hid (Ck.agreed a b = if min a b ≤ 0 then (0, 0) else (min a b, if min a b < 3 then 1 else min a b / 3)) := Lib.hid rfl
  generalize Ck.agreed a b = R at HA ⊢
  go_enter Tryd.func68, Tryd.ntmps68
  go_upto_region 1 with fail
  go_cut [4] (fun x wx => x = .int .i64 (max (min a b) 0) ∧ w = wx)
  case first =>
    go_wp2
    all_goals
      go_meet
      refine ⟨?_, rfl⟩
      congr 1
      omega
  case rest =>
    obtain ⟨rfl, rfl⟩ := hcut
    have hmb : min a b < 9223372036854775808 := by omega
    clear ha hb
    have hm : min a b ≤ 0 ∧ max (min a b) 0 = 0 ∨ ¬ min a b ≤ 0 ∧ max (min a b) 0 = min a b := by omega
    generalize min a b = m at hm hmb HA ⊢
    generalize max m 0 = M at hm ⊢
    rcases hm with ⟨h1, rfl⟩ | ⟨h1, rfl⟩
    · rw [if_pos h1] at HA
      obtain rfl := HA.out
      clear h1
      go_wp2
      go_ret2
      exact ⟨rfl, rfl⟩
    · rw [if_neg h1] at HA
      have hp : 0 < M := by omega
      have hne : (M == 0) = false := by simp; omega
      have hq : M < 3 ∧ M / 3 < 1 ∨ ¬ M < 3 ∧ 1 ≤ M / 3 := by omega
      have ht : Int.tdiv M 3 = M / 3 := Int.tdiv_eq_ediv_of_nonneg (by omega)
      have hd0 : 0 ≤ M / 3 := by omega
      have hd1 : M / 3 < 9223372036854775808 := by omega
      have hw : wrap64 (M / 3) = M / 3 := (by unfold wrap64; omega)
      clear h1
      rcases hq with ⟨q1, q2⟩ | ⟨q1, q2⟩
      · rw [if_pos q1] at HA
        obtain rfl := HA.out
        clear q1
        go_wp2
        go_ret2
        exact ⟨rfl, rfl⟩
      · rw [if_neg q1] at HA
        obtain rfl := HA.out
        clear q1
        go_wp2
        go_ret2
        exact ⟨rfl, rfl⟩
theorem rc_agreed (a b : Int) (ha : a < 9223372036854775808) (hb : b < 9223372036854775808) (w : World) :
    Calls Tryd.prog 71 #[.int .i64 a, .int .i64 b] w fun r w' => r = .returned (.tuple #[.int .i64 (Ck.agreed a b).1, .int .i64 (Ck.agreed a b).2]) ∧ w = w' := by
  have HA : Hid (Ck.agreed a b = if min a b ≤ 0 then (0, 0) else (min a b, if min a b < 3 then 1 else min a b / 3)) := Lib.hid rfl
  generalize Ck.agreed a b = R at HA ⊢
  have hm : a ≤ b ∧ min a b = a ∨ b < a ∧ min a b = b := by omega
  generalize min a b = m at hm HA ⊢
  rcases hm with ⟨h1, rfl⟩ | ⟨h1, rfl⟩
  all_goals
    by_cases h2 : m ≤ 0
    · rw [if_pos h2] at HA
      obtain rfl := HA.out
      go_enter Tryd.func71, Tryd.ntmps71
      go_wp2
      go_ret2
      exact ⟨rfl, rfl⟩
    · rw [if_neg h2] at HA
      have hp : 0 < m := by omega
      have ht : Int.tdiv m 3 = m / 3 := Int.tdiv_eq_ediv_of_nonneg (by omega)
      clear h2
      by_cases h3 : m < 3
      · rw [if_pos h3] at HA
        obtain rfl := HA.out
        go_enter Tryd.func71, Tryd.ntmps71
        go_wp2
        go_ret2
        exact ⟨rfl, rfl⟩
      · rw [if_neg h3] at HA
        obtain rfl := HA.out
        have h4 : 3 ≤ m := by omega
        have hw : wrap64 (m / 3) = m / 3 := (by unfold wrap64; omega)
        clear h3
        go_enter Tryd.func71, Tryd.ntmps71
        go_wp2
        go_ret2
        exact ⟨rfl, rfl⟩


namespace Pe
def told (n : Nat) : Bool := decide (n ≠ 0) && decide (n ≠ 23456) && decide (n ≠ 65535) && decide (n ≠ 4294967295)
/-- Our side. -/
structure O where
  m : Nat
  c : Nat
  os : List Nat
  id : Nat
def wrong (o : O) (n : Nat) : Bool := !told n || decide (n = o.m) || decide (n = o.c)
def rise : List Nat → Bool
  | a :: b :: l => decide (a < b) && rise (b :: l)
  | _ => true
def may (o : O) : Bool := told o.m && told o.c && decide (o.id ≠ 0) && decide (o.id < 3758096384) && (if o.m = o.c then decide (o.os.length = 0) else decide (o.os.length ≤ 16) && rise o.os && !o.os.any (wrong o))
def cls (o : O) (n : Nat) : Nat := if may o = false then 0 else if n = o.m then 1 else if o.os.any (fun k => decide (k = n)) = true then 2 else if n = o.c ∨ told n = false then 0 else 3
def tells (o : O) (k : Int) : Nat := if k = 1 ∨ k = 2 then o.m else if k = 3 then o.c else 0
theorem told_kind (n : Nat) : told n = (decide (kind n ≠ 1 ∧ kind n ≠ 2) && decide (n ≠ 65535) && decide (n ≠ 4294967295)) := by
  have h1 : kind n = 1 ↔ n = 0 := by unfold kind; repeat' split
                                     all_goals (constructor <;> intro h <;> omega)
  have h2 : kind n = 2 ↔ n = 23456 := by unfold kind; repeat' split
                                         all_goals (constructor <;> intro h <;> omega)
  rw [Bool.eq_iff_iff]
  unfold told
  simp only [Bool.and_eq_true, decide_eq_true_eq, h1, h2, Ne]
end Pe
/-- The cells of our side. -/
def Pe.O.cl (o : Pe.O) (v : Value) : Array Value := #[.int .u32 (o.m : Int), .int .u32 (o.c : Int), v, .int .u32 (o.id : Int)]
set_option maxHeartbeats 1000000 in
theorem pe_told (n : Nat) (hn : n < 4294967296) (w : World) (hs : Spans w) :
    Calls Tryd.prog 22 #[.int .u32 (n : Int)] w fun e w' => e = .returned (.bool (Pe.told n)) ∧ Kept Nothing w w' := by
  have HK := Lib.hid (kind_any n hn w hs)
  have HT := Lib.hid (Pe.told_kind n)
  have hb : kind n < 10 := by unfold kind; repeat' split
                              all_goals omega
  generalize Pe.told n = tl at *
  generalize kind n = k at *
  clear hs
  have hk : k = 1 ∨ k = 2 ∨ (((k : Int) == 1) = false ∧ ((k : Int) == 2) = false ∧ Hid (decide (k ≠ 1 ∧ k ≠ 2) = true)) := by
    by_cases h1 : k = 1
    · exact .inl h1
    by_cases h2 : k = 2
    · exact .inr (.inl h2)
    exact .inr (.inr ⟨by simp; omega, by simp; omega, Lib.hid (by simp [h1, h2])⟩)
  clear hb hn
  rcases hk with rfl | rfl | ⟨h1, h2, h3⟩
  · obtain rfl : tl = false := by rw [HT.out]; rfl
    go_enter Tryd.func22, Tryd.ntmps22
    go_wp2_with (go_at_call 64; refine (HK.out).mono ?_; rintro e w1 ⟨rfl, hk1⟩)
    go_ret
    exact ⟨rfl, hk1⟩
  · obtain rfl : tl = false := by rw [HT.out]; rfl
    go_enter Tryd.func22, Tryd.ntmps22
    go_wp2_with (go_at_call 64; refine (HK.out).mono ?_; rintro e w1 ⟨rfl, hk1⟩)
    go_ret
    exact ⟨rfl, hk1⟩
  · have hT := HT.out
    rw [h3.out, Bool.true_and] at hT
    by_cases h5 : n = 65535
    · obtain rfl : tl = false := by rw [hT, h5]; rfl
      subst h5
      clear hT HT
      go_enter Tryd.func22, Tryd.ntmps22
      go_wp2_with (go_at_call 64; refine (HK.out).mono ?_; rintro e w1 ⟨rfl, hk1⟩)
      go_ret
      exact ⟨rfl, hk1⟩
    · have h5i : ((n : Int) == 65535) = false := by simp; omega
      by_cases h9 : n = 4294967295
      · obtain rfl : tl = false := by rw [hT, h9]; rfl
        subst h9
        clear hT HT
        go_enter Tryd.func22, Tryd.ntmps22
        go_wp2_with (go_at_call 64; refine (HK.out).mono ?_; rintro e w1 ⟨rfl, hk1⟩)
        go_ret
        exact ⟨rfl, hk1⟩
      · have h9i : ((n : Int) == 4294967295) = false := by simp; omega
        obtain rfl : tl = true := by rw [hT]; simp [h5, h9]
        have h5n : ¬ ((n : Int) = 65535) := by omega
        have h9n : ¬ ((n : Int) = 4294967295) := by omega
        clear hT HT h5 h9
        generalize (n : Int) = z at *
        go_enter Tryd.func22, Tryd.ntmps22
        go_wp2_with (go_at_call 64; refine (HK.out).mono ?_; rintro e w1 ⟨rfl, hk1⟩)
        go_ret
        refine ⟨?_, hk1⟩
        show Ending.returned (.bool (z != 65535 && z != 4294967295)) = _
        exact ret_bool (by simp [h5n, h9n])
theorem pe_tells (o : Pe.O) (v : Value) (hv : ∃ A n c, v = .slice A n c) (k : Int) (w : World) :
    Calls Tryd.prog 28 #[.agg (o.cl v), .int .i64 k] w fun e w' => e = .returned (.int .u32 (Pe.tells o k : Nat)) ∧ Kept Nothing w w' := by
  obtain ⟨A, n, c, rfl⟩ := hv
  have K0 := Lib.hid ((Kept.refl Nothing w).alloc (.cells (o.cl (.slice A n c)) 49))
  unfold Pe.O.cl at K0 ⊢
  by_cases h1 : k = 1
  · subst h1
    go_enter Tryd.func28, Tryd.ntmps28
    go_wp2
    go_ret
    exact ⟨rfl, K0.out⟩
  by_cases h2 : k = 2
  · subst h2
    go_enter Tryd.func28, Tryd.ntmps28
    go_wp2
    go_ret
    exact ⟨rfl, K0.out⟩
  by_cases h3 : k = 3
  · subst h3
    go_enter Tryd.func28, Tryd.ntmps28
    go_wp2
    go_ret
    exact ⟨rfl, K0.out⟩
  · have HP : Hid (Pe.tells o k = 0) := Lib.hid (by simp [Pe.tells, h1, h2, h3])
    have i1 : (k == 1) = false := by simpa using h1
    have i2 : (k == 2) = false := by simpa using h2
    have i3 : (k == 3) = false := by simpa using h3
    clear h1 h2 h3
    go_enter Tryd.func28, Tryd.ntmps28
    go_wp2
    go_ret
    exact ⟨by rw [HP.out]; rfl, K0.out⟩
end Go.Proofs.YtembdobkgpojfaaDoor
