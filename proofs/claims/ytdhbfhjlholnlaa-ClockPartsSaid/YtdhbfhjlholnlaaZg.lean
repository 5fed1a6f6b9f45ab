
/-
  The document's clock: Go; what is agreed on, both; the law's asks.
-/
import Derived.Test.YtdhbfhjlholnlaaZf
import Derived.Test.YtdhbfhjlholnlaaOw
import Derived.Laws.Rows
namespace Go.Proofs.Ytdhbfhjlholnlaa
open Go.RowKit

theorem Rcp.same {w : World} {p : Nat} {c : Ck.C} {n : Int} (h : Rcp w p c) (e : c.now = n) : Rcp w p ⟨n, c.t⟩ := by
  subst e
  exact h
set_option maxHeartbeats 1000000 in
theorem rc_go (p : Nat) (c : Ck.C) (u : Int) (hg : Ck.Good c) (w : World) (h : Rcp w p c) :
    Calls Try.prog 19 #[.pointer (some ⟨p, 0, none⟩), .int .i64 u] w fun r w' =>
      r = .returned (.tuple #[.int .i64 (((Ck.go c u).1.getD 0 : Nat) : Int), .bool (Ck.go c u).1.isSome]) ∧ Rcp w' p (Ck.go c u).2 ∧ Kept (Only p) w w' := by
  have HX := Lib.hid (rc_next p c hg w h)
  have hlo := hg.lo
  have hhi : c.now ≤ 1099511627776 := hg.hi
  have hM : Ck.MT = 1099511627776 := rfl
  have HR := Lib.hid hg.ran
  have HP := Lib.hid h
  clear h hg
  have hL : u ≤ c.now ∧ Ck.lim c u = c.now ∨ c.now < u ∧ u ≤ 1099511627776 ∧ Ck.lim c u = u ∨ 1099511627776 < u ∧ c.now < 1099511627776 ∧ Ck.lim c u = 1099511627776 ∨ 1099511627776 < u ∧ c.now = 1099511627776 ∧ Ck.lim c u = c.now := by
    unfold Ck.lim
    omega
  have hLx : Hid (∀ x, c.now ≤ x → x ≤ 1099511627776 → (Ck.lim c u < x ↔ u < x ∧ c.now < x)) := Lib.hid (by unfold Ck.lim; omega)
  have hgo : Ck.go c u = match Ck.next c with
    | none => (none, ⟨Ck.lim c u, c.t⟩)
    | some (k, x) => if Ck.lim c u < x then (none, ⟨Ck.lim c u, c.t⟩) else (some k, ⟨x, c.t.set k none⟩) := rfl
  have HO := Lib.hid hgo
  clear hgo hM
  generalize Ck.go c u = R at HO ⊢
  cases hn : Ck.next c with
  | none =>
    rw [hn] at HX HO
    simp only [Ck.bt, Ck.ba, Option.isSome_none] at HX
    obtain rfl := HO.out
    clear hLx HR hn
    generalize Ck.lim c u = L at hL ⊢
    rcases hL with ⟨q1, q2⟩ | ⟨q1, q2, q3⟩ | ⟨q1, q2, q3⟩ | ⟨q1, q2, q3⟩
    · go_enter Try.func19, Try.ntmps19
      go_upto_region 2 with (go_at_call 23; refine (HX.out).mono ?_; rintro e w1 ⟨rfl, hk1⟩)
      have HP1 := Lib.hid (HP.out.kept hk1 not_nothing)
      obtain ⟨h1, -, hf⟩ := HP1.out.cells
      have hu2 : u ≤ 1099511627776 := by omega
      have HQ := Lib.hid q2
      clear q2
      go_wp2
      go_ret2
      exact ⟨rfl, HP1.out.same HQ.out.symm, hk1.mono (fun _ x => x.elim)⟩
    · go_enter Try.func19, Try.ntmps19
      go_upto_region 2 with (go_at_call 23; refine (HX.out).mono ?_; rintro e w1 ⟨rfl, hk1⟩)
      have HP1 := Lib.hid (HP.out.kept hk1 not_nothing)
      obtain ⟨h1, -, hf⟩ := HP1.out.cells
      have HQ := Lib.hid q3
      clear q3
      go_wp2
      go_ret2
      exact ⟨rfl, HQ.out ▸ (HP1.out.time u).1, (hk1.mono (fun _ x => x.elim)).trans (HP1.out.time u).2⟩
    · go_enter Try.func19, Try.ntmps19
      go_upto_region 2 with (go_at_call 23; refine (HX.out).mono ?_; rintro e w1 ⟨rfl, hk1⟩)
      have HP1 := Lib.hid (HP.out.kept hk1 not_nothing)
      obtain ⟨h1, -, hf⟩ := HP1.out.cells
      have HQ := Lib.hid q3
      clear q3
      go_wp2
      go_ret2
      exact ⟨rfl, HQ.out ▸ (HP1.out.time 1099511627776).1, (hk1.mono (fun _ x => x.elim)).trans (HP1.out.time 1099511627776).2⟩
    · go_enter Try.func19, Try.ntmps19
      go_upto_region 2 with (go_at_call 23; refine (HX.out).mono ?_; rintro e w1 ⟨rfl, hk1⟩)
      have HP1 := Lib.hid (HP.out.kept hk1 not_nothing)
      obtain ⟨h1, -, hf⟩ := HP1.out.cells
      have hge : (1099511627776 : Int) ≤ c.now := by omega
      have HQ := Lib.hid q3
      clear q3 q2
      go_wp2
      go_ret2
      exact ⟨rfl, HP1.out.same HQ.out.symm, hk1.mono (fun _ x => x.elim)⟩
  | some kx =>
    obtain ⟨k, x⟩ := kx
    rw [hn] at HX HO
    simp only [Ck.bt, Ck.ba, Option.isSome_some] at HX
    have ⟨hk4, hkx, _⟩ := Ck.best_some hn
    obtain ⟨hx1, hx2⟩ := HR.out k x hkx
    have hx2 : x ≤ 1099511627776 := hx2
    have hLx := Lib.hid (hLx.out x hx1 hx2)
    by_cases hlt : Ck.lim c u < x
    · have hR := HO.out
      simp only [if_pos hlt] at hR
      subst hR
      obtain ⟨hu, hnx⟩ := hLx.out.1 hlt
      have hne : (x == c.now) = false := by simp; omega
      clear HO HR hn hkx hlt hLx
      generalize Ck.lim c u = L at hL ⊢
      rcases hL with ⟨q1, q2⟩ | ⟨q1, q2, q3⟩ | ⟨q1, q2, q3⟩ | ⟨q1, q2, q3⟩
      · go_enter Try.func19, Try.ntmps19
        go_upto_region 2 with (go_at_call 23; refine (HX.out).mono ?_; rintro e w1 ⟨rfl, hk1⟩)
        have HP1 := Lib.hid (HP.out.kept hk1 not_nothing)
        obtain ⟨h1, -, hf⟩ := HP1.out.cells
        have hu2 : u ≤ 1099511627776 := by omega
        have HQ := Lib.hid q2
        clear q2
        go_wp2
        go_ret2
        exact ⟨rfl, HP1.out.same HQ.out.symm, hk1.mono (fun _ x => x.elim)⟩
      · go_enter Try.func19, Try.ntmps19
        go_upto_region 2 with (go_at_call 23; refine (HX.out).mono ?_; rintro e w1 ⟨rfl, hk1⟩)
        have HP1 := Lib.hid (HP.out.kept hk1 not_nothing)
        obtain ⟨h1, -, hf⟩ := HP1.out.cells
        have HQ := Lib.hid q3
        clear q3
        go_wp2
        go_ret2
        exact ⟨rfl, HQ.out ▸ (HP1.out.time u).1, (hk1.mono (fun _ x => x.elim)).trans (HP1.out.time u).2⟩
      · exfalso; omega
      · exfalso; omega
    · have hR := HO.out
      simp only [if_neg hlt] at hR
      subst hR
      have hdue : x ≤ u ∨ u < x ∧ (x == c.now) = true := by
        by_cases h1 : x ≤ u
        · exact .inl h1
        · refine .inr ⟨by omega, ?_⟩
          have : ¬ (u < x ∧ c.now < x) := fun h => hlt (hLx.out.2 h)
          simp
          omega
      clear HO HR hn hkx hlt hLx hL
      rcases hdue with hd | ⟨hd, hd2⟩
      all_goals
        go_enter Try.func19, Try.ntmps19
        go_upto_region 2 with (go_at_call 23; refine (HX.out).mono ?_; rintro e w1 ⟨rfl, hk1⟩)
        have HP1 := Lib.hid (HP.out.kept hk1 not_nothing)
        obtain ⟨h1, -, hf⟩ := HP1.out.cells
        have ⟨d1, d2, d3, d4⟩ := HP1.out.cells4
        have HS := Lib.hid ((HP1.out.time x).1.sets k none hk4)
        have HT := Lib.hid (HP1.out.time x).2
        obtain rfl | rfl | rfl | rfl : k = 0 ∨ k = 1 ∨ k = 2 ∨ k = 3 := by omega
        all_goals
          go_wp2
          go_ret2
          exact ⟨rfl, HS.out.1, ((hk1.mono (fun _ x => x.elim)).trans HT.out).trans HS.out.2⟩

def Ck.agreed (a b : Int) : Int × Int := if min a b ≤ 0 then (0, 0) else (min a b, if min a b < 3 then 1 else min a b / 3)
theorem ck_agreed (a b : Int) (ha : a < 9223372036854775808) (hb : b < 9223372036854775808) (w : World) :
    Calls Try.prog 24 #[.int .i64 a, .int .i64 b] w fun r w' => r = .returned (.tuple #[.int .i64 (Ck.agreed a b).1, .int .i64 (Ck.agreed a b).2]) ∧ w = w' := by
  have HA : Hid (Ck.agreed a b = if min a b ≤ 0 then (0, 0) else (min a b, if min a b < 3 then 1 else min a b / 3)) := Lib.hid rfl
  generalize Ck.agreed a b = R at HA ⊢
  go_enter Try.func24, Try.ntmps24
  go_upto_region 1 with fail
  go_cut [4] (fun x wx => x = .int .i64 (max (min a b) 0) ∧ w = wx)
  case first =>
    go_wp2
    all_goals
      go_meet
      refine ⟨?_, rfl⟩
      congr 1
      omega
  case rest =>
    obtain ⟨rfl, rfl⟩ := hcut
    have hmb : min a b < 9223372036854775808 := by omega
    clear ha hb
    have hm : min a b ≤ 0 ∧ max (min a b) 0 = 0 ∨ ¬ min a b ≤ 0 ∧ max (min a b) 0 = min a b := by omega
    generalize min a b = m at hm hmb HA ⊢
    generalize max m 0 = M at hm ⊢
    rcases hm with ⟨h1, rfl⟩ | ⟨h1, rfl⟩
    · rw [if_pos h1] at HA
      obtain rfl := HA.out
      clear h1
      go_wp2
      go_ret2
      exact ⟨rfl, rfl⟩
    · rw [if_neg h1] at HA
      have hp : 0 < M := by omega
      have hne : (M == 0) = false := by simp; omega
      have hq : M < 3 ∧ M / 3 < 1 ∨ ¬ M < 3 ∧ 1 ≤ M / 3 := by omega
      have ht : Int.tdiv M 3 = M / 3 := Int.tdiv_eq_ediv_of_nonneg (by omega)
      have hd0 : 0 ≤ M / 3 := by omega
      have hd1 : M / 3 < 9223372036854775808 := by omega
      have hw : wrap64 (M / 3) = M / 3 := (by unfold wrap64; omega)
      clear h1
      rcases hq with ⟨q1, q2⟩ | ⟨q1, q2⟩
      · rw [if_pos q1] at HA
        obtain rfl := HA.out
        clear q1
        go_wp2
        go_ret2
        exact ⟨rfl, rfl⟩
      · rw [if_neg q1] at HA
        obtain rfl := HA.out
        clear q1
        go_wp2
        go_ret2
        exact ⟨rfl, rfl⟩
theorem rc_agreed (a b : Int) (ha : a < 9223372036854775808) (hb : b < 9223372036854775808) (w : World) :
    Calls Try.prog 25 #[.int .i64 a, .int .i64 b] w fun r w' => r = .returned (.tuple #[.int .i64 (Ck.agreed a b).1, .int .i64 (Ck.agreed a b).2]) ∧ w = w' := by
  have HA : Hid (Ck.agreed a b = if min a b ≤ 0 then (0, 0) else (min a b, if min a b < 3 then 1 else min a b / 3)) := Lib.hid rfl
  generalize Ck.agreed a b = R at HA ⊢
  have hm : a ≤ b ∧ min a b = a ∨ b < a ∧ min a b = b := by omega
  generalize min a b = m at hm HA ⊢
  rcases hm with ⟨h1, rfl⟩ | ⟨h1, rfl⟩
  all_goals
    by_cases h2 : m ≤ 0
    · rw [if_pos h2] at HA
      obtain rfl := HA.out
      go_enter Try.func25, Try.ntmps25
      go_wp2
      go_ret2
      exact ⟨rfl, rfl⟩
    · rw [if_neg h2] at HA
      have hp : 0 < m := by omega
      have ht : Int.tdiv m 3 = m / 3 := Int.tdiv_eq_ediv_of_nonneg (by omega)
      clear h2
      by_cases h3 : m < 3
      · rw [if_pos h3] at HA
        obtain rfl := HA.out
        go_enter Try.func25, Try.ntmps25
        go_wp2
        go_ret2
        exact ⟨rfl, rfl⟩
      · rw [if_neg h3] at HA
        obtain rfl := HA.out
        have h4 : 3 ≤ m := by omega
        have hw : wrap64 (m / 3) = m / 3 := (by unfold wrap64; omega)
        clear h3
        go_enter Try.func25, Try.ntmps25
        go_wp2
        go_ret2
        exact ⟨rfl, rfl⟩

theorem ck_asks (p : Nat) (c : Ck.C) (u : Int) (hg : Ck.Good c) (w : World) (h : Ckp w p c) :
    Calls Try.prog 28 #[.pointer (some ⟨p, 0, none⟩), .int .i64 u] w fun r w' =>
      r = .returned (.agg #[.int .i64 (((Ck.go c u).1.getD 0 : Nat) : Int), .bool (Ck.go c u).1.isSome, .int .i64 (Ck.go c u).2.now]) ∧ Ckp w' p (Ck.go c u).2 ∧ Kept (Only p) w w' := by
  have HG : ∀ v, Kept Nothing w v → Hid (Calls Try.prog 18 #[.pointer (some ⟨p, 0, none⟩), .int .i64 u] v fun r w' =>
      r = .returned (.tuple #[.int .i64 (((Ck.go c u).1.getD 0 : Nat) : Int), .bool (Ck.go c u).1.isSome]) ∧ Ckp w' p (Ck.go c u).2 ∧ Kept (Only p) v w') := fun v k => Lib.hid (ck_go p c u hg v (h.kept k not_nothing))
  have hlt := h.lt
  have HL := Lib.hid (show ¬ Only p w.heap.size from fun (e : w.heap.size = p) => by omega)
  clear h hg hlt
  generalize Ck.go c u = R at HG ⊢
  have Z0 := Lib.hid (Blk.fresh w 57 #[.int .i64 0, .bool false, .int .i64 0])
  have K0 : Kept Nothing w (w.alloc (.cells #[.int .i64 0, .bool false, .int .i64 0] 57)) := (Kept.refl _ w).alloc _
  have G0 := HG _ K0
  clear HG
  have K0 := Lib.hid K0
  go_enter Try.func28, Try.ntmps28
  go_upto_region 2 with (go_at_call 18; refine (G0.out).mono ?_; rintro e w1 ⟨rfl, hc1, hk1⟩; (have Z1 := Lib.hid (Z0.out.kept hk1 HL.out)); (have C1 := Lib.hid hc1); (have K1 := Lib.hid hk1); clear hk1 hc1)
  go_wp2_with (first
    | (go_at_call 13; refine (ck_now p R.2 _ C1.out).mono ?_; rintro e w2 ⟨rfl, rfl⟩)
    | (refine wpList_store_row rfl 57 _ _ rfl w.heap.size #[.int .i64 ((R.1.getD 0 : Nat) : Int), .bool R.1.isSome, .int .i64 R.2.now] rfl rfl 57 _ Z1.out (by kernel_rfl) rfl (by kernel_rfl) ?_))
  have hB : Blk (w1.setRow w.heap.size #[.int .i64 ((R.1.getD 0 : Nat) : Int), .bool R.1.isSome, .int .i64 R.2.now]) w.heap.size 57 #[.int .i64 ((R.1.getD 0 : Nat) : Int), .bool R.1.isSome, .int .i64 R.2.now] := setRow_heap w1 _ _ _ _ _ Z1.out
  refine bodyPost_ret (v := .agg #[.int .i64 ((R.1.getD 0 : Nat) : Int), .bool R.1.isSome, .int .i64 R.2.now]) ?_ rfl ⟨rfl, C1.out.kept (Kept.setRow _ _) (fun e => HL.out e.symm), ((K0.out.mono (fun _ x => x.elim)).trans K1.out).trans_new (Kept.setRow _ _) (fun i hi (e : i = w.heap.size) => by omega)⟩
  exact results_cell_row (p := 4) rfl _ _ w.heap.size 57 _ (0, 0) _ rfl hB Try.underlying57 rfl (by kernel_rfl)
end Go.Proofs.Ytdhbfhjlholnlaa
