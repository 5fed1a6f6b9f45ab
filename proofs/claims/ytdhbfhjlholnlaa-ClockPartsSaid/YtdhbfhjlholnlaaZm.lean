
/-
  The laws' own clocks: started; all that a clock rings.
-/
import Derived.Test.YtdhbfhjlholnlaaZh
namespace Go.Proofs.Ytdhbfhjlholnlaa
open Go.RowKit

namespace Ck
/-- A clock at a time, the first k of whose timers were started, where their ticks are not below 0. -/
def started (n : Int) (l : List Int) : Nat → C
  | 0 => ⟨n, [none, none, none, none]⟩
  | k + 1 => if 0 ≤ l.getD k 0 then start (started n l k) k (l.getD k 0) else started n l k
/-- What is rung, as it lies in memory. -/
def rgs (l : List (Nat × Int)) : List Value := l.flatMap fun x => [.int .i64 (x.1 : Int), .bool true, .int .i64 x.2]
theorem rgs_snoc (l : List (Nat × Int)) (k : Nat) (x : Int) : rgs (l ++ [(k, x)]) = rgs l ++ [.int .i64 (k : Int), .bool true, .int .i64 x] := by
  unfold rgs
  rw [List.flatMap_append]
  rfl
theorem all_succ (n : Nat) (c : C) (u : Int) : all (n + 1) c u = match go c u with
    | (some k, c') => ((k, c'.now) :: (all n c' u).1, (all n c' u).2)
    | (none, c') => ([], c') := rfl
theorem all_len : ∀ (n : Nat) (c : C) (u : Int), (all n c u).1.length ≤ n
  | 0, _, _ => Nat.le_refl _
  | n + 1, c, u => by
    unfold all
    split
    · simp only [List.length_cons]
      have := all_len n ‹_› u
      omega
    · simp
end Ck

set_option maxHeartbeats 1000000 in
theorem cl_started (n : Int) (a b c d : Int) (h1 : 0 ≤ n) (h2 : n ≤ 1099511627776) (w0 w : World) (h : Kept Nothing w0 w) :
    Calls Try.prog 26 #[.int .i64 n, .agg #[.int .i64 a, .int .i64 b, .int .i64 c, .int .i64 d]] w fun r w' => ∃ p, r = .returned (.pointer (some ⟨p, 0, none⟩)) ∧ Cl w0 w' p (Ck.started n [a, b, c, d] 4) ∧ w.heap.size ≤ p ∧ Kept Nothing w w' := by
  have HK := Lib.hid h
  have HN : ∀ v, Kept Nothing w v → Hid (Calls Try.prog 9 #[.int .i64 n] v fun r w' => ∃ p, r = .returned (.tuple #[.pointer (some ⟨p, 0, none⟩), .int .i64 0]) ∧ Cl w0 w' p ⟨n, [none, none, none, none]⟩ ∧ v.heap.size ≤ p ∧ Kept Nothing v w') := fun v k => Lib.hid (cl_new n h1 h2 w0 v (HK.out.trans k))
  have kb := (Kept.refl Nothing w).alloc (.cells #[.int .i64 a, .int .i64 b, .int .i64 c, .int .i64 d] 45)
  have N0 := HN _ kb
  have KB := Lib.hid kb
  have B0 := Lib.hid (Blk.fresh w 45 #[.int .i64 a, .int .i64 b, .int .i64 c, .int .i64 d])
  clear h HN h1 h2 kb
  go_enter Try.func26, Try.ntmps26
  go_upto_region 2 with (go_at_call 9; refine (N0.out).mono ?_; rintro e w1 ⟨p, rfl, hC, hp, hk⟩; (have C1 := Lib.hid hC); (have hsz := KB.out.size); (have HP := Lib.hid (Nat.le_trans hsz hp)); (have K1 := Lib.hid (KB.out.trans hk)); (have B1 := Lib.hid (B0.out.kept hk not_nothing)); clear hC hp hk hsz)
  have b0 := B1.out.cell 0
  have b1 := B1.out.cell 1
  have b2 := B1.out.cell 2
  have b3 := B1.out.cell 3
  simp at b0 b1 b2 b3
  go_wp2
  clear b0 b1 b2 b3
  go_loopw [17] (fun i wr => ∃ k : Nat, i = .int .i64 (k : Int) ∧ k ≤ 4 ∧ Hid (Cl w0 wr p (Ck.started n [a, b, c, d] k) ∧ Kept Nothing w wr)) (fun i _ => 4 - (intOf i).toNat)
  case atStart => exact ⟨0, rfl, by omega, Lib.hid ⟨C1.out, K1.out⟩⟩
  case round =>
    obtain ⟨k, rfl, hk4, hC⟩ := hrel
    by_cases h4 : k < 4
    · have hi : (k : Int) < 4 := by omega
      have hx : ∀ u, (Instr.index 45 (.agg #[.int .i64 a, .int .i64 b, .int .i64 c, .int .i64 d]) (.int .i64 (k : Int))).run Try.prog u = .ok (.int .i64 ([a, b, c, d].getD k 0)) u := by
        intro u
        obtain rfl | rfl | rfl | rfl : k = 0 ∨ k = 1 ∨ k = 2 ∨ k = 3 := by omega
        all_goals rfl
      have hst : Hid (Ck.started n [a, b, c, d] (k + 1) = if 0 ≤ [a, b, c, d].getD k 0 then Ck.start (Ck.started n [a, b, c, d] k) k ([a, b, c, d].getD k 0) else Ck.started n [a, b, c, d] k) := Lib.hid rfl
      have htm : Ck.tm (k : Int) = true := by unfold Ck.tm; simp; omega
      generalize [a, b, c, d].getD k 0 = x at hx hst
      by_cases h0 : 0 ≤ x
      · rw [if_pos h0] at hst
        have HS := Lib.hid (fun v (hv : Cl w0 v p (Ck.started n [a, b, c, d] k)) => cl_start p _ (k : Int) x htm h0 w0 v hv)
        simp only [Int.toNat_natCast] at HS
        clear htm
        go_wp2_with (go_at_call 14; refine (HS.out _ (by exact hC.out.1)).mono ?_; rintro e w2 ⟨rfl, hc2, hk2⟩; (have C2 := Lib.hid hc2); (have K2 := Lib.hid (hC.out.2.trans_new hk2 (fun i hi (e : i = p) => by have := HP.out; omega))); clear hc2 hk2)
        go_roundw
        case rel => exact ⟨k + 1, by go_num, by omega, Lib.hid ⟨by rw [hst.out]; exact C2.out, K2.out⟩⟩
        case measure => simp [intOf]; omega
      · rw [if_neg h0] at hst
        have h0' : x < 0 := by omega
        clear h0 htm
        go_wp2
        go_roundw
        case rel => exact ⟨k + 1, by go_num, by omega, Lib.hid ⟨by rw [hst.out]; exact hC.out.1, hC.out.2⟩⟩
        case measure => simp [intOf]; omega
    · obtain rfl : k = 4 := by omega
      go_wp2
      go_ret
      exact ⟨p, rfl, hC.out.1, HP.out, hC.out.2⟩

theorem rings_info : (Try.prog.info? 57).map (fun i => (i.zero, i.size, i.bytes)) = some (some (.agg #[.int .i64 0, .bool false, .int .i64 0]), 3, 24) := by kernel_rfl

set_option maxHeartbeats 2000000 in
theorem cl_all (p : Nat) (c : Ck.C) (u : Int) (w0 w : World) (h : Cl w0 w p c) :
    Calls Try.prog 27 #[.pointer (some ⟨p, 0, none⟩), .int .i64 u] w fun r w' => ∃ A m, r = .returned (.slice A (Ck.all 10 c u).1.length m) ∧
      w'.ownsRow w.heap.size 57 3 (.slice A (Ck.all 10 c u).1.length m) (Ck.all 10 c u).1.length (Ck.rgs (Ck.all 10 c u).1) ∧ Cl w0 w' p (Ck.all 10 c u).2 ∧ Kept (Only p) w w' := by
  have HC := Lib.hid h
  have HZ0 := Lib.hid h.keep.size
  clear h
  obtain ⟨i0, hi, hz0, hz1, hz2⟩ := info_parts rings_info
  have HR : Hid (∃ R, R = Ck.all 10 c u) := Lib.hid ⟨_, rfl⟩
  obtain ⟨R, hR⟩ := HR.out
  rw [← hR]
  have HR2 := Lib.hid hR
  clear hR HR
  have hlen : Hid (R.1.length ≤ 10) := Lib.hid (by rw [HR2.out]; exact Ck.all_len _ _ _)
  go_enter Try.func27, Try.ntmps27
  go_wp2
  go_loopw [5, 7] (fun lv i wr => ∃ (k : Nat) (c' : Ck.C) (acc : List (Nat × Int)), i = .int .i64 (k : Int) ∧ k ≤ 10 ∧ Hid (wr.ownsRow w.heap.size 57 3 lv acc.length (Ck.rgs acc) ∧ Cl w0 wr p c' ∧ Kept (Only p) w wr ∧ acc.length ≤ k ∧ R = (acc ++ (Ck.all (10 - k) c' u).1, (Ck.all (10 - k) c' u).2))) (fun _ i _ => 10 - (intOf i).toNat)
  case atStart => exact ⟨0, c, [], rfl, by omega, Lib.hid ⟨World.ownsRow_nil _ _ _ _, HC.out, Kept.refl _ _, Nat.le_refl _, by rw [HR2.out]; simp⟩⟩
  case round =>
    clear HR2 HC
    obtain ⟨k, c', acc, rfl, hk10, hH⟩ := hrel
    by_cases h10 : k < 10
    · have hi10 : (k : Int) < 10 := by omega
      have HA := Lib.hid (cl_asks p c' u w0 wr hH.out.2.1)
      have hall : Hid (R = (match Ck.go c' u with
          | (some j, d) => (acc ++ (j, d.now) :: (Ck.all (9 - k) d u).1, (Ck.all (9 - k) d u).2)
          | (none, d) => (acc, d))) := Lib.hid (by
        rw [hH.out.2.2.2.2, show 10 - k = (9 - k) + 1 by omega, Ck.all_succ]
        cases Ck.go c' u with
        | mk o d => cases o <;> simp)
      generalize Ck.go c' u = G at HA hall
      obtain ⟨o, d⟩ := G
      cases o with
      | none =>
        simp only [Option.getD_none, Option.isSome_none] at HA
        simp only at hall
        go_upto_region 5 with (go_at_call 28; refine (HA.out).mono ?_; rintro e w2 ⟨rfl, hc2, hk2⟩; (have C2 := Lib.hid hc2); (have K2 := Lib.hid hk2); clear hc2 hk2)
        have O2 := Lib.hid (ow_kept hH.out.1 K2.out (fun g hg (e : g = p) => by
          obtain ⟨cs, hcs⟩ := ow_lt hH.out.1 hg
          obtain ⟨a0, a1, a2, a3, _, hb⟩ := hH.out.2.1.at_
          exact hb.apart (t' := 57) (cs' := cs) hcs (by decide) e.symm))
        have ka := (Kept.refl Nothing w2).alloc (.cells #[.int .i64 ((0 : Nat) : Int), .bool false, .int .i64 d.now] 57)
        have O3 := Lib.hid (ow_kept O2.out ka (fun _ _ x => x))
        have C3 := Lib.hid (C2.out.old ka)
        have K3 := Lib.hid ((hH.out.2.2.1.trans K2.out).trans (ka.mono (fun _ x => x.elim)))
        have hR := hall.out
        subst hR
        obtain ⟨A4, c4, rfl, _, _⟩ := ow_form O3.out
        clear ka
        go_wp2
        go_ret
        exact ⟨_, _, rfl, O3.out, C3.out, K3.out⟩
      | some j =>
        simp only [Option.getD_some, Option.isSome_some] at HA
        simp only at hall
        go_upto_region 5 with (go_at_call 28; refine (HA.out).mono ?_; rintro e w2 ⟨rfl, hc2, hk2⟩; (have C2 := Lib.hid hc2); (have K2 := Lib.hid hk2); clear hc2 hk2)
        have O2 := Lib.hid (ow_kept hH.out.1 K2.out (fun g hg (e : g = p) => by
          obtain ⟨cs, hcs⟩ := ow_lt hH.out.1 hg
          obtain ⟨a0, a1, a2, a3, _, hb⟩ := hH.out.2.1.at_
          exact hb.apart (t' := 57) (cs' := cs) hcs (by decide) e.symm))
        have ka := ((Kept.refl Nothing w2).alloc (.cells #[.int .i64 (j : Int), .bool true, .int .i64 d.now] 57)).alloc (.cells #[.int .i64 (j : Int), .bool true, .int .i64 d.now] 57)
        have O3 := Lib.hid (ow_kept O2.out ka (fun _ _ x => x))
        have C3 := Lib.hid (C2.out.old ka)
        have K3 := Lib.hid ((hH.out.2.2.1.trans K2.out).trans (ka.mono (fun _ x => x.elim)))
        have hsz := K3.out.size
        have hac := hH.out.2.2.2.1
        have HS := Lib.hid (src_new (w2.alloc (.cells #[.int .i64 (j : Int), .bool true, .int .i64 d.now] 57)) 57 #[.int .i64 (j : Int), .bool true, .int .i64 d.now] 3 1 rfl (by simp [Value.oneCell']))
        rw [World.size_alloc] at HS
        clear ka
        go_wp2_with (at_builtin; refine wpList_app _ rfl _ _ 54 rfl w.heap.size 57 i0 _ 3 24 Try.underlying54 hi hz0 hz1 hz2 rfl (by decide) u5 acc.length (Ck.rgs acc) rfl O3.out (some ⟨w2.heap.size + 1, 0, none⟩) 1 1 [.int .i64 (j : Int), .bool true, .int .i64 d.now] rfl HS.out (by simp [maxLen]; omega) (by omega) (by simpa using hsz) ?_; intro v' w7 ho7 hg7 hat7)
        go_roundw
        case rel =>
          have hoff : ∀ q, u5.ownBlock = some q → q < w.heap.size → Only p q := fun q hq hlt => by
            have := (O3.out.lt q hq).1
            omega
          have k7 : Kept (fun q => u5.ownBlock = some q) _ w7 := (Kept.refl _ _).grown hg7 (fun q hq _ => hq)
          refine ⟨k + 1, d, acc ++ [(j, d.now)], by go_num, by omega, Lib.hid ⟨by rw [Ck.rgs_snoc, List.length_append]; exact ho7, C3.out.other k7 (fun e => ?_) (fun i hi e => ?_), K3.out.trans_new k7 (fun i hi e => hoff i e hi), by rw [List.length_append]; simp; omega, ?_⟩⟩
          · obtain ⟨cs, hcs⟩ := ow_lt O3.out e
            obtain ⟨a0, a1, a2, a3, _, hb⟩ := C3.out.at_
            exact hb.apart (t' := 57) (cs' := cs) hcs (by decide) rfl
          · have := (O3.out.lt i e).1
            have := HZ0.out
            omega
          · rw [hall.out, show 10 - (k + 1) = 9 - k by omega]
            simp
        case measure => simp [intOf]; omega
    · obtain rfl : k = 10 := by omega
      have hH2 := hH.out.2.2.2.2
      simp only [Nat.sub_self, Ck.all, List.append_nil] at hH2
      subst hH2
      obtain ⟨A4, c4, rfl, _, _⟩ := ow_form hH.out.1
      go_wp2
      go_ret
      exact ⟨_, _, rfl, hH.out.1, hH.out.2.1, hH.out.2.2.1⟩
end Go.Proofs.Ytdhbfhjlholnlaa
