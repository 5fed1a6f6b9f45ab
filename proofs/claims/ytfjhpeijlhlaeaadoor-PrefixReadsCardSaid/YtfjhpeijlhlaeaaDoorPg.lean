
/-
  A prefix's text, and a prefix read of a text.
-/
import Derived.Test.YtfjhpeijlhlaeaaDoorPf
import Derived.Laws.Concat
namespace Go.Proofs.YtfjhpeijlhlaeaaDoor
open Go.RowKit

theorem may_spec {x : Nat} {b : Int} (h : may x b = true) : ∃ n : Nat, b = n ∧ n ≤ 32 ∧ x = low x n := by
  unfold may at h
  simp only [Bool.and_eq_true, decide_eq_true_eq] at h
  refine ⟨cl b, h.2, cl_le b, ?_⟩
  exact Int.ofNat.inj h.1
theorem may_of {x n : Nat} (hn : n ≤ 32) (h : x = low x n) : may x (n : Int) = true := by
  have hc : cl (n : Int) = n := by unfold cl; rw [if_neg (by omega), if_neg (by omega)]; omega
  unfold may
  rw [hc, ← h]
  simp

theorem add_run (x y : List UInt8) (hx : x.length ≤ 100000) (hy : y.length ≤ 100000) (w : World) : (Op.stringOp .add ⟨x.toArray⟩ ⟨y.toArray⟩).run Tryd.prog w = .ok (.string ⟨(x ++ y).toArray⟩) w := by
  rw [run_string_add_sum _ _ _ (by show x.toArray.size + y.toArray.size ≤ _; simp; omega)]
  congr 2
theorem dig_len (n : Nat) (h : n < 1000) : (Lib.decDigits n).length ≤ 3 := by rw [dd_eq n h]; exact dd_len n
/-- A prefix's text. -/
def text (x : Nat) (b : Int) : List UInt8 := if may x b = true then ipText x ++ 47 :: Lib.decDigits b.toNat else []
theorem text_any (x : Nat) (b : Int) (hx : x < 4294967296) (w : World) (hr : Rdy w) :
    Calls Tryd.prog 13 #[.agg #[.int .u32 (x : Int), .int .i64 b]] w fun e w' => e = .returned (.string ⟨(text x b).toArray⟩) ∧ Kept Nothing w w' := by
  have HM := may_any x b hx
  cases hm : may x b with
  | false =>
    have HR := Lib.hid (show text x b = [] by unfold text; rw [hm]; rfl)
    rw [hm] at HM
    have HM := Lib.hid HM
    clear hm
    rw [HR.out]
    go_enter Tryd.func13, Tryd.ntmps13
    go_wp2_with (go_at_call 11; refine (HM.out _).mono ?_; rintro e w1 ⟨rfl, hk1⟩)
    go_ret
    exact ⟨rfl, ((Kept.refl _ w).alloc _).trans hk1⟩
  | true =>
    rw [hm] at HM
    have HM := Lib.hid HM
    obtain ⟨n, rfl, hn, hlow⟩ := may_spec hm
    clear hlow
    have HR := Lib.hid (show text x (n : Int) = ipText x ++ 47 :: Lib.decDigits n by unfold text; rw [hm]; rfl)
    clear hm
    rw [HR.out]
    go_enter Tryd.func13, Tryd.ntmps13
    go_wp2_with (go_at_call 11; refine (HM.out _).mono ?_; rintro e w1 ⟨rfl, hk1⟩)
    have hk : Kept Nothing w w1 := ((Kept.refl _ w).alloc _).trans hk1
    have d0 := up_cell (v := .int .u32 (x : Int)) (hk1.cell_some (p := ⟨w.heap.size, 0, none⟩) (by simp) (fun x => x))
    have d1 := up_cell (v := .int .i64 (n : Int)) (hk1.cell_some (p := ⟨w.heap.size, 1, none⟩) (by simp) (fun x => x))
    clear hk1
    have hq := ipText_len x
    have hp := dig_len n (by omega)
    have s1 := add_run (ipText x) [47] (by omega) (by simp)
    have s2 := add_run (ipText x ++ [47]) (Lib.decDigits n) (by simp; omega) (by omega)
    refine wp_region_up (by kernel_rfl) (by kernel_rfl) ?_
    repeat (go_big_quiet_step ((first
      | (go_at_call 22; exact up_call (ipText_any x hx _ ((hr.kept hk).kept (Up.kept _))))
      | (go_at_call 39; exact up_call (itoa_any n (by omega) _ ((hr.kept hk).kept (Up.kept _)))))))
    refine wpQuiet_nil ?_
    rintro _ ⟨⟨w2, hk2⟩, rfl⟩
    clear d0 d1 s1 s2
    go_wp2
    go_ret
    exact ⟨rfl, hk.trans hk2⟩

theorem parseIP_lt (l : List UInt8) : (parseIP l).1 < 4294967296 := by
  unfold parseIP
  split
  · split
    · next h => simp only [Bool.and_eq_true, decide_eq_true_eq] at h; show _ < _; simp only; omega
    · exact Nat.zero_lt_of_lt (Nat.lt_succ_self 4294967295)
  · exact Nat.zero_lt_of_lt (Nat.lt_succ_self 4294967295)
theorem parseIP_err (l : List UInt8) : (parseIP l).2 = 5 ∨ (parseIP l).2 = 24 ∨ (parseIP l).2 = 0 := by
  unfold parseIP
  split
  · split
    · exact .inr (.inr rfl)
    · exact .inr (.inl rfl)
  · exact .inl rfl

/-- The prefix of a text, and the error. -/
def parse (l : List UInt8) : (Nat × Nat) × Int :=
  if (parseIP (cutAt 47 l).1).2 = 5 ∨ num (cutAt 47 l).2 = none then ((0, 0), 5)
  else if (parseIP (cutAt 47 l).1).2 ≠ 0 ∨ 32 < (num (cutAt 47 l).2).getD 0 then ((0, 0), 24)
  else if may (parseIP (cutAt 47 l).1).1 ((num (cutAt 47 l).2).getD 0 : Nat) = true then (((parseIP (cutAt 47 l).1).1, (num (cutAt 47 l).2).getD 0), 0)
  else ((0, 0), 24)
def ptup (r : (Nat × Nat) × Int) : Value := .tuple #[.agg #[.int .u32 (r.1.1 : Nat), .int .i64 (r.1.2 : Nat)], .int .i64 r.2]
set_option maxHeartbeats 1000000 in
theorem parse_any (l : List UInt8) (hl : l.length ≤ 100000) (w : World) :
    Calls Tryd.prog 31 #[.string ⟨l.toArray⟩] w fun e w' => e = .returned (ptup (parse l)) ∧ Kept Nothing w w' := by
  have hc := cut_len 47 l
  have k0 : Kept Nothing w (w.alloc (.cells #[.int .u32 0, .int .i64 0] 25)) := (Kept.refl _ w).alloc _
  have HC := Lib.hid (cut_any 47 l hl)
  have HI := Lib.hid (parseIP_any (cutAt 47 l).1 (by omega))
  have hE := parseIP_err (cutAt 47 l).1
  have hip := parseIP_lt (cutAt 47 l).1
  have HD : parse l = parse l := rfl
  conv at HD => rhs; unfold parse
  generalize parseIP (cutAt 47 l).1 = pi at HI hE hip HD
  obtain ⟨ip, e⟩ := pi
  simp only at hE hip HD
  cases hn : num (cutAt 47 l).2 with
  | none =>
    have HN := Lib.hid (number_none _ (by omega) hn)
    rw [if_pos (.inr hn)] at HD
    have HD := Lib.hid HD
    clear hn hc
    rcases hE with rfl | rfl | rfl
    all_goals
      go_enter Tryd.func31, Tryd.ntmps31
      go_wp2_with (first
        | (go_at_call 52; refine (HC.out _).mono ?_; rintro e w1 ⟨rfl, hk1⟩; have k1 := k0.trans hk1)
        | (go_at_call 29; refine (HI.out _).mono ?_; rintro e w2 ⟨rfl, hk2⟩; have k2 := k1.trans hk2; have hB := ((Blk.fresh w 25 #[.int .u32 0, .int .i64 0]).kept hk1 (fun x => x)).kept hk2 (fun x => x); have c0 : w2.cell? ⟨w.heap.size, 0, none⟩ = some (.int .u32 0) := hB.cell 0; have c1 : w2.cell? ⟨w.heap.size, 1, none⟩ = some (.int .i64 0) := hB.cell 1; have f0 := hB.free 0; have f1 := hB.free 1; have HB := Lib.hid hB; clear hB)
        | (go_at_call 49; refine (HN.out _).mono ?_; rintro e w3 ⟨rfl, rfl⟩))
      refine bodyPost_ret (v := ptup ((0, 0), 5)) (by simp [results, Tryd.results31, go_sem, c0, c1, ptup]) rfl ⟨by rw [HD.out], ?_⟩
      exact (k2.setCell (p := ⟨w.heap.size, 0, none⟩) (fun h => absurd h (by simp)) _).setCell (p := ⟨w.heap.size, 1, none⟩) (fun h => absurd h (by simp)) _
  | some v =>
    have HN := Lib.hid (number_some _ (by omega) v hn)
    have hv := num_lt hn
    rw [hn] at HD
    clear hn hc
    rcases hE with rfl | rfl | rfl
    · rw [if_pos (.inl rfl)] at HD
      have HD := Lib.hid HD
      go_enter Tryd.func31, Tryd.ntmps31
      go_wp2_with (first
        | (go_at_call 52; refine (HC.out _).mono ?_; rintro e w1 ⟨rfl, hk1⟩; have k1 := k0.trans hk1)
        | (go_at_call 29; refine (HI.out _).mono ?_; rintro e w2 ⟨rfl, hk2⟩; have k2 := k1.trans hk2; have hB := ((Blk.fresh w 25 #[.int .u32 0, .int .i64 0]).kept hk1 (fun x => x)).kept hk2 (fun x => x); have c0 : w2.cell? ⟨w.heap.size, 0, none⟩ = some (.int .u32 0) := hB.cell 0; have c1 : w2.cell? ⟨w.heap.size, 1, none⟩ = some (.int .i64 0) := hB.cell 1; have f0 := hB.free 0; have f1 := hB.free 1; have HB := Lib.hid hB; clear hB)
        | (go_at_call 49; refine (HN.out _).mono ?_; rintro e w3 ⟨rfl, rfl⟩))
      refine bodyPost_ret (v := ptup ((0, 0), 5)) (by simp [results, Tryd.results31, go_sem, c0, c1, ptup]) rfl ⟨by rw [HD.out], ?_⟩
      exact (k2.setCell (p := ⟨w.heap.size, 0, none⟩) (fun h => absurd h (by simp)) _).setCell (p := ⟨w.heap.size, 1, none⟩) (fun h => absurd h (by simp)) _
    · rw [if_neg (by simp), if_pos (.inl (by decide))] at HD
      have HD := Lib.hid HD
      go_enter Tryd.func31, Tryd.ntmps31
      go_wp2_with (first
        | (go_at_call 52; refine (HC.out _).mono ?_; rintro e w1 ⟨rfl, hk1⟩; have k1 := k0.trans hk1)
        | (go_at_call 29; refine (HI.out _).mono ?_; rintro e w2 ⟨rfl, hk2⟩; have k2 := k1.trans hk2; have hB := ((Blk.fresh w 25 #[.int .u32 0, .int .i64 0]).kept hk1 (fun x => x)).kept hk2 (fun x => x); have c0 : w2.cell? ⟨w.heap.size, 0, none⟩ = some (.int .u32 0) := hB.cell 0; have c1 : w2.cell? ⟨w.heap.size, 1, none⟩ = some (.int .i64 0) := hB.cell 1; have f0 := hB.free 0; have f1 := hB.free 1; have HB := Lib.hid hB; clear hB)
        | (go_at_call 49; refine (HN.out _).mono ?_; rintro e w3 ⟨rfl, rfl⟩))
      refine bodyPost_ret (v := ptup ((0, 0), 24)) (by simp [results, Tryd.results31, go_sem, c0, c1, ptup]) rfl ⟨by rw [HD.out], ?_⟩
      exact (k2.setCell (p := ⟨w.heap.size, 0, none⟩) (fun h => absurd h (by simp)) _).setCell (p := ⟨w.heap.size, 1, none⟩) (fun h => absurd h (by simp)) _
    · by_cases h32 : 32 < v
      · rw [if_neg (by simp), if_pos (.inr h32)] at HD
        have HD := Lib.hid HD
        have h33 : (32 : Int) < (v : Int) := by omega
        go_enter Tryd.func31, Tryd.ntmps31
        go_wp2_with (first
          | (go_at_call 52; refine (HC.out _).mono ?_; rintro e w1 ⟨rfl, hk1⟩; have k1 := k0.trans hk1)
          | (go_at_call 29; refine (HI.out _).mono ?_; rintro e w2 ⟨rfl, hk2⟩; have k2 := k1.trans hk2; have hB := ((Blk.fresh w 25 #[.int .u32 0, .int .i64 0]).kept hk1 (fun x => x)).kept hk2 (fun x => x); have c0 : w2.cell? ⟨w.heap.size, 0, none⟩ = some (.int .u32 0) := hB.cell 0; have c1 : w2.cell? ⟨w.heap.size, 1, none⟩ = some (.int .i64 0) := hB.cell 1; have f0 := hB.free 0; have f1 := hB.free 1; have HB := Lib.hid hB; clear hB)
          | (go_at_call 49; refine (HN.out _).mono ?_; rintro e w3 ⟨rfl, rfl⟩))
        refine bodyPost_ret (v := ptup ((0, 0), 24)) (by simp [results, Tryd.results31, go_sem, c0, c1, ptup]) rfl ⟨by rw [HD.out], ?_⟩
        exact (k2.setCell (p := ⟨w.heap.size, 0, none⟩) (fun h => absurd h (by simp)) _).setCell (p := ⟨w.heap.size, 1, none⟩) (fun h => absurd h (by simp)) _
      · rw [if_neg (by simp), if_neg (by rintro (h | h); exact h rfl; exact h32 h)] at HD
        have h33 : ¬ (32 : Int) < (v : Int) := by omega
        have HM := may_any ip (v : Int) hip
        simp only [Option.getD_some] at HD
        cases hm : may ip (v : Int) with
        | false =>
          rw [hm] at HM HD
          rw [if_neg (by simp)] at HD
          have HD := Lib.hid HD
          have HM := Lib.hid HM
          clear hm
          go_enter Tryd.func31, Tryd.ntmps31
          go_wp2_with (first
            | (go_at_call 52; refine (HC.out _).mono ?_; rintro e w1 ⟨rfl, hk1⟩; have k1 := k0.trans hk1)
            | (go_at_call 29; refine (HI.out _).mono ?_; rintro e w2 ⟨rfl, hk2⟩; have k2 := k1.trans hk2; have hB := ((Blk.fresh w 25 #[.int .u32 0, .int .i64 0]).kept hk1 (fun x => x)).kept hk2 (fun x => x); have c0 : w2.cell? ⟨w.heap.size, 0, none⟩ = some (.int .u32 0) := hB.cell 0; have c1 : w2.cell? ⟨w.heap.size, 1, none⟩ = some (.int .i64 0) := hB.cell 1; have f0 := hB.free 0; have f1 := hB.free 1; have HB := Lib.hid hB; clear hB)
            | (go_at_call 49; refine (HN.out _).mono ?_; rintro e w3 ⟨rfl, rfl⟩)
            | (go_at_call 11; refine (HM.out _).mono ?_; rintro e w4 ⟨rfl, hk4⟩; have hB4 := (HB.out.alloc (.cells #[.int .u32 (ip : Nat), .int .i64 (v : Nat)] 25)).kept hk4 (fun x => x); have hC4 := (Blk.fresh w2 25 #[.int .u32 (ip : Nat), .int .i64 (v : Nat)]).kept hk4 (fun x => x); have b0 : w4.cell? ⟨w.heap.size, 0, none⟩ = some (.int .u32 0) := hB4.cell 0; have b1 : w4.cell? ⟨w.heap.size, 1, none⟩ = some (.int .i64 0) := hB4.cell 1; have g0 := hB4.free 0; have g1 := hB4.free 1; have e0 : w4.cell? ⟨w2.heap.size, 0, none⟩ = some (.int .u32 (ip : Nat)) := hC4.cell 0; have e1 : w4.cell? ⟨w2.heap.size, 1, none⟩ = some (.int .i64 (v : Nat)) := hC4.cell 1; have k4 := (k2.alloc (.cells #[.int .u32 (ip : Nat), .int .i64 (v : Nat)] 25)).trans hk4; have HC4 := Lib.hid hC4; have HB4 := Lib.hid hB4; clear hB4 hC4))
          refine bodyPost_ret (v := ptup ((0, 0), 24)) (by simp [results, Tryd.results31, go_sem, b0, b1, ptup]) rfl ⟨by rw [HD.out], ?_⟩
          exact (k4.setCell (p := ⟨w.heap.size, 0, none⟩) (fun h => absurd h (by simp)) _).setCell (p := ⟨w.heap.size, 1, none⟩) (fun h => absurd h (by simp)) _
        | true =>
          rw [hm] at HM HD
          rw [if_pos rfl] at HD
          have HD := Lib.hid HD
          have HM := Lib.hid HM
          clear hm
          go_enter Tryd.func31, Tryd.ntmps31
          go_wp2_with (first
            | (go_at_call 52; refine (HC.out _).mono ?_; rintro e w1 ⟨rfl, hk1⟩; have k1 := k0.trans hk1)
            | (go_at_call 29; refine (HI.out _).mono ?_; rintro e w2 ⟨rfl, hk2⟩; have k2 := k1.trans hk2; have hB := ((Blk.fresh w 25 #[.int .u32 0, .int .i64 0]).kept hk1 (fun x => x)).kept hk2 (fun x => x); have c0 : w2.cell? ⟨w.heap.size, 0, none⟩ = some (.int .u32 0) := hB.cell 0; have c1 : w2.cell? ⟨w.heap.size, 1, none⟩ = some (.int .i64 0) := hB.cell 1; have f0 := hB.free 0; have f1 := hB.free 1; have HB := Lib.hid hB; clear hB)
            | (go_at_call 49; refine (HN.out _).mono ?_; rintro e w3 ⟨rfl, rfl⟩)
            | (go_at_call 11; refine (HM.out _).mono ?_; rintro e w4 ⟨rfl, hk4⟩; have hB4 := (HB.out.alloc (.cells #[.int .u32 (ip : Nat), .int .i64 (v : Nat)] 25)).kept hk4 (fun x => x); have hC4 := (Blk.fresh w2 25 #[.int .u32 (ip : Nat), .int .i64 (v : Nat)]).kept hk4 (fun x => x); have b0 : w4.cell? ⟨w.heap.size, 0, none⟩ = some (.int .u32 0) := hB4.cell 0; have b1 : w4.cell? ⟨w.heap.size, 1, none⟩ = some (.int .i64 0) := hB4.cell 1; have g0 := hB4.free 0; have g1 := hB4.free 1; have e0 : w4.cell? ⟨w2.heap.size, 0, none⟩ = some (.int .u32 (ip : Nat)) := hC4.cell 0; have e1 : w4.cell? ⟨w2.heap.size, 1, none⟩ = some (.int .i64 (v : Nat)) := hC4.cell 1; have k4 := (k2.alloc (.cells #[.int .u32 (ip : Nat), .int .i64 (v : Nat)] 25)).trans hk4; have HC4 := Lib.hid hC4; have HB4 := Lib.hid hB4; clear hB4 hC4))
          refine bodyPost_ret (v := ptup ((ip, v), 0)) (by simp [results, Tryd.results31, go_sem, b0, b1, ptup]) rfl ⟨by rw [HD.out], ?_⟩
          exact (k4.setCell (p := ⟨w.heap.size, 0, none⟩) (fun h => absurd h (by simp)) _).setCell (p := ⟨w.heap.size, 1, none⟩) (fun h => absurd h (by simp)) _
end Go.Proofs.YtfjhpeijlhlaeaaDoor
