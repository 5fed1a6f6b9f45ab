
/-
  The law ClockOrder.
-/
import Derived.Test.YtdhbfhjlholnlaaZo
namespace Go.Proofs.Ytdhbfhjlholnlaa
open Go.RowKit

namespace Ck
theorem lim_max {c : C} {u : Int} (h1 : c.now ≤ 1048576) (h2 : u ≤ 2097152) : lim c u = max u c.now := by
  unfold lim MT
  omega
theorem til_pos {n x : Int} (h : 0 ≤ x) : til n x = some (n + x) := if_pos h
theorem til_neg {n x : Int} (h : x < 0) : til n x = none := if_neg (by omega)
/-- What the law asks of one timer. -/
theorem order_one {c : C} {u e n x : Int} {k : Nat} {r : List (Nat × Int) × C} (S : Spec c u r) (he : lim c u = e) (ht : c.t[k]? = some (til n x)) :
    (x < 0 ∧ r.1.countP (fun p => p.1 == k) = 0 ∧ left r.2 k = (0, false)) ∨
    (0 ≤ x ∧ n + x ≤ e ∧ r.1.countP (fun p => p.1 == k) = 1 ∧ left r.2 k = (0, false)) ∨
    (0 ≤ x ∧ e < n + x ∧ r.1.countP (fun p => p.1 == k) = 0 ∧ left r.2 k = (n + x - e, true)) := by
  have hgd : ∀ o, r.2.t[k]? = some o → r.2.t.getD k none = o := fun o h => by rw [List.getD_eq_getElem?_getD, h]; rfl
  by_cases h0 : 0 ≤ x
  · rw [til_pos h0] at ht
    by_cases h1 : n + x ≤ e
    · obtain ⟨a, b⟩ := S.due k _ ht (by omega)
      exact .inr (.inl ⟨h0, h1, b, by unfold left; rw [hgd _ a]⟩)
    · obtain ⟨a, b⟩ := S.not k _ ht (by omega)
      exact .inr (.inr ⟨h0, by omega, b, by unfold left; rw [hgd _ a]; simp only; rw [S.now, he]⟩)
  · rw [til_neg (by omega)] at ht
    obtain ⟨a, b⟩ := S.non k ht
    exact .inl ⟨by omega, b, by unfold left; rw [hgd _ a]⟩
theorem order_mem {c : C} {u n x : Int} {k : Nat} {r : List (Nat × Int) × C} (S : Spec c u r) (ht : c.t[k]? = some (til n x)) {i : Nat} (hi : i < r.1.length) (he : (r.1.getD i (0, 0)).1 = k) : 0 ≤ x ∧ (r.1.getD i (0, 0)).2 = n + x := by
  have hm : r.1.getD i (0, 0) ∈ r.1 := by
    rw [List.getD_eq_getElem?_getD, List.getElem?_eq_getElem hi]
    exact List.getElem_mem hi
  have h1 := (S.mem _ hm).1
  rw [he, ht] at h1
  unfold til at h1
  split at h1
  · next h => exact ⟨h, by simpa using h1.symm⟩
  · cases h1
theorem order_lt {c : C} {u : Int} {r : List (Nat × Int) × C} (S : Spec c u r) {i : Nat} (hi : i + 1 < r.1.length) :
    (r.1.getD i (0, 0)).2 < (r.1.getD (i + 1) (0, 0)).2 ∨ ((r.1.getD i (0, 0)).2 = (r.1.getD (i + 1) (0, 0)).2 ∧ (r.1.getD i (0, 0)).1 < (r.1.getD (i + 1) (0, 0)).1) := by
  have := List.pairwise_iff_getElem.1 S.ord i (i + 1) (by omega) hi (by omega)
  rw [List.getD_eq_getElem?_getD, List.getElem?_eq_getElem (by omega : i < r.1.length), List.getD_eq_getElem?_getD, List.getElem?_eq_getElem hi]
  exact this
theorem count_take (l : List (Nat × Int)) (k i : Nat) (hi : i < l.length) : (l.take (i + 1)).countP (fun p => p.1 == k) = (l.take i).countP (fun p => p.1 == k) + (if (l.getD i (0, 0)).1 = k then 1 else 0) := by
  rw [List.take_succ_eq_append_getElem hi, List.countP_append]
  congr 1
  rw [List.getD_eq_getElem?_getD, List.getElem?_eq_getElem hi]
  simp [List.countP_cons]
end Ck
set_option maxRecDepth 100000 in
set_option maxHeartbeats 4000000 in
theorem order_law (n : Nat) (a b c d : Int) (u : Nat) (W : World) :
    Calls Try.prog 5 #[.int .u32 (n : Int), .agg #[.int .i64 a, .int .i64 b, .int .i64 c, .int .i64 d], .int .u32 (u : Int)] W fun r w' => r = .returned (.bool true) ∧ Kept Nothing W w' := by
  have hn1 : 0 ≤ (n : Int) % 1048576 := by omega
  have hn2 : (n : Int) % 1048576 ≤ 1048576 := by omega
  have hu1 : 0 ≤ (u : Int) % 2097152 := by omega
  have hu2 : (u : Int) % 2097152 ≤ 2097152 := by omega
  go_enter Try.func5, Try.ntmps5
  go_upto_region 2 with fail
  generalize (n : Int) % 1048576 = t0 at *
  generalize (u : Int) % 2097152 = u0 at *
  have BA : Hid (Blk (W.alloc (.cells #[.int .i64 a, .int .i64 b, .int .i64 c, .int .i64 d] 45)) W.heap.size 45 (capc a b c d 0)) := Lib.hid (Blk.fresh W _ _)
  have KW := Lib.hid ((Kept.refl Nothing W).alloc (.cells #[.int .i64 a, .int .i64 b, .int .i64 c, .int .i64 d] 45))
  generalize W.alloc (.cells #[.int .i64 a, .int .i64 b, .int .i64 c, .int .i64 d] 45) = W2 at *
  go_wp2
  go_loopw [29] (fun i wr => ∃ k : Nat, i = .int .i64 (k : Int) ∧ k ≤ 4 ∧ Hid (Blk wr W.heap.size 45 (capc a b c d k) ∧ Kept Nothing W wr)) (fun i _ => 4 - (intOf i).toNat)
  case atStart => exact ⟨0, rfl, by omega, Lib.hid ⟨BA.out, KW.out⟩⟩
  case round =>
    clear BA KW
    obtain ⟨k, rfl, hk4, hH⟩ := hrel
    by_cases h4 : k < 4
    · obtain rfl | rfl | rfl | rfl : k = 0 ∨ k = 1 ∨ k = 2 ∨ k = 3 := by omega
      · have hb := hH.out.1
        unfold capc at hb
        have g0 := hb.cell 0
        have f0 := hb.free 0
        simp at g0
        have HS : ∀ x, Ck.cap a = x → Hid (Blk (wr.setCell ⟨W.heap.size, 0, none⟩ (.int .i64 x)) W.heap.size 45 (capc a b c d 1) ∧ Kept Nothing W (wr.setCell ⟨W.heap.size, 0, none⟩ (.int .i64 x))) := fun x e => Lib.hid ⟨by subst e; exact hb.put 0 _, hH.out.2.trans_new (Kept.own wr W.heap.size 0 (.int .i64 x)) (fun i hi (e : i = W.heap.size) => by omega)⟩
        clear hb
        rcases Ck.cap_cases a with ⟨q1, q2⟩ | ⟨q1, q2⟩
        all_goals
          have HT := HS _ q2
          clear HS q2
          go_wp2
          go_roundw
          case rel => exact ⟨1, by go_num, by omega, HT⟩
          case measure => simp [intOf]
      · have hb := hH.out.1
        unfold capc at hb
        have g1 := hb.cell 1
        have f1 := hb.free 1
        simp at g1
        have HS : ∀ x, Ck.cap b = x → Hid (Blk (wr.setCell ⟨W.heap.size, 1, none⟩ (.int .i64 x)) W.heap.size 45 (capc a b c d 2) ∧ Kept Nothing W (wr.setCell ⟨W.heap.size, 1, none⟩ (.int .i64 x))) := fun x e => Lib.hid ⟨by subst e; exact hb.put 1 _, hH.out.2.trans_new (Kept.own wr W.heap.size 1 (.int .i64 x)) (fun i hi (e : i = W.heap.size) => by omega)⟩
        clear hb
        rcases Ck.cap_cases b with ⟨q1, q2⟩ | ⟨q1, q2⟩
        all_goals
          have HT := HS _ q2
          clear HS q2
          go_wp2
          go_roundw
          case rel => exact ⟨2, by go_num, by omega, HT⟩
          case measure => simp [intOf]
      · have hb := hH.out.1
        unfold capc at hb
        have g2 := hb.cell 2
        have f2 := hb.free 2
        simp at g2
        have HS : ∀ x, Ck.cap c = x → Hid (Blk (wr.setCell ⟨W.heap.size, 2, none⟩ (.int .i64 x)) W.heap.size 45 (capc a b c d 3) ∧ Kept Nothing W (wr.setCell ⟨W.heap.size, 2, none⟩ (.int .i64 x))) := fun x e => Lib.hid ⟨by subst e; exact hb.put 2 _, hH.out.2.trans_new (Kept.own wr W.heap.size 2 (.int .i64 x)) (fun i hi (e : i = W.heap.size) => by omega)⟩
        clear hb
        rcases Ck.cap_cases c with ⟨q1, q2⟩ | ⟨q1, q2⟩
        all_goals
          have HT := HS _ q2
          clear HS q2
          go_wp2
          go_roundw
          case rel => exact ⟨3, by go_num, by omega, HT⟩
          case measure => simp [intOf]
      · have hb := hH.out.1
        unfold capc at hb
        have g3 := hb.cell 3
        have f3 := hb.free 3
        simp at g3
        have HS : ∀ x, Ck.cap d = x → Hid (Blk (wr.setCell ⟨W.heap.size, 3, none⟩ (.int .i64 x)) W.heap.size 45 (capc a b c d 4) ∧ Kept Nothing W (wr.setCell ⟨W.heap.size, 3, none⟩ (.int .i64 x))) := fun x e => Lib.hid ⟨by subst e; exact hb.put 3 _, hH.out.2.trans_new (Kept.own wr W.heap.size 3 (.int .i64 x)) (fun i hi (e : i = W.heap.size) => by omega)⟩
        clear hb
        rcases Ck.cap_cases d with ⟨q1, q2⟩ | ⟨q1, q2⟩
        all_goals
          have HT := HS _ q2
          clear HS q2
          go_wp2
          go_roundw
          case rel => exact ⟨4, by go_num, by omega, HT⟩
          case measure => simp [intOf]
    · obtain rfl : k = 4 := by omega
      have KW := Lib.hid hH.out.2
      have BA := Lib.hid hH.out.1
      clear hH
      go_upto_region 7 with fail
      have hC0 := Ck.started_four t0 a b c d hn2
      have HS := Lib.hid (cl_started t0 (Ck.cap a) (Ck.cap b) (Ck.cap c) (Ck.cap d) hn1 (by omega) W wr KW.out)
      have hA := Ck.cap_le a
      have hB := Ck.cap_le b
      have hCc := Ck.cap_le c
      have hD := Ck.cap_le d
      rw [hC0] at HS
      have hb := BA.out
      unfold capc at hb
      have x0 := hb.cell 0
      have x1 := hb.cell 1
      have x2 := hb.cell 2
      have x3 := hb.cell 3
      simp at x0 x1 x2 x3
      clear hC0 hb hk4 h4
      generalize hqa : Ck.cap a = A at *
      generalize hqb : Ck.cap b = B at *
      generalize hqc : Ck.cap c = Cc at *
      generalize hqd : Ck.cap d = D at *
      have HQ := Lib.hid (And.intro hqa (And.intro hqb (And.intro hqc hqd)))
      clear hqa hqb hqc hqd
      generalize hC : (⟨t0, [Ck.til t0 A, Ck.til t0 B, Ck.til t0 Cc, Ck.til t0 D]⟩ : Ck.C) = C0 at HS
      have hCn : C0.now = t0 := by rw [← hC]
      have hCt : C0.t = [Ck.til t0 A, Ck.til t0 B, Ck.til t0 Cc, Ck.til t0 D] := by rw [← hC]
      have hE : Ck.lim C0 u0 = max u0 t0 := by rw [Ck.lim_max (by omega) (by omega), hCn]
      have HE := Lib.hid hE
      have HCt := Lib.hid hCt
      clear hC hCn hCt hE
      go_wp2_with fail
      refine (HS.out).mono ?_
      rintro e w3 ⟨p, rfl, hp, hp2, hk3⟩
      have P3 := Lib.hid hp
      have B3 := Lib.hid (BA.out.kept hk3 not_nothing)
      have HA := Lib.hid (cl_all p C0 u0 W w3 hp)
      have HSp := Lib.hid (Ck.all_spec 10 u0 hp.good (by have := Ck.runs_le hp.good; omega))
      have HLn := Lib.hid (Ck.all_len 10 C0 u0)
      have hne : W.heap.size ≠ p := fun e => by have := BA.out.lt; omega
      clear hp hk3 hp2 HS BA
      generalize Ck.all 10 C0 u0 = R at HA HSp HLn
      go_wp2_with fail
      refine (HA.out).mono ?_
      rintro e w4 ⟨A1, m1, rfl, ho, hc4, hk4⟩
      have P4 := Lib.hid hc4
      have b4 := B3.out.kept hk4 (fun (e : W.heap.size = p) => hne e)
      unfold capc at b4
      rw [HQ.out.1, HQ.out.2.1, HQ.out.2.2.1, HQ.out.2.2.2] at b4
      have hG : Rgs w4 (.slice A1 R.1.length m1) R.1 := Rgs.of_own ho rfl
      obtain ⟨A1', m1', heq, hg⟩ := hG
      injection heq with e1 e2 e3
      subst e1 e3
      have HG := Lib.hid hg
      clear hg ho hc4 hk4 e2 HA P3 B3 x0 x1 x2 x3
      have x0 := b4.cell 0
      have x1 := b4.cell 1
      have x2 := b4.cell 2
      have x3 := b4.cell 3
      simp at x0 x1 x2 x3
      clear b4
      generalize hEv : max u0 t0 = E at HE
      have hE2 : t0 ≤ E := by omega
      have hE3 : E ≤ 2097152 := by omega
      have hmax : u0 ≤ t0 ∧ E = t0 ∨ t0 < u0 ∧ E = u0 := by omega
      clear hEv
      go_upto_region 11 with fail
      go_cut [8] (fun x wx => x = .int .i64 E ∧ w4 = wx)
      case first =>
        rcases hmax with ⟨q1, rfl⟩ | ⟨q1, rfl⟩
        all_goals
          go_wp2
          all_goals
            go_meet
            first | exact ⟨rfl, rfl⟩ | (refine ⟨?_, rfl⟩; congr 1; omega)
      case rest =>
        obtain ⟨rfl, rfl⟩ := hcut
        clear hmax
        go_wp2
        clear x0 x1 x2 x3
        go_loopw [51] (fun i wr => ∃ k : Nat, i = .int .i64 (k : Int) ∧ k ≤ 4 ∧ Hid (Kept Nothing w4 wr)) (fun i _ => 4 - (intOf i).toNat)
        case atStart => exact ⟨0, rfl, by omega, Lib.hid (Kept.refl _ _)⟩
        case round =>
          obtain ⟨k, rfl, hk4, hK⟩ := hrel
          by_cases h4 : k < 4
          · have hi : (k : Int) < 4 := by omega
            have hx : ∀ v, (Instr.index 45 (.agg #[.int .i64 A, .int .i64 B, .int .i64 Cc, .int .i64 D]) (.int .i64 (k : Int))).run Try.prog v = .ok (.int .i64 ([A, B, Cc, D].getD k 0)) v := by
              intro v
              obtain rfl | rfl | rfl | rfl : k = 0 ∨ k = 1 ∨ k = 2 ∨ k = 3 := by omega
              all_goals rfl
            have HT : Hid (C0.t[k]? = some (Ck.til t0 ([A, B, Cc, D].getD k 0))) := Lib.hid (by
              rw [HCt.out]
              obtain rfl | rfl | rfl | rfl : k = 0 ∨ k = 1 ∨ k = 2 ∨ k = 3 := by omega
              all_goals rfl)
            have hxl : [A, B, Cc, D].getD k 0 ≤ 1048576 := by
              obtain rfl | rfl | rfl | rfl : k = 0 ∨ k = 1 ∨ k = 2 ∨ k = 3 := by omega
              all_goals first | exact hA | exact hB | exact hCc | exact hD
            have htm : Ck.tm (k : Int) = true := by unfold Ck.tm; simp; omega
            have HLf := Lib.hid (fun v (hv : Kept Nothing w4 v) => ck_left p R.2 (k : Int) P4.out.good v ((P4.out.old hv).at_))
            simp only [htm, if_true, Int.toNat_natCast] at HLf
            generalize [A, B, Cc, D].getD k 0 = X at hx HT hxl
            have HO := Lib.hid (Ck.order_one HSp.out HE.out HT.out)
            clear htm
            go_wp2
            clear hx
            go_loopw [14, 57] (fun m j wq => ∃ i : Nat, j = .int .i64 (i : Int) ∧ i ≤ R.1.length ∧ m = .int .i64 ((R.1.take i).countP (fun x => x.1 == k) : Nat) ∧ Hid (Kept Nothing w4 wq)) (fun _ j _ => R.1.length - (intOf j).toNat)
            case atStart => exact ⟨0, rfl, by omega, rfl, hK⟩
            case round =>
              clear hK
              obtain ⟨i, rfl, hil, rfl, hQ⟩ := hrel
              by_cases hlt : i < R.1.length
              · have hl10 := HLn.out
                have hlt' : (i : Int) < (R.1.length : Int) := by omega
                obtain ⟨bp, op, rfl, hcp⟩ := HG.out (by omega)
                obtain ⟨cp0, cp1, cp2⟩ := hcp i hlt
                have d0 := hQ.out.cell_some cp0 (fun x => x)
                have d1 := hQ.out.cell_some cp1 (fun x => x)
                have d2 := hQ.out.cell_some cp2 (fun x => x)
                have HM := Lib.hid (fun e => Ck.order_mem HSp.out HT.out hlt e)
                have HCn := Lib.hid (Ck.count_take R.1 k i hlt)
                have hci : ((R.1.take i).countP (fun x => x.1 == k) : Int) ≤ 10 := by
                  have := List.countP_le_length (p := fun x : Nat × Int => x.1 == k) (l := R.1.take i)
                  rw [List.length_take] at this
                  omega
                clear hcp cp0 cp1 cp2
                generalize (R.1.getD i (0, 0)).1 = g1 at *
                generalize (R.1.getD i (0, 0)).2 = g2 at *
                generalize hcc : (R.1.take i).countP (fun x => x.1 == k) = cc at *
                clear hcc
                have ka := fun o => hQ.out.alloc o
                have KA := Lib.hid ka
                clear ka
                by_cases hg : g1 = k
                · obtain ⟨hX0, hg2⟩ := HM.out hg
                  rw [if_pos hg] at HCn
                  have he : ((g1 : Int) == (k : Int)) = true := by simp; omega
                  have hw : wrap64 (t0 + X) = t0 + X := by unfold wrap64; omega
                  have he2 : (g2 != t0 + X) = false := by simp; omega
                  clear HM hg hg2
                  go_wp2
                  go_roundw
                  case rel => exact ⟨i + 1, by go_num, by omega, by rw [HCn.out]; go_num, Lib.hid (KA.out _)⟩
                  case measure => simp [intOf]; omega
                · rw [if_neg hg] at HCn
                  have he : ((g1 : Int) == (k : Int)) = false := by simp; omega
                  clear HM hg
                  go_wp2
                  go_roundw
                  case rel => exact ⟨i + 1, by go_num, by omega, by rw [HCn.out, Nat.add_zero], Lib.hid (KA.out _)⟩
                  case measure => simp [intOf]; omega
              · obtain rfl : i = R.1.length := by omega
                rw [List.take_length]
                have HLq := Lib.hid (HLf.out _ hQ.out)
                rcases HO.out with ⟨o1, o2, o3⟩ | ⟨o1, o2, o3, o4⟩ | ⟨o1, o2, o3, o4⟩
                · rw [o2]
                  rw [o3] at HLq
                  clear o2 o3 HO HLf
                  go_wp2_with (go_at_call 20; refine (HLq.out).mono ?_; rintro e w7 ⟨rfl, hk7⟩; (have K7 := Lib.hid (hQ.out.trans hk7)); clear hk7)
                  go_roundw
                  case rel => exact ⟨k + 1, by go_num, by omega, K7⟩
                  case measure => simp [intOf]; omega
                · have hw : wrap64 (t0 + X) = t0 + X := by unfold wrap64; omega
                  rw [o3]
                  rw [o4] at HLq
                  clear o3 o4 HO HLf
                  go_wp2_with (go_at_call 20; refine (HLq.out).mono ?_; rintro e w7 ⟨rfl, hk7⟩; (have K7 := Lib.hid (hQ.out.trans hk7)); clear hk7)
                  go_roundw
                  case rel => exact ⟨k + 1, by go_num, by omega, K7⟩
                  case measure => simp [intOf]; omega
                · have hw : wrap64 (t0 + X) = t0 + X := by unfold wrap64; omega
                  have hw2 : wrap64 (t0 + X - E) = t0 + X - E := by unfold wrap64; omega
                  have hbn : (t0 + X - E != t0 + X - E) = false := by simp
                  rw [o3]
                  rw [o4] at HLq
                  clear o3 o4 HO HLf
                  go_wp2_with (go_at_call 20; refine (HLq.out).mono ?_; rintro e w7 ⟨rfl, hk7⟩; (have K7 := Lib.hid (hQ.out.trans hk7)); clear hk7)
                  go_roundw
                  case rel => exact ⟨k + 1, by go_num, by omega, K7⟩
                  case measure => simp [intOf]; omega
          · have hk44 : (4 : Int) ≤ (k : Int) := by omega
            clear h4 hk4 hA hB hCc hD
            go_wp2
            go_loopw [20] (fun i wq => ∃ J : Nat, i = .int .i64 (J : Int) ∧ 1 ≤ J ∧ (J ≤ R.1.length ∨ J = 1) ∧ Hid (Kept Nothing w4 wq)) (fun i _ => R.1.length + 1 - (intOf i).toNat)
            case atStart => exact ⟨1, rfl, Nat.le_refl _, .inr rfl, hK⟩
            case round =>
              clear hK
              obtain ⟨J, rfl, hJ1, hj, hQ⟩ := hrel
              have hl10 := HLn.out
              have hj10 : (J : Int) ≤ 20 := by omega
              obtain ⟨j, hJj⟩ : ∃ j, J = j + 1 := ⟨J - 1, by omega⟩
              by_cases hlt : J < R.1.length
              · have hlt' : (J : Int) < (R.1.length : Int) := by omega
                have hlt2 : j < R.1.length := by omega
                obtain ⟨bp, op, rfl, hcp⟩ := HG.out (by omega)
                obtain ⟨cp0, cp1, cp2⟩ := hcp j (by omega)
                obtain ⟨cq0, cq1, cq2⟩ := hcp J hlt
                have d0 := hQ.out.cell_some cp0 (fun x => x)
                have d1 := hQ.out.cell_some cp1 (fun x => x)
                have d2 := hQ.out.cell_some cp2 (fun x => x)
                have f0 := hQ.out.cell_some cq0 (fun x => x)
                have f1 := hQ.out.cell_some cq1 (fun x => x)
                have f2 := hQ.out.cell_some cq2 (fun x => x)
                have hO := Ck.order_lt HSp.out (i := j) (by omega)
                rw [← hJj] at hO
                clear hcp cp0 cp1 cp2 cq0 cq1 cq2
                generalize (R.1.getD j (0, 0)).1 = g1 at *
                generalize (R.1.getD j (0, 0)).2 = g2 at *
                generalize (R.1.getD J (0, 0)).1 = h1 at *
                generalize (R.1.getD J (0, 0)).2 = h2 at *
                have hw1 : IntKind.i64.wrap ((J : Int) - 1) = (j : Int) := by rw [IntKind.wrap_i64]; omega
                have hw2 : wrap64 ((J : Int) - 1) = (j : Int) := by unfold wrap64; omega
                have hwj : IntKind.i64.wrap (j : Int) = (j : Int) := by rw [IntKind.wrap_i64]; omega
                have hjl : (j : Int) < (R.1.length : Int) := by omega
                have HJ := Lib.hid hJj
                clear hJj hj
                go_upto_region 32 with fail
                go_cut [21, 22] (fun x y wx => ∃ g h, x = .pointer (some ⟨g, 0, none⟩) ∧ y = .pointer (some ⟨h, 0, none⟩) ∧ (wx.cell? ⟨g, 0, none⟩ = some (.int .i64 (g1 : Int)) ∧ wx.cell? ⟨g, 2, none⟩ = some (.int .i64 g2)) ∧ (wx.cell? ⟨h, 0, none⟩ = some (.int .i64 (h1 : Int)) ∧ wx.cell? ⟨h, 2, none⟩ = some (.int .i64 h2)) ∧ Kept Nothing wr wx)
                case first =>
                  have hbp := World.block_lt_of_cell? _ _ f0
                  have hb1 : bp ≠ wr.heap.size := by simp at hbp; omega
                  have hb2 : bp ≠ wr.heap.size + 1 := by simp at hbp; omega
                  have hal : ∀ (x : Addr) (v : Value), wr.cell? x = some v → (∀ Z, (wr.alloc Z).cell? x = some v) ∧ ∀ Z Z', ((wr.alloc Z).alloc Z').cell? x = some v := fun x v h => ⟨fun Z => ((Kept.refl Nothing wr).alloc Z).cell_some h (fun x => x), fun Z Z' => (((Kept.refl Nothing wr).alloc Z).alloc Z').cell_some h (fun x => x)⟩
                  obtain ⟨d0a, d0b⟩ := hal _ _ d0
                  obtain ⟨d1a, d1b⟩ := hal _ _ d1
                  obtain ⟨d2a, d2b⟩ := hal _ _ d2
                  obtain ⟨f0a, f0b⟩ := hal _ _ f0
                  obtain ⟨f1a, f1b⟩ := hal _ _ f1
                  obtain ⟨f2a, f2b⟩ := hal _ _ f2
                  clear hal
                  go_region
                  all_goals
                    go_wp2
                    go_meet
                    refine ⟨_, _, rfl, rfl, ⟨?_, ?_⟩, ⟨?_, ?_⟩, ?_⟩
                    all_goals try (go_simp; done)
                    all_goals
                      exact (((Kept.refl Nothing wr).alloc _).alloc _).drew
                case rest =>
                  obtain ⟨g, h, rfl, rfl, ⟨v0, v2⟩, ⟨u0', u2'⟩, hk⟩ := hcut
                  have KQ := Lib.hid (hQ.out.trans hk)
                  clear hk d0 d1 d2 f0 f1 f2
                  rcases hO with hO | ⟨hO, hO2⟩
                  · have hle : g2 ≤ h2 := by omega
                    have hne2 : (g2 == h2) = false := by simp; omega
                    go_wp2
                    go_roundw
                    case rel => exact ⟨J + 1, by go_num, by omega, by omega, KQ⟩
                    case measure => simp [intOf]; omega
                  · have hle : g2 ≤ h2 := by omega
                    have hne2 : (g2 == h2) = true := by simp; omega
                    have hlt3 : (g1 : Int) < (h1 : Int) := by omega
                    go_wp2
                    go_roundw
                    case rel => exact ⟨J + 1, by go_num, by omega, by omega, KQ⟩
                    case measure => simp [intOf]; omega
              · have hge : (R.1.length : Int) ≤ (J : Int) := by omega
                clear hJj
                have HNw : Hid (Calls Try.prog 13 #[.pointer (some ⟨p, 0, none⟩)] wr fun r w' => r = .returned (.int .i64 E) ∧ wr = w') := Lib.hid (by
                  have := ck_now p R.2 wr (P4.out.old hQ.out).at_
                  rwa [HSp.out.now, HE.out] at this)
                have HWK := Lib.hid (ck_wakes wr)
                have hbe : (E == E) = true := beq_self_eq_true _
                clear hlt
                go_wp2_with (first
                  | (go_at_call 13; refine (HNw.out).mono ?_; rintro e w' ⟨rfl, rfl⟩)
                  | (go_at_call 11; refine (HWK.out).mono ?_; rintro e w8 ⟨rfl, hk8⟩))
                go_ret
                exact ⟨rfl, (P4.out.keep.trans hQ.out).trans hk8⟩
end Go.Proofs.Ytdhbfhjlholnlaa
