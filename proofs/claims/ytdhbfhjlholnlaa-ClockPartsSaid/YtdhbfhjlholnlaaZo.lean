
/-
  The law ClockParts.
-/
import Derived.Test.YtdhbfhjlholnlaaZn
namespace Go.Proofs.Ytdhbfhjlholnlaa
open Go.RowKit

theorem src_ownZ {w : World} {base : Nat} {e : TypeId} {size n c : Nat} {A : Option Addr} {xs : List Value} (h : w.ownsRow base e size (.slice A n c) n xs) (h1 : ∀ u ∈ xs, u.oneCell' = true) : Src w size A n xs := by
  refine ⟨h.1, ?_, ?_, h1⟩
  · intro hA
    rcases h.2 with ⟨_, h0⟩ | ⟨g, cap, cur, e1, _⟩
    · exact h0
    · rw [hA] at e1; injection e1 with e1; cases e1
  · intro a ha j u hu
    rcases h.2 with ⟨_, h0⟩ | ⟨g, cap, cur, e1, _, hg, _, _, _, ht⟩
    · exfalso
      have := h.1
      rw [h0, Nat.zero_mul] at this
      rw [List.eq_nil_of_length_eq_zero this] at hu
      simp at hu
    · injection e1 with e2
      rw [ha] at e2
      injection e2 with e2
      subst e2
      have hj : j < xs.length := (List.getElem?_eq_some_iff.1 hu).1
      rw [add_none, cell_of_row w g _ cur e (0, 0) hg, Nat.zero_add, ← Array.getElem?_toList, ← List.getElem?_take_of_lt (i := j) (j := n * size) (by rw [← h.1]; exact hj), ht, hu]

theorem Ck.rgs_app (a b : List (Nat × Int)) : Ck.rgs (a ++ b) = Ck.rgs a ++ Ck.rgs b := List.flatMap_append
/-- The ticks, the first k of them capped. -/
def capc (a b c d : Int) : Nat → Array Value
  | 0 => #[.int .i64 a, .int .i64 b, .int .i64 c, .int .i64 d]
  | 1 => #[.int .i64 (Ck.cap a), .int .i64 b, .int .i64 c, .int .i64 d]
  | 2 => #[.int .i64 (Ck.cap a), .int .i64 (Ck.cap b), .int .i64 c, .int .i64 d]
  | 3 => #[.int .i64 (Ck.cap a), .int .i64 (Ck.cap b), .int .i64 (Ck.cap c), .int .i64 d]
  | _ => #[.int .i64 (Ck.cap a), .int .i64 (Ck.cap b), .int .i64 (Ck.cap c), .int .i64 (Ck.cap d)]

set_option maxRecDepth 100000 in
set_option maxHeartbeats 4000000 in
theorem parts_law (n : Nat) (a b c d : Int) (u0 u1 : Nat) (W : World) :
    Calls Try.prog 6 #[.int .u32 (n : Int), .agg #[.int .i64 a, .int .i64 b, .int .i64 c, .int .i64 d], .agg #[.int .u32 (u0 : Int), .int .u32 (u1 : Int)]] W fun r w' => r = .returned (.bool true) ∧ Kept Nothing W w' := by
  have hn1 : 0 ≤ (n : Int) % 1048576 := by omega
  have hn2 : (n : Int) % 1048576 ≤ 1048576 := by omega
  go_enter Try.func6, Try.ntmps6
  go_upto_region 2 with fail
  generalize (n : Int) % 1048576 = t0 at *
  have BA : Hid (Blk ((W.alloc (.cells #[.int .i64 a, .int .i64 b, .int .i64 c, .int .i64 d] 45)).alloc (.cells #[.int .u32 (u0 : Int), .int .u32 (u1 : Int)] 59)) W.heap.size 45 (capc a b c d 0)) := Lib.hid ((Blk.fresh W _ _).alloc _)
  have BD : Hid (Blk ((W.alloc (.cells #[.int .i64 a, .int .i64 b, .int .i64 c, .int .i64 d] 45)).alloc (.cells #[.int .u32 (u0 : Int), .int .u32 (u1 : Int)] 59)) (W.heap.size + 1) 59 #[.int .u32 (u0 : Int), .int .u32 (u1 : Int)]) := Lib.hid (made_blk1 (by simp))
  have KW := Lib.hid (((Kept.refl Nothing W).alloc (.cells #[.int .i64 a, .int .i64 b, .int .i64 c, .int .i64 d] 45)).alloc (.cells #[.int .u32 (u0 : Int), .int .u32 (u1 : Int)] 59))
  generalize (W.alloc (.cells #[.int .i64 a, .int .i64 b, .int .i64 c, .int .i64 d] 45)).alloc (.cells #[.int .u32 (u0 : Int), .int .u32 (u1 : Int)] 59) = W2 at *
  go_wp2
  go_loopw [19] (fun i wr => ∃ k : Nat, i = .int .i64 (k : Int) ∧ k ≤ 4 ∧ Hid (Blk wr W.heap.size 45 (capc a b c d k) ∧ Blk wr (W.heap.size + 1) 59 #[.int .u32 (u0 : Int), .int .u32 (u1 : Int)] ∧ Kept Nothing W wr)) (fun i _ => 4 - (intOf i).toNat)
  case atStart => exact ⟨0, rfl, by omega, Lib.hid ⟨BA.out, BD.out, KW.out⟩⟩
  case round =>
    clear BA KW BD
    obtain ⟨k, rfl, hk4, hH⟩ := hrel
    by_cases h4 : k < 4
    · obtain rfl | rfl | rfl | rfl : k = 0 ∨ k = 1 ∨ k = 2 ∨ k = 3 := by omega
      · have hb := hH.out.1
        unfold capc at hb
        have g0 := hb.cell 0
        have f0 := hb.free 0
        simp at g0
        have HS : ∀ x, Ck.cap a = x → Hid (Blk (wr.setCell ⟨W.heap.size, 0, none⟩ (.int .i64 x)) W.heap.size 45 (capc a b c d 1) ∧ Blk (wr.setCell ⟨W.heap.size, 0, none⟩ (.int .i64 x)) (W.heap.size + 1) 59 #[.int .u32 (u0 : Int), .int .u32 (u1 : Int)] ∧ Kept Nothing W (wr.setCell ⟨W.heap.size, 0, none⟩ (.int .i64 x))) := fun x e => Lib.hid ⟨by subst e; exact hb.put 0 _, hH.out.2.1.kept (Kept.own wr W.heap.size 0 (.int .i64 x)) (fun (e : W.heap.size + 1 = W.heap.size) => by omega), hH.out.2.2.trans_new (Kept.own wr W.heap.size 0 (.int .i64 x)) (fun i hi (e : i = W.heap.size) => by omega)⟩
        clear hb
        rcases Ck.cap_cases a with ⟨q1, q2⟩ | ⟨q1, q2⟩
        all_goals
          have HT := HS _ q2
          clear HS q2
          go_wp2
          go_roundw
          case rel => exact ⟨1, by go_num, by omega, HT⟩
          case measure => simp [intOf]
      · have hb := hH.out.1
        unfold capc at hb
        have g1 := hb.cell 1
        have f1 := hb.free 1
        simp at g1
        have HS : ∀ x, Ck.cap b = x → Hid (Blk (wr.setCell ⟨W.heap.size, 1, none⟩ (.int .i64 x)) W.heap.size 45 (capc a b c d 2) ∧ Blk (wr.setCell ⟨W.heap.size, 1, none⟩ (.int .i64 x)) (W.heap.size + 1) 59 #[.int .u32 (u0 : Int), .int .u32 (u1 : Int)] ∧ Kept Nothing W (wr.setCell ⟨W.heap.size, 1, none⟩ (.int .i64 x))) := fun x e => Lib.hid ⟨by subst e; exact hb.put 1 _, hH.out.2.1.kept (Kept.own wr W.heap.size 1 (.int .i64 x)) (fun (e : W.heap.size + 1 = W.heap.size) => by omega), hH.out.2.2.trans_new (Kept.own wr W.heap.size 1 (.int .i64 x)) (fun i hi (e : i = W.heap.size) => by omega)⟩
        clear hb
        rcases Ck.cap_cases b with ⟨q1, q2⟩ | ⟨q1, q2⟩
        all_goals
          have HT := HS _ q2
          clear HS q2
          go_wp2
          go_roundw
          case rel => exact ⟨2, by go_num, by omega, HT⟩
          case measure => simp [intOf]
      · have hb := hH.out.1
        unfold capc at hb
        have g2 := hb.cell 2
        have f2 := hb.free 2
        simp at g2
        have HS : ∀ x, Ck.cap c = x → Hid (Blk (wr.setCell ⟨W.heap.size, 2, none⟩ (.int .i64 x)) W.heap.size 45 (capc a b c d 3) ∧ Blk (wr.setCell ⟨W.heap.size, 2, none⟩ (.int .i64 x)) (W.heap.size + 1) 59 #[.int .u32 (u0 : Int), .int .u32 (u1 : Int)] ∧ Kept Nothing W (wr.setCell ⟨W.heap.size, 2, none⟩ (.int .i64 x))) := fun x e => Lib.hid ⟨by subst e; exact hb.put 2 _, hH.out.2.1.kept (Kept.own wr W.heap.size 2 (.int .i64 x)) (fun (e : W.heap.size + 1 = W.heap.size) => by omega), hH.out.2.2.trans_new (Kept.own wr W.heap.size 2 (.int .i64 x)) (fun i hi (e : i = W.heap.size) => by omega)⟩
        clear hb
        rcases Ck.cap_cases c with ⟨q1, q2⟩ | ⟨q1, q2⟩
        all_goals
          have HT := HS _ q2
          clear HS q2
          go_wp2
          go_roundw
          case rel => exact ⟨3, by go_num, by omega, HT⟩
          case measure => simp [intOf]
      · have hb := hH.out.1
        unfold capc at hb
        have g3 := hb.cell 3
        have f3 := hb.free 3
        simp at g3
        have HS : ∀ x, Ck.cap d = x → Hid (Blk (wr.setCell ⟨W.heap.size, 3, none⟩ (.int .i64 x)) W.heap.size 45 (capc a b c d 4) ∧ Blk (wr.setCell ⟨W.heap.size, 3, none⟩ (.int .i64 x)) (W.heap.size + 1) 59 #[.int .u32 (u0 : Int), .int .u32 (u1 : Int)] ∧ Kept Nothing W (wr.setCell ⟨W.heap.size, 3, none⟩ (.int .i64 x))) := fun x e => Lib.hid ⟨by subst e; exact hb.put 3 _, hH.out.2.1.kept (Kept.own wr W.heap.size 3 (.int .i64 x)) (fun (e : W.heap.size + 1 = W.heap.size) => by omega), hH.out.2.2.trans_new (Kept.own wr W.heap.size 3 (.int .i64 x)) (fun i hi (e : i = W.heap.size) => by omega)⟩
        clear hb
        rcases Ck.cap_cases d with ⟨q1, q2⟩ | ⟨q1, q2⟩
        all_goals
          have HT := HS _ q2
          clear HS q2
          go_wp2
          go_roundw
          case rel => exact ⟨4, by go_num, by omega, HT⟩
          case measure => simp [intOf]
    · obtain rfl : k = 4 := by omega
      have BD := Lib.hid hH.out.2.1
      have KW := Lib.hid hH.out.2.2
      have BA := Lib.hid hH.out.1
      clear hH
      go_upto_region 7 with fail
      generalize hC0 : Ck.started t0 [Ck.cap a, Ck.cap b, Ck.cap c, Ck.cap d] 4 = C0
      have HS : ∀ v, Kept Nothing wr v → Hid (Calls Try.prog 26 #[.int .i64 t0, .agg #[.int .i64 (Ck.cap a), .int .i64 (Ck.cap b), .int .i64 (Ck.cap c), .int .i64 (Ck.cap d)]] v fun r w' => ∃ p, r = .returned (.pointer (some ⟨p, 0, none⟩)) ∧ Cl W w' p C0 ∧ v.heap.size ≤ p ∧ Kept Nothing v w') := fun v k => Lib.hid (by
        have := cl_started t0 (Ck.cap a) (Ck.cap b) (Ck.cap c) (Ck.cap d) hn1 (by omega) W v (KW.out.trans k)
        rwa [hC0] at this)
      have HC0 := Lib.hid hC0
      have HN := Lib.hid (And.intro hn1 hn2)
      have hbu : ∀ u, Kept Nothing wr u → u.cell? ⟨W.heap.size, 0, none⟩ = some (.int .i64 (Ck.cap a)) ∧ u.cell? ⟨W.heap.size, 1, none⟩ = some (.int .i64 (Ck.cap b)) ∧ u.cell? ⟨W.heap.size, 2, none⟩ = some (.int .i64 (Ck.cap c)) ∧ u.cell? ⟨W.heap.size, 3, none⟩ = some (.int .i64 (Ck.cap d)) := fun u k => by
        have hb := BA.out.kept k not_nothing
        exact ⟨hb.cell 0, hb.cell 1, hb.cell 2, hb.cell 3⟩
      have HBU := Lib.hid hbu
      obtain ⟨x0, x1, x2, x3⟩ := hbu wr (Kept.refl _ _)
      clear hC0 hn1 hn2 hbu
      go_cut [9, 10] (fun x y wx => ∃ p q, x = .pointer (some ⟨p, 0, none⟩) ∧ y = .pointer (some ⟨q, 0, none⟩) ∧ Hid (Cl W wx p C0 ∧ Cl W wx q C0 ∧ p < q ∧ Kept Nothing wr wx))
      case first =>
        go_region_law (first
          | (go_simp; go_at_call 26; refine ((HS _ (by exact (Kept.refl Nothing wr).drew)).out).mono ?_; rintro e w1 ⟨p, rfl, hp, hp2, k1⟩; (have K1 := Lib.hid (((Kept.refl Nothing wr).drew).trans k1)); (have P1 := Lib.hid hp); (obtain ⟨y0, y1, y2, y3⟩ := HBU.out w1 K1.out); clear hp hp2 k1)
          | (go_simp; go_at_call 26; refine ((HS _ (by exact K1.out)).out).mono ?_; rintro e w2 ⟨q, rfl, hq, hq2, k2⟩; (have K2 := Lib.hid (K1.out.trans k2)); (have P2 := Lib.hid (P1.out.old k2)); (have Q2 := Lib.hid hq); (have PQ := Lib.hid (Nat.lt_of_lt_of_le P1.out.lt hq2)); clear hq hq2 k2))
        all_goals
          go_wp2
          go_meet
          exact ⟨_, _, rfl, rfl, Lib.hid ⟨P2.out, Q2.out, PQ.out, K2.out⟩⟩
      case rest =>
        obtain ⟨p, q, rfl, rfl, hC⟩ := hcut
        have bd := BD.out.kept hC.out.2.2.2 not_nothing
        have e0 := bd.cell 0
        have e1 := bd.cell 1
        simp at e0 e1
        clear x0 x1 x2 x3 HS HBU BA BD bd
        go_wp2
        go_quiet (fail)
        have hAB : Hid (Ck.Good C0) := Lib.hid hC.out.1.good
        have P1 := Lib.hid (hC.out.1.old ((Kept.refl Nothing _).drewN nq))
        have Q1 := Lib.hid (hC.out.2.1.old ((Kept.refl Nothing _).drewN nq))
        have PQ := Lib.hid hC.out.2.2.1
        clear hC e0 e1 hk4 h4
        generalize World.drewN _ nq = w1 at *
        generalize (u0 : Int) % 2097152 = x at *
        generalize (u1 : Int) % 2097152 = y at *
        rcases Int.lt_trichotomy x y with hxy | rfl | hxy
        · have H1 := Lib.hid (cl_all p C0 x W w1 P1.out)
          have HPT := Lib.hid (Ck.all_parts 10 (Int.le_of_lt hxy) hAB.out (by have := Ck.runs_le hAB.out; omega))
          have HRL := Lib.hid (And.intro (Ck.all_len 10 C0 x) (Ck.all_len 10 (Ck.all 10 C0 x).2 y))
          have H2 := Lib.hid (fun v h => cl_all p (Ck.all 10 C0 x).2 y W v h)
          have H3 := Lib.hid (fun v h => cl_all q C0 y W v h)
          clear hAB
          generalize hR3 : Ck.all 10 C0 y = R3 at H3
          replace HPT := Lib.hid (hR3.symm.trans HPT.out)
          clear hR3
          generalize Ck.all 10 C0 x = R1 at HPT H1 H2 HRL
          generalize Ck.all 10 R1.2 y = R2 at HPT H2 HRL
          obtain ⟨i0, hi, hz0, hz1, hz2⟩ := info_parts rings_info
          have hl1 := HRL.out.1
          have hl2 := HRL.out.2
          go_wp2_with fail
          refine (H1.out).mono ?_
          rintro e w3 ⟨A1, m1, rfl, ho1, hc1, hk1⟩
          have O1 := Lib.hid ho1
          have P3 := Lib.hid hc1
          have Q3 := Lib.hid (Q1.out.other hk1 (fun (e : q = p) => by have := PQ.out; omega) (fun i hi (e : i = p) => by have := P1.out.new; omega))
          have hs1 := hk1.size
          clear ho1 hc1 hk1 H1
          go_wp2_with fail
          refine (H2.out w3 P3.out).mono ?_
          rintro e w4 ⟨A2, m2, rfl, ho2, hc2, hk2⟩
          have hne : ∀ g, (Value.slice A1 R1.1.length m1).ownBlock = some g → ¬ Only p g := fun g hg (e : g = p) => by
            have := (O1.out.lt g hg).1
            have := P1.out.lt
            omega
          have O1' := Lib.hid (ow_kept O1.out hk2 hne)
          have S2 := Lib.hid (src_ownZ ho2 (rgs_one _))
          have P4 := Lib.hid hc2
          have Q4 := Lib.hid (Q3.out.other hk2 (fun (e : q = p) => by have := PQ.out; omega) (fun i hi (e : i = p) => by have := P1.out.new; omega))
          have hs2 := hk2.size
          clear ho2 hc2 hk2 H2 O1 P3 Q3 hne
          go_upto_region 12 with (at_builtin; refine wpList_app _ rfl _ _ 54 rfl w1.heap.size 57 i0 _ 3 24 Try.underlying54 hi hz0 hz1 hz2 rfl (by decide) (.slice A1 R1.1.length m1) R1.1.length (Ck.rgs R1.1) rfl O1'.out A2 R2.1.length m2 (Ck.rgs R2.1) rfl S2.out (by simp [maxLen]; omega) (by omega) (by omega) ?_; intro v' w5 ho5 hg5 hat5)
          have O4 := O1'.out
          have hlow : ∀ g, (Value.slice A1 R1.1.length m1).ownBlock = some g → w1.heap.size ≤ g := fun g hg => (O4.lt g hg).1
          have k5 : Kept (fun g => (Value.slice A1 R1.1.length m1).ownBlock = some g) w4 w5 := (Kept.refl _ _).grown hg5 (fun g hg _ => hg)
          have hpl := P1.out.lt
          have hql := Q1.out.lt
          have hwl := P1.out.keep.size
          have P5 := Lib.hid (P4.out.other k5 (fun e => by have := hlow p e; omega) (fun i hi e => by have := hlow i e; omega))
          have Q5 := Lib.hid (Q4.out.other k5 (fun e => by have := hlow q e; omega) (fun i hi e => by have := hlow i e; omega))
          have O5 := Lib.hid ho5
          have hs5 := k5.size
          clear k5 hlow O4 O1' S2 P4 Q4 ho5 hg5 hat5 hi hz0 hz1 hz2 hl1 hl2
          go_wp2_with fail
          refine (H3.out w5 Q5.out).mono ?_
          rintro e w6 ⟨A3, m3, rfl, ho6, hc6, hk6⟩
          have P6 := Lib.hid (P5.out.other hk6 (fun (e : p = q) => by have := PQ.out; omega) (fun i hi (e : i = q) => by have := Q1.out.new; omega))
          have Q6 := Lib.hid hc6
          have O6 := ow_kept O5.out hk6 (fun g hg (e : g = q) => by have := (O5.out.lt g hg).1; omega)
          have GP : Rgs w6 v' R3.1 := by
            rw [HPT.out]
            rw [← Ck.rgs_app] at O6
            exact Rgs.of_own O6 (by simp)
          have GW : Rgs w6 (.slice A3 R3.1.length m3) R3.1 := Rgs.of_own ho6 rfl
          have hT : R2.2 = R3.2 := by rw [HPT.out]
          have hL10 : R3.1.length ≤ 20 := by rw [HPT.out]; have := HRL.out; simp; omega
          rw [hT] at P6
          obtain ⟨A5, c5, rfl, hp5⟩ := GP
          obtain ⟨A5', c5', heq, hp3⟩ := GW
          injection heq with e1 e2 e3
          subst e1 e3
          have HP5 := Lib.hid hp5
          have HP3 := Lib.hid hp3
          clear hp5 hp3 e2 O6 ho6 hc6 hk6 O5 P5 Q5 H3 HPT hT PQ hs5 hs2 hs1 hpl hql hwl P1 Q1 HRL
          generalize R3.1 = L at *
          generalize R3.2 = D at *
          have hbn : ((L.length : Int) != (L.length : Int)) = false := by simp
          have hbn2 : (D.now != D.now) = false := by simp
          have HNP := Lib.hid (ck_now p D w6 P6.out.at_)
          have HNQ := Lib.hid (ck_now q D w6 Q6.out.at_)
          clear Q6
          go_wp2_with fail
          refine (HNP.out).mono ?_
          rintro e w' ⟨rfl, rfl⟩
          go_wp2_with fail
          refine (HNQ.out).mono ?_
          rintro e w' ⟨rfl, rfl⟩
          go_wp2
          clear hbn hbn2 HNP HNQ
          go_loopw [79] (fun i wr => ∃ k : Nat, i = .int .i64 (k : Int) ∧ k ≤ L.length ∧ Hid (Kept Nothing w6 wr)) (fun i _ => L.length - (intOf i).toNat)
          case atStart => exact ⟨0, rfl, by omega, Lib.hid (Kept.refl _ _)⟩
          case round =>
            obtain ⟨k, rfl, hkl, hK⟩ := hrel
            by_cases hlt : k < L.length
            · have hlt' : (k : Int) < (L.length : Int) := by omega
              obtain ⟨bp, op, rfl, hcp⟩ := HP5.out (by omega)
              obtain ⟨bw, ow, rfl, hcw⟩ := HP3.out (by omega)
              obtain ⟨cp0, cp1, cp2⟩ := hcp k hlt
              obtain ⟨cw0, cw1, cw2⟩ := hcw k hlt
              have dp0 := hK.out.cell_some cp0 (fun x => x)
              have dp1 := hK.out.cell_some cp1 (fun x => x)
              have dp2 := hK.out.cell_some cp2 (fun x => x)
              have dw0 := hK.out.cell_some cw0 (fun x => x)
              have dw1 := hK.out.cell_some cw1 (fun x => x)
              have dw2 := hK.out.cell_some cw2 (fun x => x)
              clear hcp hcw cp0 cp1 cp2 cw0 cw1 cw2
              generalize (L.getD k (0, 0)).1 = g1 at *
              generalize (L.getD k (0, 0)).2 = g2 at *
              have hb1 : ((g1 : Int) == (g1 : Int)) = true := beq_self_eq_true _
              have hb2 : (g2 == g2) = true := beq_self_eq_true _
              go_wp2
              go_quiet (fail)
              go_wp2
              go_roundw
              case rel => exact ⟨k + 1, by go_num, by omega, Lib.hid (hK.out.drewN _)⟩
              case measure => simp [intOf]; omega
            · obtain rfl : k = L.length := by omega
              have HWK := Lib.hid (ck_wakes wr)
              go_wp2_with (go_at_call 11; refine (HWK.out).mono ?_; rintro e w8 ⟨rfl, hk8⟩)
              go_ret
              exact ⟨rfl, (P6.out.keep.trans hK.out).trans hk8⟩
        · have H1 := Lib.hid (cl_all p C0 x W w1 P1.out)
          have HPT := Lib.hid (Ck.all_parts 10 (Int.le_refl x) hAB.out (by have := Ck.runs_le hAB.out; omega))
          have HRL := Lib.hid (And.intro (Ck.all_len 10 C0 x) (Ck.all_len 10 (Ck.all 10 C0 x).2 x))
          have H2 := Lib.hid (fun v h => cl_all p (Ck.all 10 C0 x).2 x W v h)
          have H3 := Lib.hid (fun v h => cl_all q C0 x W v h)
          clear hAB
          generalize hR3 : Ck.all 10 C0 x = R3 at H3
          replace HPT := Lib.hid (hR3.symm.trans HPT.out)
          clear hR3
          generalize Ck.all 10 C0 x = R1 at HPT H1 H2 HRL
          generalize Ck.all 10 R1.2 x = R2 at HPT H2 HRL
          obtain ⟨i0, hi, hz0, hz1, hz2⟩ := info_parts rings_info
          have hl1 := HRL.out.1
          have hl2 := HRL.out.2
          go_wp2_with fail
          refine (H1.out).mono ?_
          rintro e w3 ⟨A1, m1, rfl, ho1, hc1, hk1⟩
          have O1 := Lib.hid ho1
          have P3 := Lib.hid hc1
          have Q3 := Lib.hid (Q1.out.other hk1 (fun (e : q = p) => by have := PQ.out; omega) (fun i hi (e : i = p) => by have := P1.out.new; omega))
          have hs1 := hk1.size
          clear ho1 hc1 hk1 H1
          go_wp2_with fail
          refine (H2.out w3 P3.out).mono ?_
          rintro e w4 ⟨A2, m2, rfl, ho2, hc2, hk2⟩
          have hne : ∀ g, (Value.slice A1 R1.1.length m1).ownBlock = some g → ¬ Only p g := fun g hg (e : g = p) => by
            have := (O1.out.lt g hg).1
            have := P1.out.lt
            omega
          have O1' := Lib.hid (ow_kept O1.out hk2 hne)
          have S2 := Lib.hid (src_ownZ ho2 (rgs_one _))
          have P4 := Lib.hid hc2
          have Q4 := Lib.hid (Q3.out.other hk2 (fun (e : q = p) => by have := PQ.out; omega) (fun i hi (e : i = p) => by have := P1.out.new; omega))
          have hs2 := hk2.size
          clear ho2 hc2 hk2 H2 O1 P3 Q3 hne
          go_upto_region 12 with (at_builtin; refine wpList_app _ rfl _ _ 54 rfl w1.heap.size 57 i0 _ 3 24 Try.underlying54 hi hz0 hz1 hz2 rfl (by decide) (.slice A1 R1.1.length m1) R1.1.length (Ck.rgs R1.1) rfl O1'.out A2 R2.1.length m2 (Ck.rgs R2.1) rfl S2.out (by simp [maxLen]; omega) (by omega) (by omega) ?_; intro v' w5 ho5 hg5 hat5)
          have O4 := O1'.out
          have hlow : ∀ g, (Value.slice A1 R1.1.length m1).ownBlock = some g → w1.heap.size ≤ g := fun g hg => (O4.lt g hg).1
          have k5 : Kept (fun g => (Value.slice A1 R1.1.length m1).ownBlock = some g) w4 w5 := (Kept.refl _ _).grown hg5 (fun g hg _ => hg)
          have hpl := P1.out.lt
          have hql := Q1.out.lt
          have hwl := P1.out.keep.size
          have P5 := Lib.hid (P4.out.other k5 (fun e => by have := hlow p e; omega) (fun i hi e => by have := hlow i e; omega))
          have Q5 := Lib.hid (Q4.out.other k5 (fun e => by have := hlow q e; omega) (fun i hi e => by have := hlow i e; omega))
          have O5 := Lib.hid ho5
          have hs5 := k5.size
          clear k5 hlow O4 O1' S2 P4 Q4 ho5 hg5 hat5 hi hz0 hz1 hz2 hl1 hl2
          go_wp2_with fail
          refine (H3.out w5 Q5.out).mono ?_
          rintro e w6 ⟨A3, m3, rfl, ho6, hc6, hk6⟩
          have P6 := Lib.hid (P5.out.other hk6 (fun (e : p = q) => by have := PQ.out; omega) (fun i hi (e : i = q) => by have := Q1.out.new; omega))
          have Q6 := Lib.hid hc6
          have O6 := ow_kept O5.out hk6 (fun g hg (e : g = q) => by have := (O5.out.lt g hg).1; omega)
          have GP : Rgs w6 v' R3.1 := by
            rw [HPT.out]
            rw [← Ck.rgs_app] at O6
            exact Rgs.of_own O6 (by simp)
          have GW : Rgs w6 (.slice A3 R3.1.length m3) R3.1 := Rgs.of_own ho6 rfl
          have hT : R2.2 = R3.2 := by rw [HPT.out]
          have hL10 : R3.1.length ≤ 20 := by rw [HPT.out]; have := HRL.out; simp; omega
          rw [hT] at P6
          obtain ⟨A5, c5, rfl, hp5⟩ := GP
          obtain ⟨A5', c5', heq, hp3⟩ := GW
          injection heq with e1 e2 e3
          subst e1 e3
          have HP5 := Lib.hid hp5
          have HP3 := Lib.hid hp3
          clear hp5 hp3 e2 O6 ho6 hc6 hk6 O5 P5 Q5 H3 HPT hT PQ hs5 hs2 hs1 hpl hql hwl P1 Q1 HRL
          generalize R3.1 = L at *
          generalize R3.2 = D at *
          have hbn : ((L.length : Int) != (L.length : Int)) = false := by simp
          have hbn2 : (D.now != D.now) = false := by simp
          have HNP := Lib.hid (ck_now p D w6 P6.out.at_)
          have HNQ := Lib.hid (ck_now q D w6 Q6.out.at_)
          clear Q6
          go_wp2_with fail
          refine (HNP.out).mono ?_
          rintro e w' ⟨rfl, rfl⟩
          go_wp2_with fail
          refine (HNQ.out).mono ?_
          rintro e w' ⟨rfl, rfl⟩
          go_wp2
          clear hbn hbn2 HNP HNQ
          go_loopw [79] (fun i wr => ∃ k : Nat, i = .int .i64 (k : Int) ∧ k ≤ L.length ∧ Hid (Kept Nothing w6 wr)) (fun i _ => L.length - (intOf i).toNat)
          case atStart => exact ⟨0, rfl, by omega, Lib.hid (Kept.refl _ _)⟩
          case round =>
            obtain ⟨k, rfl, hkl, hK⟩ := hrel
            by_cases hlt : k < L.length
            · have hlt' : (k : Int) < (L.length : Int) := by omega
              obtain ⟨bp, op, rfl, hcp⟩ := HP5.out (by omega)
              obtain ⟨bw, ow, rfl, hcw⟩ := HP3.out (by omega)
              obtain ⟨cp0, cp1, cp2⟩ := hcp k hlt
              obtain ⟨cw0, cw1, cw2⟩ := hcw k hlt
              have dp0 := hK.out.cell_some cp0 (fun x => x)
              have dp1 := hK.out.cell_some cp1 (fun x => x)
              have dp2 := hK.out.cell_some cp2 (fun x => x)
              have dw0 := hK.out.cell_some cw0 (fun x => x)
              have dw1 := hK.out.cell_some cw1 (fun x => x)
              have dw2 := hK.out.cell_some cw2 (fun x => x)
              clear hcp hcw cp0 cp1 cp2 cw0 cw1 cw2
              generalize (L.getD k (0, 0)).1 = g1 at *
              generalize (L.getD k (0, 0)).2 = g2 at *
              have hb1 : ((g1 : Int) == (g1 : Int)) = true := beq_self_eq_true _
              have hb2 : (g2 == g2) = true := beq_self_eq_true _
              go_wp2
              go_quiet (fail)
              go_wp2
              go_roundw
              case rel => exact ⟨k + 1, by go_num, by omega, Lib.hid (hK.out.drewN _)⟩
              case measure => simp [intOf]; omega
            · obtain rfl : k = L.length := by omega
              have HWK := Lib.hid (ck_wakes wr)
              go_wp2_with (go_at_call 11; refine (HWK.out).mono ?_; rintro e w8 ⟨rfl, hk8⟩)
              go_ret
              exact ⟨rfl, (P6.out.keep.trans hK.out).trans hk8⟩
        · have H1 := Lib.hid (cl_all p C0 y W w1 P1.out)
          have HPT := Lib.hid (Ck.all_parts 10 (Int.le_of_lt hxy) hAB.out (by have := Ck.runs_le hAB.out; omega))
          have HRL := Lib.hid (And.intro (Ck.all_len 10 C0 y) (Ck.all_len 10 (Ck.all 10 C0 y).2 x))
          have H2 := Lib.hid (fun v h => cl_all p (Ck.all 10 C0 y).2 x W v h)
          have H3 := Lib.hid (fun v h => cl_all q C0 x W v h)
          clear hAB
          generalize hR3 : Ck.all 10 C0 x = R3 at H3
          replace HPT := Lib.hid (hR3.symm.trans HPT.out)
          clear hR3
          generalize Ck.all 10 C0 y = R1 at HPT H1 H2 HRL
          generalize Ck.all 10 R1.2 x = R2 at HPT H2 HRL
          obtain ⟨i0, hi, hz0, hz1, hz2⟩ := info_parts rings_info
          have hl1 := HRL.out.1
          have hl2 := HRL.out.2
          go_wp2_with fail
          refine (H1.out).mono ?_
          rintro e w3 ⟨A1, m1, rfl, ho1, hc1, hk1⟩
          have O1 := Lib.hid ho1
          have P3 := Lib.hid hc1
          have Q3 := Lib.hid (Q1.out.other hk1 (fun (e : q = p) => by have := PQ.out; omega) (fun i hi (e : i = p) => by have := P1.out.new; omega))
          have hs1 := hk1.size
          clear ho1 hc1 hk1 H1
          go_wp2_with fail
          refine (H2.out w3 P3.out).mono ?_
          rintro e w4 ⟨A2, m2, rfl, ho2, hc2, hk2⟩
          have hne : ∀ g, (Value.slice A1 R1.1.length m1).ownBlock = some g → ¬ Only p g := fun g hg (e : g = p) => by
            have := (O1.out.lt g hg).1
            have := P1.out.lt
            omega
          have O1' := Lib.hid (ow_kept O1.out hk2 hne)
          have S2 := Lib.hid (src_ownZ ho2 (rgs_one _))
          have P4 := Lib.hid hc2
          have Q4 := Lib.hid (Q3.out.other hk2 (fun (e : q = p) => by have := PQ.out; omega) (fun i hi (e : i = p) => by have := P1.out.new; omega))
          have hs2 := hk2.size
          clear ho2 hc2 hk2 H2 O1 P3 Q3 hne
          go_upto_region 12 with (at_builtin; refine wpList_app _ rfl _ _ 54 rfl w1.heap.size 57 i0 _ 3 24 Try.underlying54 hi hz0 hz1 hz2 rfl (by decide) (.slice A1 R1.1.length m1) R1.1.length (Ck.rgs R1.1) rfl O1'.out A2 R2.1.length m2 (Ck.rgs R2.1) rfl S2.out (by simp [maxLen]; omega) (by omega) (by omega) ?_; intro v' w5 ho5 hg5 hat5)
          have O4 := O1'.out
          have hlow : ∀ g, (Value.slice A1 R1.1.length m1).ownBlock = some g → w1.heap.size ≤ g := fun g hg => (O4.lt g hg).1
          have k5 : Kept (fun g => (Value.slice A1 R1.1.length m1).ownBlock = some g) w4 w5 := (Kept.refl _ _).grown hg5 (fun g hg _ => hg)
          have hpl := P1.out.lt
          have hql := Q1.out.lt
          have hwl := P1.out.keep.size
          have P5 := Lib.hid (P4.out.other k5 (fun e => by have := hlow p e; omega) (fun i hi e => by have := hlow i e; omega))
          have Q5 := Lib.hid (Q4.out.other k5 (fun e => by have := hlow q e; omega) (fun i hi e => by have := hlow i e; omega))
          have O5 := Lib.hid ho5
          have hs5 := k5.size
          clear k5 hlow O4 O1' S2 P4 Q4 ho5 hg5 hat5 hi hz0 hz1 hz2 hl1 hl2
          go_wp2_with fail
          refine (H3.out w5 Q5.out).mono ?_
          rintro e w6 ⟨A3, m3, rfl, ho6, hc6, hk6⟩
          have P6 := Lib.hid (P5.out.other hk6 (fun (e : p = q) => by have := PQ.out; omega) (fun i hi (e : i = q) => by have := Q1.out.new; omega))
          have Q6 := Lib.hid hc6
          have O6 := ow_kept O5.out hk6 (fun g hg (e : g = q) => by have := (O5.out.lt g hg).1; omega)
          have GP : Rgs w6 v' R3.1 := by
            rw [HPT.out]
            rw [← Ck.rgs_app] at O6
            exact Rgs.of_own O6 (by simp)
          have GW : Rgs w6 (.slice A3 R3.1.length m3) R3.1 := Rgs.of_own ho6 rfl
          have hT : R2.2 = R3.2 := by rw [HPT.out]
          have hL10 : R3.1.length ≤ 20 := by rw [HPT.out]; have := HRL.out; simp; omega
          rw [hT] at P6
          obtain ⟨A5, c5, rfl, hp5⟩ := GP
          obtain ⟨A5', c5', heq, hp3⟩ := GW
          injection heq with e1 e2 e3
          subst e1 e3
          have HP5 := Lib.hid hp5
          have HP3 := Lib.hid hp3
          clear hp5 hp3 e2 O6 ho6 hc6 hk6 O5 P5 Q5 H3 HPT hT PQ hs5 hs2 hs1 hpl hql hwl P1 Q1 HRL
          generalize R3.1 = L at *
          generalize R3.2 = D at *
          have hbn : ((L.length : Int) != (L.length : Int)) = false := by simp
          have hbn2 : (D.now != D.now) = false := by simp
          have HNP := Lib.hid (ck_now p D w6 P6.out.at_)
          have HNQ := Lib.hid (ck_now q D w6 Q6.out.at_)
          clear Q6
          go_wp2_with fail
          refine (HNP.out).mono ?_
          rintro e w' ⟨rfl, rfl⟩
          go_wp2_with fail
          refine (HNQ.out).mono ?_
          rintro e w' ⟨rfl, rfl⟩
          go_wp2
          clear hbn hbn2 HNP HNQ
          go_loopw [79] (fun i wr => ∃ k : Nat, i = .int .i64 (k : Int) ∧ k ≤ L.length ∧ Hid (Kept Nothing w6 wr)) (fun i _ => L.length - (intOf i).toNat)
          case atStart => exact ⟨0, rfl, by omega, Lib.hid (Kept.refl _ _)⟩
          case round =>
            obtain ⟨k, rfl, hkl, hK⟩ := hrel
            by_cases hlt : k < L.length
            · have hlt' : (k : Int) < (L.length : Int) := by omega
              obtain ⟨bp, op, rfl, hcp⟩ := HP5.out (by omega)
              obtain ⟨bw, ow, rfl, hcw⟩ := HP3.out (by omega)
              obtain ⟨cp0, cp1, cp2⟩ := hcp k hlt
              obtain ⟨cw0, cw1, cw2⟩ := hcw k hlt
              have dp0 := hK.out.cell_some cp0 (fun x => x)
              have dp1 := hK.out.cell_some cp1 (fun x => x)
              have dp2 := hK.out.cell_some cp2 (fun x => x)
              have dw0 := hK.out.cell_some cw0 (fun x => x)
              have dw1 := hK.out.cell_some cw1 (fun x => x)
              have dw2 := hK.out.cell_some cw2 (fun x => x)
              clear hcp hcw cp0 cp1 cp2 cw0 cw1 cw2
              generalize (L.getD k (0, 0)).1 = g1 at *
              generalize (L.getD k (0, 0)).2 = g2 at *
              have hb1 : ((g1 : Int) == (g1 : Int)) = true := beq_self_eq_true _
              have hb2 : (g2 == g2) = true := beq_self_eq_true _
              go_wp2
              go_quiet (fail)
              go_wp2
              go_roundw
              case rel => exact ⟨k + 1, by go_num, by omega, Lib.hid (hK.out.drewN _)⟩
              case measure => simp [intOf]; omega
            · obtain rfl : k = L.length := by omega
              have HWK := Lib.hid (ck_wakes wr)
              go_wp2_with (go_at_call 11; refine (HWK.out).mono ?_; rintro e w8 ⟨rfl, hk8⟩)
              go_ret
              exact ⟨rfl, (P6.out.keep.trans hK.out).trans hk8⟩
end Go.Proofs.Ytdhbfhjlholnlaa
