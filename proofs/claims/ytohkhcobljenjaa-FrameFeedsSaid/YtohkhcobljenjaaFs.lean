
/-
  What the calls of package frame do: Feed.
-/
import Derived.Test.YtohkhcobljenjaaFp
import Derived.Deep.DeepCutAuto
import Derived.Deep.CutBlock
namespace Go.Proofs.Ytohkhcobljenjaa
open Go.RowKit

/-- Those blocks, and all that is new. -/
def DD (W : World) (D : Nat → Prop) : Nat → Prop := fun k => D k ∨ W.heap.size ≤ k
/-- What Feed leaves. -/
def Fed (W : World) (p : Nat) (F D : Nat → Prop) (r : List Msg × Fr.IS) (v : Value) (w : World) : Prop :=
  ∃ F', Ms w W.heap.size F' v r.1 ∧ In w F' (DD W D) p r.2 ∧ Kept F W w ∧ Sub W F' F

/-- The blocks that Feed may turn: the intake's, and all that is new. -/
def EE (W : World) (F0 : Nat → Prop) : Nat → Prop := fun k => F0 k ∨ W.heap.size ≤ k
theorem EE.sub {W : World} {F F0 : Nat → Prop} (h : Sub W F F0) : ∀ k, F k → EE W F0 k := h

def FeedAt (W : World) (p : Nat) (F0 D : Nat → Prop) (all : List UInt8) (a : Act) (w : World) : Prop :=
  ∃ (bv tv : Value) (hb : Nat) (x y z : Value) (l br : List UInt8) (told : List Msg) (F : Nat → Prop),
    a.defers = [] ∧ a.tmps.size = 70 ∧ a.tmps.getD 0 undef = .pointer (some ⟨p, 0, none⟩) ∧ a.tmps.getD 1 undef = bv ∧ a.tmps.getD 5 undef = tv ∧ a.tmps.getD 6 undef = .pointer (some ⟨hb, 0, none⟩) ∧
    In w F (DD W D) p ⟨l, 0, []⟩ ∧ By w bv br ∧ Off (EE W F0) bv ∧ Ms w W.heap.size (U F hb) tv told ∧ Blk w hb 45 #[x, y, z] ∧ W.heap.size ≤ hb ∧ Kept F0 W w ∧ Sub W F F0 ∧
    Fr.run all = (told ++ (Fr.run (l ++ br)).1, (Fr.run (l ++ br)).2) ∧ told.length + (l.length + br.length) ≤ all.length
def FeedEnd (W : World) (p : Nat) (F0 D : Nat → Prop) (r : List Msg × Fr.IS) (a : Act) (w : World) : Prop :=
  ∃ tv, a.defers = [] ∧ a.tmps.size = 70 ∧ a.tmps.getD 5 undef = tv ∧ Fed W p F0 D r tv w

def widthOf : Value → Nat | .slice _ n _ => n | _ => 0
def FeedJ (W : World) (p : Nat) (F0 D : Nat → Prop) (s : Fr.IS) (b : List UInt8) : Nat → Act → World → Prop
  | 0, a, w => FeedEnd W p F0 D (Fr.feed s b) a w
  | 1, a, w => s.s = 0 ∧ FeedAt W p F0 D (s.l ++ b) a w
  | _, _, _ => False
def feedM : Nat → Act → World → Nat
  | 1, a, _ => widthOf (a.tmps.getD 1 undef) + 1
  | _, _, _ => 0

theorem msg_info : (Try.prog.info? 49).map (fun i => (i.zero, i.size, i.bytes)) = some (some (.agg #[.int .u8 0, .slice none 0 0]), 2, 32) := by kernel_rfl
theorem Iq.noHead {w : World} {F : Nat → Prop} {p : Nat} {l : List UInt8} {s : Nat} {dv : Value} (h : Iq w F p l s dv) {g : Nat} {cs : Array Value} (hg : Blk w g 45 cs) : ¬ F g := fun hF => by
  obtain ⟨cs', t, hh, h3⟩ := h.kinds hF
  unfold Blk at hg
  rw [hg] at hh
  injection hh with hh
  injection hh with _ e2
  rcases h3 with rfl | rfl <;> exact absurd e2 (by decide)

set_option maxRecDepth 100000 in
set_option maxHeartbeats 3200000 in
theorem in_feed (p : Nat) (F D : Nat → Prop) (s : Fr.IS) (v : Value) (b : List UInt8) (w : World) (h : In w F D p s) (hv : By w v b) (ho : Off F v) (hb : b.length ≤ 2147483648) :
    Calls Try.prog 8 #[.pointer (some ⟨p, 0, none⟩), v] w fun r w' => ∃ v', r = .returned v' ∧ Fed w p F D (Fr.feed s b) v' w' := by
  obtain ⟨dv, hI, hD, hO, hON, hok⟩ := h
  have ON0 := Lib.hid hON
  have OK := Lib.hid hok
  have I0 := Lib.hid hI
  have D0 := Lib.hid hD
  have O0 := Lib.hid hO
  have V0 := Lib.hid hv
  have OV := Lib.hid ho
  have NN := Lib.hid hI.noMs
  have HL : s.l.length ≤ 1099511627776 := hI.le
  clear hI hD hO hON hok hv ho
  go_enter Try.func8, Try.ntmps8
  go_wp2_with fail
  refine wp_scope_labels (FeedJ w p F D s b) feedM ?_ ?_
  · by_cases h0 : s.s = 0
    · have G := Lib.hid (in_gathers p F s.l s.s dv)
      have hd : decide (s.s = 0) = true := by simpa using h0
      rw [hd] at G
      have KA := Lib.hid ((Kept.refl Nothing w).alloc (.cells #[.bool false, .int .i64 0, .int .u8 0] 45))
      clear hd
      have H0 := Lib.hid h0
      clear h0
      go_wp2_with fail
      refine (G.out _ (I0.out.old KA.out)).mono ?_
      rintro e w' ⟨rfl, rfl⟩
      go_wp2_with fail
      go_step3
      have HFE : Hid (Fr.feed s b = Fr.run (s.l ++ b)) := if_pos H0.out
      simp only [Exit.then]
      apply_assumption
      refine (show ∀ a1 w1, FeedAt w p F D (s.l ++ b) a1 w1 → Code.wp _ _ _ a1 w1 from ?_) _ _ ?_
      · intro a w1 hAt
        clear G KA
        as_aux_lemma =>
          obtain ⟨bv, tv, hbk, cx, cy, cz, l, br, told, F1, hdf, hsz, s0, s1, s5, s6, hI, hB, hO, hM, hH, hge, hK, hS, hrun, hlen⟩ := hAt
          obtain ⟨⟨tl⟩, df⟩ := a
          obtain rfl : df = [] := hdf
          obtain ⟨x0, x1, x2, x3, x4, x5, x6, x7, x8, x9, x10, x11, x12, x13, x14, x15, x16, x17, x18, x19, x20, x21, x22, x23, x24, x25, x26, x27, x28, x29, x30, x31, x32, x33, x34, x35, x36, x37, x38, x39, x40, x41, x42, x43, x44, x45, x46, x47, x48, x49, x50, x51, x52, x53, x54, x55, x56, x57, x58, x59, x60, x61, x62, x63, x64, x65, x66, x67, x68, x69, rfl⟩ := list70 tl (by simpa using hsz)
          obtain rfl : x0 = _ := s0
          obtain rfl : x1 = bv := s1
          obtain rfl : x5 = tv := s5
          obtain rfl : x6 = _ := s6
          clear hsz
          obtain ⟨dv1, hI1, hD1, hO1, -, hok1⟩ := hI
          have hbl : l.length + br.length ≤ 1099511627776 := by
            rw [List.length_append] at hlen
            have := (OK.out.1 H0.out).1.lt
            omega
          have hall : (s.l ++ b).length ≤ 4294967296 := by
            rw [List.length_append]
            have := (OK.out.1 H0.out).1.lt
            omega
          have C1 := Lib.hid (in_take p F1 l dv1 x1 br 19 w1 hI1 hB (hO.mono (EE.sub hS)) hbl (by decide))
          have T1 : taken br l 19 = Fr.takes br l 19 := rfl
          rw [T1] at C1
          have hle := Fr.takes_le br l 19
          generalize hl1 : l ++ br.take (Fr.takes br l 19) = l1 at *
          generalize hb1 : br.drop (Fr.takes br l 19) = b1 at *
          obtain ⟨A1, cc1, rfl, hcc1, hm1⟩ := hB.form
          have HL1 := Lib.hid hl1
          have HB1 := Lib.hid hb1
          have M1 := Lib.hid hM
          have N1 := Lib.hid hI1.noMs
          have G1 := Lib.hid hH
          have NH1 := Lib.hid (hI1.noHead hH)
          have D1 := Lib.hid hD1
          have OD1 := Lib.hid hO1
          have K1 := Lib.hid hK
          have S1 := Lib.hid hS
          have O1 := Lib.hid hO
          have HR := Lib.hid hrun
          have OK1 := Lib.hid hok1
          clear hl1 hb1 hM hH hD1 hO1 hK hS hrun hok1 hI1 hB hO T1
          go_wp2_with fail
          refine C1.out.mono ?_
          rintro e w2 ⟨F2, v2, rfl, hI2, hB2, hBo2, hO2, hK2, hS2⟩
          have K2 := Lib.hid (K1.out.sub S1.out hK2)
          have S2 := Lib.hid (S1.out.trans hS2 K1.out.size)
          have M2 := Lib.hid (M1.out.step2 hK2 (fun _ h => .inl h) (hS2.u hbk) N1.out)
          have G2 := Lib.hid (G1.out.kept hK2 NH1.out)
          have D2 := Lib.hid (D1.out.off hK2 OD1.out)
          have OD2 := Lib.hid (OD1.out.sub D1.out hS2)
          have I2 := Lib.hid hI2
          have B2 := Lib.hid hB2
          have O2 := Lib.hid (hO2 _ O1.out)
          obtain ⟨bq, hF2, hbb2, ho2, hle2, -⟩ := hI2
          obtain ⟨⟨-, c1, -, -, -⟩, -⟩ := cellsI hbb2
          obtain ⟨Aq, cq, rfl, hcq, hmq⟩ := own_form ho2
          have Q2 := Lib.hid (Bs.of_own ho2).by
          clear hB2 hO2 hBo2 O1 hK2 hS2 hF2 hbb2 ho2 M1 N1 G1 NH1 D1 OD1 K1 S1 C1
          by_cases h19 : l1.length < 19
          · have hfew := Fr.takes_few (b := br) (l := l) (many := 19) (by rw [HL1.out]; exact h19)
            rw [HL1.out, HB1.out] at hfew
            have HW := Lib.hid hfew
            have H19 := Lib.hid h19
            clear hfew
            go_wp2_with fail
            go_step3
            refine ⟨?_, ?_⟩
            · show FeedEnd w p F D (Fr.feed s b) _ _
              refine ⟨_, rfl, rfl, rfl, F2, ?_, ?_, K2.out, S2.out⟩
              · rw [HFE.out, HR.out, ← HW.out.2, Fr.run_short H19.out]
                simpa using M2.out.mono (fun _ h => Or.inl h)
              · rw [HFE.out, HR.out, ← HW.out.2, Fr.run_short H19.out]
                exact ⟨dv1, I2.out, D2.out, OD2.out, On.empty D2.out _, fun _ => ⟨Fr.run_short H19.out, rfl⟩, fun h => absurd rfl h⟩
            · first | exact trivial | exact Nat.succ_pos _
          · have sl := slice_hi Aq l1.length cq 19 (by omega)
            have hcl := Lib.hid (fr_readHead (.slice Aq 19 cq) (l1.take 19) w2 (Q2.out.pre (by omega)) (by rw [List.length_take]; omega))
            go_wp2_with fail
            refine hcl.out.mono ?_
            rintro e w3 ⟨rfl, hk3⟩
            have g3 := G2.out.kept hk3 (fun x => x)
            obtain ⟨r0, r1, r2⟩ := cells3 g3
            have f0 := g3.free 0
            have f1 := g3.free 1
            have f2 := g3.free 2
            have I3 := Lib.hid (I2.out.old hk3)
            have K3 := Lib.hid (K2.out.trans (hk3.mono (fun _ x => x.elim)))
            have M3 := Lib.hid (M2.out.old hk3)
            have B3 := Lib.hid (B2.out.old hk3)
            have Z3 := Lib.hid (Nat.le_trans K2.out.size hk3.size)
            generalize hm : Fr.marked (l1.take 19) = m at *
            generalize hn : Fr.len (l1.take 19) = n at *
            generalize hk : (Fr.kind (l1.take 19)).toNat = kd at *
            have hnlt : n < 65536 := by
              rw [← hn]
              unfold Fr.len
              have a1 := ((l1.take 19).getD 16 0).toNat_lt
              have a2 := ((l1.take 19).getD 17 0).toNat_lt
              omega
            have hklt : kd < 256 := by rw [← hk]; exact (Fr.kind (l1.take 19)).toNat_lt
            have HJ3 : Hid (Fr.judge (l1.take 19) = judge3 m n kd) := by
              show _ = _
              rw [judge_eq, hm, hn, hk]
            have HM := Lib.hid hm
            have HN := Lib.hid hn
            have HK := Lib.hid hk
            have G3 := Lib.hid g3
            have e0 : (w3.setCell ⟨hbk, 0, none⟩ (.bool m)).cell? ⟨hbk, 0, none⟩ = some (.bool m) := (g3.put 0 (.bool m)).cell 0
            have e1 : ((w3.setCell ⟨hbk, 0, none⟩ (.bool m)).setCell ⟨hbk, 1, none⟩ (.int .i64 n)).cell? ⟨hbk, 1, none⟩ = some (.int .i64 n) := ((g3.put 0 (.bool m)).put 1 (.int .i64 n)).cell 1
            have e2 : (((w3.setCell ⟨hbk, 0, none⟩ (.bool m)).setCell ⟨hbk, 1, none⟩ (.int .i64 n)).setCell ⟨hbk, 2, none⟩ (.int .u8 kd)).cell? ⟨hbk, 2, none⟩ = some (.int .u8 kd) := (((g3.put 0 (.bool m)).put 1 (.int .i64 n)).put 2 (.int .u8 kd)).cell 2
            have HC := Lib.hid (fun W => fr_fault m n kd W hnlt hklt)
            have NM3 := Lib.hid (NoMs.blk g3 (by decide))
            have NH3 := Lib.hid (fun (k : Nat) (hk : F2 k) (e : Only hbk k) => I3.out.noHead g3 (by rw [← (show k = hbk from e)]; exact hk))
            clear hm hn hk hk3 g3 sl hcl c1 M2 B2 K2 I2 Q2
            go_wp2_with fail
            refine (HC.out _).mono ?_
            rintro e w4 ⟨dv4, rfl, hd4, hnew4, hk4⟩
            have k3 := ((Kept.own w3 hbk 0 (.bool m)).trans (Kept.own _ hbk 1 (.int .i64 n))).trans (Kept.own _ hbk 2 (.int .u8 kd))
            have I4 := Lib.hid ((I3.out.kept k3 NH3.out).old hk4)
            have K4 := Lib.hid (((((K3.out.setCell (p := ⟨hbk, 0, none⟩) (fun h => absurd h (Nat.not_lt.2 hge)) (.bool m)).setCell (p := ⟨hbk, 1, none⟩) (fun h => absurd h (Nat.not_lt.2 hge)) (.int .i64 n)).setCell (p := ⟨hbk, 2, none⟩) (fun h => absurd h (Nat.not_lt.2 hge)) (.int .u8 kd))).trans (hk4.mono (fun _ x => x.elim)))
            have M4 := Lib.hid (((M3.out.step2 k3 (fun _ h => .inr h) (Sub.refl _ _) NM3.out)).old hk4)
            have B4 := Lib.hid ((B3.out.off k3 (O2.out.mono (fun k h => .inr (by rw [show k = hbk from h]; exact hge)))).old hk4)
            have G4 := Lib.hid (((((G3.out.put 0 (.bool m)).put 1 (.int .i64 n)).put 2 (.int .u8 kd))).kept hk4 (fun x => x))
            have P2 : p < w3.heap.size := I3.out.lt I3.out.self
            have L3 := Lib.hid (fun k (hk : F2 k) => I3.out.lt hk)
            have W4 : New w3 dv4 := fun a n' c' e => by have := hnew4 a n' c' e; simpa [World.setCell] using this
            obtain ⟨A4, cd4, rfl, hcd4, hmd4⟩ := hd4.form
            have W4' := Lib.hid W4
            have Y4 := Lib.hid hd4
            generalize hjj : judge3 m n kd = jj at *
            obtain ⟨sj, dj⟩ := jj
            have HJJ := Lib.hid hjj
            obtain ⟨bq4, hF4, hb4, ho4, hle4, -⟩ := I4.out
            obtain ⟨⟨-, c1, c2, c3, c4⟩, q1, q2, q3, q4⟩ := cellsI hb4
            obtain ⟨Ab4, cb4, rfl, _, _⟩ := own_form ho4
            have X5 := Lib.hid (I4.out.judged sj (.slice A4 dj.length cd4))
            have N4 := Lib.hid I4.out.noMs
            have E4 := Lib.hid I4.out.self
            have K4' := Lib.hid (judged_kept w4 p sj (.slice A4 dj.length cd4))
            clear k3 hk4 hnew4 hd4 hjj W4 hF4 hb4 ho4 r0 r1 r2 f0 f1 f2 e0 e1 e2 HC I3 K3 M3 B3 G3 NM3 NH3
            generalize dj.length = ldj at *
            go_wp2_with fail
            change Calls _ _ _ (judged w4 p sj (.slice A4 ldj cd4)) _
            obtain ⟨bq5, hF5, hb5, ho5, hle5⟩ := X5.out
            obtain ⟨⟨-, y1, -, -, -⟩, z1, -, -, -⟩ := cellsI hb5
            obtain ⟨Ab5, cb5, rfl, _, _⟩ := own_form ho5
            have HB5 := Lib.hid hb5
            have HF5 := Lib.hid hF5
            have HO5 := Lib.hid ho5
            have NS := Lib.hid (fun k (hk : Only p k) => by rw [show k = p from hk]; exact E4.out : ∀ k, Only p k → F2 k)
            have K5 := Lib.hid (K4.out.sub S2.out (K4'.out.mono NS.out))
            have B5 := Lib.hid (B4.out.off K4'.out (O2.out.mono (fun k hk => S2.out k (NS.out k hk))))
            have M5 := Lib.hid (M4.out.step2 K4'.out (fun k hk => Or.inl (NS.out k hk)) (Sub.refl _ _) (fun k hk => N4.out k (NS.out k hk)))
            have NP : hbk ≠ p := fun e => I4.out.noHead G4.out (by rw [e]; exact E4.out)
            have NP' := Lib.hid NP
            have G5 := Lib.hid (G4.out.kept K4'.out (fun e => NP'.out e))
            have OD5 := Lib.hid (W4'.out.off (S := F2) L3.out)
            have OD6 := Lib.hid (W4'.out.off (S := Only p) (fun k hk => L3.out k (NS.out k hk)))
            have D5 := Lib.hid (Y4.out.by.off K4'.out OD6.out)
            clear hF5 hb5 ho5 c1 c2 c3 c4 q1 q2 q3 q4 X5 K4 B4 M4 G4 NP I4 Y4
            generalize judged w4 p sj (.slice A4 ldj cd4) = w5 at *
            refine (in_faultyB p _ _ sj _ HB5.out).mono ?_
            rintro e w' ⟨rfl, rfl⟩
            by_cases hs0 : sj = 0
            · subst hs0
              have hz := Fr.judge_zero (h := l1.take 19) (by rw [HJ3.out])
              rw [HN.out] at hz
              have hdj : dj = [] := by
                have := hz.1
                rw [HJ3.out] at this
                exact (Prod.mk.inj this).2
              have hn19 : 19 ≤ n := hz.2.2.1
              have hn4096 : n ≤ 4096 := hz.2.2.2.1
              subst hdj
              clear hz
              have I5 : Iq w5 F2 p l1 0 (.slice A4 ldj cd4) := ⟨_, HF5.out, HB5.out, HO5.out, hle5, fun h => absurd rfl h⟩
              have hbl1 : l1.length + b1.length ≤ 1099511627776 := by
                rw [← HL1.out, ← HB1.out]
                have := Fr.takes_len br l 19
                omega
              have C6 := Lib.hid (in_take p F2 l1 (.slice A4 ldj cd4) v2 b1 n w5 I5 B5.out (O2.out.mono (EE.sub S2.out)) hbl1 (by omega))
              have T6 : taken b1 l1 n = Fr.takes b1 l1 n := rfl
              rw [T6] at C6
              generalize hl2 : l1 ++ b1.take (Fr.takes b1 l1 n) = l2 at *
              generalize hb2 : b1.drop (Fr.takes b1 l1 n) = b2 at *
              have HL2 := Lib.hid hl2
              have HB2 := Lib.hid hb2
              have N5 := Lib.hid I5.noMs
              have NH5 := Lib.hid (I5.noHead G5.out)
              have g1 : w5.cell? ⟨hbk, 1, none⟩ = some (.int .i64 n) := G5.out.cell 1
              clear hl2 hb2 T6 I5 HF5 HB5 HO5 y1 z1
              go_wp2_with fail
              refine C6.out.mono ?_
              rintro e w6 ⟨F6, v6, rfl, hI6, hB6, hBo6, hO6, hK6, hS6⟩
              have K6 := Lib.hid (K5.out.sub S2.out hK6)
              have S6 := Lib.hid (S2.out.trans hS6 K5.out.size)
              have M6 := Lib.hid (M5.out.step2 hK6 (fun _ h => .inl h) (hS6.u hbk) N5.out)
              have G6 := Lib.hid (G5.out.kept hK6 NH5.out)
              have D6 := Lib.hid (D5.out.off hK6 OD5.out)
              have OE6 := Lib.hid (OD5.out.sub D5.out hS6)
              obtain ⟨Av6, cv6, rfl, _, _⟩ := hB6.form
              have I6 := Lib.hid hI6
              have B6 := Lib.hid hB6
              have O6 := Lib.hid (hO6 _ O2.out)
              obtain ⟨bq6, hF6, hbb6, ho6, hle6, -⟩ := hI6
              obtain ⟨⟨-, c1, -, -, -⟩, q1, -, -, -⟩ := cellsI hbb6
              obtain ⟨A6, cq6, rfl, hcq6, hmq6⟩ := own_form ho6
              have Q6 := Lib.hid (Bs.of_own ho6).by
              have g6 : w6.cell? ⟨hbk, 1, none⟩ = some (.int .i64 n) := G6.out.cell 1
              have g7 : w6.cell? ⟨hbk, 2, none⟩ = some (.int .u8 kd) := G6.out.cell 2
              clear hB6 hO6 hBo6 hK6 hS6 hF6 hbb6 ho6 g1 C6 M5 G5 D5 OD5 N5 NH5 K5 B5 OD6
              by_cases h2 : l2.length < n
              · have hfew := Fr.takes_few (b := b1) (l := l1) (many := n) (by rw [HL2.out]; exact h2)
                rw [HL2.out, HB2.out] at hfew
                have e1 := Fr.takes_join br l 19
                rw [HL1.out, HB1.out] at e1
                have hl2e : l2 = l ++ br := hfew.2.trans e1
                have hh := Fr.head_of (l := l) (b := br) (by rw [HL1.out]; omega)
                rw [HL1.out] at hh
                have jt := Fr.judge_take hh.2
                rw [← hh.1] at jt
                have hw : Fr.run (l ++ br) = ([], ⟨l2, 0, []⟩) := by
                  rw [hl2e]
                  exact Fr.run_wait (by omega) (by rw [← jt.1, HJ3.out]) (by rw [← jt.2.1, HN.out, ← hl2e]; exact h2)
                have HW := Lib.hid hw
                have HW2 := Lib.hid hl2e
                clear hfew e1 hl2e hh jt hw
                go_wp2_with fail
                go_quiet (fail)
                go_wp2_with fail
                go_step3
                refine ⟨?_, ?_⟩
                · show FeedEnd w p F D (Fr.feed s b) _ _
                  refine ⟨_, rfl, rfl, rfl, F6, ?_, ?_, K6.out.drewN _, S6.out⟩
                  · rw [HFE.out, HR.out, HW.out]
                    simpa using (M6.out.old ((Kept.refl Nothing _).drewN _)).mono (fun _ h => Or.inl h)
                  · rw [HFE.out, HR.out, HW.out]
                    have kd := (Kept.refl Nothing w6).drewN ‹Nat›
                    exact ⟨_, I6.out.old ((Kept.refl Nothing _).drewN _), D6.out.old ((Kept.refl Nothing _).drewN _), OE6.out, On.empty D6.out _, fun _ => ⟨by show Fr.run l2 = _; rw [HW2.out, HW.out, ← HW2.out], rfl⟩, fun h => absurd rfl h⟩
                · first | exact trivial | exact Nat.succ_pos _
              · have hwh := Fr.whole_of (l := l) (b := br) (OK1.out.1 rfl).1 (by rw [HL1.out]; omega) (l1 := l1) (b1 := b1) HL1.out.symm HB1.out.symm
                have hh := Fr.head_of (l := l) (b := br) (by rw [HL1.out]; omega)
                rw [HL1.out] at hh
                rw [← hh.1, HJ3.out, HN.out, HL2.out, HB2.out] at hwh
                have hwh := hwh rfl (by omega)
                have jt := Fr.judge_take hh.2
                rw [← hh.1, HJ3.out, HN.out] at jt
                have HWH := Lib.hid hwh
                have HJT := Lib.hid jt
                clear hwh hh jt
                have h19l2 : 19 ≤ l2.length := by omega
                go_wp2_with fail
                go_quiet (fail)
                go_wp2_with fail
                refine (show ∀ W7, Kept Nothing w6 W7 → Code.wp _ _ _ _ W7 from ?_) _ ((Kept.refl Nothing w6).drewN _)
                intro w7 kq
                have K7 := Lib.hid (K6.out.trans (kq.mono (fun _ x => x.elim)))
                have M7 := Lib.hid (M6.out.old kq)
                have G7 := Lib.hid (G6.out.kept kq (fun x => x))
                have I7 := Lib.hid (I6.out.old kq)
                have B7 := Lib.hid (B6.out.old kq)
                have Q7 := Lib.hid (Q6.out.old kq)
                have D7 := Lib.hid (D6.out.old kq)
                have c7 := kq.cell_some c1 (fun x => x)
                have g8 := kq.cell_some g7 (fun x => x)
                clear kq c1 q1 g6 g7 K6 M6 G6 I6 B6 Q6 D6
                have sl : ∀ w', (Instr.slice 25 (.slice A6 l2.length cq6) (some (.int .i64 19)) none none).run Try.prog w' = .ok (.slice (if cq6 = 19 then A6 else A6.map (·.add 19)) (l2.length - 19) (cq6 - 19)) w' := slice_lo A6 l2.length cq6 19 h19l2
                have QP := Q7.out.piece (k := 19) (m := l2.length - 19) (by omega)
                rw [List.take_of_length_le (by rw [List.length_drop]; omega)] at QP
                generalize (if cq6 = 19 then A6 else A6.map (·.add 19)) = A9 at *
                generalize hbd : l2.drop 19 = bd at *
                have HBD0 := Lib.hid hbd
                have HBL : bd.length ≤ l2.length := by rw [← hbd, List.length_drop]; omega
                clear hbd
                have QP := Lib.hid QP
                obtain ⟨tl, htl, hown, hbod⟩ := M7.out
                obtain ⟨A5, c5, rfl, hc5, hm5⟩ := own_form hown
                have HO7 := Lib.hid hown
                have HT7 := Lib.hid htl
                have HBD := Lib.hid hbod
                have HX : Hid ((tl.length + 1 ≤ maxLen ∧ (tl.length + 1) * 32 ≤ 140737488355328) ∧ bd.length ≤ 1099511627776) := by
                  have : tl.length = told.length := by rw [← htl, List.length_map]
                  refine ⟨⟨by unfold maxLen; omega, by omega⟩, by omega⟩
                obtain ⟨i0, hi, hz0, hz1, hz2⟩ := info_parts msg_info
                clear hown htl hbod M7
                have CL := Lib.hid (sl_clone (.slice A9 (l2.length - 19) (cq6 - 19)) bd w7.drew (QP.out.old ((Kept.refl Nothing w7).drew)) HX.out.2)
                go_wp2_with fail
                go_region_law (first
                  | (go_simp; go_at_call 14; refine (CL.out).mono ?_; rintro e w8 ⟨v8, rfl, ho8, hk8⟩; (have g9 : w8.cell? ⟨hbk, 2, none⟩ = some (.int .u8 kd) := hk8.cell_some (p := ⟨hbk, 2, none⟩) g8 (fun x => x)); (have HV8 := Lib.hid ho8); (have HK8 := Lib.hid (((Kept.refl Nothing w7).drew).trans hk8)); (obtain ⟨A8, c8, rfl, _, _⟩ := own_form ho8); clear ho8 hk8)
                  | (refine step_app _ (by rfl) _ _ 26 (by rfl) w.heap.size 49 i0 _ 2 32 Try.underlying26 hi hz0 hz1 hz2 rfl (by decide) (.slice A5 tl.length c5) tl.length (mcs tl) (by rfl) (own_kept HO7.out (HK8.out.alloc _) (fun _ _ x => x)) (some ⟨w8.heap.size, 0, none⟩) 1 1 [.int .u8 kd, .slice A8 bd.length c8] (by rfl) (cells_src (Blk.fresh w8 _ #[.int .u8 kd, .slice A8 bd.length c8]) rfl (by simp [Value.oneCell'])) HX.out.1.1 HX.out.1.2 (by rw [World.size_alloc]; exact Nat.le_trans K7.out.size (Nat.le_succ_of_le HK8.out.size)) ?_; intro v9 w9 hown9 hg9 hat9; (have HO9 := Lib.hid hown9); (have HG9 := Lib.hid hg9); (have HA9 := Lib.hid hat9); (obtain ⟨A10, c10, rfl, _, _⟩ := own_form hown9); clear hown9 hg9 hat9))
                all_goals
                  have kA : Kept Nothing w7 (w8.alloc (.cells #[.int .u8 kd, .slice A8 bd.length c8] 49)) := HK8.out.alloc _
                  have kB : Kept (fun k => (Value.slice A5 tl.length c5).ownBlock = some k) (w8.alloc (.cells #[.int .u8 kd, .slice A8 bd.length c8] 49)) w9 := (Kept.refl _ _).grown HG9.out (fun k hk _ => hk)
                  have hA := own_kept HO7.out kA (fun _ _ x => x)
                  have nB : NoBytes (w8.alloc (.cells #[.int .u8 kd, .slice A8 bd.length c8] 49)) (fun k => (Value.slice A5 tl.length c5).ownBlock = some k) := fun k hk cs f e => by
                    obtain ⟨cs', hh⟩ := own_lt hA hk
                    rw [hh] at e
                    injection e with e
                    injection e with _ e2
                    exact absurd e2 (by decide)
                  have I9 : Iq w9 F6 p l2 0 _ := (I7.out.old kA).kept kB (fun g hg e => by
                    obtain ⟨cs', hh⟩ := own_lt hA e
                    exact (I7.out.old kA).noMs g hg _ _ hh)
                  have G9 := (G7.out.kept kA (fun x => x)).kept kB (fun e => by
                    obtain ⟨cs', hh⟩ := own_lt hA e
                    exact (G7.out.kept kA (fun x => x)).apart (t' := 49) hh (by decide) rfl)
                  have D9 := (D7.out.old kA).off kB ((D7.out.old kA).empty_off _)
                  have B9 := (B7.out.old kA).off kB (O6.out.mono (fun k hk => .inr (own_ge hA hk)))
                  have K9 : Kept F w w9 := (K7.out.trans (kA.mono (fun _ x => x.elim))).trans_new kB (fun i hi hx => by have := own_ge hA hx; omega)
                  have hkd : (Fr.kind (l ++ br)).toNat = kd := by rw [← HJT.out.2.2, HK.out]
                  have M9 : Ms w9 w.heap.size (U F6 hbk) (.slice A10 (tl.length + 1) c10) (told ++ [(Fr.kind (l ++ br), bd)]) := by
                    refine ⟨tl ++ [((Fr.kind (l ++ br), bd), .slice A8 bd.length c8)], by rw [List.map_append, HT7.out]; rfl, ?_, ?_⟩
                    · rw [mcs_append, List.length_append]
                      have := HO9.out
                      rw [← hkd] at this
                      exact this
                    · intro x hx
                      rcases List.mem_append.1 hx with hx | hx
                      · exact ⟨((HBD.out x hx).1.kept kA (NoBytes.nothing _)).kept kB nB, (HBD.out x hx).2⟩
                      · obtain rfl := List.mem_singleton.1 hx
                        refine ⟨((Bs.of_own HV8.out).kept ((Kept.refl Nothing w8).alloc _) (NoBytes.nothing _)).kept kB nB, Off.own HV8.out (fun k hk => ?_), Past.own HV8.out K7.out.size⟩
                        show k < w7.heap.size
                        rcases hk with hk | hk
                        · exact I7.out.lt hk
                        · rw [hk]; exact G7.out.lt
                  have hmeas : b2.length < br.length ∧ l.length + br.length = n + b2.length := by
                    have e1 := HWH.out
                    have e2 := HJT.out.2.1
                    rw [← e2] at e1
                    have e3 : b2.length = (l ++ br).length - n := by rw [e1.2.1, List.length_drop]
                    rw [List.length_append] at e3 e1
                    have e4 : l.length < n := by
                      by_cases hc : 19 ≤ l.length
                      · have := ((OK1.out.1 rfl).1.head hc).2
                        have e := Fr.len_app br hc
                        rw [← e2] at e
                        show l.length < n
                        simp only at this
                        omega
                      · omega
                    omega
                  have hrun : Fr.run (s.l ++ b) = ((told ++ [(Fr.kind (l ++ br), bd)]) ++ (Fr.run ([] ++ b2)).1, (Fr.run ([] ++ b2)).2) := by
                    rw [HR.out, Fr.run_step (by rw [← HJT.out.1]) HWH.out.2.2, ← HWH.out.1, ← HWH.out.2.1, HBD0.out]
                    simp
                  have HI9 := Lib.hid I9
                  have HG9' := Lib.hid G9
                  have HD9 := Lib.hid D9
                  have HB9 := Lib.hid B9
                  have HK9 := Lib.hid K9
                  have HM9 := Lib.hid M9
                  have HME := Lib.hid hmeas
                  have HRU := Lib.hid hrun
                  obtain ⟨bq9, hF9, hb9, ho9, -, -⟩ := I9
                  obtain ⟨⟨-, c1, -, -, -⟩, q1, -, -, -⟩ := cellsI hb9
                  obtain ⟨A11, c11, rfl, _, _⟩ := own_form ho9
                  clear kA kB hA nB G9 D9 B9 K9 M9 hmeas hrun hkd hF9 hb9 ho9 HK8 HV8 HO7 HT7 HBD HO9 HG9 HA9 I7 B7 D7 G7 K7 Q7 c7 g8 sl QP CL HX hi hz0 hz1 hz2 g9
                  go_wp2_with fail
                  go_step3
                  obtain ⟨F', y1, y2, y3, y4⟩ := HI9.out.clear
                  refine ⟨?_, ?_⟩
                  · show s.s = 0 ∧ FeedAt w p F D (s.l ++ b) _ _
                    refine ⟨H0.out, .slice Av6 b2.length cv6, .slice A10 (tl.length + 1) c10, hbk, .bool m, .int .i64 n, .int .u8 kd, [], b2, told ++ [(Fr.kind (l ++ br), bd)], F', rfl, rfl, rfl, rfl, rfl, rfl, ?_, ?_, O6.out, ?_, ?_, hge, ?_, ?_, HRU.out, ?_⟩
                    · exact ⟨_, y1, HD9.out.off y2 (HD9.out.empty_off _), HD9.out.empty_off _, On.empty HD9.out _, fun _ => ⟨Fr.Waits.nil, rfl⟩, fun h => absurd rfl h⟩
                    · exact HB9.out.off y2 (O6.out.mono (EE.sub S6.out))
                    · exact HM9.out.step2 y2 (fun k hk => .inl hk) (fun k hk => .inl (by rcases hk with hk | hk; exact .inl (y3 k hk); exact .inr hk)) HI9.out.noMs
                    · exact HG9'.out.kept y2 (HI9.out.noHead HG9'.out)
                    · exact HK9.out.sub S6.out y2
                    · exact fun k hk => S6.out k (y3 k hk)
                    · rw [List.length_append]
                      have := HME.out.2
                      simp only [List.length_cons, List.length_nil]
                      omega
                  · first
                    | exact trivial
                    | (show widthOf (.slice Av6 b2.length cv6) + 1 < widthOf (.slice A1 br.length cc1) + 1
                       have := HME.out.1
                       simp only [widthOf]
                       omega)
            · have hd : decide (sj ≠ 0) = true := by simpa using hs0
              rw [hd]
              have HS0 := Lib.hid hs0
              have hh := Fr.head_of (l := l) (b := br) (by rw [HL1.out]; omega)
              rw [HL1.out] at hh
              have jt := Fr.judge_take hh.2
              rw [← hh.1] at jt
              have hw : Fr.run (l ++ br) = ([], ⟨[], sj, dj⟩) := by
                have hj := jt.1
                rw [HJ3.out] at hj
                have := Fr.run_bad (b := l ++ br) (by omega) (by rw [← hj]; exact hs0)
                rw [← hj] at this
                exact this
              have hle := Fr.judge_le (l1.take 19)
              rw [HJ3.out] at hle
              have HLE := Lib.hid hle
              have HW := Lib.hid hw
              clear hd hs0 hh jt hw hle
              go_wp2_with fail
              go_step3
              have k6 := Kept.own w5 p 1 (.slice none 0 0)
              have hF3 : ∀ k, iown p (.slice none 0 0) k → k = p := by
                rintro k (rfl | hk)
                · rfl
                · simp [Value.ownBlock] at hk
              refine ⟨?_, ?_⟩
              · show FeedEnd w p F D (Fr.feed s b) _ _
                refine ⟨_, rfl, rfl, rfl, iown p (.slice none 0 0), ?_, ?_, K5.out.sub S2.out (k6.mono NS.out), fun k hk => S2.out k (by rw [hF3 k hk]; exact E4.out)⟩
                · rw [HFE.out, HR.out, HW.out]
                  simpa using M5.out.step2 k6 (fun k hk => .inl (NS.out k hk)) (fun k hk => .inl (.inl (by rw [hF3 k hk]; exact E4.out))) (NoMs.blk HB5.out (by decide))
                · rw [HFE.out, HR.out, HW.out]
                  exact ⟨_, ⟨.slice none 0 0, rfl, HB5.out.put 1 _, World.ownsRow_nil _ _ _ _, Nat.zero_le _, fun _ => rfl⟩, D5.out.off k6 OD6.out, OD6.out.mono (fun k hk => hF3 k hk), fun a n' c' e _ => Or.inr (Nat.le_trans Z3.out (W4'.out a n' c' e)), fun h => absurd h HS0.out, fun _ => ⟨rfl, HLE.out.1, HLE.out.2⟩⟩
              · first | exact trivial | exact Nat.succ_pos _
      · have hi := I0.out.old KA.out
        rw [H0.out] at hi
        have hd := (OK.out.1 H0.out).2
        have hdd := D0.out
        rw [hd] at hdd
        refine ⟨v, .slice none 0 0, w.heap.size, .bool false, .int .i64 0, .int .u8 0, s.l, b, [], F, rfl, rfl, rfl, rfl, rfl, rfl, ⟨dv, hi, hdd.old KA.out, O0.out, On.empty hdd _, fun _ => ⟨(OK.out.1 H0.out).1, rfl⟩, fun h => absurd rfl h⟩, V0.out.old KA.out, ?_, Ms.nil _ _ _, Blk.fresh w _ _, Nat.le_refl _, KA.out.mono (fun _ x => x.elim), Sub.refl _ _, by simp, by simp⟩
        intro a n c e h0 x
        rcases x with y | y
        · exact OV.out a n c e h0 y
        · exact V0.out.off_new (S := fun k => w.heap.size ≤ k) (fun _ h => h) a n c e h0 y
    · have G := Lib.hid (in_gathers p F s.l s.s dv)
      have hd : decide (s.s = 0) = false := by simpa using h0
      rw [hd] at G
      have KA := Lib.hid ((Kept.refl Nothing w).alloc (.cells #[.bool false, .int .i64 0, .int .u8 0] 45))
      clear hd
      have HF : Hid (Fr.feed s b = ([], s)) := if_neg h0
      clear h0
      go_wp2_with fail
      refine (G.out _ (I0.out.old KA.out)).mono ?_
      rintro e w' ⟨rfl, rfl⟩
      go_wp2_with fail
      go_step3
      refine ⟨?_, trivial⟩
      show FeedEnd w p F D (Fr.feed s b) _ _
      refine ⟨_, rfl, rfl, rfl, F, ?_, ?_, ?_, Sub.refl _ _⟩
      · rw [HF.out]; exact Ms.nil _ _ _
      · rw [HF.out]; exact ⟨dv, I0.out.old KA.out, D0.out.old KA.out, O0.out, ON0.out.mono (fun _ h => Or.inl h), OK.out⟩
      · exact KA.out.mono (fun _ x => x.elim)
  · intro lb a w1 hJ
    match lb, hJ with
    | 1, hJ =>
      obtain ⟨h0, hAt⟩ := hJ
      have HFE : Hid (Fr.feed s b = Fr.run (s.l ++ b)) := if_pos h0
      have H0 := Lib.hid h0
      refine ⟨_, rfl, ?_⟩
      clear h0 hJ
      as_aux_lemma =>
        obtain ⟨bv, tv, hbk, cx, cy, cz, l, br, told, F1, hdf, hsz, s0, s1, s5, s6, hI, hB, hO, hM, hH, hge, hK, hS, hrun, hlen⟩ := hAt
        obtain ⟨⟨tl⟩, df⟩ := a
        obtain rfl : df = [] := hdf
        obtain ⟨x0, x1, x2, x3, x4, x5, x6, x7, x8, x9, x10, x11, x12, x13, x14, x15, x16, x17, x18, x19, x20, x21, x22, x23, x24, x25, x26, x27, x28, x29, x30, x31, x32, x33, x34, x35, x36, x37, x38, x39, x40, x41, x42, x43, x44, x45, x46, x47, x48, x49, x50, x51, x52, x53, x54, x55, x56, x57, x58, x59, x60, x61, x62, x63, x64, x65, x66, x67, x68, x69, rfl⟩ := list70 tl (by simpa using hsz)
        obtain rfl : x0 = _ := s0
        obtain rfl : x1 = bv := s1
        obtain rfl : x5 = tv := s5
        obtain rfl : x6 = _ := s6
        clear hsz
        obtain ⟨dv1, hI1, hD1, hO1, -, hok1⟩ := hI
        have hbl : l.length + br.length ≤ 1099511627776 := by
          rw [List.length_append] at hlen
          have := (OK.out.1 H0.out).1.lt
          omega
        have hall : (s.l ++ b).length ≤ 4294967296 := by
          rw [List.length_append]
          have := (OK.out.1 H0.out).1.lt
          omega
        have C1 := Lib.hid (in_take p F1 l dv1 x1 br 19 w1 hI1 hB (hO.mono (EE.sub hS)) hbl (by decide))
        have T1 : taken br l 19 = Fr.takes br l 19 := rfl
        rw [T1] at C1
        have hle := Fr.takes_le br l 19
        generalize hl1 : l ++ br.take (Fr.takes br l 19) = l1 at *
        generalize hb1 : br.drop (Fr.takes br l 19) = b1 at *
        obtain ⟨A1, cc1, rfl, hcc1, hm1⟩ := hB.form
        have HL1 := Lib.hid hl1
        have HB1 := Lib.hid hb1
        have M1 := Lib.hid hM
        have N1 := Lib.hid hI1.noMs
        have G1 := Lib.hid hH
        have NH1 := Lib.hid (hI1.noHead hH)
        have D1 := Lib.hid hD1
        have OD1 := Lib.hid hO1
        have K1 := Lib.hid hK
        have S1 := Lib.hid hS
        have O1 := Lib.hid hO
        have HR := Lib.hid hrun
        have OK1 := Lib.hid hok1
        clear hl1 hb1 hM hH hD1 hO1 hK hS hrun hok1 hI1 hB hO T1
        go_wp2_with fail
        refine C1.out.mono ?_
        rintro e w2 ⟨F2, v2, rfl, hI2, hB2, hBo2, hO2, hK2, hS2⟩
        have K2 := Lib.hid (K1.out.sub S1.out hK2)
        have S2 := Lib.hid (S1.out.trans hS2 K1.out.size)
        have M2 := Lib.hid (M1.out.step2 hK2 (fun _ h => .inl h) (hS2.u hbk) N1.out)
        have G2 := Lib.hid (G1.out.kept hK2 NH1.out)
        have D2 := Lib.hid (D1.out.off hK2 OD1.out)
        have OD2 := Lib.hid (OD1.out.sub D1.out hS2)
        have I2 := Lib.hid hI2
        have B2 := Lib.hid hB2
        have O2 := Lib.hid (hO2 _ O1.out)
        obtain ⟨bq, hF2, hbb2, ho2, hle2, -⟩ := hI2
        obtain ⟨⟨-, c1, -, -, -⟩, -⟩ := cellsI hbb2
        obtain ⟨Aq, cq, rfl, hcq, hmq⟩ := own_form ho2
        have Q2 := Lib.hid (Bs.of_own ho2).by
        clear hB2 hO2 hBo2 O1 hK2 hS2 hF2 hbb2 ho2 M1 N1 G1 NH1 D1 OD1 K1 S1 C1
        by_cases h19 : l1.length < 19
        · have hfew := Fr.takes_few (b := br) (l := l) (many := 19) (by rw [HL1.out]; exact h19)
          rw [HL1.out, HB1.out] at hfew
          have HW := Lib.hid hfew
          have H19 := Lib.hid h19
          clear hfew
          go_wp2_with fail
          go_step3
          refine ⟨?_, ?_⟩
          · show FeedEnd w p F D (Fr.feed s b) _ _
            refine ⟨_, rfl, rfl, rfl, F2, ?_, ?_, K2.out, S2.out⟩
            · rw [HFE.out, HR.out, ← HW.out.2, Fr.run_short H19.out]
              simpa using M2.out.mono (fun _ h => Or.inl h)
            · rw [HFE.out, HR.out, ← HW.out.2, Fr.run_short H19.out]
              exact ⟨dv1, I2.out, D2.out, OD2.out, On.empty D2.out _, fun _ => ⟨Fr.run_short H19.out, rfl⟩, fun h => absurd rfl h⟩
          · first | exact trivial | exact Nat.succ_pos _
        · have sl := slice_hi Aq l1.length cq 19 (by omega)
          have hcl := Lib.hid (fr_readHead (.slice Aq 19 cq) (l1.take 19) w2 (Q2.out.pre (by omega)) (by rw [List.length_take]; omega))
          go_wp2_with fail
          refine hcl.out.mono ?_
          rintro e w3 ⟨rfl, hk3⟩
          have g3 := G2.out.kept hk3 (fun x => x)
          obtain ⟨r0, r1, r2⟩ := cells3 g3
          have f0 := g3.free 0
          have f1 := g3.free 1
          have f2 := g3.free 2
          have I3 := Lib.hid (I2.out.old hk3)
          have K3 := Lib.hid (K2.out.trans (hk3.mono (fun _ x => x.elim)))
          have M3 := Lib.hid (M2.out.old hk3)
          have B3 := Lib.hid (B2.out.old hk3)
          have Z3 := Lib.hid (Nat.le_trans K2.out.size hk3.size)
          generalize hm : Fr.marked (l1.take 19) = m at *
          generalize hn : Fr.len (l1.take 19) = n at *
          generalize hk : (Fr.kind (l1.take 19)).toNat = kd at *
          have hnlt : n < 65536 := by
            rw [← hn]
            unfold Fr.len
            have a1 := ((l1.take 19).getD 16 0).toNat_lt
            have a2 := ((l1.take 19).getD 17 0).toNat_lt
            omega
          have hklt : kd < 256 := by rw [← hk]; exact (Fr.kind (l1.take 19)).toNat_lt
          have HJ3 : Hid (Fr.judge (l1.take 19) = judge3 m n kd) := by
            show _ = _
            rw [judge_eq, hm, hn, hk]
          have HM := Lib.hid hm
          have HN := Lib.hid hn
          have HK := Lib.hid hk
          have G3 := Lib.hid g3
          have e0 : (w3.setCell ⟨hbk, 0, none⟩ (.bool m)).cell? ⟨hbk, 0, none⟩ = some (.bool m) := (g3.put 0 (.bool m)).cell 0
          have e1 : ((w3.setCell ⟨hbk, 0, none⟩ (.bool m)).setCell ⟨hbk, 1, none⟩ (.int .i64 n)).cell? ⟨hbk, 1, none⟩ = some (.int .i64 n) := ((g3.put 0 (.bool m)).put 1 (.int .i64 n)).cell 1
          have e2 : (((w3.setCell ⟨hbk, 0, none⟩ (.bool m)).setCell ⟨hbk, 1, none⟩ (.int .i64 n)).setCell ⟨hbk, 2, none⟩ (.int .u8 kd)).cell? ⟨hbk, 2, none⟩ = some (.int .u8 kd) := (((g3.put 0 (.bool m)).put 1 (.int .i64 n)).put 2 (.int .u8 kd)).cell 2
          have HC := Lib.hid (fun W => fr_fault m n kd W hnlt hklt)
          have NM3 := Lib.hid (NoMs.blk g3 (by decide))
          have NH3 := Lib.hid (fun (k : Nat) (hk : F2 k) (e : Only hbk k) => I3.out.noHead g3 (by rw [← (show k = hbk from e)]; exact hk))
          clear hm hn hk hk3 g3 sl hcl c1 M2 B2 K2 I2 Q2
          go_wp2_with fail
          refine (HC.out _).mono ?_
          rintro e w4 ⟨dv4, rfl, hd4, hnew4, hk4⟩
          have k3 := ((Kept.own w3 hbk 0 (.bool m)).trans (Kept.own _ hbk 1 (.int .i64 n))).trans (Kept.own _ hbk 2 (.int .u8 kd))
          have I4 := Lib.hid ((I3.out.kept k3 NH3.out).old hk4)
          have K4 := Lib.hid (((((K3.out.setCell (p := ⟨hbk, 0, none⟩) (fun h => absurd h (Nat.not_lt.2 hge)) (.bool m)).setCell (p := ⟨hbk, 1, none⟩) (fun h => absurd h (Nat.not_lt.2 hge)) (.int .i64 n)).setCell (p := ⟨hbk, 2, none⟩) (fun h => absurd h (Nat.not_lt.2 hge)) (.int .u8 kd))).trans (hk4.mono (fun _ x => x.elim)))
          have M4 := Lib.hid (((M3.out.step2 k3 (fun _ h => .inr h) (Sub.refl _ _) NM3.out)).old hk4)
          have B4 := Lib.hid ((B3.out.off k3 (O2.out.mono (fun k h => .inr (by rw [show k = hbk from h]; exact hge)))).old hk4)
          have G4 := Lib.hid (((((G3.out.put 0 (.bool m)).put 1 (.int .i64 n)).put 2 (.int .u8 kd))).kept hk4 (fun x => x))
          have P2 : p < w3.heap.size := I3.out.lt I3.out.self
          have L3 := Lib.hid (fun k (hk : F2 k) => I3.out.lt hk)
          have W4 : New w3 dv4 := fun a n' c' e => by have := hnew4 a n' c' e; simpa [World.setCell] using this
          obtain ⟨A4, cd4, rfl, hcd4, hmd4⟩ := hd4.form
          have W4' := Lib.hid W4
          have Y4 := Lib.hid hd4
          generalize hjj : judge3 m n kd = jj at *
          obtain ⟨sj, dj⟩ := jj
          have HJJ := Lib.hid hjj
          obtain ⟨bq4, hF4, hb4, ho4, hle4, -⟩ := I4.out
          obtain ⟨⟨-, c1, c2, c3, c4⟩, q1, q2, q3, q4⟩ := cellsI hb4
          obtain ⟨Ab4, cb4, rfl, _, _⟩ := own_form ho4
          have X5 := Lib.hid (I4.out.judged sj (.slice A4 dj.length cd4))
          have N4 := Lib.hid I4.out.noMs
          have E4 := Lib.hid I4.out.self
          have K4' := Lib.hid (judged_kept w4 p sj (.slice A4 dj.length cd4))
          clear k3 hk4 hnew4 hd4 hjj W4 hF4 hb4 ho4 r0 r1 r2 f0 f1 f2 e0 e1 e2 HC I3 K3 M3 B3 G3 NM3 NH3
          generalize dj.length = ldj at *
          go_wp2_with fail
          change Calls _ _ _ (judged w4 p sj (.slice A4 ldj cd4)) _
          obtain ⟨bq5, hF5, hb5, ho5, hle5⟩ := X5.out
          obtain ⟨⟨-, y1, -, -, -⟩, z1, -, -, -⟩ := cellsI hb5
          obtain ⟨Ab5, cb5, rfl, _, _⟩ := own_form ho5
          have HB5 := Lib.hid hb5
          have HF5 := Lib.hid hF5
          have HO5 := Lib.hid ho5
          have NS := Lib.hid (fun k (hk : Only p k) => by rw [show k = p from hk]; exact E4.out : ∀ k, Only p k → F2 k)
          have K5 := Lib.hid (K4.out.sub S2.out (K4'.out.mono NS.out))
          have B5 := Lib.hid (B4.out.off K4'.out (O2.out.mono (fun k hk => S2.out k (NS.out k hk))))
          have M5 := Lib.hid (M4.out.step2 K4'.out (fun k hk => Or.inl (NS.out k hk)) (Sub.refl _ _) (fun k hk => N4.out k (NS.out k hk)))
          have NP : hbk ≠ p := fun e => I4.out.noHead G4.out (by rw [e]; exact E4.out)
          have NP' := Lib.hid NP
          have G5 := Lib.hid (G4.out.kept K4'.out (fun e => NP'.out e))
          have OD5 := Lib.hid (W4'.out.off (S := F2) L3.out)
          have OD6 := Lib.hid (W4'.out.off (S := Only p) (fun k hk => L3.out k (NS.out k hk)))
          have D5 := Lib.hid (Y4.out.by.off K4'.out OD6.out)
          clear hF5 hb5 ho5 c1 c2 c3 c4 q1 q2 q3 q4 X5 K4 B4 M4 G4 NP I4 Y4
          generalize judged w4 p sj (.slice A4 ldj cd4) = w5 at *
          refine (in_faultyB p _ _ sj _ HB5.out).mono ?_
          rintro e w' ⟨rfl, rfl⟩
          by_cases hs0 : sj = 0
          · subst hs0
            have hz := Fr.judge_zero (h := l1.take 19) (by rw [HJ3.out])
            rw [HN.out] at hz
            have hdj : dj = [] := by
              have := hz.1
              rw [HJ3.out] at this
              exact (Prod.mk.inj this).2
            have hn19 : 19 ≤ n := hz.2.2.1
            have hn4096 : n ≤ 4096 := hz.2.2.2.1
            subst hdj
            clear hz
            have I5 : Iq w5 F2 p l1 0 (.slice A4 ldj cd4) := ⟨_, HF5.out, HB5.out, HO5.out, hle5, fun h => absurd rfl h⟩
            have hbl1 : l1.length + b1.length ≤ 1099511627776 := by
              rw [← HL1.out, ← HB1.out]
              have := Fr.takes_len br l 19
              omega
            have C6 := Lib.hid (in_take p F2 l1 (.slice A4 ldj cd4) v2 b1 n w5 I5 B5.out (O2.out.mono (EE.sub S2.out)) hbl1 (by omega))
            have T6 : taken b1 l1 n = Fr.takes b1 l1 n := rfl
            rw [T6] at C6
            generalize hl2 : l1 ++ b1.take (Fr.takes b1 l1 n) = l2 at *
            generalize hb2 : b1.drop (Fr.takes b1 l1 n) = b2 at *
            have HL2 := Lib.hid hl2
            have HB2 := Lib.hid hb2
            have N5 := Lib.hid I5.noMs
            have NH5 := Lib.hid (I5.noHead G5.out)
            have g1 : w5.cell? ⟨hbk, 1, none⟩ = some (.int .i64 n) := G5.out.cell 1
            clear hl2 hb2 T6 I5 HF5 HB5 HO5 y1 z1
            go_wp2_with fail
            refine C6.out.mono ?_
            rintro e w6 ⟨F6, v6, rfl, hI6, hB6, hBo6, hO6, hK6, hS6⟩
            have K6 := Lib.hid (K5.out.sub S2.out hK6)
            have S6 := Lib.hid (S2.out.trans hS6 K5.out.size)
            have M6 := Lib.hid (M5.out.step2 hK6 (fun _ h => .inl h) (hS6.u hbk) N5.out)
            have G6 := Lib.hid (G5.out.kept hK6 NH5.out)
            have D6 := Lib.hid (D5.out.off hK6 OD5.out)
            have OE6 := Lib.hid (OD5.out.sub D5.out hS6)
            obtain ⟨Av6, cv6, rfl, _, _⟩ := hB6.form
            have I6 := Lib.hid hI6
            have B6 := Lib.hid hB6
            have O6 := Lib.hid (hO6 _ O2.out)
            obtain ⟨bq6, hF6, hbb6, ho6, hle6, -⟩ := hI6
            obtain ⟨⟨-, c1, -, -, -⟩, q1, -, -, -⟩ := cellsI hbb6
            obtain ⟨A6, cq6, rfl, hcq6, hmq6⟩ := own_form ho6
            have Q6 := Lib.hid (Bs.of_own ho6).by
            have g6 : w6.cell? ⟨hbk, 1, none⟩ = some (.int .i64 n) := G6.out.cell 1
            have g7 : w6.cell? ⟨hbk, 2, none⟩ = some (.int .u8 kd) := G6.out.cell 2
            clear hB6 hO6 hBo6 hK6 hS6 hF6 hbb6 ho6 g1 C6 M5 G5 D5 OD5 N5 NH5 K5 B5 OD6
            by_cases h2 : l2.length < n
            · have hfew := Fr.takes_few (b := b1) (l := l1) (many := n) (by rw [HL2.out]; exact h2)
              rw [HL2.out, HB2.out] at hfew
              have e1 := Fr.takes_join br l 19
              rw [HL1.out, HB1.out] at e1
              have hl2e : l2 = l ++ br := hfew.2.trans e1
              have hh := Fr.head_of (l := l) (b := br) (by rw [HL1.out]; omega)
              rw [HL1.out] at hh
              have jt := Fr.judge_take hh.2
              rw [← hh.1] at jt
              have hw : Fr.run (l ++ br) = ([], ⟨l2, 0, []⟩) := by
                rw [hl2e]
                exact Fr.run_wait (by omega) (by rw [← jt.1, HJ3.out]) (by rw [← jt.2.1, HN.out, ← hl2e]; exact h2)
              have HW := Lib.hid hw
              have HW2 := Lib.hid hl2e
              clear hfew e1 hl2e hh jt hw
              go_wp2_with fail
              go_quiet (fail)
              go_wp2_with fail
              go_step3
              refine ⟨?_, ?_⟩
              · show FeedEnd w p F D (Fr.feed s b) _ _
                refine ⟨_, rfl, rfl, rfl, F6, ?_, ?_, K6.out.drewN _, S6.out⟩
                · rw [HFE.out, HR.out, HW.out]
                  simpa using (M6.out.old ((Kept.refl Nothing _).drewN _)).mono (fun _ h => Or.inl h)
                · rw [HFE.out, HR.out, HW.out]
                  have kd := (Kept.refl Nothing w6).drewN ‹Nat›
                  exact ⟨_, I6.out.old ((Kept.refl Nothing _).drewN _), D6.out.old ((Kept.refl Nothing _).drewN _), OE6.out, On.empty D6.out _, fun _ => ⟨by show Fr.run l2 = _; rw [HW2.out, HW.out, ← HW2.out], rfl⟩, fun h => absurd rfl h⟩
              · first | exact trivial | exact Nat.succ_pos _
            · have hwh := Fr.whole_of (l := l) (b := br) (OK1.out.1 rfl).1 (by rw [HL1.out]; omega) (l1 := l1) (b1 := b1) HL1.out.symm HB1.out.symm
              have hh := Fr.head_of (l := l) (b := br) (by rw [HL1.out]; omega)
              rw [HL1.out] at hh
              rw [← hh.1, HJ3.out, HN.out, HL2.out, HB2.out] at hwh
              have hwh := hwh rfl (by omega)
              have jt := Fr.judge_take hh.2
              rw [← hh.1, HJ3.out, HN.out] at jt
              have HWH := Lib.hid hwh
              have HJT := Lib.hid jt
              clear hwh hh jt
              have h19l2 : 19 ≤ l2.length := by omega
              go_wp2_with fail
              go_quiet (fail)
              go_wp2_with fail
              refine (show ∀ W7, Kept Nothing w6 W7 → Code.wp _ _ _ _ W7 from ?_) _ ((Kept.refl Nothing w6).drewN _)
              intro w7 kq
              have K7 := Lib.hid (K6.out.trans (kq.mono (fun _ x => x.elim)))
              have M7 := Lib.hid (M6.out.old kq)
              have G7 := Lib.hid (G6.out.kept kq (fun x => x))
              have I7 := Lib.hid (I6.out.old kq)
              have B7 := Lib.hid (B6.out.old kq)
              have Q7 := Lib.hid (Q6.out.old kq)
              have D7 := Lib.hid (D6.out.old kq)
              have c7 := kq.cell_some c1 (fun x => x)
              have g8 := kq.cell_some g7 (fun x => x)
              clear kq c1 q1 g6 g7 K6 M6 G6 I6 B6 Q6 D6
              have sl : ∀ w', (Instr.slice 25 (.slice A6 l2.length cq6) (some (.int .i64 19)) none none).run Try.prog w' = .ok (.slice (if cq6 = 19 then A6 else A6.map (·.add 19)) (l2.length - 19) (cq6 - 19)) w' := slice_lo A6 l2.length cq6 19 h19l2
              have QP := Q7.out.piece (k := 19) (m := l2.length - 19) (by omega)
              rw [List.take_of_length_le (by rw [List.length_drop]; omega)] at QP
              generalize (if cq6 = 19 then A6 else A6.map (·.add 19)) = A9 at *
              generalize hbd : l2.drop 19 = bd at *
              have HBD0 := Lib.hid hbd
              have HBL : bd.length ≤ l2.length := by rw [← hbd, List.length_drop]; omega
              clear hbd
              have QP := Lib.hid QP
              obtain ⟨tl, htl, hown, hbod⟩ := M7.out
              obtain ⟨A5, c5, rfl, hc5, hm5⟩ := own_form hown
              have HO7 := Lib.hid hown
              have HT7 := Lib.hid htl
              have HBD := Lib.hid hbod
              have HX : Hid ((tl.length + 1 ≤ maxLen ∧ (tl.length + 1) * 32 ≤ 140737488355328) ∧ bd.length ≤ 1099511627776) := by
                have : tl.length = told.length := by rw [← htl, List.length_map]
                refine ⟨⟨by unfold maxLen; omega, by omega⟩, by omega⟩
              obtain ⟨i0, hi, hz0, hz1, hz2⟩ := info_parts msg_info
              clear hown htl hbod M7
              have CL := Lib.hid (sl_clone (.slice A9 (l2.length - 19) (cq6 - 19)) bd w7.drew (QP.out.old ((Kept.refl Nothing w7).drew)) HX.out.2)
              go_wp2_with fail
              go_region_law (first
                | (go_simp; go_at_call 14; refine (CL.out).mono ?_; rintro e w8 ⟨v8, rfl, ho8, hk8⟩; (have g9 : w8.cell? ⟨hbk, 2, none⟩ = some (.int .u8 kd) := hk8.cell_some (p := ⟨hbk, 2, none⟩) g8 (fun x => x)); (have HV8 := Lib.hid ho8); (have HK8 := Lib.hid (((Kept.refl Nothing w7).drew).trans hk8)); (obtain ⟨A8, c8, rfl, _, _⟩ := own_form ho8); clear ho8 hk8)
                | (refine step_app _ (by rfl) _ _ 26 (by rfl) w.heap.size 49 i0 _ 2 32 Try.underlying26 hi hz0 hz1 hz2 rfl (by decide) (.slice A5 tl.length c5) tl.length (mcs tl) (by rfl) (own_kept HO7.out (HK8.out.alloc _) (fun _ _ x => x)) (some ⟨w8.heap.size, 0, none⟩) 1 1 [.int .u8 kd, .slice A8 bd.length c8] (by rfl) (cells_src (Blk.fresh w8 _ #[.int .u8 kd, .slice A8 bd.length c8]) rfl (by simp [Value.oneCell'])) HX.out.1.1 HX.out.1.2 (by rw [World.size_alloc]; exact Nat.le_trans K7.out.size (Nat.le_succ_of_le HK8.out.size)) ?_; intro v9 w9 hown9 hg9 hat9; (have HO9 := Lib.hid hown9); (have HG9 := Lib.hid hg9); (have HA9 := Lib.hid hat9); (obtain ⟨A10, c10, rfl, _, _⟩ := own_form hown9); clear hown9 hg9 hat9))
              all_goals
                have kA : Kept Nothing w7 (w8.alloc (.cells #[.int .u8 kd, .slice A8 bd.length c8] 49)) := HK8.out.alloc _
                have kB : Kept (fun k => (Value.slice A5 tl.length c5).ownBlock = some k) (w8.alloc (.cells #[.int .u8 kd, .slice A8 bd.length c8] 49)) w9 := (Kept.refl _ _).grown HG9.out (fun k hk _ => hk)
                have hA := own_kept HO7.out kA (fun _ _ x => x)
                have nB : NoBytes (w8.alloc (.cells #[.int .u8 kd, .slice A8 bd.length c8] 49)) (fun k => (Value.slice A5 tl.length c5).ownBlock = some k) := fun k hk cs f e => by
                  obtain ⟨cs', hh⟩ := own_lt hA hk
                  rw [hh] at e
                  injection e with e
                  injection e with _ e2
                  exact absurd e2 (by decide)
                have I9 : Iq w9 F6 p l2 0 _ := (I7.out.old kA).kept kB (fun g hg e => by
                  obtain ⟨cs', hh⟩ := own_lt hA e
                  exact (I7.out.old kA).noMs g hg _ _ hh)
                have G9 := (G7.out.kept kA (fun x => x)).kept kB (fun e => by
                  obtain ⟨cs', hh⟩ := own_lt hA e
                  exact (G7.out.kept kA (fun x => x)).apart (t' := 49) hh (by decide) rfl)
                have D9 := (D7.out.old kA).off kB ((D7.out.old kA).empty_off _)
                have B9 := (B7.out.old kA).off kB (O6.out.mono (fun k hk => .inr (own_ge hA hk)))
                have K9 : Kept F w w9 := (K7.out.trans (kA.mono (fun _ x => x.elim))).trans_new kB (fun i hi hx => by have := own_ge hA hx; omega)
                have hkd : (Fr.kind (l ++ br)).toNat = kd := by rw [← HJT.out.2.2, HK.out]
                have M9 : Ms w9 w.heap.size (U F6 hbk) (.slice A10 (tl.length + 1) c10) (told ++ [(Fr.kind (l ++ br), bd)]) := by
                  refine ⟨tl ++ [((Fr.kind (l ++ br), bd), .slice A8 bd.length c8)], by rw [List.map_append, HT7.out]; rfl, ?_, ?_⟩
                  · rw [mcs_append, List.length_append]
                    have := HO9.out
                    rw [← hkd] at this
                    exact this
                  · intro x hx
                    rcases List.mem_append.1 hx with hx | hx
                    · exact ⟨((HBD.out x hx).1.kept kA (NoBytes.nothing _)).kept kB nB, (HBD.out x hx).2⟩
                    · obtain rfl := List.mem_singleton.1 hx
                      refine ⟨((Bs.of_own HV8.out).kept ((Kept.refl Nothing w8).alloc _) (NoBytes.nothing _)).kept kB nB, Off.own HV8.out (fun k hk => ?_), Past.own HV8.out K7.out.size⟩
                      show k < w7.heap.size
                      rcases hk with hk | hk
                      · exact I7.out.lt hk
                      · rw [hk]; exact G7.out.lt
                have hmeas : b2.length < br.length ∧ l.length + br.length = n + b2.length := by
                  have e1 := HWH.out
                  have e2 := HJT.out.2.1
                  rw [← e2] at e1
                  have e3 : b2.length = (l ++ br).length - n := by rw [e1.2.1, List.length_drop]
                  rw [List.length_append] at e3 e1
                  have e4 : l.length < n := by
                    by_cases hc : 19 ≤ l.length
                    · have := ((OK1.out.1 rfl).1.head hc).2
                      have e := Fr.len_app br hc
                      rw [← e2] at e
                      show l.length < n
                      simp only at this
                      omega
                    · omega
                  omega
                have hrun : Fr.run (s.l ++ b) = ((told ++ [(Fr.kind (l ++ br), bd)]) ++ (Fr.run ([] ++ b2)).1, (Fr.run ([] ++ b2)).2) := by
                  rw [HR.out, Fr.run_step (by rw [← HJT.out.1]) HWH.out.2.2, ← HWH.out.1, ← HWH.out.2.1, HBD0.out]
                  simp
                have HI9 := Lib.hid I9
                have HG9' := Lib.hid G9
                have HD9 := Lib.hid D9
                have HB9 := Lib.hid B9
                have HK9 := Lib.hid K9
                have HM9 := Lib.hid M9
                have HME := Lib.hid hmeas
                have HRU := Lib.hid hrun
                obtain ⟨bq9, hF9, hb9, ho9, -, -⟩ := I9
                obtain ⟨⟨-, c1, -, -, -⟩, q1, -, -, -⟩ := cellsI hb9
                obtain ⟨A11, c11, rfl, _, _⟩ := own_form ho9
                clear kA kB hA nB G9 D9 B9 K9 M9 hmeas hrun hkd hF9 hb9 ho9 HK8 HV8 HO7 HT7 HBD HO9 HG9 HA9 I7 B7 D7 G7 K7 Q7 c7 g8 sl QP CL HX hi hz0 hz1 hz2 g9
                go_wp2_with fail
                go_step3
                obtain ⟨F', y1, y2, y3, y4⟩ := HI9.out.clear
                refine ⟨?_, ?_⟩
                · show s.s = 0 ∧ FeedAt w p F D (s.l ++ b) _ _
                  refine ⟨H0.out, .slice Av6 b2.length cv6, .slice A10 (tl.length + 1) c10, hbk, .bool m, .int .i64 n, .int .u8 kd, [], b2, told ++ [(Fr.kind (l ++ br), bd)], F', rfl, rfl, rfl, rfl, rfl, rfl, ?_, ?_, O6.out, ?_, ?_, hge, ?_, ?_, HRU.out, ?_⟩
                  · exact ⟨_, y1, HD9.out.off y2 (HD9.out.empty_off _), HD9.out.empty_off _, On.empty HD9.out _, fun _ => ⟨Fr.Waits.nil, rfl⟩, fun h => absurd rfl h⟩
                  · exact HB9.out.off y2 (O6.out.mono (EE.sub S6.out))
                  · exact HM9.out.step2 y2 (fun k hk => .inl hk) (fun k hk => .inl (by rcases hk with hk | hk; exact .inl (y3 k hk); exact .inr hk)) HI9.out.noMs
                  · exact HG9'.out.kept y2 (HI9.out.noHead HG9'.out)
                  · exact HK9.out.sub S6.out y2
                  · exact fun k hk => S6.out k (y3 k hk)
                  · rw [List.length_append]
                    have := HME.out.2
                    simp only [List.length_cons, List.length_nil]
                    omega
                · first
                  | exact trivial
                  | (show widthOf (.slice Av6 b2.length cv6) + 1 < widthOf (.slice A1 br.length cc1) + 1
                     have := HME.out.1
                     simp only [widthOf]
                     omega)
          · have hd : decide (sj ≠ 0) = true := by simpa using hs0
            rw [hd]
            have HS0 := Lib.hid hs0
            have hh := Fr.head_of (l := l) (b := br) (by rw [HL1.out]; omega)
            rw [HL1.out] at hh
            have jt := Fr.judge_take hh.2
            rw [← hh.1] at jt
            have hw : Fr.run (l ++ br) = ([], ⟨[], sj, dj⟩) := by
              have hj := jt.1
              rw [HJ3.out] at hj
              have := Fr.run_bad (b := l ++ br) (by omega) (by rw [← hj]; exact hs0)
              rw [← hj] at this
              exact this
            have hle := Fr.judge_le (l1.take 19)
            rw [HJ3.out] at hle
            have HLE := Lib.hid hle
            have HW := Lib.hid hw
            clear hd hs0 hh jt hw hle
            go_wp2_with fail
            go_step3
            have k6 := Kept.own w5 p 1 (.slice none 0 0)
            have hF3 : ∀ k, iown p (.slice none 0 0) k → k = p := by
              rintro k (rfl | hk)
              · rfl
              · simp [Value.ownBlock] at hk
            refine ⟨?_, ?_⟩
            · show FeedEnd w p F D (Fr.feed s b) _ _
              refine ⟨_, rfl, rfl, rfl, iown p (.slice none 0 0), ?_, ?_, K5.out.sub S2.out (k6.mono NS.out), fun k hk => S2.out k (by rw [hF3 k hk]; exact E4.out)⟩
              · rw [HFE.out, HR.out, HW.out]
                simpa using M5.out.step2 k6 (fun k hk => .inl (NS.out k hk)) (fun k hk => .inl (.inl (by rw [hF3 k hk]; exact E4.out))) (NoMs.blk HB5.out (by decide))
              · rw [HFE.out, HR.out, HW.out]
                exact ⟨_, ⟨.slice none 0 0, rfl, HB5.out.put 1 _, World.ownsRow_nil _ _ _ _, Nat.zero_le _, fun _ => rfl⟩, D5.out.off k6 OD6.out, OD6.out.mono (fun k hk => hF3 k hk), fun a n' c' e _ => Or.inr (Nat.le_trans Z3.out (W4'.out a n' c' e)), fun h => absurd h HS0.out, fun _ => ⟨rfl, HLE.out.1, HLE.out.2⟩⟩
            · first | exact trivial | exact Nat.succ_pos _
    | 0, hJ =>
      obtain ⟨tv, hdf, hsz, s5, hFed⟩ := hJ
      refine ⟨_, rfl, ?_⟩
      obtain ⟨⟨tl⟩, df⟩ := a
      obtain rfl : df = [] := hdf
      obtain ⟨x0, x1, x2, x3, x4, x5, x6, x7, x8, x9, x10, x11, x12, x13, x14, x15, x16, x17, x18, x19, x20, x21, x22, x23, x24, x25, x26, x27, x28, x29, x30, x31, x32, x33, x34, x35, x36, x37, x38, x39, x40, x41, x42, x43, x44, x45, x46, x47, x48, x49, x50, x51, x52, x53, x54, x55, x56, x57, x58, x59, x60, x61, x62, x63, x64, x65, x66, x67, x68, x69, rfl⟩ := list70 tl (by simpa using hsz)
      obtain rfl : x5 = tv := s5
      clear hsz
      have HF := Lib.hid hFed
      clear hFed hJ
      go_wp2
      simp only [jumps]
      go_ret
      exact ⟨_, rfl, HF.out⟩
end Go.Proofs.Ytohkhcobljenjaa
