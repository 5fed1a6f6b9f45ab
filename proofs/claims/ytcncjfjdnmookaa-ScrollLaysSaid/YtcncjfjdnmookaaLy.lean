/-
  The law ScrollLays: it returns true, whatever it is given, and leaves what was there as it was.
-/
import Derived.Test.YtcncjfjdnmookaaLaw
import Derived.Test.YtcncjfjdnmookaaLp
import Derived.Deep.DeepCutAuto
import Derived.Deep.CutBlock
import Derived.Laws.OwnMore
import Derived.Deep.QuietTactic
import Derived.BigQuiet
namespace Go.Proofs.Ytcncjfjdnmookaa
open Go.RowKit

/-- What holds at each round's head. -/
def LyRel (W : World) (p q : Nat) (len : Nat) (i : Value) (wr : World) : Prop :=
  ∃ (k : Nat) (s : WS), i = .int .i64 (k : Int) ∧ k ≤ len ∧ k ≤ 60 ∧ Twin W wr p q s s ∧ s.l.length ≤ 300 * k ∧ s.hs.length ≤ k

theorem Twin.start {W w1 : World} {p : Nat} {F0 : Nat → Prop} (h : Wr w1 F0 p ⟨[], [], 0⟩) (k : Kept Nothing W w1) (hs : Sub W F0 Nothing) : Twin W (w1.alloc (.cells #[.slice none 0 0, .slice none 0 0, .int .i64 0] 45)) p w1.heap.size ⟨[], [], 0⟩ ⟨[], [], 0⟩ := by
  have kb := (Kept.refl Nothing w1).alloc (.cells #[.slice none 0 0, .slice none 0 0, .int .i64 0] 45)
  refine ⟨F0, wown w1.heap.size (.slice none 0 0) (.slice none 0 0), h.kept kb (fun _ _ x => x), ⟨_, _, rfl, Blk.fresh w1 _ _, World.ownsRow_nil _ _ _ _, World.ownsRow_nil _ _ _ _, Nat.zero_le _, Nat.zero_le _⟩, fun g hg hx => ?_, hs, fun g hg => ?_, k.trans kb⟩
  · rcases hx with rfl | hx | hx
    · have := h.lt hg; omega
    · simp [Value.ownBlock] at hx
    · simp [Value.ownBlock] at hx
  · rcases hg with rfl | hx | hx
    · exact .inr k.size
    · simp [Value.ownBlock] at hx
    · simp [Value.ownBlock] at hx

theorem alloc_size (w : World) (o : Obj) : (w.alloc o).heap.size = w.heap.size + 1 := World.size_alloc ..
theorem wrap_u16 (n : Int) : IntKind.u16.wrap n = n % 65536 := by simp [IntKind.wrap, IntKind.bits, IntKind.signed]
theorem wrap_in (n : Int) (h : -9223372036854775808 ≤ n ∧ n ≤ 9223372036854775807) : wrap64 n = n := by unfold wrap64; omega
theorem wrap_u64 (n : Int) : IntKind.u64.wrap n = n % 18446744073709551616 := by simp [IntKind.wrap, IntKind.bits, IntKind.signed]
theorem zeros_le (n : Int) : zeros n ≤ 300 := by unfold zeros; omega
theorem make_zeros (n : Int) : ∀ w : World, (Instr.makeSlice 22 (.int .i64 (wrap64 ((IntKind.u64.wrap n).tmod 301))) (.int .i64 (wrap64 ((IntKind.u64.wrap n).tmod 301)))).run Try.prog w = .ok (.slice (some ⟨w.heap.size, 0, none⟩) (zeros n) (zeros n)) (w.alloc (.cells (madeCells #[.int .u8 0] (zeros n)) 5)) := by
  intro w
  have h : wrap64 ((IntKind.u64.wrap n).tmod 301) = (zeros n : Int) := by
    rw [wrap_u64, Int.tmod_eq_emod_of_nonneg (by omega), wrap_in _ (by omega)]
    unfold zeros
    omega
  have hz := zeros_le n
  rw [h]
  generalize zeros n = z at *
  obtain ⟨i, hi, h1, h2, h3⟩ : ∃ i, Try.prog.info? 5 = some i ∧ i.zero = some (.int .u8 0) ∧ i.size = 1 ∧ i.bytes = 1 := ⟨_, rfl, by kernel_rfl, by kernel_rfl, by kernel_rfl⟩
  have := run_make (P := Try.prog) w 22 5 i (.int .u8 0) Try.underlying22 hi h1 .i64 .i64 (z : Int) (z : Int) (by omega) (by omega) (by rw [h3]; omega) (by omega)
  rw [h2, Nat.mul_one, Int.toNat_natCast] at this
  exact this
theorem bs_zeros (w : World) (z : Nat) (hz : z ≤ 300) : Bs (w.alloc (.cells (madeCells #[.int .u8 0] z) 5)) (.slice (some ⟨w.heap.size, 0, none⟩) z z) (List.replicate z 0) := by
  have := Bs.made (l := List.replicate z (0 : UInt8)) (Blk.fresh w 5 (madeCells #[.int .u8 0] z)) (by rw [toList_madeCells_one]; simp [bys]; exact .inr rfl) (by rw [List.length_replicate]; unfold maxLen; omega)
  rw [List.length_replicate] at this
  exact this
/-- Both writers, and the act of the round. -/
def TwA (W w : World) (p q : Nat) (s t : WS) (a : Nat) (x n : Int) : Prop := Twin W w p q s t ∧ Blk w a 32 #[.int .i64 x, .int .i64 n]
theorem TwA.old {W w w' : World} {p q : Nat} {s t : WS} {a : Nat} {x n : Int} (h : TwA W w p q s t a x n) (k : Kept Nothing w w') : TwA W w' p q s t a x n := ⟨h.1.old k, h.2.kept k (fun x => x)⟩
theorem TwA.call {W w : World} {p q : Nat} {s s' t : WS} {f : FuncId} {args : Array Value} {a : Nat} {x n : Int} (h : TwA W w p q s t a x n)
    (hc : ∀ F, Wr w F p s → Calls Try.prog f args w fun r w' => ∃ F', r = .returned (.pointer (some ⟨p, 0, none⟩)) ∧ Wr w' F' p s' ∧ Kept F w w' ∧ Sub w F' F) :
    Calls Try.prog f args w fun r w' => r = .returned (.pointer (some ⟨p, 0, none⟩)) ∧ TwA W w' p q s' t a x n := by
  obtain ⟨⟨F, G, h1, h2, h3, h4, h5, h6⟩, hb⟩ := h
  exact (hc F h1).mono fun e w' ⟨F', he, hw, hk, hs⟩ => ⟨he, Twin.left h2 h3 h4 h5 h6 hw hk hs, hb.kept hk (fun hx => h1.noU (ty := 32) (by decide) a hx _ _ hb)⟩
theorem TwA.ref {W w : World} {p q : Nat} {s t t' : WS} {f : FuncId} {args : Array Value} {a : Nat} {x n : Int} (h : TwA W w p q s t a x n)
    (hc : ∀ G, Vr w G q t → Calls Try.prog f args w fun r w' => ∃ G', r = .returned (.tuple #[]) ∧ Vr w' G' q t' ∧ Kept G w w' ∧ Sub w G' G) :
    Calls Try.prog f args w fun r w' => r = .returned (.tuple #[]) ∧ Twin W w' p q s t' := Twin.ref h.1 hc
theorem TwA.at1 {W w : World} {p q : Nat} {s t : WS} {a : Nat} {x n : Int} (h : TwA W w p q s t a x n) : w.cell? ⟨a, 1, none⟩ = some (.int .i64 n) := by rw [h.2.cell]; rfl
theorem TwA.at0 {W w : World} {p q : Nat} {s t : WS} {a : Nat} {x n : Int} (h : TwA W w p q s t a x n) : w.cell? ⟨a, 0, none⟩ = some (.int .i64 x) := by rw [h.2.cell]; rfl
theorem WS.step_0 (s : WS) (n : Int) : s.step 0 n = s.lay [UInt8.ofNat (n % 256).toNat] := by unfold WS.step; simp
theorem WS.step_1 (s : WS) (n : Int) : s.step 1 n = s.lay (two (n % 65536).toNat) := by unfold WS.step; simp
theorem WS.step_2 (s : WS) (n : Int) : s.step 2 n = s.lay (fours [(n % 4294967296).toNat]) := by unfold WS.step; simp
theorem WS.step_3 (s : WS) (n : Int) : s.step 3 n = s.lay (List.replicate (zeros n) 0) := by unfold WS.step; simp
theorem WS.step_4 (s : WS) (n : Int) : s.step 4 n = s.lay (List.replicate (zeros n) 0) := by unfold WS.step; simp
theorem WS.step_5 (s : WS) (n : Int) : s.step 5 n = s.hold n := by unfold WS.step; simp
theorem WS.step_6 (s : WS) (n : Int) : s.step 6 n = s.fill := by unfold WS.step; simp
theorem WS.step_7 (s : WS) (n : Int) : s.step 7 n = s.fill := by unfold WS.step; simp
theorem WS.step_8 (s : WS) (n : Int) : s.step 8 n = s.hold 1 := by unfold WS.step; simp
theorem WS.step_9 (s : WS) (n : Int) : s.step 9 n = s.hold 2 := by unfold WS.step; simp

theorem qw_len {w : World} {p : Nat} {F : Nat → Prop} {s : WS} (h : Wr w F p s) (m : Nat) : Calls Try.prog 29 #[.pointer (some ⟨p, 0, none⟩)] (w.drewN m) fun e w'' => e = .returned (.int .i64 (s.l.length : Int)) ∧ ∃ m, w'' = w.drewN m :=
  (wr_len p F s _ (h.drewN m)).mono fun _ _ ⟨h1, h2⟩ => ⟨h1, m, h2.symm⟩
theorem qw_err {w : World} {p : Nat} {F : Nat → Prop} {s : WS} (h : Wr w F p s) (m : Nat) : Calls Try.prog 30 #[.pointer (some ⟨p, 0, none⟩)] (w.drewN m) fun e w'' => e = .returned (.int .i64 s.e) ∧ ∃ m, w'' = w.drewN m :=
  (wr_err p F s _ (h.drewN m)).mono fun _ _ ⟨h1, h2⟩ => ⟨h1, m, h2.symm⟩
theorem qw_equal {w : World} {a b : Value} {l : List UInt8} (ha : Bs w a l) (hb : Bs w b l) (m : Nat) : Calls Try.prog 16 #[a, b] (w.drewN m) fun e w'' => e = .returned (.bool true) ∧ ∃ m, w'' = w.drewN m := by
  have k := (Kept.refl Nothing w).drewN m
  have := by_equal a b l l _ (ha.kept k (NoBytes.nothing _)).by (hb.kept k (NoBytes.nothing _)).by
  rw [beq_self_eq_true] at this
  exact this.mono fun _ _ ⟨h1, h2⟩ => ⟨h1, m, h2.symm⟩

set_option maxRecDepth 100000 in
set_option maxHeartbeats 16000000 in
theorem lays_law (v0 : Value) (acts : List (Int × Int)) (W : World) (h1 : Prs W v0 acts) :
    Calls Try.prog 4 #[v0] W fun e w' => e = .returned (.bool true) ∧ Kept Nothing W w' := by
  obtain ⟨A1, c1, rfl, hm1, hr1, hp1⟩ := h1
  have HP := Lib.hid hp1
  clear hp1 hr1
  unfold maxLen at hm1
  go_enter Try.func4, Try.ntmps4
  go_wp2_with fail
  refine (wr_lay _).mono ?_
  rintro e w1 ⟨p, F0, rfl, hw, hk, hs⟩
  have W1 := Lib.hid hw
  have K1 := Lib.hid hk
  have S1 := Lib.hid hs
  clear hk hw hs
  go_wp2_with fail
  have T1 := Twin.start W1.out K1.out S1.out
  have HT := Lib.hid T1
  clear T1 W1 K1 S1
  generalize w1.heap.size = q at *
  go_loopw [17] (fun i wr => LyRel W p q acts.length i wr) (fun i _ => acts.length - (intOf i).toNat)
  case atStart => exact ⟨0, ⟨[], [], 0⟩, rfl, Nat.zero_le _, by omega, HT.out, Nat.zero_le _, Nat.le_refl _⟩
  case round =>
    clear HT
    obtain ⟨k, s, rfl, hk1, hk2, ht, hl, hd⟩ := hrel
    have T := Lib.hid ht
    have HL := Lib.hid hl
    have HD := Lib.hid hd
    clear ht hl hd
    by_cases hlt : k < acts.length
    · obtain ⟨ba, oa, rfl, hcell⟩ := HP.out (by omega)
      obtain ⟨g0, g1⟩ := hcell k hlt
      obtain ⟨_, _, _, _, _, _, _, K3⟩ := T.out
      have G0 := (K3.cell_some g0 (fun x => x))
      have G1 := (K3.cell_some g1 (fun x => x))
      clear g0 g1 hcell K3
      generalize (acts.getD k (0, 0)).1 = x at *
      generalize (acts.getD k (0, 0)).2 = n at *
      have ka := (Kept.refl Nothing wr).alloc (.cells #[.int .i64 x, .int .i64 n] 32)
      by_cases h60 : k = 60
      · subst h60
        as_aux_lemma =>
          obtain ⟨_, _, _, _, _, _, _, K3⟩ := T.out
          have K4 := Lib.hid (K3.trans ka)
          clear ka
          go_wp2_with fail
          refine (wakes_any _).mono ?_
          rintro e w5 ⟨rfl, hkk⟩
          go_wp2
          go_ret
          exact ⟨rfl, K4.out.trans hkk⟩
      · have hk60 : ((k : Int) == 60) = false := by simp; omega
        have TA : Hid (TwA W _ p q s s wr.heap.size x n) := Lib.hid ⟨T.out.old ka, Blk.fresh wr _ _⟩
        clear ka
        go_upto_block 2 with fail
        go_cut [] (fun wx => Twin W wx p q (s.step x n) (s.step x n))
        case first =>
          by_cases hx0 : x = 0
          · subst hx0
            as_aux_lemma =>
              have kb := (Kept.refl Nothing (wr.alloc (.cells #[.int .i64 0, .int .i64 n] 32))).alloc (.cells #[.int .u8 (n % 256)] 5)
              have hB : Bs ((wr.alloc (.cells #[.int .i64 0, .int .i64 n] 32)).alloc (.cells #[.int .u8 (n % 256)] 5)) (.slice (some ⟨wr.heap.size + 1, 0, none⟩) 1 1) [UInt8.ofNat (n % 256).toNat] := by
                rw [← alloc_size wr (.cells #[.int .i64 0, .int .i64 n] 32)]
                refine Bs.made (l := [UInt8.ofNat (n % 256).toNat]) (Blk.fresh (wr.alloc _) 5 #[.int .u8 (n % 256)]) ?_ (by simp [maxLen])
                show [_] = [_]
                rw [by8_of (m := (n % 256).toNat) (by omega)]
              have TB := Lib.hid (TA.out.old kb)
              have HB := Lib.hid hB
              clear hB kb
              go_wp2_with fail
              refine (TB.out.call (fun F h => wr_byte p F s _ _ _ h HB.out.by (by have := HL.out; simp only [List.length_cons, List.length_nil]; omega))).mono ?_
              rintro e w2 ⟨rfl, ht2⟩
              have T2 := Lib.hid ht2
              have c1 := ht2.at1
              clear ht2
              go_wp2_with fail
              refine (T2.out.ref (fun G h => vr_lay q G s (n % 256).toNat 1 _ _ (by omega) rfl _ h (by decide) (by omega) (by have := HL.out; omega))).mono ?_
              rintro e w3 ⟨rfl, ht3⟩
              have T3 := Lib.hid ht3
              clear ht3
              go_wp2_with fail
              go_meet
              have T4 := T3.out
              rw [be_one] at T4
              
              rw [WS.step_0]
              exact T4
          by_cases hx1 : x = 1
          · subst hx1
            as_aux_lemma =>
              have kb := (Kept.refl Nothing (wr.alloc (.cells #[.int .i64 1, .int .i64 n] 32))).alloc (.cells #[.int .u16 (IntKind.u16.wrap n)] 49)
              have hB : Us ((wr.alloc (.cells #[.int .i64 1, .int .i64 n] 32)).alloc (.cells #[.int .u16 (IntKind.u16.wrap n)] 49)) 49 .u16 (.slice (some ⟨wr.heap.size + 1, 0, none⟩) 1 1) [(n % 65536).toNat] := by
                rw [← alloc_size wr (.cells #[.int .i64 1, .int .i64 n] 32)]
                refine Us.made (l := [(n % 65536).toNat]) (Blk.fresh (wr.alloc _) 49 #[.int .u16 (IntKind.u16.wrap n)]) ?_ (by simp [maxLen])
                show [_] = [_]
                exact congrArg (fun y => [Value.int .u16 y]) (by rw [wrap_u16]; omega)
              have TB := Lib.hid (TA.out.old kb)
              have HB := Lib.hid hB
              clear hB kb
              go_wp2_with fail
              refine (TB.out.call (fun F h => wr_two p F s _ [(n % 65536).toNat] _ h HB.out (by intro y hy; rw [List.mem_singleton] at hy; omega) (by have := HL.out; simp only [List.length_cons, List.length_nil]; omega))).mono ?_
              rintro e w2 ⟨rfl, ht2⟩
              have T2 := Lib.hid ht2
              have c1 := ht2.at1
              clear ht2
              go_wp2_with fail
              refine (T2.out.ref (fun G h => vr_lay q G s (n % 65536).toNat 2 _ _ (by first | omega | (rw [wrap_in _ (by omega)]; omega) | (rw [wrap_u16, wrap_in _ (by omega)]; omega)) rfl _ h (by decide) (by omega) (by have := HL.out; omega))).mono ?_
              rintro e w3 ⟨rfl, ht3⟩
              have T3 := Lib.hid ht3
              clear ht3
              go_wp2_with fail
              go_meet
              have T4 := T3.out
              rw [be_two] at T4
              rw [show twos [(n % 65536).toNat] = two (n % 65536).toNat from by simp [twos]] at T4
              rw [WS.step_1]
              exact T4
          by_cases hx2 : x = 2
          · subst hx2
            as_aux_lemma =>
              have kb := (Kept.refl Nothing (wr.alloc (.cells #[.int .i64 2, .int .i64 n] 32))).alloc (.cells #[.int .u32 (n % 4294967296)] 51)
              have hB : Us ((wr.alloc (.cells #[.int .i64 2, .int .i64 n] 32)).alloc (.cells #[.int .u32 (n % 4294967296)] 51)) 51 .u32 (.slice (some ⟨wr.heap.size + 1, 0, none⟩) 1 1) [(n % 4294967296).toNat] := by
                rw [← alloc_size wr (.cells #[.int .i64 2, .int .i64 n] 32)]
                refine Us.made (l := [(n % 4294967296).toNat]) (Blk.fresh (wr.alloc _) 51 #[.int .u32 (n % 4294967296)]) ?_ (by simp [maxLen])
                show [_] = [_]
                exact congrArg (fun y => [Value.int .u32 y]) (by omega)
              have TB := Lib.hid (TA.out.old kb)
              have HB := Lib.hid hB
              clear hB kb
              go_wp2_with fail
              refine (TB.out.call (fun F h => wr_four p F s _ [(n % 4294967296).toNat] _ h HB.out (by intro y hy; rw [List.mem_singleton] at hy; omega) (by have := HL.out; simp only [List.length_cons, List.length_nil]; omega))).mono ?_
              rintro e w2 ⟨rfl, ht2⟩
              have T2 := Lib.hid ht2
              have c1 := ht2.at1
              clear ht2
              go_wp2_with fail
              refine (T2.out.ref (fun G h => vr_lay q G s (n % 4294967296).toNat 4 _ _ (by omega) rfl _ h (by decide) (by omega) (by have := HL.out; omega))).mono ?_
              rintro e w3 ⟨rfl, ht3⟩
              have T3 := Lib.hid ht3
              clear ht3
              go_wp2_with fail
              go_meet
              have T4 := T3.out
              rw [be_four] at T4
              
              rw [WS.step_2]
              exact T4
          by_cases hx3 : x = 3
          · subst hx3
            have hmk := make_zeros n
            have hzn := zeros_le n
            have HST : Hid (s.step 3 n = s.lay (List.replicate (zeros n) 0)) := Lib.hid (WS.step_3 s n)
            generalize zeros n = z at *
            have kb := (Kept.refl Nothing (wr.alloc (.cells #[.int .i64 3, .int .i64 n] 32))).alloc (.cells (madeCells #[.int .u8 0] z) 5)
            have hB : Bs ((wr.alloc (.cells #[.int .i64 3, .int .i64 n] 32)).alloc (.cells (madeCells #[.int .u8 0] z) 5)) (.slice (some ⟨wr.heap.size + 1, 0, none⟩) z z) (List.replicate z 0) := by
              have := bs_zeros (wr.alloc (.cells #[.int .i64 3, .int .i64 n] 32)) z hzn
              rw [alloc_size] at this
              exact this
            have TB := Lib.hid (TA.out.old kb)
            have HB := Lib.hid hB
            clear hB kb
            as_aux_lemma =>
              go_wp2_with fail
              refine (TB.out.call (fun F h => wr_byte p F s _ _ _ h HB.out.by (by have := HL.out; rw [List.length_replicate]; omega))).mono ?_
              rintro e w2 ⟨rfl, ht2⟩
              have T2 := Lib.hid ht2.1
              clear ht2 hmk
              go_wp2_with fail
              go_loopw [82] (fun i wy => ∃ j : Nat, i = .int .i64 (j : Int) ∧ j ≤ z ∧ Twin W wy p q (s.lay (List.replicate z 0)) (s.lay (List.replicate j 0))) (fun i _ => z - (intOf i).toNat)
              case atStart => exact ⟨0, rfl, Nat.zero_le _, by rw [List.replicate_zero, WS.lay_nil]; exact T2.out⟩
              case round =>
                obtain ⟨j, rfl, hj, ht⟩ := hrel
                have T3 := Lib.hid ht
                clear ht
                by_cases hjz : j < z
                · have hll := WS.lay_len s (List.replicate j 0)
                  rw [List.length_replicate] at hll
                  go_wp2_with fail
                  refine (T3.out.ref (fun G h => vr_lay q G (s.lay (List.replicate j 0)) 0 1 _ _ rfl rfl _ h (by decide) (by decide) (by have := HL.out; omega))).mono ?_
                  rintro e w3 ⟨rfl, ht3⟩
                  have T4 := Lib.hid ht3
                  clear ht3 hll
                  go_wp2
                  go_roundw
                  case rel =>
                    refine ⟨j + 1, by go_num, by omega, ?_⟩
                    have T5 := T4.out
                    rw [WS.lay_lay, be_one, show (UInt8.ofNat 0) = (0 : UInt8) from rfl, ← List.replicate_succ'] at T5
                    exact T5
                  case measure => simp [intOf]; omega
                · have hj2 : j = z := by omega
                  subst hj2
                  go_wp2_with fail
                  go_meet
                  rw [HST.out]
                  exact T3.out
          by_cases hx4 : x = 4
          · subst hx4
            have hmk := make_zeros n
            have hzn := zeros_le n
            have HST : Hid (s.step 4 n = s.lay (List.replicate (zeros n) 0)) := Lib.hid (WS.step_4 s n)
            generalize zeros n = z at *
            have kb := (Kept.refl Nothing (wr.alloc (.cells #[.int .i64 4, .int .i64 n] 32))).alloc (.cells (madeCells #[.int .u8 0] z) 5)
            have hB : Bs ((wr.alloc (.cells #[.int .i64 4, .int .i64 n] 32)).alloc (.cells (madeCells #[.int .u8 0] z) 5)) (.slice (some ⟨wr.heap.size + 1, 0, none⟩) z z) (List.replicate z 0) := by
              have := bs_zeros (wr.alloc (.cells #[.int .i64 4, .int .i64 n] 32)) z hzn
              rw [alloc_size] at this
              exact this
            have TB := Lib.hid (TA.out.old kb)
            have HB := Lib.hid hB
            clear hB kb
            as_aux_lemma =>
              go_wp2_with fail
              refine (TB.out.call (fun F h => wr_byte p F s _ _ _ h HB.out.by (by have := HL.out; rw [List.length_replicate]; omega))).mono ?_
              rintro e w2 ⟨rfl, ht2⟩
              have T2 := Lib.hid ht2.1
              clear ht2 hmk
              go_wp2_with fail
              go_loopw [82] (fun i wy => ∃ j : Nat, i = .int .i64 (j : Int) ∧ j ≤ z ∧ Twin W wy p q (s.lay (List.replicate z 0)) (s.lay (List.replicate j 0))) (fun i _ => z - (intOf i).toNat)
              case atStart => exact ⟨0, rfl, Nat.zero_le _, by rw [List.replicate_zero, WS.lay_nil]; exact T2.out⟩
              case round =>
                obtain ⟨j, rfl, hj, ht⟩ := hrel
                have T3 := Lib.hid ht
                clear ht
                by_cases hjz : j < z
                · have hll := WS.lay_len s (List.replicate j 0)
                  rw [List.length_replicate] at hll
                  go_wp2_with fail
                  refine (T3.out.ref (fun G h => vr_lay q G (s.lay (List.replicate j 0)) 0 1 _ _ rfl rfl _ h (by decide) (by decide) (by have := HL.out; omega))).mono ?_
                  rintro e w3 ⟨rfl, ht3⟩
                  have T4 := Lib.hid ht3
                  clear ht3 hll
                  go_wp2
                  go_roundw
                  case rel =>
                    refine ⟨j + 1, by go_num, by omega, ?_⟩
                    have T5 := T4.out
                    rw [WS.lay_lay, be_one, show (UInt8.ofNat 0) = (0 : UInt8) from rfl, ← List.replicate_succ'] at T5
                    exact T5
                  case measure => simp [intOf]; omega
                · have hj2 : j = z := by omega
                  subst hj2
                  go_wp2_with fail
                  go_meet
                  rw [HST.out]
                  exact T3.out
          by_cases hx5 : x = 5
          · subst hx5
            as_aux_lemma =>
              go_wp2_with fail
              refine (TA.out.call (fun F h => wr_hold p F s n _ h (by have := HL.out; omega) (by have := HD.out; omega))).mono ?_
              rintro e w2 ⟨rfl, ht2⟩
              have T2 := Lib.hid ht2
              have c0 := ht2.at0
              have c1 := ht2.at1
              clear ht2
              go_wp2_with fail
              refine (T2.out.ref (fun G h => vr_hold q G s n _ h (by have := HL.out; omega) (by have := HD.out; omega))).mono ?_
              rintro e w3 ⟨rfl, ht3⟩
              have T3 := Lib.hid ht3
              clear ht3
              go_wp2_with fail
              go_meet
              rw [WS.step_5]
              exact T3.out
          by_cases hx6 : x = 6
          · subst hx6
            as_aux_lemma =>
              go_wp2_with fail
              refine (TA.out.call (fun F h => wr_fill p F s _ h)).mono ?_
              rintro e w2 ⟨rfl, ht2⟩
              have T2 := Lib.hid ht2
              clear ht2
              go_wp2_with fail
              refine (T2.out.ref (fun G h => vr_fill q G s _ h TA.out.1.ok)).mono ?_
              rintro e w3 ⟨rfl, ht3⟩
              have T3 := Lib.hid ht3
              clear ht3
              go_wp2_with fail
              go_meet
              rw [WS.step_6]
              exact T3.out
          by_cases hx7 : x = 7
          · subst hx7
            as_aux_lemma =>
              go_wp2_with fail
              refine (TA.out.call (fun F h => wr_fill p F s _ h)).mono ?_
              rintro e w2 ⟨rfl, ht2⟩
              have T2 := Lib.hid ht2
              clear ht2
              go_wp2_with fail
              refine (T2.out.ref (fun G h => vr_fill q G s _ h TA.out.1.ok)).mono ?_
              rintro e w3 ⟨rfl, ht3⟩
              have T3 := Lib.hid ht3
              clear ht3
              go_wp2_with fail
              go_meet
              rw [WS.step_7]
              exact T3.out
          by_cases hx8 : x = 8
          · subst hx8
            as_aux_lemma =>
              go_wp2_with fail
              refine (TA.out.call (fun F h => wr_hold p F s 1 _ h (by have := HL.out; omega) (by have := HD.out; omega))).mono ?_
              rintro e w2 ⟨rfl, ht2⟩
              have T2 := Lib.hid ht2
              have c0 := ht2.at0
              have c1 := ht2.at1
              clear ht2
              go_wp2_with fail
              refine (T2.out.ref (fun G h => vr_hold q G s 1 _ h (by have := HL.out; omega) (by have := HD.out; omega))).mono ?_
              rintro e w3 ⟨rfl, ht3⟩
              have T3 := Lib.hid ht3
              clear ht3
              go_wp2_with fail
              go_meet
              rw [WS.step_8]
              exact T3.out
          by_cases hx9 : x = 9
          · subst hx9
            as_aux_lemma =>
              go_wp2_with fail
              refine (TA.out.call (fun F h => wr_hold p F s 2 _ h (by have := HL.out; omega) (by have := HD.out; omega))).mono ?_
              rintro e w2 ⟨rfl, ht2⟩
              have T2 := Lib.hid ht2
              have c0 := ht2.at0
              have c1 := ht2.at1
              clear ht2
              go_wp2_with fail
              refine (T2.out.ref (fun G h => vr_hold q G s 2 _ h (by have := HL.out; omega) (by have := HD.out; omega))).mono ?_
              rintro e w3 ⟨rfl, ht3⟩
              have T3 := Lib.hid ht3
              clear ht3
              go_wp2_with fail
              go_meet
              rw [WS.step_9]
              exact T3.out
          as_aux_lemma =>
            go_wp2_with fail
            go_meet
            rw [show s.step x n = s from by unfold WS.step; rw [if_neg hx0, if_neg hx1, if_neg hx2, if_neg (by omega), if_neg hx5, if_neg (by omega), if_neg (by omega)]]
            exact TA.out.1
        case rest =>
          have T5 := Lib.hid hcut
          clear hcut
          have HS := Lib.hid (WS.step_len s x n)
          generalize s.step x n = t at *
          go_wp2_with fail
          obtain ⟨F, G, hw, hv, -, -, -, -⟩ := T5.out
          have V5 := Lib.hid hv
          clear hv
          refine (wr_done p F t _ hw).mono ?_
          rintro e w6 ⟨bv, rfl, hb, hk⟩
          have B6 := Lib.hid hb
          have K6 := Lib.hid hk
          have V6 := Lib.hid (V5.out.kept hk (fun _ _ x => x))
          clear hb hk hw
          go_wp2_with fail
          refine (vr_done q G t _ V6.out).mono ?_
          rintro e w7 ⟨cv, m, rfl, hc, hw7⟩
          have k7 : Kept Nothing w6 w7 := by rw [hw7]; exact (Kept.refl Nothing w6).drewN m
          have C7 := Lib.hid (hc.kept k7 (NoBytes.nothing _))
          have B7 := Lib.hid (B6.out.kept k7 (NoBytes.nothing _))
          have T7 := Lib.hid (T5.out.old (K6.out.trans k7))
          clear hc hw7 k7 V6 V5 B6 K6 T5
          clear F G
          obtain ⟨F, G, hw, hv, -, -, -, -⟩ := T7.out
          have W7 := Lib.hid hw
          obtain ⟨bv', hv', _, hb, ho, _, _⟩ := hv
          obtain ⟨A', c', rfl, _, _⟩ := own_form ho
          obtain ⟨⟨q0, q1, q2⟩, -⟩ := v_cells hb
          clear hw hb ho
          go_upto_region 37 with fail
          as_aux_lemma =>
            go_quiet ((first | (go_at_call 29; exact qw_len W7.out _) | (go_at_call 30; exact qw_err W7.out _) | (go_at_call 16; exact qw_equal B7.out C7.out _)))
            go_wp2
            go_roundw
            case rel => exact ⟨k + 1, t, by go_num, by omega, by omega, T7.out.old ((Kept.refl Nothing w7).drewN _), by have := HS.out.1; have := HL.out; omega, by have := HS.out.2; have := HD.out; omega⟩
            case measure => simp [intOf]; omega
    · as_aux_lemma =>
        obtain ⟨_, _, _, _, _, _, _, K3⟩ := T.out
        have K4 := Lib.hid K3
        go_wp2_with fail
        refine (wakes_any _).mono ?_
        rintro e w5 ⟨rfl, hkk⟩
        go_wp2
        go_ret
        exact ⟨rfl, K4.out.trans hkk⟩
end Go.Proofs.Ytcncjfjdnmookaa
