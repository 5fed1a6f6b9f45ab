
/-
  The law FrameEnds: it returns true, whatever it is given, and leaves what was there as it was.
-/
import Derived.Test.YtlhdgfmljblahaaLaw
import Derived.Test.YtlhdgfmljblahaaFx
import Derived.Test.YtlhdgfmljblahaaHq
import Derived.Test.YtlhdgfmljblahaaUp
import Derived.Deep.DeepCutAuto
import Derived.Deep.CutBlock
import Derived.Outline
import Derived.Laws.BitsAllLaws
import Derived.Laws.BitsLemmas
import Derived.Deep.QuietTactic
import Derived.BigQuiet
namespace Go.Proofs.Ytlhdgfmljblahaa
open Go.RowKit

set_option maxRecDepth 100000 in
theorem open_head {H : Type} {enc : TypeId × Value → H} {W : World} {base : Nat} {v : Value} {d : DataW H} {p : List MemPlace} (hv : Value.okWide Try.prog W .any base 56 v)
    (h : DataW.Trod enc Try.prog W 0 (fun _ => true) true 56 v d p) : ∃ l : List UInt8, l.length = 19 ∧ v = .agg (bys l).toArray := by
  simp only [Value.okWide, Try.underlying56] at hv
  obtain ⟨cs, rfl, hsz, -⟩ := hv
  have hc : Try.prog.cellsOf 56 = 19 := by kernel_rfl
  have hc1 : Try.prog.cellsOf 5 = 1 := by kernel_rfl
  obtain ⟨fuel, hf⟩ := h
  obtain ⟨xs, m, _, _, hl, hx, hi⟩ := DataW.trod_array Try.underlying56 hf
  rw [hc] at hl
  have hl' : cs.size = 19 := by simpa [Value.cells] using hl
  have num : ∀ i, i < 19 → ∃ z : Int, cs[i]? = some (.int .u8 z) ∧ 0 ≤ z ∧ z ≤ 255 := fun i h19 => by
    have ht := hi i h19
    rw [hc1, Nat.mul_one] at ht
    have hxi : xs[i]? = some (xs[i]'(by omega)) := List.getElem?_eq_getElem (by omega)
    have hlt : i < cs.toList.length := by simpa using (by omega : i < cs.size)
    have hone : ((Value.agg cs).cells.toList.drop i).take 1 = [cs.toList[i]] := by
      show (cs.toList.drop i).take 1 = _
      rw [List.drop_eq_getElem_cons hlt]; rfl
    rw [hone, hxi] at ht
    obtain ⟨z, e0, _, w0⟩ := DataW.trod_int Try.underlying5 ht
    injection e0 with e0
    refine ⟨z, ?_, by simpa [Lit.wf, IntKind.min, IntKind.max, IntKind.signed, IntKind.bits] using w0⟩
    rw [← e0, ← Array.getElem?_toList, List.getElem?_eq_getElem hlt]
  obtain ⟨z, hz⟩ := Go.Deep.choose_lt num
  refine ⟨(List.range 19).map (fun i => UInt8.ofNat (z i).toNat), by rw [List.length_map, List.length_range], ?_⟩
  have he : cs.toList = bys ((List.range 19).map (fun i => UInt8.ofNat (z i).toNat)) := by
    apply List.ext_getElem?
    intro i
    unfold bys
    rw [List.map_map, List.getElem?_map]
    by_cases h19 : i < 19
    · obtain ⟨e, h0, h255⟩ := hz i h19
      rw [Array.getElem?_toList, e, List.getElem?_range h19]
      show _ = some (by8 (UInt8.ofNat (z i).toNat))
      unfold by8
      rw [UInt8.toNat_ofNat']
      have : (((z i).toNat % 2 ^ 8 : Nat) : Int) = z i := by omega
      rw [this]
    · rw [List.getElem?_eq_none (by rw [Array.length_toList]; omega), List.getElem?_eq_none (by rw [List.length_range]; omega)]
      rfl
  rw [← he]

namespace Fr
/-- What 19 bytes tell. -/
theorem run19 {h : List UInt8} (hl : h.length = 19) :
    ((judge h).1 ≠ 0 ∧ run h = ([], ⟨[], (judge h).1, (judge h).2⟩)) ∨ ((judge h).1 = 0 ∧ len h = 19 ∧ run h = ([(kind h, [])], ⟨[], 0, []⟩)) ∨ ((judge h).1 = 0 ∧ 19 < len h ∧ run h = ([], ⟨h, 0, []⟩)) := by
  by_cases h2 : (judge h).1 = 0
  · have hz := judge_zero h2
    by_cases h3 : len h = 19
    · refine .inr (.inl ⟨h2, h3, ?_⟩)
      rw [run_step h2 (by omega), h3, ← hl, List.take_length, List.drop_length, run_short (by decide)]
    · exact .inr (.inr ⟨h2, by omega, run_wait (by omega) h2 (by omega)⟩)
  · exact .inl ⟨h2, run_bad (by omega) h2⟩
theorem judge_data (h : List UInt8) (hs : (judge h).1 ≠ 0) : ((judge h).1 = 1 ∧ (judge h).2.length = 0) ∨ ((judge h).1 = 2 ∧ (judge h).2.length = 2) ∨ ((judge h).1 = 3 ∧ (judge h).2.length = 1) := by
  unfold judge at hs ⊢
  by_cases h1 : marked h = false
  · rw [if_pos h1]; exact .inl ⟨rfl, rfl⟩
  · rw [if_neg h1] at hs ⊢
    by_cases h2 : len h < 19 ∨ 4096 < len h
    · rw [if_pos h2]; exact .inr (.inl ⟨rfl, rfl⟩)
    · rw [if_neg h2] at hs ⊢
      by_cases h3 : (kind h).toNat < 1 ∨ 5 < (kind h).toNat
      · rw [if_pos h3]; exact .inr (.inr ⟨rfl, rfl⟩)
      · rw [if_neg h3] at hs ⊢
        by_cases h4 : fits (kind h).toNat (len h) = false
        · rw [if_pos h4]; exact .inr (.inl ⟨rfl, rfl⟩)
        · rw [if_neg h4] at hs; exact absurd rfl hs
end Fr

theorem ofInt_i64 (a : Nat) (ha : a < 9223372036854775808) : (BitVec.ofInt 64 (a : Int)).toNat = a := by
  rw [BitVec.ofInt_natCast, BitVec.toNat_ofNat]; exact Nat.mod_eq_of_lt (by omega)
theorem or_i64 (x y : Nat) (hx : x < 256) (hy : y < 256) : bits .or .i64 ((x : Int) * 256) (y : Int) = ((256 * x + y : Nat) : Int) := by
  have h8 : x * 256 ||| y < 2 ^ 63 := Nat.or_lt_two_pow (by omega) (by omega)
  have e1 : (x : Int) * 256 = ((x * 256 : Nat) : Int) := by omega
  rw [e1]
  show IntKind.i64.wrap ((BitVec.ofInt 64 ((x * 256 : Nat) : Int) ||| BitVec.ofInt 64 (y : Int)).toNat : Int) = _
  rw [BitVec.toNat_or, ofInt_i64 _ (by omega), ofInt_i64 _ (by omega), IntKind.wrap_i64]
  have := Nat.shiftLeft_add_eq_or_of_lt (i := 8) (b := y) (by omega) x
  rw [Nat.shiftLeft_eq] at this
  rw [← this]
  omega
theorem wpAny_rest_up {P : Program} {L : List Oper} {Q : Exit → Act → World → Prop} {a : Act} {w : World} {listed : Array Bool} (k fuel : Nat) (hf : (L.drop k).length = fuel) (hs : Region.noSelect L.toArray = true) (hx : Region.lexFrom .any L.toArray fuel k listed = true)
    (h : wpQuiet P L.toArray (fun w' => ∃ g : Up w, w' = g.w) (fun a' => ∀ w', (∃ g : Up w, w' = g.w) → Q .normal a' w') (L.drop k) a) : wpAny P .any L.toArray Q fuel listed a w := by
  subst hf
  refine wpAny_of_quiet (C := fun w' => ∃ g : Up w, w' = g.w) (Q := fun a' => ∀ w', (∃ g : Up w, w' = g.w) → Q .normal a' w') (fun _ w' hw' h => h w' hw') _ _ _ _ ⟨⟨w, Kept.refl _ _⟩, rfl⟩ ?_
  exact wpAnyQ_lex (md := .any) hs (L.drop k) k listed a (fun j => by simp [List.getElem?_drop]) hx h
theorem head_by {w : World} {g : Nat} {t : TypeId} {h : List UInt8} (hB : Blk w g t (bys h).toArray) (hl : h.length = 19) : By w (.slice (some ⟨g, 0, none⟩) 19 19) h := by
  refine ⟨some ⟨g, 0, none⟩, 19, by rw [hl], by omega, by simp [maxLen], by rw [length_bys]; omega, (fun e => by cases e), fun a ha j u hu => ?_, fun u hu => ?_⟩
  · injection ha with ha
    subst ha
    rw [add_none, Nat.zero_add, hB.cell, List.getElem?_toArray, hu]
  · unfold bys at hu
    obtain ⟨b, _, rfl⟩ := List.mem_map.1 hu
    rfl
theorem head_tail {w : World} {g : Nat} {t : TypeId} {h : List UInt8} (hB : Blk w g t (bys h).toArray) (hl : h.length = 19) : By w (.slice (some ⟨g, 18, none⟩) 1 1) (h.drop 18) := by
  have := (head_by hB hl).piece (k := 18) (m := 1) (by omega)
  rw [List.take_of_length_le (by rw [List.length_drop]; omega)] at this
  exact this

set_option maxRecDepth 100000 in
set_option maxHeartbeats 3200000 in
theorem ends_law (h : List UInt8) (v1 : Value) (l : List UInt8) (W : World) (hl : h.length = 19) (h1 : By W v1 l) :
    Calls Try.prog 7 #[.agg (bys h).toArray, v1] W fun e w' => e = .returned (.bool true) ∧ Kept Nothing W w' := by
  obtain ⟨A, c, rfl, hc, hm⟩ := h1.form
  have H1 := Lib.hid h1
  have HL := Lib.hid hl
  clear h1 hl
  unfold maxLen at hm
  go_enter Try.func7, Try.ntmps7
  go_wp2_with fail
  refine (in_new2 _).mono ?_
  rintro e w1 ⟨p, F1, rfl, ha, ka, ra⟩
  have A1 := Lib.hid ha
  have kb := (Kept.refl Nothing W).alloc (.cells (bys h).toArray 56)
  have K1 := Lib.hid (kb.trans ka)
  have BX := Lib.hid ((Blk.fresh W 56 (bys h).toArray).kept ka (fun x => x))
  have RA : Hid (∀ k, F1 k → W.heap.size + 1 ≤ k) := fun k hk => by have := ra k hk; rwa [World.size_alloc] at this
  clear ha ka ra kb
  have OH := Lib.hid (head_by BX.out HL.out)
  have hof : ∀ (F : Nat → Prop), (∀ k, F k → W.heap.size + 1 ≤ k) → ∀ (o n c : Nat), Off F (.slice (some ⟨W.heap.size, o, none⟩) n c) := fun F hF o n c a n' c' e _ x => by
    injection e with e1 e2 e3
    injection e1 with e1
    have := hF _ x
    rw [← e1] at this
    simp only at this
    omega
  have HOF := Lib.hid hof
  clear hof
  go_wp2_with fail
  refine (in_feed p F1 Nothing Fr.IS.new _ (h.take 18) w1 A1.out (OH.out.pre (m := 18) (by omega)) (HOF.out F1 RA.out 0 18 19) (by rw [List.length_take]; omega)).mono ?_
  rintro e w2 ⟨v2, rfl, F2, hm2, hi2, hk2, hs2⟩
  have hr1 : Fr.feed Fr.IS.new (h.take 18) = ([], ⟨h.take 18, 0, []⟩) := Fr.run_short (by show (h.take 18).length < 19; rw [List.length_take]; omega)
  rw [hr1] at hm2 hi2
  have l18 : (h.take 18).length = 18 := by rw [List.length_take, HL.out]; rfl
  obtain ⟨A2, c2, rfl, _, _⟩ := alike_len hm2
  have K2 := Lib.hid (K1.out.newly hk2 (fun i hi => by have := RA.out i hi; omega))
  have BX2 := Lib.hid (BX.out.kept hk2 (fun x => by have := RA.out _ x; omega))
  have z1 : W.heap.size + 1 ≤ w1.heap.size := BX.out.lt
  have RB : Hid (∀ k, F2 k → W.heap.size + 1 ≤ k) := fun k hk => by
    rcases hs2 k hk with x | x
    · exact RA.out k x
    · omega
  have CW := in_waits2 p _ _ _ _ hi2
  have I2 := Lib.hid hi2
  rw [show (({ l := h.take 18, s := 0, d := [] } : Fr.IS).l.length : Int) = 18 from by show ((h.take 18).length : Int) = 18; rw [l18]; rfl] at CW
  have CW := Lib.hid CW
  clear hr1 hm2 hi2 hk2 hs2 l18 A1 K1 BX OH RA
  go_wp2_with fail
  refine CW.out.mono ?_
  rintro e w' ⟨rfl, rfl⟩
  have hc0 : codeOf 0 = 0 := rfl
  go_wp2_with fail
  refine (in_fault p _ _ _ _ I2.out).mono ?_
  rintro e w3 ⟨v3, rfl, hv3, hn3, hk3⟩
  obtain ⟨A3, c3, rfl, _, _⟩ := hv3.form
  have ke := hk3.alloc (.cells #[.int .u8 0, .int .u8 0] 35)
  have I4 := Lib.hid (I2.out.old ke)
  have K4 := Lib.hid (K2.out.trans ke)
  have BX4 := Lib.hid (BX2.out.kept ke (fun x => x))
  clear hv3 hn3 hk3 ke I2 K2 BX2 CW
  have OT := Lib.hid (head_tail BX4.out HL.out)
  go_wp2_with fail
  refine (in_feed p F2 _ _ _ (h.drop 18) _ I4.out OT.out (HOF.out F2 RB.out 18 1 1) (by rw [List.length_drop, HL.out]; omega)).mono ?_
  rintro e w5 ⟨v5, rfl, F5, hm5, hi5, hk5, hs5⟩
  have hr2 : Fr.feed ⟨h.take 18, 0, []⟩ (h.drop 18) = Fr.run h := by
    show Fr.run (h.take 18 ++ h.drop 18) = _
    rw [List.take_append_drop]
  rw [hr2] at hm5 hi5
  have K5 := Lib.hid (K4.out.newly hk5 (fun i hi => by have := RB.out i hi; omega))
  have BX5 := Lib.hid (BX4.out.kept hk5 (fun x => by have := RB.out _ x; omega))
  have RC : Hid (∀ k, F5 k → W.heap.size + 1 ≤ k) := fun k hk => by
    rcases hs5 k hk with x | x
    · exact RB.out k x
    · have := BX4.out.lt; omega
  have I5 := Lib.hid hi5
  have M5 := Lib.hid hm5
  obtain ⟨A5, c5, rfl, hc5, hm5'⟩ := alike_len hm5
  have HR := Lib.hid (Fr.run19 HL.out)
  clear hr2 hm5 hi5 hk5 hs5 I4 K4 BX4 OT RB
  generalize hrb : Fr.run h = rb at *
  have HRB := Lib.hid hrb
  clear hrb
  go_wp2_with fail
  refine (in_fault p _ _ _ _ I5.out).mono ?_
  rintro e w6 ⟨v6, rfl, hv6, hn6, hk6⟩
  obtain ⟨A6, c6, rfl, _, _⟩ := hv6.form
  have ke := hk6.alloc (.cells #[.int .u8 (codeOf rb.2.s), .int .u8 (rb.2.s : Int)] 35)
  have I7 := Lib.hid (I5.out.old ke)
  have K7 := Lib.hid (K5.out.trans ke)
  have M7 := Lib.hid (M5.out.old ke)
  have BX7 := Lib.hid (BX5.out.kept ke (fun x => x))
  have V7 := Lib.hid (hv6.kept ((Kept.refl Nothing w6).alloc (.cells #[.int .u8 (codeOf rb.2.s), .int .u8 (rb.2.s : Int)] 35)) (NoBytes.nothing _))
  have E7 := Lib.hid (Blk.fresh w6 35 #[.int .u8 (codeOf rb.2.s), .int .u8 (rb.2.s : Int)])
  have VO := Lib.hid (hn6.off (S := F5) (fun k hk => I5.out.lt hk))
  have NE : Hid (¬ F5 w6.heap.size) := fun x => by have := I5.out.lt x; have := hk6.size; omega
  clear hv6 hn6 hk6 ke I5 K5 M5 BX5
  go_upto_region 9 with fail
  generalize w6.alloc (.cells #[.int .u8 (codeOf rb.2.s), .int .u8 (rb.2.s : Int)] 35) = w7 at *
  go_cut [1] (fun v wx => ∃ b : List UInt8, v = .slice A b.length c ∧ By W (.slice A b.length c) b ∧ b.length ≤ 100 ∧ w7 = wx)
  case first =>
    by_cases hle : l.length ≤ 100
    · as_aux_lemma =>
        go_wp2_with fail
        go_meet
        exact ⟨l, rfl, H1.out, hle, rfl⟩
    · as_aux_lemma =>
        go_wp2_with fail
        go_meet
        have e : (l.take 100).length = 100 := by rw [List.length_take]; omega
        refine ⟨l.take 100, by rw [e], ?_, by omega, rfl⟩
        rw [e]
        exact H1.out.pre (by omega)
  case rest =>
    obtain ⟨b, rfl, hb, hle, rfl⟩ := hcut
    have HB := Lib.hid hb
    clear hb
    have OB := Lib.hid (HB.out.off_new (S := F5) (fun k hk => by have := RC.out k hk; omega))
    have hr := HR.out
    clear HR
    rcases hr with ⟨hs, hrb⟩ | ⟨hs, hlen, hrb⟩ | ⟨hs, hlen, hrb⟩
    · subst hrb
      have hjd := Fr.judge_data h hs
      generalize (Fr.judge h).1 = sj at *
      generalize (Fr.judge h).2 = dj at *
      clear hs HRB
      have hfd : ∀ n : Nat, n ≠ 0 → Fr.feed ⟨[], n, dj⟩ b = ([], ⟨[], n, dj⟩) := fun n hn => if_neg hn
      rcases hjd with ⟨rfl, hd⟩ | ⟨rfl, hd⟩ | ⟨rfl, hd⟩
      all_goals
        as_aux_lemma =>
          have e0 : w7.cell? ⟨w6.heap.size, 0, none⟩ = some (.int .u8 1) := E7.out.cell 0
          have CF := Lib.hid (in_feed p F5 _ ⟨[], _, dj⟩ (.slice A b.length c) b w7 I7.out (HB.out.old K7.out) OB.out (by omega))
          first | rw [hfd 1 (by decide)] at CF | rw [hfd 2 (by decide)] at CF | rw [hfd 3 (by decide)] at CF
          have HD := Lib.hid hd
          clear hd hfd
          go_wp2_with fail
          refine CF.out.mono ?_
          rintro e w8 ⟨v8, rfl, F8, hm8, hi8, hk8, hs8⟩
          obtain ⟨A8, c8, rfl, _, _⟩ := alike_len hm8
          have I8 := Lib.hid hi8
          have K8 := Lib.hid (K7.out.newly hk8 (fun i hi => by have := RC.out i hi; omega))
          have E8 := Lib.hid (E7.out.kept hk8 NE.out)
          have V8 := Lib.hid (V7.out.off hk8 VO.out)
          clear hm8 hi8 hk8 hs8 CF e0 I7 K7 E7 V7 M7 BX7
          go_wp2_with fail
          refine (in_fault p _ _ _ _ I8.out).mono ?_
          rintro e w9 ⟨v9, rfl, hv9, hn9, hk9⟩
          have V9 := Lib.hid hv9
          have U9 := Lib.hid (V8.out.kept hk9 (NoBytes.nothing _))
          have E9 := Lib.hid (E8.out.kept hk9 (fun x => x))
          have I9 := Lib.hid (I8.out.old hk9)
          have K9 := Lib.hid (K8.out.trans hk9)
          obtain ⟨A9, c9, rfl, _, _⟩ := hv9.form
          clear hv9 hn9 hk9 I8 K8 E8 V8
          go_upto_region 16 with fail
          refine (show ∀ W7, Kept Nothing w9 W7 → Blk W7 w9.heap.size 35 #[.int .u8 1, .int .u8 _] → Code.wp _ _ _ _ W7 from ?_) _ ((Kept.refl Nothing w9).alloc _) (Blk.fresh w9 _ _)
          intro w10 hk hf
          have e10 := E9.out.kept hk (fun x => x)
          have d0 : w10.cell? ⟨w6.heap.size, 0, none⟩ = some (.int .u8 1) := e10.cell 0
          have d1 : w10.cell? ⟨w6.heap.size, 1, none⟩ = _ := e10.cell 1
          have f0 : w10.cell? ⟨w9.heap.size, 0, none⟩ = _ := hf.cell 0
          have f1 : w10.cell? ⟨w9.heap.size, 1, none⟩ = _ := hf.cell 1
          have eq := by_equal _ _ _ _ w10 (U9.out.kept hk (NoBytes.nothing _)).by (V9.out.kept hk (NoBytes.nothing _)).by
          rw [beq_self_eq_true, HD.out] at eq
          have EQ := Lib.hid eq
          have I10 := Lib.hid (I9.out.old hk)
          have K10 := Lib.hid (K9.out.trans hk)
          have hdl := HD.out
          have ix1 : ∀ w, (Instr.index 59 (.agg #[.int .i64 0, .int .i64 0, .int .i64 2, .int .i64 1]) (.int .u8 1)).run Try.prog w = .ok (.int .i64 0) w := fun _ => by kernel_rfl
          have ix2 : ∀ w, (Instr.index 59 (.agg #[.int .i64 0, .int .i64 0, .int .i64 2, .int .i64 1]) (.int .u8 2)).run Try.prog w = .ok (.int .i64 2) w := fun _ => by kernel_rfl
          have ix3 : ∀ w, (Instr.index 59 (.agg #[.int .i64 0, .int .i64 0, .int .i64 2, .int .i64 1]) (.int .u8 3)).run Try.prog w = .ok (.int .i64 1) w := fun _ => by kernel_rfl
          clear hk hf e10 eq I9 K9 E9 U9 V9
          go_wp2_with fail
          refine EQ.out.mono ?_
          rintro e w' ⟨rfl, rfl⟩
          go_wp2_with fail
          refine (in_waits2 p _ _ _ _ I10.out).mono ?_
          rintro e w' ⟨rfl, rfl⟩
          go_wp2_with fail
          refine (wakes3 _).mono ?_
          rintro e w11 ⟨rfl, hk⟩
          go_wp2
          go_ret
          exact ⟨rfl, K10.out.trans hk⟩
    · as_aux_lemma =>
        subst hrb
        have hz := Fr.judge_zero hs
        have e0 : w7.cell? ⟨w6.heap.size, 0, none⟩ = some (.int .u8 0) := E7.out.cell 0
        have q16 : w7.cell? ⟨W.heap.size, 16, none⟩ = some (.int .u8 ((h.getD 16 0).toNat : Int)) := by rw [BX7.out.cell, List.getElem?_toArray]; exact getD_bys h 16 (by rw [HL.out]; decide)
        have q17 : w7.cell? ⟨W.heap.size, 17, none⟩ = some (.int .u8 ((h.getD 17 0).toNat : Int)) := by rw [BX7.out.cell, List.getElem?_toArray]; exact getD_bys h 17 (by rw [HL.out]; decide)
        have q18 : w7.cell? ⟨W.heap.size, 18, none⟩ = some (.int .u8 ((h.getD 18 0).toNat : Int)) := by rw [BX7.out.cell, List.getElem?_toArray]; exact getD_bys h 18 (by rw [HL.out]; decide)
        have b16 := (h.getD 16 0).toNat_lt
        have b17 := (h.getD 17 0).toNat_lt
        have k1 : 1 ≤ (h.getD 18 0).toNat := hz.2.2.2.2.1
        have k5 : (h.getD 18 0).toNat ≤ 5 := hz.2.2.2.2.2.1
        have hln : 256 * (h.getD 16 0).toNat + (h.getD 17 0).toNat = 19 := hlen
        have hmk : Fr.marked h = true := hz.2.1
        have HMK := Lib.hid hmk
        have CW := Lib.hid (in_waits2 p _ _ _ w7 I7.out)
        clear hs hz hlen HRB hmk
        generalize (h.getD 16 0).toNat = x16 at *
        generalize (h.getD 17 0).toNat = x17 at *
        generalize (h.getD 18 0).toNat = x18 at *
        have hor := or_i64 x16 x17 b16 b17
        rw [hln] at hor
        go_wp2_with fail
        refine CW.out.mono ?_
        rintro e w' ⟨rfl, rfl⟩
        go_wp2_with fail
        refine wp_region_any (by kernel_rfl) ?_
        change wpAny _ _ _ _ _ _ _ (World.drew _)
        refine wpAny_take (i := 0) (v := .slice (some ⟨W.heap.size, 0, none⟩) 16 19) rfl (by kernel_rfl) (by kernel_rfl) (by kernel_rfl) (fun _ _ _ h => h) (Or.inl ⟨by rfl, fun _ => by kernel_rfl⟩) ?_
        refine wpAny_ready (rs := [1]) (by kernel_rfl) (by simp) ?_
        refine AllReady.cons rfl ?_ AllReady.nil
        intro K hK
        go_simp
        refine (ones_none 16 _ (by decide) (by decide)).mono ?_
        rintro e w9 ⟨v9, rfl, hv9, hn9, hk9⟩
        have kk := ((Kept.refl Nothing w7).drew).trans hk9
        have I9 := Lib.hid (I7.out.old kk)
        have K9 := Lib.hid (K7.out.trans kk)
        have q9 := kk.cell_some q18 (fun x => x)
        have BX9 := Lib.hid (BX7.out.kept kk (fun x => x))
        have V9 := Lib.hid hv9
        obtain ⟨A9, c9, e9, _, _⟩ := hv9.form
        rw [List.length_replicate] at e9
        subst e9
        clear hv9 hn9 hk9 kk
        refine hK _ _ ?_
        clear hK K
        refine wpAny_ready (rs := [2]) (by kernel_rfl) (by simp) ?_
        refine AllReady.cons rfl ?_ AllReady.nil
        intro K hK
        go_simp
        have eq := by_equal (.slice (some ⟨W.heap.size, 0, none⟩) 16 19) (.slice A9 16 c9) (h.take 16) (List.replicate 16 255) w9 ((head_by BX9.out HL.out).pre (m := 16) (by omega)) V9.out.by
        rw [show (h.take 16 == List.replicate 16 255) = true from HMK.out] at eq
        refine eq.mono ?_
        rintro e w' ⟨rfl, rfl⟩
        refine hK _ _ ?_
        clear hK K eq
        have u18 : ∀ g : Up w9, g.w.cell? ⟨W.heap.size, 18, none⟩ = some (.int .u8 (x18 : Int)) := up_cell q9
        have UW : Hid (∀ g : Up w9, Calls Try.prog 11 #[.pointer (some ⟨p, 0, none⟩)] g.w fun e w'' => e = .returned (.int .i64 0) ∧ ∃ m : Up w9, w'' = m.w) := fun g => up_same (in_waits2 p _ _ _ _ (I9.out.old g.kept))
        have d1 : decide ((1 : Int) ≤ (x18 : Int)) = true := by simp; omega
        have d5 : decide ((x18 : Int) ≤ 5) = true := by simp; omega
        clear q9 q16 q17 q18 hor e0
        refine wpAny_rest_up 3 _ (by rfl) (by kernel_rfl) (by kernel_rfl) ?_
        simp only [List.drop_succ_cons, List.drop_zero]
        repeat (go_big_quiet_step (first | (go_at_call 11; exact UW.out _) | (go_at_call 18; exact up_call (wakes3 _))))
        refine wpQuiet_nil ?_
        rintro _ ⟨g, rfl⟩
        go_wp2
        go_ret
        exact ⟨rfl, K9.out.trans g.kept⟩
    · as_aux_lemma =>
        subst hrb
        have hz := Fr.judge_zero hs
        have e0 : w7.cell? ⟨w6.heap.size, 0, none⟩ = some (.int .u8 0) := E7.out.cell 0
        have q16 : w7.cell? ⟨W.heap.size, 16, none⟩ = some (.int .u8 ((h.getD 16 0).toNat : Int)) := by rw [BX7.out.cell, List.getElem?_toArray]; exact getD_bys h 16 (by rw [HL.out]; decide)
        have q17 : w7.cell? ⟨W.heap.size, 17, none⟩ = some (.int .u8 ((h.getD 17 0).toNat : Int)) := by rw [BX7.out.cell, List.getElem?_toArray]; exact getD_bys h 17 (by rw [HL.out]; decide)
        have q18 : w7.cell? ⟨W.heap.size, 18, none⟩ = some (.int .u8 ((h.getD 18 0).toNat : Int)) := by rw [BX7.out.cell, List.getElem?_toArray]; exact getD_bys h 18 (by rw [HL.out]; decide)
        have b16 := (h.getD 16 0).toNat_lt
        have b17 := (h.getD 17 0).toNat_lt
        have k1 : 1 ≤ (h.getD 18 0).toNat := hz.2.2.2.2.1
        have k5 : (h.getD 18 0).toNat ≤ 5 := hz.2.2.2.2.2.1
        obtain ⟨nl, hnl⟩ : ∃ nl, nl = 256 * (h.getD 16 0).toNat + (h.getD 17 0).toNat := ⟨_, rfl⟩
        have hn1 : 19 < nl := by rw [hnl]; exact hlen
        have hn2 : nl ≤ 4096 := by rw [hnl]; exact hz.2.2.2.1
        have hmk : Fr.marked h = true := hz.2.1
        have HMK := Lib.hid hmk
        clear hs hz hlen HRB hmk
        generalize (h.getD 16 0).toNat = x16 at *
        generalize (h.getD 17 0).toNat = x17 at *
        generalize (h.getD 18 0).toNat = x18 at *
        have hor := or_i64 x16 x17 b16 b17
        rw [← hnl] at hor
        have n1 : ((nl : Int) == 19) = false := by simp; omega
        have n2 : decide ((19 : Int) ≤ (nl : Int)) = true := by simp; omega
        have n3 : decide ((nl : Int) ≤ 4096) = true := by simp; omega
        have n4 : decide ((19 : Int) < (nl : Int)) = true := by simp; omega
        clear hnl
        go_wp2_with fail
        refine wp_region_any (by kernel_rfl) ?_
        change wpAny _ _ _ _ _ _ _ (World.drew _)
        refine wpAny_take (i := 0) (v := .slice (some ⟨W.heap.size, 0, none⟩) 16 19) rfl (by kernel_rfl) (by kernel_rfl) (by kernel_rfl) (fun _ _ _ h => h) (Or.inl ⟨by rfl, fun _ => by kernel_rfl⟩) ?_
        refine wpAny_ready (rs := [1]) (by kernel_rfl) (by simp) ?_
        refine AllReady.cons rfl ?_ AllReady.nil
        intro K hK
        go_simp
        refine (ones_none 16 _ (by decide) (by decide)).mono ?_
        rintro e w9 ⟨v9, rfl, hv9, hn9, hk9⟩
        have kk := ((Kept.refl Nothing w7).drew).trans hk9
        have I9 := Lib.hid (I7.out.old kk)
        have K9 := Lib.hid (K7.out.trans kk)
        have q9 := kk.cell_some q18 (fun x => x)
        have BX9 := Lib.hid (BX7.out.kept kk (fun x => x))
        have V9 := Lib.hid hv9
        obtain ⟨A9, c9, e9, _, _⟩ := hv9.form
        rw [List.length_replicate] at e9
        subst e9
        clear hv9 hn9 hk9 kk
        refine hK _ _ ?_
        clear hK K
        refine wpAny_ready (rs := [2]) (by kernel_rfl) (by simp) ?_
        refine AllReady.cons rfl ?_ AllReady.nil
        intro K hK
        go_simp
        have eq := by_equal (.slice (some ⟨W.heap.size, 0, none⟩) 16 19) (.slice A9 16 c9) (h.take 16) (List.replicate 16 255) w9 ((head_by BX9.out HL.out).pre (m := 16) (by omega)) V9.out.by
        rw [show (h.take 16 == List.replicate 16 255) = true from HMK.out] at eq
        refine eq.mono ?_
        rintro e w' ⟨rfl, rfl⟩
        refine hK _ _ ?_
        clear hK K eq
        have u18 : ∀ g : Up w9, g.w.cell? ⟨W.heap.size, 18, none⟩ = some (.int .u8 (x18 : Int)) := up_cell q9
        have UW : Hid (∀ g : Up w9, Calls Try.prog 11 #[.pointer (some ⟨p, 0, none⟩)] g.w fun e w'' => e = .returned (.int .i64 19) ∧ ∃ m : Up w9, w'' = m.w) := fun g => by
          have := in_waits2 p _ _ _ _ (I9.out.old g.kept)
          rw [show ((({ l := h, s := 0, d := [] } : Fr.IS).l.length : Nat) : Int) = 19 from by show ((h.length : Nat) : Int) = 19; rw [HL.out]; rfl] at this
          exact up_same this
        have d1 : decide ((1 : Int) ≤ (x18 : Int)) = true := by simp; omega
        have d5 : decide ((x18 : Int) ≤ 5) = true := by simp; omega
        clear q9 q16 q17 q18 hor e0
        refine wpAny_rest_up 3 _ (by rfl) (by kernel_rfl) (by kernel_rfl) ?_
        simp only [List.drop_succ_cons, List.drop_zero]
        repeat (go_big_quiet_step (first | (go_at_call 11; exact UW.out _) | (go_at_call 18; exact up_call (wakes3 _))))
        refine wpQuiet_nil ?_
        rintro _ ⟨g, rfl⟩
        go_wp2
        go_ret
        exact ⟨rfl, K9.out.trans g.kept⟩
end Go.Proofs.Ytlhdgfmljblahaa
