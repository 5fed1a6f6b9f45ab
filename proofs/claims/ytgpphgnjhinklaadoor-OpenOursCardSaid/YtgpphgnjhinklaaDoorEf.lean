
/-
  The law OpenOurs: it returns true, whatever it is given, and leaves what was there as it was.
-/
import Derived.Test.YtgpphgnjhinklaaDoorEe
namespace Go.Proofs.YtgpphgnjhinklaaDoor
open Go.RowKit

theorem own_ours (n : Nat) : Opn.own (shortN n) (n, true) = (if n ≠ 0 then (n, true) else (0, false)) := by
  rw [own_some]
  unfold shortN
  by_cases h0 : n = 0
  · rw [if_neg (fun h => h.1 h0), if_neg (fun h => h h0)]
  · rw [if_pos ⟨h0, by split; exact .inl rfl; exact .inr rfl⟩, if_pos h0]
def ourO (n hold id : Nat) : Opn := ⟨4, shortN n, hold, id, oursL n⟩
theorem ourO_fine {n hold id : Nat} (h2 : hold < 65536) (h3 : id < 4294967296) : (ourO n hold id).fine := ⟨by show 4 < 256; decide, by show shortN n < 65536; unfold shortN; split <;> omega, h2, h3⟩
theorem ourO_num (n hold id : Nat) (h : n < 4294967296) : (ourO n hold id).number = (if n ≠ 0 then (n, true) else (0, false)) := by
  show Opn.own (shortN n) (Cp.number (oursL n)) = _
  rw [ours_num n h, own_ours]
theorem ours_ip (n : Nat) : Cp.ipv4 false (oursL n) = true := by
  have := ours_ipv4 n []
  rwa [List.append_nil] at this
theorem ourO_bad {n hold id m me : Nat} {ins : Bool} (h : n < 4294967296) (hb : n = 0 ∨ n ≠ m) : (ourO n hold id).sub m me ins = 2 := by
  unfold Opn.sub
  rw [ourO_num n hold id h]
  refine if_pos ?_
  by_cases h0 : n = 0
  · rw [if_neg (fun h => h h0)]; simp
  · rw [if_pos h0]
    have : n ≠ m := by omega
    simp [this]
theorem ourO_sub {n hold id me : Nat} {ins : Bool} (h : n < 4294967296) (h0 : n ≠ 0) : (ourO n hold id).sub n me ins = (if (decide (id = 0) || decide (3758096384 ≤ id) || (ins && decide (id = me))) = true then 3 else if (decide (hold = 1) || decide (hold = 2)) = true then 6 else 0) := by
  unfold Opn.sub
  rw [ourO_num n hold id h, if_pos h0, if_neg (by simp)]
  show (if _ then 3 else if _ then 6 else if Cp.ipv4 false (oursL n) = false then 7 else 0) = _
  rw [ours_ip, if_neg (show ¬ (true = false) by decide)]
  rfl

set_option maxRecDepth 20000 in
set_option maxHeartbeats 8000000 in
theorem ours06_law (n other hold id me : Nat) (hn : n < 4294967296) (hm : other < 4294967296) (hh : hold < 65536) (hi : id < 4294967296) (W : World) (hr : RdC W) :
    Calls Tryd.prog 6 #[.int .u32 (n : Int), .int .u32 (other : Int), .int .u16 (hold : Int), .int .u32 (id : Int), .int .u32 (me : Int)] W fun e w' => e = .returned (.bool true) ∧ Kept Nothing W w' := by
  have HR := Lib.hid hr
  have C1 := Lib.hid (op_ours n hold id hn W hr)
  have HF := Lib.hid (ourO_fine (n := n) hh hi)
  have CN := Lib.hid (fun v w h => op_number 4 hold id (shortN n) HF.out.2.1 v (oursL n) w h (by show 3 ≤ 1000000; decide))
  have CC1 := Lib.hid (fun v w hr h => op_check (ourO n hold id) HF.out v other me false w hr h (by show 3 ≤ 1000000; decide))
  have CC2 := Lib.hid (fun v w hr h => op_check (ourO n hold id) HF.out v n id true w hr h (by show 3 ≤ 1000000; decide))
  have E0 := Lib.hid (ours_num n hn)
  rw [E0.out, own_ours] at CN
  have EB := Lib.hid (fun (hb : n = 0 ∨ n ≠ other) => ourO_bad (hold := hold) (id := id) (me := me) (ins := false) hn hb)
  have ES := Lib.hid (fun (h0 : n ≠ 0) (h : n = other) => (show (ourO n hold id).sub other me false = (if (decide (id = 0) || decide (3758096384 ≤ id) || (false && decide (id = me))) = true then 3 else if (decide (hold = 1) || decide (hold = 2)) = true then 6 else 0) from by rw [← h]; exact ourO_sub hn h0))
  have ET := Lib.hid (fun (h0 : n ≠ 0) => (ourO_sub (hold := hold) (id := id) (me := id) (ins := true) hn h0))
  have HL : Hid (∀ x : Nat, (oursL n).length = 3) := Lib.hid (fun _ => rfl)
  generalize hs1 : (ourO n hold id).sub other me false = s1 at *
  generalize hs2 : (ourO n hold id).sub n id true = s2 at *
  clear hr E0 hs1 hs2
  unfold ourO at CC1 CC2
  simp only at CC1 CC2
  generalize shortN n = sn at *
  generalize oursL n = ol at *
  go_enter Tryd.func6, Tryd.ntmps6
  go_wp2_with fail
  refine C1.out.mono ?_
  rintro e w1 ⟨rv, rfl, hc, hk⟩
  have hc' := hc.cps
  obtain ⟨A1, c1, rfl, _, _⟩ := hc'.form
  have K1 := Lib.hid (hk.alloc (.cells #[.int .u8 4, .int .u16 (sn : Int), .int .u16 (hold : Int), .int .u32 (id : Int), .slice A1 ol.length c1] 28))
  have P1 := Lib.hid (hc'.old ((Kept.refl Nothing w1).alloc (.cells #[.int .u8 4, .int .u16 (sn : Int), .int .u16 (hold : Int), .int .u32 (id : Int), .slice A1 ol.length c1] 28)))
  have F1 := Lib.hid (Blk.fresh w1 28 #[.int .u8 4, .int .u16 (sn : Int), .int .u16 (hold : Int), .int .u32 (id : Int), .slice A1 ol.length c1])
  clear hc hk hc' C1
  go_wp2_with fail
  refine (CN.out _ _ P1.out).mono ?_
  rintro e w2 ⟨rfl, hk⟩
  have K2 := Lib.hid (K1.out.trans hk)
  have F2 := Lib.hid (F1.out.kept hk (fun x => x))
  have P2 := Lib.hid (P1.out.old hk)
  obtain ⟨⟨a0, a1, a2, a3, a4⟩, -⟩ := full5 F2.out
  have hlt := F2.out.lt
  have HC1 := Lib.hid (CC1.out _ w2 (HR.out.kept K2.out) P2.out)
  clear hk K1 F1 P1 CN CC1
  by_cases n0 : n = 0
  · obtain rfl : 2 = s1 := (EB.out (.inl n0)).symm
    subst n0
    clear ES ET EB CC2
    rw [if_neg (show ¬ ((0 : Nat) ≠ 0) from fun h => h rfl)]
    go_wp2_with fail
    refine HC1.out.mono ?_
    rintro e w3 ⟨d, rfl, hb, hk⟩
    obtain ⟨A2, c2, rfl, _, _⟩ := hb.form
    have K3 := Lib.hid ((K2.out.trans hk).alloc (.cells #[.int .u8 2, .int .u8 2] 30))
    have HT := Lib.hid (op_tells _ (HR.out.kept K3.out))
    clear hk hb HC1
    go_wp2_with (go_at_call 13; refine HT.out.mono ?_; rintro e w4 ⟨rfl, hk⟩)
    go_ret
    exact ⟨rfl, K3.out.trans hk⟩
  · have n0i : ((n : Int) != 0) = true := by simp; omega
    have n0j : ((n : Int) == 0) = false := by simp; omega
    rw [if_pos n0]
    go_wp2_with fail
    refine HC1.out.mono ?_
    rintro e w3 ⟨d, rfl, hb, hk⟩
    obtain ⟨A2, c2, rfl, _, _⟩ := hb.form
    by_cases no : n = other
    · have hs1 := ES.out n0 no
      subst no
      have h23 := ET.out n0
      rw [if_pos (by simp)] at h23
      subst h23
      rcases (show id = 0 ∨ (id ≠ 0 ∧ 3758096384 ≤ id) ∨ (id ≠ 0 ∧ ¬ 3758096384 ≤ id) by omega) with hG | hG | hG
      · rcases (show hold = 1 ∨ hold = 2 ∨ (hold ≠ 1 ∧ hold ≠ 2) by omega) with hS | hS | hS
        · as_aux_lemma =>
            have p1 : ((id : Int) == 0) = true := by simp; omega
            have q1 : ((hold : Int) == 1) = true := by simp; omega
            rw [if_pos (by simp [hG])] at hs1
            obtain rfl : 3 = s1 := hs1.symm
            have K3 := Lib.hid ((K2.out.trans hk).alloc (.cells #[.int .u8 2, .int .u8 3] 30))
            have f3 := (F2.out.kept hk (fun x => x)).alloc (.cells #[.int .u8 2, .int .u8 3] 30)
            have P3 := Lib.hid ((P2.out.old hk).old ((Kept.refl Nothing w3).alloc (.cells #[.int .u8 2, .int .u8 3] 30)))
            have g3 := Blk.fresh w3 30 #[.int .u8 2, .int .u8 3]
            have G3 := Lib.hid g3
            have f30 := F2.out.kept hk (fun x => x)
            have l30 := f30.lt
            obtain ⟨⟨b0, b1, b2, b3, b4⟩, -⟩ := full5 f30
            have HC2 := Lib.hid (CC2.out _ _ (HR.out.kept K3.out) P3.out)
            clear hk hb HC1 ES ET EB CC2 f3 g3 f30 hs1 hG hS a0 a1 a2 a3 a4 K2 F2 P2
            go_wp2_with fail
            refine HC2.out.mono ?_
            rintro e w4 ⟨d4, rfl, hb4, hk4⟩
            obtain ⟨A4, c4, rfl, _, _⟩ := hb4.form
            have K5 := Lib.hid ((K3.out.trans hk4).alloc (.cells #[.int .u8 2, .int .u8 3] 30))
            have g4 := G3.out.kept hk4 (fun x => x)
            have l4 := g4.lt
            obtain ⟨⟨d0, d1⟩, -⟩ := full2 g4
            have HT := Lib.hid (op_tells _ (HR.out.kept K5.out))
            clear hk4 hb4 HC2 G3 K3 g4
            go_wp2_with (go_at_call 13; refine HT.out.mono ?_; rintro e w5 ⟨rfl, hk⟩)
            go_ret
            exact ⟨rfl, K5.out.trans hk⟩
        · as_aux_lemma =>
            have p1 : ((id : Int) == 0) = true := by simp; omega
            have q1 : ((hold : Int) == 1) = false := by simp; omega
            have q2 : ((hold : Int) == 2) = true := by simp; omega
            rw [if_pos (by simp [hG])] at hs1
            obtain rfl : 3 = s1 := hs1.symm
            have K3 := Lib.hid ((K2.out.trans hk).alloc (.cells #[.int .u8 2, .int .u8 3] 30))
            have f3 := (F2.out.kept hk (fun x => x)).alloc (.cells #[.int .u8 2, .int .u8 3] 30)
            have P3 := Lib.hid ((P2.out.old hk).old ((Kept.refl Nothing w3).alloc (.cells #[.int .u8 2, .int .u8 3] 30)))
            have g3 := Blk.fresh w3 30 #[.int .u8 2, .int .u8 3]
            have G3 := Lib.hid g3
            have f30 := F2.out.kept hk (fun x => x)
            have l30 := f30.lt
            obtain ⟨⟨b0, b1, b2, b3, b4⟩, -⟩ := full5 f30
            have HC2 := Lib.hid (CC2.out _ _ (HR.out.kept K3.out) P3.out)
            clear hk hb HC1 ES ET EB CC2 f3 g3 f30 hs1 hG hS a0 a1 a2 a3 a4 K2 F2 P2
            go_wp2_with fail
            refine HC2.out.mono ?_
            rintro e w4 ⟨d4, rfl, hb4, hk4⟩
            obtain ⟨A4, c4, rfl, _, _⟩ := hb4.form
            have K5 := Lib.hid ((K3.out.trans hk4).alloc (.cells #[.int .u8 2, .int .u8 3] 30))
            have g4 := G3.out.kept hk4 (fun x => x)
            have l4 := g4.lt
            obtain ⟨⟨d0, d1⟩, -⟩ := full2 g4
            have HT := Lib.hid (op_tells _ (HR.out.kept K5.out))
            clear hk4 hb4 HC2 G3 K3 g4
            go_wp2_with (go_at_call 13; refine HT.out.mono ?_; rintro e w5 ⟨rfl, hk⟩)
            go_ret
            exact ⟨rfl, K5.out.trans hk⟩
        · as_aux_lemma =>
            have p1 : ((id : Int) == 0) = true := by simp; omega
            have q1 : ((hold : Int) == 1) = false := by simp; omega
            have q2 : ((hold : Int) == 2) = false := by simp; omega
            rw [if_pos (by simp [hG])] at hs1
            obtain rfl : 3 = s1 := hs1.symm
            have K3 := Lib.hid ((K2.out.trans hk).alloc (.cells #[.int .u8 2, .int .u8 3] 30))
            have f3 := (F2.out.kept hk (fun x => x)).alloc (.cells #[.int .u8 2, .int .u8 3] 30)
            have P3 := Lib.hid ((P2.out.old hk).old ((Kept.refl Nothing w3).alloc (.cells #[.int .u8 2, .int .u8 3] 30)))
            have g3 := Blk.fresh w3 30 #[.int .u8 2, .int .u8 3]
            have G3 := Lib.hid g3
            have f30 := F2.out.kept hk (fun x => x)
            have l30 := f30.lt
            obtain ⟨⟨b0, b1, b2, b3, b4⟩, -⟩ := full5 f30
            have HC2 := Lib.hid (CC2.out _ _ (HR.out.kept K3.out) P3.out)
            clear hk hb HC1 ES ET EB CC2 f3 g3 f30 hs1 hG hS a0 a1 a2 a3 a4 K2 F2 P2
            go_wp2_with fail
            refine HC2.out.mono ?_
            rintro e w4 ⟨d4, rfl, hb4, hk4⟩
            obtain ⟨A4, c4, rfl, _, _⟩ := hb4.form
            have K5 := Lib.hid ((K3.out.trans hk4).alloc (.cells #[.int .u8 2, .int .u8 3] 30))
            have g4 := G3.out.kept hk4 (fun x => x)
            have l4 := g4.lt
            obtain ⟨⟨d0, d1⟩, -⟩ := full2 g4
            have HT := Lib.hid (op_tells _ (HR.out.kept K5.out))
            clear hk4 hb4 HC2 G3 K3 g4
            go_wp2_with (go_at_call 13; refine HT.out.mono ?_; rintro e w5 ⟨rfl, hk⟩)
            go_ret
            exact ⟨rfl, K5.out.trans hk⟩
      · rcases (show hold = 1 ∨ hold = 2 ∨ (hold ≠ 1 ∧ hold ≠ 2) by omega) with hS | hS | hS
        · as_aux_lemma =>
            have p1 : ((id : Int) == 0) = false := by simp; omega
            have p2 : decide ((3758096384 : Int) ≤ (id : Int)) = true := by simp; omega
            have q1 : ((hold : Int) == 1) = true := by simp; omega
            rw [if_pos (by simp [hG.2])] at hs1
            obtain rfl : 3 = s1 := hs1.symm
            have K3 := Lib.hid ((K2.out.trans hk).alloc (.cells #[.int .u8 2, .int .u8 3] 30))
            have f3 := (F2.out.kept hk (fun x => x)).alloc (.cells #[.int .u8 2, .int .u8 3] 30)
            have P3 := Lib.hid ((P2.out.old hk).old ((Kept.refl Nothing w3).alloc (.cells #[.int .u8 2, .int .u8 3] 30)))
            have g3 := Blk.fresh w3 30 #[.int .u8 2, .int .u8 3]
            have G3 := Lib.hid g3
            have f30 := F2.out.kept hk (fun x => x)
            have l30 := f30.lt
            obtain ⟨⟨b0, b1, b2, b3, b4⟩, -⟩ := full5 f30
            have HC2 := Lib.hid (CC2.out _ _ (HR.out.kept K3.out) P3.out)
            clear hk hb HC1 ES ET EB CC2 f3 g3 f30 hs1 hG hS a0 a1 a2 a3 a4 K2 F2 P2
            go_wp2_with fail
            refine HC2.out.mono ?_
            rintro e w4 ⟨d4, rfl, hb4, hk4⟩
            obtain ⟨A4, c4, rfl, _, _⟩ := hb4.form
            have K5 := Lib.hid ((K3.out.trans hk4).alloc (.cells #[.int .u8 2, .int .u8 3] 30))
            have g4 := G3.out.kept hk4 (fun x => x)
            have l4 := g4.lt
            obtain ⟨⟨d0, d1⟩, -⟩ := full2 g4
            have HT := Lib.hid (op_tells _ (HR.out.kept K5.out))
            clear hk4 hb4 HC2 G3 K3 g4
            go_wp2_with (go_at_call 13; refine HT.out.mono ?_; rintro e w5 ⟨rfl, hk⟩)
            go_ret
            exact ⟨rfl, K5.out.trans hk⟩
        · as_aux_lemma =>
            have p1 : ((id : Int) == 0) = false := by simp; omega
            have p2 : decide ((3758096384 : Int) ≤ (id : Int)) = true := by simp; omega
            have q1 : ((hold : Int) == 1) = false := by simp; omega
            have q2 : ((hold : Int) == 2) = true := by simp; omega
            rw [if_pos (by simp [hG.2])] at hs1
            obtain rfl : 3 = s1 := hs1.symm
            have K3 := Lib.hid ((K2.out.trans hk).alloc (.cells #[.int .u8 2, .int .u8 3] 30))
            have f3 := (F2.out.kept hk (fun x => x)).alloc (.cells #[.int .u8 2, .int .u8 3] 30)
            have P3 := Lib.hid ((P2.out.old hk).old ((Kept.refl Nothing w3).alloc (.cells #[.int .u8 2, .int .u8 3] 30)))
            have g3 := Blk.fresh w3 30 #[.int .u8 2, .int .u8 3]
            have G3 := Lib.hid g3
            have f30 := F2.out.kept hk (fun x => x)
            have l30 := f30.lt
            obtain ⟨⟨b0, b1, b2, b3, b4⟩, -⟩ := full5 f30
            have HC2 := Lib.hid (CC2.out _ _ (HR.out.kept K3.out) P3.out)
            clear hk hb HC1 ES ET EB CC2 f3 g3 f30 hs1 hG hS a0 a1 a2 a3 a4 K2 F2 P2
            go_wp2_with fail
            refine HC2.out.mono ?_
            rintro e w4 ⟨d4, rfl, hb4, hk4⟩
            obtain ⟨A4, c4, rfl, _, _⟩ := hb4.form
            have K5 := Lib.hid ((K3.out.trans hk4).alloc (.cells #[.int .u8 2, .int .u8 3] 30))
            have g4 := G3.out.kept hk4 (fun x => x)
            have l4 := g4.lt
            obtain ⟨⟨d0, d1⟩, -⟩ := full2 g4
            have HT := Lib.hid (op_tells _ (HR.out.kept K5.out))
            clear hk4 hb4 HC2 G3 K3 g4
            go_wp2_with (go_at_call 13; refine HT.out.mono ?_; rintro e w5 ⟨rfl, hk⟩)
            go_ret
            exact ⟨rfl, K5.out.trans hk⟩
        · as_aux_lemma =>
            have p1 : ((id : Int) == 0) = false := by simp; omega
            have p2 : decide ((3758096384 : Int) ≤ (id : Int)) = true := by simp; omega
            have q1 : ((hold : Int) == 1) = false := by simp; omega
            have q2 : ((hold : Int) == 2) = false := by simp; omega
            rw [if_pos (by simp [hG.2])] at hs1
            obtain rfl : 3 = s1 := hs1.symm
            have K3 := Lib.hid ((K2.out.trans hk).alloc (.cells #[.int .u8 2, .int .u8 3] 30))
            have f3 := (F2.out.kept hk (fun x => x)).alloc (.cells #[.int .u8 2, .int .u8 3] 30)
            have P3 := Lib.hid ((P2.out.old hk).old ((Kept.refl Nothing w3).alloc (.cells #[.int .u8 2, .int .u8 3] 30)))
            have g3 := Blk.fresh w3 30 #[.int .u8 2, .int .u8 3]
            have G3 := Lib.hid g3
            have f30 := F2.out.kept hk (fun x => x)
            have l30 := f30.lt
            obtain ⟨⟨b0, b1, b2, b3, b4⟩, -⟩ := full5 f30
            have HC2 := Lib.hid (CC2.out _ _ (HR.out.kept K3.out) P3.out)
            clear hk hb HC1 ES ET EB CC2 f3 g3 f30 hs1 hG hS a0 a1 a2 a3 a4 K2 F2 P2
            go_wp2_with fail
            refine HC2.out.mono ?_
            rintro e w4 ⟨d4, rfl, hb4, hk4⟩
            obtain ⟨A4, c4, rfl, _, _⟩ := hb4.form
            have K5 := Lib.hid ((K3.out.trans hk4).alloc (.cells #[.int .u8 2, .int .u8 3] 30))
            have g4 := G3.out.kept hk4 (fun x => x)
            have l4 := g4.lt
            obtain ⟨⟨d0, d1⟩, -⟩ := full2 g4
            have HT := Lib.hid (op_tells _ (HR.out.kept K5.out))
            clear hk4 hb4 HC2 G3 K3 g4
            go_wp2_with (go_at_call 13; refine HT.out.mono ?_; rintro e w5 ⟨rfl, hk⟩)
            go_ret
            exact ⟨rfl, K5.out.trans hk⟩
      · rcases (show hold = 1 ∨ hold = 2 ∨ (hold ≠ 1 ∧ hold ≠ 2) by omega) with hS | hS | hS
        · as_aux_lemma =>
            have p1 : ((id : Int) == 0) = false := by simp; omega
            have p2 : decide ((3758096384 : Int) ≤ (id : Int)) = false := by simp; omega
            have q1 : ((hold : Int) == 1) = true := by simp; omega
            rw [if_neg (by simp [hG.1]; omega), if_pos (by simp [hS])] at hs1
            obtain rfl : 6 = s1 := hs1.symm
            have K3 := Lib.hid ((K2.out.trans hk).alloc (.cells #[.int .u8 2, .int .u8 6] 30))
            have f3 := (F2.out.kept hk (fun x => x)).alloc (.cells #[.int .u8 2, .int .u8 6] 30)
            have P3 := Lib.hid ((P2.out.old hk).old ((Kept.refl Nothing w3).alloc (.cells #[.int .u8 2, .int .u8 6] 30)))
            have g3 := Blk.fresh w3 30 #[.int .u8 2, .int .u8 6]
            have G3 := Lib.hid g3
            have f30 := F2.out.kept hk (fun x => x)
            have l30 := f30.lt
            obtain ⟨⟨b0, b1, b2, b3, b4⟩, -⟩ := full5 f30
            have HC2 := Lib.hid (CC2.out _ _ (HR.out.kept K3.out) P3.out)
            clear hk hb HC1 ES ET EB CC2 f3 g3 f30 hs1 hG hS a0 a1 a2 a3 a4 K2 F2 P2
            go_wp2_with fail
            refine HC2.out.mono ?_
            rintro e w4 ⟨d4, rfl, hb4, hk4⟩
            obtain ⟨A4, c4, rfl, _, _⟩ := hb4.form
            have K5 := Lib.hid ((K3.out.trans hk4).alloc (.cells #[.int .u8 2, .int .u8 3] 30))
            have g4 := G3.out.kept hk4 (fun x => x)
            have l4 := g4.lt
            obtain ⟨⟨d0, d1⟩, -⟩ := full2 g4
            have HT := Lib.hid (op_tells _ (HR.out.kept K5.out))
            clear hk4 hb4 HC2 G3 K3 g4
            go_wp2_with (go_at_call 13; refine HT.out.mono ?_; rintro e w5 ⟨rfl, hk⟩)
            go_ret
            exact ⟨rfl, K5.out.trans hk⟩
        · as_aux_lemma =>
            have p1 : ((id : Int) == 0) = false := by simp; omega
            have p2 : decide ((3758096384 : Int) ≤ (id : Int)) = false := by simp; omega
            have q1 : ((hold : Int) == 1) = false := by simp; omega
            have q2 : ((hold : Int) == 2) = true := by simp; omega
            rw [if_neg (by simp [hG.1]; omega), if_pos (by simp [hS])] at hs1
            obtain rfl : 6 = s1 := hs1.symm
            have K3 := Lib.hid ((K2.out.trans hk).alloc (.cells #[.int .u8 2, .int .u8 6] 30))
            have f3 := (F2.out.kept hk (fun x => x)).alloc (.cells #[.int .u8 2, .int .u8 6] 30)
            have P3 := Lib.hid ((P2.out.old hk).old ((Kept.refl Nothing w3).alloc (.cells #[.int .u8 2, .int .u8 6] 30)))
            have g3 := Blk.fresh w3 30 #[.int .u8 2, .int .u8 6]
            have G3 := Lib.hid g3
            have f30 := F2.out.kept hk (fun x => x)
            have l30 := f30.lt
            obtain ⟨⟨b0, b1, b2, b3, b4⟩, -⟩ := full5 f30
            have HC2 := Lib.hid (CC2.out _ _ (HR.out.kept K3.out) P3.out)
            clear hk hb HC1 ES ET EB CC2 f3 g3 f30 hs1 hG hS a0 a1 a2 a3 a4 K2 F2 P2
            go_wp2_with fail
            refine HC2.out.mono ?_
            rintro e w4 ⟨d4, rfl, hb4, hk4⟩
            obtain ⟨A4, c4, rfl, _, _⟩ := hb4.form
            have K5 := Lib.hid ((K3.out.trans hk4).alloc (.cells #[.int .u8 2, .int .u8 3] 30))
            have g4 := G3.out.kept hk4 (fun x => x)
            have l4 := g4.lt
            obtain ⟨⟨d0, d1⟩, -⟩ := full2 g4
            have HT := Lib.hid (op_tells _ (HR.out.kept K5.out))
            clear hk4 hb4 HC2 G3 K3 g4
            go_wp2_with (go_at_call 13; refine HT.out.mono ?_; rintro e w5 ⟨rfl, hk⟩)
            go_ret
            exact ⟨rfl, K5.out.trans hk⟩
        · as_aux_lemma =>
            have p1 : ((id : Int) == 0) = false := by simp; omega
            have p2 : decide ((3758096384 : Int) ≤ (id : Int)) = false := by simp; omega
            have q1 : ((hold : Int) == 1) = false := by simp; omega
            have q2 : ((hold : Int) == 2) = false := by simp; omega
            rw [if_neg (by simp [hG.1]; omega), if_neg (by simp [hS.1, hS.2])] at hs1
            obtain rfl : 0 = s1 := hs1.symm
            have K3 := Lib.hid ((K2.out.trans hk).alloc (.cells #[.int .u8 0, .int .u8 0] 30))
            have f3 := (F2.out.kept hk (fun x => x)).alloc (.cells #[.int .u8 0, .int .u8 0] 30)
            have P3 := Lib.hid ((P2.out.old hk).old ((Kept.refl Nothing w3).alloc (.cells #[.int .u8 0, .int .u8 0] 30)))
            have g3 := Blk.fresh w3 30 #[.int .u8 0, .int .u8 0]
            have G3 := Lib.hid g3
            have f30 := F2.out.kept hk (fun x => x)
            have l30 := f30.lt
            obtain ⟨⟨b0, b1, b2, b3, b4⟩, -⟩ := full5 f30
            have HC2 := Lib.hid (CC2.out _ _ (HR.out.kept K3.out) P3.out)
            clear hk hb HC1 ES ET EB CC2 f3 g3 f30 hs1 hG hS a0 a1 a2 a3 a4 K2 F2 P2
            go_wp2_with fail
            refine HC2.out.mono ?_
            rintro e w4 ⟨d4, rfl, hb4, hk4⟩
            obtain ⟨A4, c4, rfl, _, _⟩ := hb4.form
            have K5 := Lib.hid ((K3.out.trans hk4).alloc (.cells #[.int .u8 2, .int .u8 3] 30))
            have g4 := G3.out.kept hk4 (fun x => x)
            have l4 := g4.lt
            obtain ⟨⟨d0, d1⟩, -⟩ := full2 g4
            have HT := Lib.hid (op_tells _ (HR.out.kept K5.out))
            clear hk4 hb4 HC2 G3 K3 g4
            go_wp2_with (go_at_call 13; refine HT.out.mono ?_; rintro e w5 ⟨rfl, hk⟩)
            go_ret
            exact ⟨rfl, K5.out.trans hk⟩
    · obtain rfl : 2 = s1 := (EB.out (.inr no)).symm
      have noi : ((n : Int) != (other : Int)) = true := by simp; omega
      have K3 := Lib.hid ((K2.out.trans hk).alloc (.cells #[.int .u8 2, .int .u8 2] 30))
      have HT := Lib.hid (op_tells _ (HR.out.kept K3.out))
      clear hk hb HC1 ES ET EB CC2 n0 no
      go_wp2_with (go_at_call 13; refine HT.out.mono ?_; rintro e w4 ⟨rfl, hk⟩)
      go_ret
      exact ⟨rfl, K3.out.trans hk⟩
end Go.Proofs.YtgpphgnjhinklaaDoor
