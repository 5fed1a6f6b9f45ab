/-
  The law PrefixBack.
-/
import Derived.Test.YtahifknebccpbaaDoorPl
import Derived.Test.YtahifknebccpbaaDoorLaw
namespace Go.Proofs.YtahifknebccpbaaDoor
open Go.RowKit

/-- Bits as the law brings them. -/
def bm (b : Int) : Nat := (b % 18446744073709551616 % 33).toNat
theorem bm_le (b : Int) : bm b ≤ 32 := by unfold bm; omega
theorem bm_eq (b : Int) : wrap64 ((IntKind.u64.wrap b).tmod 33) = ((bm b : Nat) : Int) := by
  have h0 : IntKind.u64.wrap b = b % 18446744073709551616 := by simp [IntKind.wrap, IntKind.bits, IntKind.signed]
  have h1 : (b % 18446744073709551616).tmod 33 = b % 18446744073709551616 % 33 := Int.tmod_eq_emod_of_nonneg (by omega)
  rw [h0, h1]
  unfold bm
  unfold wrap64
  omega
def brt (l : List (Nat × Int)) : List (Nat × Nat) := l.map fun p => (low p.1 (bm p.2), bm p.2)
theorem brt_snoc (l : List (Nat × Int)) (x : Nat) (b : Int) : pcs (brt (l ++ [(x, b)])) = pcs (brt l) ++ [.int .u32 (low x (bm b) : Nat), .int .i64 (bm b : Nat)] := by
  unfold brt
  rw [List.map_append, pcs_append]
  rfl

theorem mod_le (c n : Nat) : 0 ≤ (c : Int) % ((n : Int) + 1) ∧ (c : Int) % ((n : Int) + 1) ≤ (n : Int) := by
  have h1 := Int.emod_nonneg (c : Int) (show ((n : Int) + 1) ≠ 0 by omega)
  have h2 := Int.emod_lt_of_pos (c : Int) (show 0 < ((n : Int) + 1) by omega)
  omega
theorem slice_pf (A : Option Addr) (n c k : Nat) (hk : k ≤ c) (w : World) :
    (Instr.slice 58 (.slice A n c) none (some (.int .i64 (k : Int))) none).run Tryd.prog w = .ok (.slice A k c) w := by
  have hz := Tryd.sizeOf25
  have he : Tryd.prog.elem 58 = 25 := by kernel_rfl
  rw [run_slice_h w 58 A n c (by kernel_rfl) .i64 k (by omega) (by omega), he, hz]
  cases A <;> simp [sliced, Addr.add]
theorem Pfs.pre {w : World} {A : Option Addr} {n c : Nat} {l : List (Nat × Int)} (h : Pfs w (.slice A n c) l) {m : Nat} (hm : m ≤ n) : Pfs w (.slice A m c) (l.take m) := by
  obtain ⟨A', c', hv, hc, hx, hp, hr⟩ := h
  injection hv with h1 h2 h3
  subst h1 h2 h3
  have hl : (l.take m).length = m := by rw [List.length_take]; omega
  refine ⟨A, c, by rw [hl], by omega, hx, fun p hp' => hp p (List.mem_of_mem_take hp'), fun h0 => ?_⟩
  obtain ⟨b, o, hA, hi⟩ := hr (by omega)
  refine ⟨b, o, hA, fun i hi' => ?_⟩
  have := hi i (by omega)
  rw [List.getElem_take]
  exact this
theorem ups_take (l : List (Nat × Nat)) (j : Nat) : ups (l.take j) = (ups l).take j := by unfold ups; rw [List.map_take]
theorem nats_take (l : List (Nat × Nat)) (j : Nat) : nats ((ups l).take j) = l.take j := by rw [← ups_take, nats_ups]

set_option maxRecDepth 100000 in
set_option maxHeartbeats 4000000 in
theorem back_law (v0 v1 : Value) (l : List (Nat × Int)) (lb : List UInt8) (c : Nat) (hc : c < 65536) (w : World) (hr : Rdy w) (h0 : Pfs w v0 l) (hl0 : ∀ p ∈ l, InR p.2) (h1 : By w v1 lb) :
    Calls Tryd.prog 6 #[v0, v1, .int .u16 (c : Int)] w fun e w' => e = .returned (.bool true) ∧ Kept Nothing w w' := by
  obtain ⟨A0, c0, rfl, hc0, hm0, hx0, hcells⟩ := h0
  obtain ⟨A1, c1, rfl, hc1, hm1⟩ := h1.form
  unfold maxLen at hm0 hm1
  have he := eq_pfx
  have hg := guard_pfx
  obtain ⟨i0, hi, hz0, hz1, hz2⟩ := info_parts pfx_info
  go_enter Tryd.func6, Tryd.ntmps6
  go_wp2
  go_loopw [7, 28] (fun ov i wr => ∃ k : Nat, k ≤ l.length ∧ k ≤ 40 ∧ i = .int .i64 k ∧ wr.ownsRow w.heap.size 25 2 ov k (pcs (brt (l.take k))) ∧ Kept Nothing w wr) (fun _ i _ => l.length - (intOf i).toNat)
  case atStart => exact ⟨0, by omega, by omega, rfl, World.ownsRow_nil _ _ _ _, Kept.refl _ w⟩
  case round =>
    obtain ⟨k, hk, hk40, rfl, ho, hkw⟩ := hrel
    by_cases hgo : k < l.length ∧ k < 40
    · obtain ⟨hlt, h40⟩ := hgo
      have h41 : ((k : Int) == 40) = false := by simp; omega
      obtain ⟨b, o, rfl, hcell⟩ := hcells (by omega)
      have hck := hcell k hlt
      have c2 := hkw.cell_some hck.1 (fun x => x)
      have c3 := hkw.cell_some hck.2 (fun x => x)
      have hxk := hx0 l[k] (List.getElem_mem _)
      have hbk := hl0 l[k] (List.getElem_mem _)
      have HTK := Lib.hid (List.take_succ_eq_append_getElem hlt)
      generalize hP : l[k] = P at c2 c3 hxk HTK hbk
      obtain ⟨x, bb⟩ := P
      simp only at c2 c3 hxk hbk
      unfold InR at hbk
      have HO := Lib.hid ho
      clear hcell hck hcells hx0 hl0 ho hP
      have hn := bm_le bb
      have HW := Lib.hid (bm_eq bb)
      have HOF := Lib.hid (of_in x (bm bb) hxk hn)
      have hq := low_lt x (bm bb) hxk
      have hmy : may (low x (bm bb)) ((bm bb : Nat) : Int) = true := may_of hn (low_low x (bm bb)).symm
      have HMY := may_any (low x (bm bb)) ((bm bb : Nat) : Int) hq
      rw [hmy] at HMY
      have HTX := text_any (low x (bm bb)) ((bm bb : Nat) : Int) hq
      have HPA := parse_any (text (low x (bm bb)) ((bm bb : Nat) : Int)) (by rw [text_eq]; unfold textD; rw [if_pos hmy, ipTextD_eq]; have := dd_len (oct (low x (bm bb)) 0); have := dd_len (oct (low x (bm bb)) 1); have := dd_len (oct (low x (bm bb)) 2); have := dd_len (oct (low x (bm bb)) 3); have := dd_len (bm bb); simp; omega)
      rw [text_eq, parse_text _ _ hq hn hmy, ← text_eq] at HPA
      unfold ptup at HPA
      simp only at HPA
      have HSN := Lib.hid (brt_snoc (l.take k) x bb)
      rw [← HTK.out] at HSN
      have HMY := Lib.hid HMY
      have HTX := Lib.hid HTX
      have HPA := Lib.hid HPA
      generalize text (low x (bm bb)) ((bm bb : Nat) : Int) = tx at HTX HPA
      generalize low x (bm bb) = y at HOF HMY HTX HPA HSN hq
      generalize bm bb = n at HW HOF HMY HTX HPA HSN hn
      clear hmy HTK
      go_wp2_with (first
        | (go_at_call 24; rw [HW.out]; refine (HOF.out _).mono ?_; rintro e w1 ⟨rfl, hk1⟩; have k1 := (((Kept.refl Nothing wr).alloc (.cells #[.int .u32 (x : Nat), .int .i64 bb] 25)).trans hk1).alloc (.cells #[.int .u32 (y : Nat), .int .i64 (n : Nat)] 25); have B1 := Blk.fresh w1 25 #[.int .u32 (y : Nat), .int .i64 (n : Nat)])
        | (go_at_call 13; refine (HTX.out _ (hr.kept (hkw.trans k1))).mono ?_; rintro e w2 ⟨rfl, hk2⟩)
        | (go_at_call 31; refine (HPA.out _).mono ?_; rintro e w3 ⟨rfl, hk3⟩; have k3 := ((k1.trans hk2).trans hk3).alloc (.cells #[.int .u32 (y : Nat), .int .i64 (n : Nat)] 25); have B3 := ((B1.kept hk2 (fun x => x)).kept hk3 (fun x => x)); have X3 := Blk.fresh w3 25 #[.int .u32 (y : Nat), .int .i64 (n : Nat)]; have p0 : w3.cell? ⟨w1.heap.size, 0, none⟩ = some (.int .u32 (y : Nat)) := B3.cell 0; have p1 : w3.cell? ⟨w1.heap.size, 1, none⟩ = some (.int .i64 (n : Nat)) := B3.cell 1; have hl3 : w1.heap.size < w3.heap.size := B3.lt; have HB3 := Lib.hid B3; have HX3 := Lib.hid X3; clear B1 B3 X3)
        | (go_at_call 11; refine (HMY.out _).mono ?_; rintro e w4 ⟨rfl, hk4⟩; have k4 := k3.trans hk4; have B4 := (HB3.out.alloc (.cells #[.int .u32 (y : Nat), .int .i64 (n : Nat)] 25)).kept hk4 (fun x => x); have X4 := HX3.out.kept hk4 (fun x => x); have q0 : w4.cell? ⟨w1.heap.size, 0, none⟩ = some (.int .u32 (y : Nat)) := B4.cell 0; have q1 : w4.cell? ⟨w1.heap.size, 1, none⟩ = some (.int .i64 (n : Nat)) := B4.cell 1; have r0 : w4.cell? ⟨w3.heap.size, 0, none⟩ = some (.int .u32 (y : Nat)) := X4.cell 0; have r1 : w4.cell? ⟨w3.heap.size, 1, none⟩ = some (.int .i64 (n : Nat)) := X4.cell 1; clear B4 X4)
        | (at_builtin; refine wpList_app _ rfl _ _ 58 rfl w.heap.size 25 i0 _ 2 16 Tryd.underlying58 hi hz0 hz1 hz2 rfl (by decide) u7 k _ rfl ((ow_kept HO.out k4 (fun _ _ x => x)).alloc _) (some ⟨w4.heap.size, 0, none⟩) 1 1 [.int .u32 (y : Nat), .int .i64 (n : Nat)] rfl (src_new w4 _ _ 2 1 rfl (by simp [Value.oneCell'])) (by simp [maxLen]; omega) (by omega) (by have := (hkw.trans k4).size; simp; omega) ?_; intro v6 w6 ho6 hg6 hat6))
      go_roundw
      case rel =>
        refine ⟨k + 1, by omega, by omega, by go_num, ?_, ((hkw.trans k4).alloc _).grown hg6 (fun j hj hlt => by have := (HO.out.lt j hj).1; omega)⟩
        rw [HSN.out]
        exact ho6
      case measure => simp [intOf]; omega
    · obtain ⟨A7, c7, rfl, hc7, hm7⟩ := ow_form ho
      have hqx : ∀ p ∈ brt (l.take k), p.1 < 4294967296 := fun p hp => by
        obtain ⟨q, hq, rfl⟩ := List.mem_map.1 hp
        exact low_lt _ _ (hx0 q (List.mem_of_mem_take hq))
      have hql : (brt (l.take k)).length = k := by unfold brt; rw [List.length_map, List.length_take]; omega
      have hqm : mayL (ups (brt (l.take k))) = true := by
        unfold mayL ups brt
        rw [List.map_map, List.all_map, List.all_eq_true]
        intro q _
        exact may_of (bm_le _) (low_low _ _).symm
      have HPF : Pfs wr (.slice A7 k c7) (ups (brt (l.take k))) := Pfs.of_own (by rw [hql]; exact ho) hqx
      generalize brt (l.take k) = qs at hqx hql hqm HPF
      have hpl : (ups qs).length = k := by rw [ups_len]; exact hql
      have hqx2 : ∀ p ∈ ups qs, p.1 < 4294967296 := HPF.choose_spec.choose_spec.2.2.2.1
      have HBP := Lib.hid (show bytesP (ups qs) = (bytesL (ups qs), 0) by unfold bytesP; rw [if_pos hqm])
      have HRB := Lib.hid (show readL (bytesL (ups qs)) = (qs, 0) by rw [read_bytes _ hqm hqx2, nats_ups])
      have hbl : (bytesL (ups qs)).length ≤ 200 := by have := bytesL_len (ups qs); omega
      have HPF := Lib.hid HPF
      have HCUT := Lib.hid (read_cut (ups qs) hqm hqx2)
      have hkk : c % ((bytesL (ups qs)).length + 1) ≤ (bytesL (ups qs)).length := Nat.lt_succ_iff.1 (Nat.mod_lt _ (by omega))
      have hmod := mod_le c (bytesL (ups qs)).length
      have hcut : (∃ j, j ≤ k ∧ Hid (readL ((bytesL (ups qs)).take (c % ((bytesL (ups qs)).length + 1))) = (qs.take j, 0)) ∧ (∀ p ∈ qs.take j, p.1 < 4294967296) ∧ (qs.take j).length = j) ∨ Hid (readL ((bytesL (ups qs)).take (c % ((bytesL (ups qs)).length + 1))) = ([], 4)) := by
        rcases HCUT.out (c % ((bytesL (ups qs)).length + 1)) with ⟨j, hj, hr'⟩ | hr'
        · refine .inl ⟨j, by omega, Lib.hid (by rw [hr', nats_take]), fun p hp => hqx p (List.mem_of_mem_take hp), by rw [List.length_take]; omega⟩
        · exact .inr (Lib.hid hr')
      have hlm : (lb.take (min (lb.length : Int) 200).toNat).length = (min (lb.length : Int) 200).toNat := by rw [List.length_take]; omega
      have hrd : (∃ ns, Hid (readL (lb.take (min (lb.length : Int) 200).toNat) = (ns, 0)) ∧ (∀ p ∈ ns, p.1 < 4294967296) ∧ (ns.length ≤ 200 ∧ (bytesL (ups ns)).length ≤ 200) ∧ Hid (bytesP (ups ns) = (bytesL (ups ns), 0)) ∧ Hid (readL (bytesL (ups ns)) = (ns, 0)) ∧ Hid ((((bytesL (ups ns)).length : Int) == min (lb.length : Int) 200) = true)) ∨ Hid (readL (lb.take (min (lb.length : Int) 200).toNat) = ([], 4)) ∨ Hid (readL (lb.take (min (lb.length : Int) 200).toNat) = ([], 5)) := by
        rcases hq : readL (lb.take (min (lb.length : Int) 200).toNat) with ⟨ns, e⟩
        have hnil := readP_nil (lb.take (min (lb.length : Int) 200).toNat).length (lb.take (min (lb.length : Int) 200).toNat)
        have herr := read_err (lb.take (min (lb.length : Int) 200).toNat)
        have hq' := hq
        unfold readL at hq'
        rw [hq'] at hnil
        rw [hq] at herr
        simp only at hnil herr
        rcases herr with rfl | rfl | rfl
        · obtain ⟨i1, i2, i3, i4⟩ := read_inv _ ns hq
          refine .inl ⟨ns, Lib.hid rfl, fun p hp => ?_, ⟨by omega, by omega⟩, Lib.hid (by unfold bytesP; rw [if_pos i1]), Lib.hid (by rw [read_bytes _ i1 i2, nats_ups]), Lib.hid (by rw [i3, hlm]; simp; omega)⟩
          exact i2 (p.1, (p.2 : Int)) (List.mem_map.2 ⟨p, hp, rfl⟩)
        · have := hnil (by decide); subst this; exact .inr (.inl (Lib.hid rfl))
        · have := hnil (by decide); subst this; exact .inr (.inr (Lib.hid rfl))
      have HB1 := Lib.hid (h1.pre (m := (min (lb.length : Int) 200).toNat) (by omega))
      have HT := Lib.hid tells_any
      clear hqm HCUT
      by_cases h40 : k < l.length
      · obtain rfl : k = 40 := Nat.le_antisymm hk40 (Nat.le_of_not_lt fun h => hgo ⟨h40, h⟩)
        obtain ⟨b, o, rfl, hcell⟩ := hcells (by omega)
        have hck := hcell 40 h40
        have c2 := hkw.cell_some hck.1 (fun x => x)
        have c3 := hkw.cell_some hck.2 (fun x => x)
        generalize hP : l[40] = P at c2 c3
        obtain ⟨x, bb⟩ := P
        simp only at c2 c3
        have kW := (Kept.refl Nothing wr).alloc (.cells #[.int .u32 (x : Nat), .int .i64 bb] 25)
        have h41 : (40 : Int) < (l.length : Int) := by omega
        clear hcell hck hcells hx0 hl0 ho hP
        rcases hcut with ⟨j, hj, HRC, hpx, hpj⟩ | HRC
        · have hsp := slice_pf A7 40 c7 j (by omega)
          have hjk : ¬ ((40 : Nat) : Int) < (j : Int) := by omega
          rcases hrd with ⟨ns, HRN, hnx, hnl, HBN, HRO, HLN⟩ | HRN | HRN
          · have HLN := HLN.out
            go_wp2_with (first
              | (go_at_call 36; (with_reducible refine (bytes_any _ (ups qs) (by omega) _ (HPF.out.old kW)).mono ?_); rintro e w1 ⟨bv, he, hob, hk1⟩; rw [HBP.out] at he hob; subst he; have k1 := kW.trans hk1; obtain ⟨Ab, cb, rfl, hcb, hmb⟩ := ow_form hob; have HBY := Lib.hid (Bs.of_own hob).by; have hkc : (c : Int) % (((bytesL (ups qs)).length : Int) + 1) ≤ (cb : Int) := Int.le_trans hmod.2 (Int.ofNat_le.2 hcb); clear hob)
              | (go_at_call 33; (with_reducible refine (read_any _ (bytesL (ups qs)) (by omega) _ HBY.out).mono ?_); rintro e w2 ⟨rv, he, hor, hk2⟩; rw [HRB.out] at he hor; subst he; have k2 := k1.trans hk2; have HPR := Pfs.of_own hor hqx; obtain ⟨Ar, cr, rfl, hcr, hmr⟩ := ow_form hor; rw [hql] at HPR; have HPR := Lib.hid HPR; clear hor)
              | (go_at_call 38; (with_reducible refine (equal_same _ _ (ups qs) _ (by omega) HPR.out (HPF.out.old k2)).mono ?_); rintro e w3 ⟨rfl, hk3⟩; have k3 := k2.trans hk3)
              | (go_at_call 33; (with_reducible refine (read_any _ ((bytesL (ups qs)).take (c % ((bytesL (ups qs)).length + 1))) (by rw [List.length_take]; omega) _ ((HBY.out.old (hk2.trans hk3)).pre hkk)).mono ?_); rintro e w4 ⟨rp, he, hor, hk4⟩; rw [HRC.out] at he hor; subst he; have k4 := k3.trans hk4; have HPP := Pfs.of_own hor hpx; obtain ⟨Ap, cp, rfl, hcp, hmp⟩ := ow_form hor; rw [hpj] at HPP hcp; have HPP := Lib.hid HPP; clear hor)
              | (go_at_call 38; (with_reducible refine (equal_same _ _ (ups (qs.take j)) _ (by rw [ups_len]; omega) HPP.out (by have := (HPF.out.old k4).pre (m := j) (by omega); rw [← ups_take] at this; exact this)).mono ?_); rintro e w5 ⟨rfl, hk5⟩; have k5 := k4.trans hk5)
              | (go_at_call 33; (with_reducible refine (read_any _ (lb.take (min (lb.length : Int) 200).toNat) (by rw [List.length_take]; omega) _ (HB1.out.old (hkw.trans k5))).mono ?_); rintro e w6 ⟨rn, he, hor, hk6⟩; rw [HRN.out] at he hor; subst he; have k6 := k5.trans hk6; have HPN := Pfs.of_own hor hnx; obtain ⟨An, cn, rfl, hcn, hmn⟩ := ow_form hor; have HPN := Lib.hid HPN; clear hor)
              | (go_at_call 36; (with_reducible refine (bytes_any _ (ups ns) (by rw [ups_len]; omega) _ HPN.out).mono ?_); rintro e w7 ⟨bv, he, hob, hk7⟩; rw [HBN.out] at he hob; subst he; have k7 := k6.trans hk7; obtain ⟨Ac, cc, rfl, hcc, hmc⟩ := ow_form hob; have HBZ := Lib.hid (Bs.of_own hob).by; clear hob)
              | (go_at_call 33; (with_reducible refine (read_any _ (bytesL (ups ns)) (by omega) _ HBZ.out).mono ?_); rintro e w8 ⟨ro, he, hor, hk8⟩; rw [HRO.out] at he hor; subst he; have k8 := k7.trans hk8; have HPO := Pfs.of_own hor hnx; obtain ⟨Ao, co, rfl, hco, hmo⟩ := ow_form hor; have HPO := Lib.hid HPO; clear hor)
              | (go_at_call 38; (with_reducible refine (equal_same _ _ (ups ns) _ (by rw [ups_len]; omega) (HPN.out.old (hk7.trans hk8)) HPO.out).mono ?_); rintro e w9 ⟨rfl, hk9⟩; have k9 := k8.trans hk9)
              | (go_at_call 28; (with_reducible refine (HT.out _ (hr.kept (hkw.trans k9))).mono ?_); rintro e w10 ⟨rfl, hk10⟩; have kz := (hkw.trans k9).trans hk10))
            go_ret
            exact ⟨rfl, kz⟩
          · go_wp2_with (first
              | (go_at_call 36; (with_reducible refine (bytes_any _ (ups qs) (by omega) _ (HPF.out.old kW)).mono ?_); rintro e w1 ⟨bv, he, hob, hk1⟩; rw [HBP.out] at he hob; subst he; have k1 := kW.trans hk1; obtain ⟨Ab, cb, rfl, hcb, hmb⟩ := ow_form hob; have HBY := Lib.hid (Bs.of_own hob).by; have hkc : (c : Int) % (((bytesL (ups qs)).length : Int) + 1) ≤ (cb : Int) := Int.le_trans hmod.2 (Int.ofNat_le.2 hcb); clear hob)
              | (go_at_call 33; (with_reducible refine (read_any _ (bytesL (ups qs)) (by omega) _ HBY.out).mono ?_); rintro e w2 ⟨rv, he, hor, hk2⟩; rw [HRB.out] at he hor; subst he; have k2 := k1.trans hk2; have HPR := Pfs.of_own hor hqx; obtain ⟨Ar, cr, rfl, hcr, hmr⟩ := ow_form hor; rw [hql] at HPR; have HPR := Lib.hid HPR; clear hor)
              | (go_at_call 38; (with_reducible refine (equal_same _ _ (ups qs) _ (by omega) HPR.out (HPF.out.old k2)).mono ?_); rintro e w3 ⟨rfl, hk3⟩; have k3 := k2.trans hk3)
              | (go_at_call 33; (with_reducible refine (read_any _ ((bytesL (ups qs)).take (c % ((bytesL (ups qs)).length + 1))) (by rw [List.length_take]; omega) _ ((HBY.out.old (hk2.trans hk3)).pre hkk)).mono ?_); rintro e w4 ⟨rp, he, hor, hk4⟩; rw [HRC.out] at he hor; subst he; have k4 := k3.trans hk4; have HPP := Pfs.of_own hor hpx; obtain ⟨Ap, cp, rfl, hcp, hmp⟩ := ow_form hor; rw [hpj] at HPP hcp; have HPP := Lib.hid HPP; clear hor)
              | (go_at_call 38; (with_reducible refine (equal_same _ _ (ups (qs.take j)) _ (by rw [ups_len]; omega) HPP.out (by have := (HPF.out.old k4).pre (m := j) (by omega); rw [← ups_take] at this; exact this)).mono ?_); rintro e w5 ⟨rfl, hk5⟩; have k5 := k4.trans hk5)
              | (go_at_call 33; (with_reducible refine (read_any _ (lb.take (min (lb.length : Int) 200).toNat) (by rw [List.length_take]; omega) _ (HB1.out.old (hkw.trans k5))).mono ?_); rintro e w6 ⟨rn, he, hor, hk6⟩; rw [HRN.out] at he hor; subst he; have k6 := k5.trans hk6; obtain ⟨An, cn, rfl, hcn, hmn⟩ := ow_form hor; clear hor)
              | (go_at_call 28; (with_reducible refine (HT.out _ (hr.kept (hkw.trans k6))).mono ?_); rintro e w10 ⟨rfl, hk10⟩; have kz := (hkw.trans k6).trans hk10))
            go_ret
            exact ⟨rfl, kz⟩
          · go_wp2_with (first
              | (go_at_call 36; (with_reducible refine (bytes_any _ (ups qs) (by omega) _ (HPF.out.old kW)).mono ?_); rintro e w1 ⟨bv, he, hob, hk1⟩; rw [HBP.out] at he hob; subst he; have k1 := kW.trans hk1; obtain ⟨Ab, cb, rfl, hcb, hmb⟩ := ow_form hob; have HBY := Lib.hid (Bs.of_own hob).by; have hkc : (c : Int) % (((bytesL (ups qs)).length : Int) + 1) ≤ (cb : Int) := Int.le_trans hmod.2 (Int.ofNat_le.2 hcb); clear hob)
              | (go_at_call 33; (with_reducible refine (read_any _ (bytesL (ups qs)) (by omega) _ HBY.out).mono ?_); rintro e w2 ⟨rv, he, hor, hk2⟩; rw [HRB.out] at he hor; subst he; have k2 := k1.trans hk2; have HPR := Pfs.of_own hor hqx; obtain ⟨Ar, cr, rfl, hcr, hmr⟩ := ow_form hor; rw [hql] at HPR; have HPR := Lib.hid HPR; clear hor)
              | (go_at_call 38; (with_reducible refine (equal_same _ _ (ups qs) _ (by omega) HPR.out (HPF.out.old k2)).mono ?_); rintro e w3 ⟨rfl, hk3⟩; have k3 := k2.trans hk3)
              | (go_at_call 33; (with_reducible refine (read_any _ ((bytesL (ups qs)).take (c % ((bytesL (ups qs)).length + 1))) (by rw [List.length_take]; omega) _ ((HBY.out.old (hk2.trans hk3)).pre hkk)).mono ?_); rintro e w4 ⟨rp, he, hor, hk4⟩; rw [HRC.out] at he hor; subst he; have k4 := k3.trans hk4; have HPP := Pfs.of_own hor hpx; obtain ⟨Ap, cp, rfl, hcp, hmp⟩ := ow_form hor; rw [hpj] at HPP hcp; have HPP := Lib.hid HPP; clear hor)
              | (go_at_call 38; (with_reducible refine (equal_same _ _ (ups (qs.take j)) _ (by rw [ups_len]; omega) HPP.out (by have := (HPF.out.old k4).pre (m := j) (by omega); rw [← ups_take] at this; exact this)).mono ?_); rintro e w5 ⟨rfl, hk5⟩; have k5 := k4.trans hk5)
              | (go_at_call 33; (with_reducible refine (read_any _ (lb.take (min (lb.length : Int) 200).toNat) (by rw [List.length_take]; omega) _ (HB1.out.old (hkw.trans k5))).mono ?_); rintro e w6 ⟨rn, he, hor, hk6⟩; rw [HRN.out] at he hor; subst he; have k6 := k5.trans hk6; obtain ⟨An, cn, rfl, hcn, hmn⟩ := ow_form hor; clear hor)
              | (go_at_call 28; (with_reducible refine (HT.out _ (hr.kept (hkw.trans k6))).mono ?_); rintro e w10 ⟨rfl, hk10⟩; have kz := (hkw.trans k6).trans hk10))
            go_ret
            exact ⟨rfl, kz⟩
        · rcases hrd with ⟨ns, HRN, hnx, hnl, HBN, HRO, HLN⟩ | HRN | HRN
          · have HLN := HLN.out
            go_wp2_with (first
              | (go_at_call 36; (with_reducible refine (bytes_any _ (ups qs) (by omega) _ (HPF.out.old kW)).mono ?_); rintro e w1 ⟨bv, he, hob, hk1⟩; rw [HBP.out] at he hob; subst he; have k1 := kW.trans hk1; obtain ⟨Ab, cb, rfl, hcb, hmb⟩ := ow_form hob; have HBY := Lib.hid (Bs.of_own hob).by; have hkc : (c : Int) % (((bytesL (ups qs)).length : Int) + 1) ≤ (cb : Int) := Int.le_trans hmod.2 (Int.ofNat_le.2 hcb); clear hob)
              | (go_at_call 33; (with_reducible refine (read_any _ (bytesL (ups qs)) (by omega) _ HBY.out).mono ?_); rintro e w2 ⟨rv, he, hor, hk2⟩; rw [HRB.out] at he hor; subst he; have k2 := k1.trans hk2; have HPR := Pfs.of_own hor hqx; obtain ⟨Ar, cr, rfl, hcr, hmr⟩ := ow_form hor; rw [hql] at HPR; have HPR := Lib.hid HPR; clear hor)
              | (go_at_call 38; (with_reducible refine (equal_same _ _ (ups qs) _ (by omega) HPR.out (HPF.out.old k2)).mono ?_); rintro e w3 ⟨rfl, hk3⟩; have k3 := k2.trans hk3)
              | (go_at_call 33; (with_reducible refine (read_any _ ((bytesL (ups qs)).take (c % ((bytesL (ups qs)).length + 1))) (by rw [List.length_take]; omega) _ ((HBY.out.old (hk2.trans hk3)).pre hkk)).mono ?_); rintro e w4 ⟨rp, he, hor, hk4⟩; rw [HRC.out] at he hor; subst he; have k4 := k3.trans hk4; obtain ⟨Ap, cp, rfl, hcp, hmp⟩ := ow_form hor; clear hor)
              | (go_at_call 33; (with_reducible refine (read_any _ (lb.take (min (lb.length : Int) 200).toNat) (by rw [List.length_take]; omega) _ (HB1.out.old (hkw.trans k4))).mono ?_); rintro e w6 ⟨rn, he, hor, hk6⟩; rw [HRN.out] at he hor; subst he; have k6 := k4.trans hk6; have HPN := Pfs.of_own hor hnx; obtain ⟨An, cn, rfl, hcn, hmn⟩ := ow_form hor; have HPN := Lib.hid HPN; clear hor)
              | (go_at_call 36; (with_reducible refine (bytes_any _ (ups ns) (by rw [ups_len]; omega) _ HPN.out).mono ?_); rintro e w7 ⟨bv, he, hob, hk7⟩; rw [HBN.out] at he hob; subst he; have k7 := k6.trans hk7; obtain ⟨Ac, cc, rfl, hcc, hmc⟩ := ow_form hob; have HBZ := Lib.hid (Bs.of_own hob).by; clear hob)
              | (go_at_call 33; (with_reducible refine (read_any _ (bytesL (ups ns)) (by omega) _ HBZ.out).mono ?_); rintro e w8 ⟨ro, he, hor, hk8⟩; rw [HRO.out] at he hor; subst he; have k8 := k7.trans hk8; have HPO := Pfs.of_own hor hnx; obtain ⟨Ao, co, rfl, hco, hmo⟩ := ow_form hor; have HPO := Lib.hid HPO; clear hor)
              | (go_at_call 38; (with_reducible refine (equal_same _ _ (ups ns) _ (by rw [ups_len]; omega) (HPN.out.old (hk7.trans hk8)) HPO.out).mono ?_); rintro e w9 ⟨rfl, hk9⟩; have k9 := k8.trans hk9)
              | (go_at_call 28; (with_reducible refine (HT.out _ (hr.kept (hkw.trans k9))).mono ?_); rintro e w10 ⟨rfl, hk10⟩; have kz := (hkw.trans k9).trans hk10))
            go_ret
            exact ⟨rfl, kz⟩
          · go_wp2_with (first
              | (go_at_call 36; (with_reducible refine (bytes_any _ (ups qs) (by omega) _ (HPF.out.old kW)).mono ?_); rintro e w1 ⟨bv, he, hob, hk1⟩; rw [HBP.out] at he hob; subst he; have k1 := kW.trans hk1; obtain ⟨Ab, cb, rfl, hcb, hmb⟩ := ow_form hob; have HBY := Lib.hid (Bs.of_own hob).by; have hkc : (c : Int) % (((bytesL (ups qs)).length : Int) + 1) ≤ (cb : Int) := Int.le_trans hmod.2 (Int.ofNat_le.2 hcb); clear hob)
              | (go_at_call 33; (with_reducible refine (read_any _ (bytesL (ups qs)) (by omega) _ HBY.out).mono ?_); rintro e w2 ⟨rv, he, hor, hk2⟩; rw [HRB.out] at he hor; subst he; have k2 := k1.trans hk2; have HPR := Pfs.of_own hor hqx; obtain ⟨Ar, cr, rfl, hcr, hmr⟩ := ow_form hor; rw [hql] at HPR; have HPR := Lib.hid HPR; clear hor)
              | (go_at_call 38; (with_reducible refine (equal_same _ _ (ups qs) _ (by omega) HPR.out (HPF.out.old k2)).mono ?_); rintro e w3 ⟨rfl, hk3⟩; have k3 := k2.trans hk3)
              | (go_at_call 33; (with_reducible refine (read_any _ ((bytesL (ups qs)).take (c % ((bytesL (ups qs)).length + 1))) (by rw [List.length_take]; omega) _ ((HBY.out.old (hk2.trans hk3)).pre hkk)).mono ?_); rintro e w4 ⟨rp, he, hor, hk4⟩; rw [HRC.out] at he hor; subst he; have k4 := k3.trans hk4; obtain ⟨Ap, cp, rfl, hcp, hmp⟩ := ow_form hor; clear hor)
              | (go_at_call 33; (with_reducible refine (read_any _ (lb.take (min (lb.length : Int) 200).toNat) (by rw [List.length_take]; omega) _ (HB1.out.old (hkw.trans k4))).mono ?_); rintro e w6 ⟨rn, he, hor, hk6⟩; rw [HRN.out] at he hor; subst he; have k6 := k4.trans hk6; obtain ⟨An, cn, rfl, hcn, hmn⟩ := ow_form hor; clear hor)
              | (go_at_call 28; (with_reducible refine (HT.out _ (hr.kept (hkw.trans k6))).mono ?_); rintro e w10 ⟨rfl, hk10⟩; have kz := (hkw.trans k6).trans hk10))
            go_ret
            exact ⟨rfl, kz⟩
          · go_wp2_with (first
              | (go_at_call 36; (with_reducible refine (bytes_any _ (ups qs) (by omega) _ (HPF.out.old kW)).mono ?_); rintro e w1 ⟨bv, he, hob, hk1⟩; rw [HBP.out] at he hob; subst he; have k1 := kW.trans hk1; obtain ⟨Ab, cb, rfl, hcb, hmb⟩ := ow_form hob; have HBY := Lib.hid (Bs.of_own hob).by; have hkc : (c : Int) % (((bytesL (ups qs)).length : Int) + 1) ≤ (cb : Int) := Int.le_trans hmod.2 (Int.ofNat_le.2 hcb); clear hob)
              | (go_at_call 33; (with_reducible refine (read_any _ (bytesL (ups qs)) (by omega) _ HBY.out).mono ?_); rintro e w2 ⟨rv, he, hor, hk2⟩; rw [HRB.out] at he hor; subst he; have k2 := k1.trans hk2; have HPR := Pfs.of_own hor hqx; obtain ⟨Ar, cr, rfl, hcr, hmr⟩ := ow_form hor; rw [hql] at HPR; have HPR := Lib.hid HPR; clear hor)
              | (go_at_call 38; (with_reducible refine (equal_same _ _ (ups qs) _ (by omega) HPR.out (HPF.out.old k2)).mono ?_); rintro e w3 ⟨rfl, hk3⟩; have k3 := k2.trans hk3)
              | (go_at_call 33; (with_reducible refine (read_any _ ((bytesL (ups qs)).take (c % ((bytesL (ups qs)).length + 1))) (by rw [List.length_take]; omega) _ ((HBY.out.old (hk2.trans hk3)).pre hkk)).mono ?_); rintro e w4 ⟨rp, he, hor, hk4⟩; rw [HRC.out] at he hor; subst he; have k4 := k3.trans hk4; obtain ⟨Ap, cp, rfl, hcp, hmp⟩ := ow_form hor; clear hor)
              | (go_at_call 33; (with_reducible refine (read_any _ (lb.take (min (lb.length : Int) 200).toNat) (by rw [List.length_take]; omega) _ (HB1.out.old (hkw.trans k4))).mono ?_); rintro e w6 ⟨rn, he, hor, hk6⟩; rw [HRN.out] at he hor; subst he; have k6 := k4.trans hk6; obtain ⟨An, cn, rfl, hcn, hmn⟩ := ow_form hor; clear hor)
              | (go_at_call 28; (with_reducible refine (HT.out _ (hr.kept (hkw.trans k6))).mono ?_); rintro e w10 ⟨rfl, hk10⟩; have kz := (hkw.trans k6).trans hk10))
            go_ret
            exact ⟨rfl, kz⟩
      · have hkl : ¬ (k : Int) < (l.length : Int) := by omega
        have kW := Kept.refl Nothing wr
        clear ho hcells hx0 hl0
        rcases hcut with ⟨j, hj, HRC, hpx, hpj⟩ | HRC
        · have hsp := slice_pf A7 k c7 j (by omega)
          have hjk : ¬ (k : Int) < (j : Int) := by omega
          rcases hrd with ⟨ns, HRN, hnx, hnl, HBN, HRO, HLN⟩ | HRN | HRN
          · have HLN := HLN.out
            go_wp2_with (first
              | (go_at_call 36; (with_reducible refine (bytes_any _ (ups qs) (by omega) _ (HPF.out.old kW)).mono ?_); rintro e w1 ⟨bv, he, hob, hk1⟩; rw [HBP.out] at he hob; subst he; have k1 := kW.trans hk1; obtain ⟨Ab, cb, rfl, hcb, hmb⟩ := ow_form hob; have HBY := Lib.hid (Bs.of_own hob).by; have hkc : (c : Int) % (((bytesL (ups qs)).length : Int) + 1) ≤ (cb : Int) := Int.le_trans hmod.2 (Int.ofNat_le.2 hcb); clear hob)
              | (go_at_call 33; (with_reducible refine (read_any _ (bytesL (ups qs)) (by omega) _ HBY.out).mono ?_); rintro e w2 ⟨rv, he, hor, hk2⟩; rw [HRB.out] at he hor; subst he; have k2 := k1.trans hk2; have HPR := Pfs.of_own hor hqx; obtain ⟨Ar, cr, rfl, hcr, hmr⟩ := ow_form hor; rw [hql] at HPR; have HPR := Lib.hid HPR; clear hor)
              | (go_at_call 38; (with_reducible refine (equal_same _ _ (ups qs) _ (by omega) HPR.out (HPF.out.old k2)).mono ?_); rintro e w3 ⟨rfl, hk3⟩; have k3 := k2.trans hk3)
              | (go_at_call 33; (with_reducible refine (read_any _ ((bytesL (ups qs)).take (c % ((bytesL (ups qs)).length + 1))) (by rw [List.length_take]; omega) _ ((HBY.out.old (hk2.trans hk3)).pre hkk)).mono ?_); rintro e w4 ⟨rp, he, hor, hk4⟩; rw [HRC.out] at he hor; subst he; have k4 := k3.trans hk4; have HPP := Pfs.of_own hor hpx; obtain ⟨Ap, cp, rfl, hcp, hmp⟩ := ow_form hor; rw [hpj] at HPP hcp; have HPP := Lib.hid HPP; clear hor)
              | (go_at_call 38; (with_reducible refine (equal_same _ _ (ups (qs.take j)) _ (by rw [ups_len]; omega) HPP.out (by have := (HPF.out.old k4).pre (m := j) (by omega); rw [← ups_take] at this; exact this)).mono ?_); rintro e w5 ⟨rfl, hk5⟩; have k5 := k4.trans hk5)
              | (go_at_call 33; (with_reducible refine (read_any _ (lb.take (min (lb.length : Int) 200).toNat) (by rw [List.length_take]; omega) _ (HB1.out.old (hkw.trans k5))).mono ?_); rintro e w6 ⟨rn, he, hor, hk6⟩; rw [HRN.out] at he hor; subst he; have k6 := k5.trans hk6; have HPN := Pfs.of_own hor hnx; obtain ⟨An, cn, rfl, hcn, hmn⟩ := ow_form hor; have HPN := Lib.hid HPN; clear hor)
              | (go_at_call 36; (with_reducible refine (bytes_any _ (ups ns) (by rw [ups_len]; omega) _ HPN.out).mono ?_); rintro e w7 ⟨bv, he, hob, hk7⟩; rw [HBN.out] at he hob; subst he; have k7 := k6.trans hk7; obtain ⟨Ac, cc, rfl, hcc, hmc⟩ := ow_form hob; have HBZ := Lib.hid (Bs.of_own hob).by; clear hob)
              | (go_at_call 33; (with_reducible refine (read_any _ (bytesL (ups ns)) (by omega) _ HBZ.out).mono ?_); rintro e w8 ⟨ro, he, hor, hk8⟩; rw [HRO.out] at he hor; subst he; have k8 := k7.trans hk8; have HPO := Pfs.of_own hor hnx; obtain ⟨Ao, co, rfl, hco, hmo⟩ := ow_form hor; have HPO := Lib.hid HPO; clear hor)
              | (go_at_call 38; (with_reducible refine (equal_same _ _ (ups ns) _ (by rw [ups_len]; omega) (HPN.out.old (hk7.trans hk8)) HPO.out).mono ?_); rintro e w9 ⟨rfl, hk9⟩; have k9 := k8.trans hk9)
              | (go_at_call 28; (with_reducible refine (HT.out _ (hr.kept (hkw.trans k9))).mono ?_); rintro e w10 ⟨rfl, hk10⟩; have kz := (hkw.trans k9).trans hk10))
            go_ret
            exact ⟨rfl, kz⟩
          · go_wp2_with (first
              | (go_at_call 36; (with_reducible refine (bytes_any _ (ups qs) (by omega) _ (HPF.out.old kW)).mono ?_); rintro e w1 ⟨bv, he, hob, hk1⟩; rw [HBP.out] at he hob; subst he; have k1 := kW.trans hk1; obtain ⟨Ab, cb, rfl, hcb, hmb⟩ := ow_form hob; have HBY := Lib.hid (Bs.of_own hob).by; have hkc : (c : Int) % (((bytesL (ups qs)).length : Int) + 1) ≤ (cb : Int) := Int.le_trans hmod.2 (Int.ofNat_le.2 hcb); clear hob)
              | (go_at_call 33; (with_reducible refine (read_any _ (bytesL (ups qs)) (by omega) _ HBY.out).mono ?_); rintro e w2 ⟨rv, he, hor, hk2⟩; rw [HRB.out] at he hor; subst he; have k2 := k1.trans hk2; have HPR := Pfs.of_own hor hqx; obtain ⟨Ar, cr, rfl, hcr, hmr⟩ := ow_form hor; rw [hql] at HPR; have HPR := Lib.hid HPR; clear hor)
              | (go_at_call 38; (with_reducible refine (equal_same _ _ (ups qs) _ (by omega) HPR.out (HPF.out.old k2)).mono ?_); rintro e w3 ⟨rfl, hk3⟩; have k3 := k2.trans hk3)
              | (go_at_call 33; (with_reducible refine (read_any _ ((bytesL (ups qs)).take (c % ((bytesL (ups qs)).length + 1))) (by rw [List.length_take]; omega) _ ((HBY.out.old (hk2.trans hk3)).pre hkk)).mono ?_); rintro e w4 ⟨rp, he, hor, hk4⟩; rw [HRC.out] at he hor; subst he; have k4 := k3.trans hk4; have HPP := Pfs.of_own hor hpx; obtain ⟨Ap, cp, rfl, hcp, hmp⟩ := ow_form hor; rw [hpj] at HPP hcp; have HPP := Lib.hid HPP; clear hor)
              | (go_at_call 38; (with_reducible refine (equal_same _ _ (ups (qs.take j)) _ (by rw [ups_len]; omega) HPP.out (by have := (HPF.out.old k4).pre (m := j) (by omega); rw [← ups_take] at this; exact this)).mono ?_); rintro e w5 ⟨rfl, hk5⟩; have k5 := k4.trans hk5)
              | (go_at_call 33; (with_reducible refine (read_any _ (lb.take (min (lb.length : Int) 200).toNat) (by rw [List.length_take]; omega) _ (HB1.out.old (hkw.trans k5))).mono ?_); rintro e w6 ⟨rn, he, hor, hk6⟩; rw [HRN.out] at he hor; subst he; have k6 := k5.trans hk6; obtain ⟨An, cn, rfl, hcn, hmn⟩ := ow_form hor; clear hor)
              | (go_at_call 28; (with_reducible refine (HT.out _ (hr.kept (hkw.trans k6))).mono ?_); rintro e w10 ⟨rfl, hk10⟩; have kz := (hkw.trans k6).trans hk10))
            go_ret
            exact ⟨rfl, kz⟩
          · go_wp2_with (first
              | (go_at_call 36; (with_reducible refine (bytes_any _ (ups qs) (by omega) _ (HPF.out.old kW)).mono ?_); rintro e w1 ⟨bv, he, hob, hk1⟩; rw [HBP.out] at he hob; subst he; have k1 := kW.trans hk1; obtain ⟨Ab, cb, rfl, hcb, hmb⟩ := ow_form hob; have HBY := Lib.hid (Bs.of_own hob).by; have hkc : (c : Int) % (((bytesL (ups qs)).length : Int) + 1) ≤ (cb : Int) := Int.le_trans hmod.2 (Int.ofNat_le.2 hcb); clear hob)
              | (go_at_call 33; (with_reducible refine (read_any _ (bytesL (ups qs)) (by omega) _ HBY.out).mono ?_); rintro e w2 ⟨rv, he, hor, hk2⟩; rw [HRB.out] at he hor; subst he; have k2 := k1.trans hk2; have HPR := Pfs.of_own hor hqx; obtain ⟨Ar, cr, rfl, hcr, hmr⟩ := ow_form hor; rw [hql] at HPR; have HPR := Lib.hid HPR; clear hor)
              | (go_at_call 38; (with_reducible refine (equal_same _ _ (ups qs) _ (by omega) HPR.out (HPF.out.old k2)).mono ?_); rintro e w3 ⟨rfl, hk3⟩; have k3 := k2.trans hk3)
              | (go_at_call 33; (with_reducible refine (read_any _ ((bytesL (ups qs)).take (c % ((bytesL (ups qs)).length + 1))) (by rw [List.length_take]; omega) _ ((HBY.out.old (hk2.trans hk3)).pre hkk)).mono ?_); rintro e w4 ⟨rp, he, hor, hk4⟩; rw [HRC.out] at he hor; subst he; have k4 := k3.trans hk4; have HPP := Pfs.of_own hor hpx; obtain ⟨Ap, cp, rfl, hcp, hmp⟩ := ow_form hor; rw [hpj] at HPP hcp; have HPP := Lib.hid HPP; clear hor)
              | (go_at_call 38; (with_reducible refine (equal_same _ _ (ups (qs.take j)) _ (by rw [ups_len]; omega) HPP.out (by have := (HPF.out.old k4).pre (m := j) (by omega); rw [← ups_take] at this; exact this)).mono ?_); rintro e w5 ⟨rfl, hk5⟩; have k5 := k4.trans hk5)
              | (go_at_call 33; (with_reducible refine (read_any _ (lb.take (min (lb.length : Int) 200).toNat) (by rw [List.length_take]; omega) _ (HB1.out.old (hkw.trans k5))).mono ?_); rintro e w6 ⟨rn, he, hor, hk6⟩; rw [HRN.out] at he hor; subst he; have k6 := k5.trans hk6; obtain ⟨An, cn, rfl, hcn, hmn⟩ := ow_form hor; clear hor)
              | (go_at_call 28; (with_reducible refine (HT.out _ (hr.kept (hkw.trans k6))).mono ?_); rintro e w10 ⟨rfl, hk10⟩; have kz := (hkw.trans k6).trans hk10))
            go_ret
            exact ⟨rfl, kz⟩
        · rcases hrd with ⟨ns, HRN, hnx, hnl, HBN, HRO, HLN⟩ | HRN | HRN
          · have HLN := HLN.out
            go_wp2_with (first
              | (go_at_call 36; (with_reducible refine (bytes_any _ (ups qs) (by omega) _ (HPF.out.old kW)).mono ?_); rintro e w1 ⟨bv, he, hob, hk1⟩; rw [HBP.out] at he hob; subst he; have k1 := kW.trans hk1; obtain ⟨Ab, cb, rfl, hcb, hmb⟩ := ow_form hob; have HBY := Lib.hid (Bs.of_own hob).by; have hkc : (c : Int) % (((bytesL (ups qs)).length : Int) + 1) ≤ (cb : Int) := Int.le_trans hmod.2 (Int.ofNat_le.2 hcb); clear hob)
              | (go_at_call 33; (with_reducible refine (read_any _ (bytesL (ups qs)) (by omega) _ HBY.out).mono ?_); rintro e w2 ⟨rv, he, hor, hk2⟩; rw [HRB.out] at he hor; subst he; have k2 := k1.trans hk2; have HPR := Pfs.of_own hor hqx; obtain ⟨Ar, cr, rfl, hcr, hmr⟩ := ow_form hor; rw [hql] at HPR; have HPR := Lib.hid HPR; clear hor)
              | (go_at_call 38; (with_reducible refine (equal_same _ _ (ups qs) _ (by omega) HPR.out (HPF.out.old k2)).mono ?_); rintro e w3 ⟨rfl, hk3⟩; have k3 := k2.trans hk3)
              | (go_at_call 33; (with_reducible refine (read_any _ ((bytesL (ups qs)).take (c % ((bytesL (ups qs)).length + 1))) (by rw [List.length_take]; omega) _ ((HBY.out.old (hk2.trans hk3)).pre hkk)).mono ?_); rintro e w4 ⟨rp, he, hor, hk4⟩; rw [HRC.out] at he hor; subst he; have k4 := k3.trans hk4; obtain ⟨Ap, cp, rfl, hcp, hmp⟩ := ow_form hor; clear hor)
              | (go_at_call 33; (with_reducible refine (read_any _ (lb.take (min (lb.length : Int) 200).toNat) (by rw [List.length_take]; omega) _ (HB1.out.old (hkw.trans k4))).mono ?_); rintro e w6 ⟨rn, he, hor, hk6⟩; rw [HRN.out] at he hor; subst he; have k6 := k4.trans hk6; have HPN := Pfs.of_own hor hnx; obtain ⟨An, cn, rfl, hcn, hmn⟩ := ow_form hor; have HPN := Lib.hid HPN; clear hor)
              | (go_at_call 36; (with_reducible refine (bytes_any _ (ups ns) (by rw [ups_len]; omega) _ HPN.out).mono ?_); rintro e w7 ⟨bv, he, hob, hk7⟩; rw [HBN.out] at he hob; subst he; have k7 := k6.trans hk7; obtain ⟨Ac, cc, rfl, hcc, hmc⟩ := ow_form hob; have HBZ := Lib.hid (Bs.of_own hob).by; clear hob)
              | (go_at_call 33; (with_reducible refine (read_any _ (bytesL (ups ns)) (by omega) _ HBZ.out).mono ?_); rintro e w8 ⟨ro, he, hor, hk8⟩; rw [HRO.out] at he hor; subst he; have k8 := k7.trans hk8; have HPO := Pfs.of_own hor hnx; obtain ⟨Ao, co, rfl, hco, hmo⟩ := ow_form hor; have HPO := Lib.hid HPO; clear hor)
              | (go_at_call 38; (with_reducible refine (equal_same _ _ (ups ns) _ (by rw [ups_len]; omega) (HPN.out.old (hk7.trans hk8)) HPO.out).mono ?_); rintro e w9 ⟨rfl, hk9⟩; have k9 := k8.trans hk9)
              | (go_at_call 28; (with_reducible refine (HT.out _ (hr.kept (hkw.trans k9))).mono ?_); rintro e w10 ⟨rfl, hk10⟩; have kz := (hkw.trans k9).trans hk10))
            go_ret
            exact ⟨rfl, kz⟩
          · go_wp2_with (first
              | (go_at_call 36; (with_reducible refine (bytes_any _ (ups qs) (by omega) _ (HPF.out.old kW)).mono ?_); rintro e w1 ⟨bv, he, hob, hk1⟩; rw [HBP.out] at he hob; subst he; have k1 := kW.trans hk1; obtain ⟨Ab, cb, rfl, hcb, hmb⟩ := ow_form hob; have HBY := Lib.hid (Bs.of_own hob).by; have hkc : (c : Int) % (((bytesL (ups qs)).length : Int) + 1) ≤ (cb : Int) := Int.le_trans hmod.2 (Int.ofNat_le.2 hcb); clear hob)
              | (go_at_call 33; (with_reducible refine (read_any _ (bytesL (ups qs)) (by omega) _ HBY.out).mono ?_); rintro e w2 ⟨rv, he, hor, hk2⟩; rw [HRB.out] at he hor; subst he; have k2 := k1.trans hk2; have HPR := Pfs.of_own hor hqx; obtain ⟨Ar, cr, rfl, hcr, hmr⟩ := ow_form hor; rw [hql] at HPR; have HPR := Lib.hid HPR; clear hor)
              | (go_at_call 38; (with_reducible refine (equal_same _ _ (ups qs) _ (by omega) HPR.out (HPF.out.old k2)).mono ?_); rintro e w3 ⟨rfl, hk3⟩; have k3 := k2.trans hk3)
              | (go_at_call 33; (with_reducible refine (read_any _ ((bytesL (ups qs)).take (c % ((bytesL (ups qs)).length + 1))) (by rw [List.length_take]; omega) _ ((HBY.out.old (hk2.trans hk3)).pre hkk)).mono ?_); rintro e w4 ⟨rp, he, hor, hk4⟩; rw [HRC.out] at he hor; subst he; have k4 := k3.trans hk4; obtain ⟨Ap, cp, rfl, hcp, hmp⟩ := ow_form hor; clear hor)
              | (go_at_call 33; (with_reducible refine (read_any _ (lb.take (min (lb.length : Int) 200).toNat) (by rw [List.length_take]; omega) _ (HB1.out.old (hkw.trans k4))).mono ?_); rintro e w6 ⟨rn, he, hor, hk6⟩; rw [HRN.out] at he hor; subst he; have k6 := k4.trans hk6; obtain ⟨An, cn, rfl, hcn, hmn⟩ := ow_form hor; clear hor)
              | (go_at_call 28; (with_reducible refine (HT.out _ (hr.kept (hkw.trans k6))).mono ?_); rintro e w10 ⟨rfl, hk10⟩; have kz := (hkw.trans k6).trans hk10))
            go_ret
            exact ⟨rfl, kz⟩
          · go_wp2_with (first
              | (go_at_call 36; (with_reducible refine (bytes_any _ (ups qs) (by omega) _ (HPF.out.old kW)).mono ?_); rintro e w1 ⟨bv, he, hob, hk1⟩; rw [HBP.out] at he hob; subst he; have k1 := kW.trans hk1; obtain ⟨Ab, cb, rfl, hcb, hmb⟩ := ow_form hob; have HBY := Lib.hid (Bs.of_own hob).by; have hkc : (c : Int) % (((bytesL (ups qs)).length : Int) + 1) ≤ (cb : Int) := Int.le_trans hmod.2 (Int.ofNat_le.2 hcb); clear hob)
              | (go_at_call 33; (with_reducible refine (read_any _ (bytesL (ups qs)) (by omega) _ HBY.out).mono ?_); rintro e w2 ⟨rv, he, hor, hk2⟩; rw [HRB.out] at he hor; subst he; have k2 := k1.trans hk2; have HPR := Pfs.of_own hor hqx; obtain ⟨Ar, cr, rfl, hcr, hmr⟩ := ow_form hor; rw [hql] at HPR; have HPR := Lib.hid HPR; clear hor)
              | (go_at_call 38; (with_reducible refine (equal_same _ _ (ups qs) _ (by omega) HPR.out (HPF.out.old k2)).mono ?_); rintro e w3 ⟨rfl, hk3⟩; have k3 := k2.trans hk3)
              | (go_at_call 33; (with_reducible refine (read_any _ ((bytesL (ups qs)).take (c % ((bytesL (ups qs)).length + 1))) (by rw [List.length_take]; omega) _ ((HBY.out.old (hk2.trans hk3)).pre hkk)).mono ?_); rintro e w4 ⟨rp, he, hor, hk4⟩; rw [HRC.out] at he hor; subst he; have k4 := k3.trans hk4; obtain ⟨Ap, cp, rfl, hcp, hmp⟩ := ow_form hor; clear hor)
              | (go_at_call 33; (with_reducible refine (read_any _ (lb.take (min (lb.length : Int) 200).toNat) (by rw [List.length_take]; omega) _ (HB1.out.old (hkw.trans k4))).mono ?_); rintro e w6 ⟨rn, he, hor, hk6⟩; rw [HRN.out] at he hor; subst he; have k6 := k4.trans hk6; obtain ⟨An, cn, rfl, hcn, hmn⟩ := ow_form hor; clear hor)
              | (go_at_call 28; (with_reducible refine (HT.out _ (hr.kept (hkw.trans k6))).mono ?_); rintro e w10 ⟨rfl, hk10⟩; have kz := (hkw.trans k6).trans hk10))
            go_ret
            exact ⟨rfl, kz⟩
end Go.Proofs.YtahifknebccpbaaDoor
