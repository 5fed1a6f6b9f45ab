
/-
  A segment's text.
-/
import Derived.Test.YtdeblmolgmadiaaGreatDoorKa
import Derived.Test.YtdeblmolgmadiaaGreatDoorNb
import Derived.Test.YtdeblmolgmadiaaGreatDoorJd
import Derived.Test.YtdeblmolgmadiaaGreatDoorJt
import Derived.Deep.RegionHeld3
namespace Go.Proofs.YtdeblmolgmadiaaGreatDoor
open Go.RowKit Go.Sort

theorem fmtu_in1 (u : Nat) (hu : u < 4294967296) (w : World) (hr : Rdy w) :
    Calls Tryz.prog 175 #[.int .u64 (u : Int), .int .i64 10] w fun e w' => e = .returned (.string ⟨(Lib.decDigits u).toArray⟩) ∧ Kept Nothing w w' := by
  by_cases hi : u < 100
  · have hi2 : (u : Int) < 100 := by omega
    go_enter Tryz.func175, Tryz.ntmps175
    go_wp2_with (go_at_call 187; refine (Tryz.internal_strconv_small u hi _).mono ?_; rintro e w' ⟨rfl, rfl⟩)
    go_ret
    exact ⟨rfl, Kept.refl _ _⟩
  · have hi2 : (100 : Int) ≤ (u : Int) := by omega
    have hu1 : 1 ≤ u := by omega
    have hu64 : u < 18446744073709551616 := by omega
    have hnd20 : Lib.nDigits u ≤ 20 := by have := Lib.numDigits_eq u hu1 hu64; split at this <;> omega
    have hal : Tryz.prog.arrayLen 250 = 24 := by kernel_rfl
    have hsl : ∀ W, (Instr.sliceAt 250 (.pointer (some ⟨w.heap.size, 0, none⟩)) none (some (.int .i64 (Lib.nDigits u : Int))) none).run Tryz.prog W = .ok (.slice (some ⟨w.heap.size, 0, none⟩) (Lib.nDigits u) 24) W := fun W => by
      rw [run_sliceAt_array_h W 250 ⟨w.heap.size, 0, none⟩ (by kernel_rfl) .i64 (Lib.nDigits u : Int) (by omega) (by rw [hal]; omega)]
      go_simp
    have hH0 := Lib.holds_zero0 w 250 (Lib.nDigits u) (by omega)
    have hfmt := Tryz.internal_strconv_formatBase10 w.heap.size 0 24 u (Array.replicate (Lib.nDigits u) 0) (w.alloc (.cells Lib.zeros24 250)) hH0 (by rw [Array.size_replicate]; exact Lib.lt_pow_nDigits u) hu64 (by rw [Array.size_replicate]; omega)
    rw [Array.size_replicate] at hfmt
    have HH0 := Lib.hid hH0
    have HF := Lib.hid hfmt
    have htab := Lib.hid hr
    clear hH0 hal hfmt hr
    go_enter Tryz.func175, Tryz.ntmps175
    go_wp2_with (first
      | (go_at_call 188; refine (Tryz.internal_strconv_numDigits u hu1 hu64 _ (Lib.tabIs_alloc htab.out _)).mono ?_; rintro e w' ⟨rfl, rfl⟩))
    go_at_call 189
    refine (HF.out).mono ?_
    rintro e w' ⟨rfl, k, v', dk, rfl, hF⟩
    have hcv : (convert 28 9 (.slice (some ⟨w.heap.size, 0, none⟩) (Lib.nDigits u) 24)).run Tryz.prog ((putRow (fun (b : UInt8) => Value.int .u8 (b.toNat : Int)) (w.alloc (.cells Lib.zeros24 250)) w.heap.size 0 dk).drewN k) = .ok (.string ⟨(Lib.decDigits u).toArray⟩) ((putRow (fun (b : UInt8) => Value.int .u8 (b.toNat : Int)) (w.alloc (.cells Lib.zeros24 250)) w.heap.size 0 dk).drewN k) := by
      have h := run_convert_bytes_back (P := Tryz.prog) ((putRow (fun (b : UInt8) => Value.int .u8 (b.toNat : Int)) (w.alloc (.cells Lib.zeros24 250)) w.heap.size 0 dk).drewN k) 28 9 5 ⟨w.heap.size, 0, none⟩ 24 (Lib.decDigits u) Tryz.underlying28 Tryz.underlying5 Tryz.underlying9 (fun j hj => by
        rw [Lib.row_is_numeral hF j hj, Lib.add_plain, World.cell?_drewN]
        exact cell?_putRow (fun (b : UInt8) => Value.int .u8 (b.toNat : Int)) _ w.heap.size 0 _ dk HH0.out (by rw [hF.size, Array.size_replicate]) j (by rw [hF.size]; rw [Lib.decDigits_length] at hj; exact hj))
      rw [Lib.decDigits_length] at h
      exact h
    go_wp2
    go_ret
    obtain ⟨os, eo⟩ := Lib.fin_at w (.cells Lib.zeros24 250) dk k 0
    exact ⟨rfl, by rw [eo]; exact kept_grow w k os⟩
theorem fmtu_any1 (u : Nat) (hu : u < 4294967296) (w : World) (hr : Rdy w) :
    Calls Tryz.prog 148 #[.int .u64 (u : Int), .int .i64 10] w fun e w' => e = .returned (.string ⟨(Lib.decDigits u).toArray⟩) ∧ Kept Nothing w w' := by
  go_enter Tryz.func148, Tryz.ntmps148
  go_wp2_with (go_at_call 175; refine (fmtu_in1 u hu _ hr).mono ?_; rintro e w1 ⟨rfl, hk⟩)
  go_ret
  exact ⟨rfl, hk⟩
theorem text_any1 (u : Nat) (hu : u < 4294967296) (w : World) (hr : Rdy w) :
    Calls Tryz.prog 106 #[.int .u32 (u : Int)] w fun e w' => e = .returned (.string ⟨(Lib.decDigits u).toArray⟩) ∧ Kept Nothing w w' := by
  go_enter Tryz.func106, Tryz.ntmps106
  go_wp2_with (go_at_call 148; refine (fmtu_any1 u hu _ hr).mono ?_; rintro e w1 ⟨rfl, hk⟩)
  go_ret
  exact ⟨rfl, hk⟩
theorem st_info : (Tryz.prog.info? 9).map (fun i => (i.zero, i.size, i.bytes)) = some (some (.string ⟨#[]⟩), 1, 16) := by kernel_rfl
/-- Texts as the model has them. -/
def sts (l : List (List UInt8)) : List Value := l.map str
theorem sts_append (a b : List (List UInt8)) : sts (a ++ b) = sts a ++ sts b := List.map_append
theorem length_sts (l : List (List UInt8)) : (sts l).length = l.length := List.length_map _

set_option maxRecDepth 20000 in
set_option maxHeartbeats 2000000 in
theorem seg_text (sk : UInt8) (sn : List Nat) (A : Option Addr) (c : Nat) (w : World) (hr : Rdy w) (hs : Bkt w) (h : As w (.slice A sn.length c) sn) (hk1 : 1 ≤ sk.toNat) (hk4 : sk.toNat ≤ 4) (hne : sn ≠ []) (hl : sn.length ≤ 1000) :
    Calls Tryz.prog 54 #[.agg #[.int .u8 (sk.toNat : Int), .slice A sn.length c]] w fun e w' => e = .returned (.string ⟨(Pt.segT (sk, sn)).toArray⟩) ∧ Kept Nothing w w' := by
  obtain ⟨i0, hi, hz0, hz1, hz2⟩ := info_parts st_info
  have HSEG : Hid (Pt.segT (sk, sn) = Pt.opens sk.toNat ++ Lib.join (sn.map Lib.decDigits) (Pt.betw sk.toNat) ++ Pt.ends sk.toNat) := Lib.hid rfl
  have HBC := Lib.hid (fun w1 (k1 : Kept Nothing w w1) => show w1.cell? ⟨1, sk.toNat * 3, none⟩ = some (.string ⟨(Pt.opens sk.toNat).toArray⟩) ∧ w1.cell? ⟨1, sk.toNat * 3 + 1, none⟩ = some (.string ⟨(Pt.betw sk.toNat).toArray⟩) ∧ w1.cell? ⟨1, sk.toNat * 3 + 2, none⟩ = some (.string ⟨(Pt.ends sk.toNat).toArray⟩) from by
    have hb := hs.kept k1
    have hc := bk_cells sk.toNat (by omega)
    exact ⟨by rw [hb.cell]; exact hc.1, by rw [hb.cell]; exact hc.2.1, by rw [hb.cell]; exact hc.2.2⟩)
  have HJL := Lib.hid (Pt.join_len sk.toNat sn h.1)
  have hol := Pt.opens_len sk.toNat
  have hbl := Pt.betw_len sk.toNat
  have hel := Pt.ends_len sk.toNat
  have HR := Lib.hid hr
  have HV := Lib.hid h
  have hki : (sk.toNat : Int) < 5 := by omega
  have hk0i : (0 : Int) ≤ (sk.toNat : Int) := by omega
  have hpos : 0 < sn.length := List.length_pos_iff.2 hne
  generalize Pt.segT (sk, sn) = sg at *
  generalize Pt.opens sk.toNat = op at *
  generalize Pt.betw sk.toNat = bt at *
  generalize Pt.ends sk.toNat = en at *
  generalize sk.toNat = kn at *
  clear h hr hs hne
  go_enter Tryz.func54, Tryz.ntmps54
  go_upto_region 1 with fail
  have b1 := Blk.fresh w 96 #[.int .u8 (kn : Int), .slice A sn.length c]
  have k1 := (Kept.refl Nothing w).alloc (.cells #[.int .u8 (kn : Int), .slice A sn.length c] 96)
  generalize w.alloc (.cells #[.int .u8 (kn : Int), .slice A sn.length c] 96) = w1 at b1 k1 ⊢
  have hbz1 := b1.lt
  have c1 := b1.cell 1
  have B1 := Lib.hid b1
  have K1 := Lib.hid k1
  clear b1 k1
  go_upto_region 3 with fail
  go_loopw [3, 10] (fun q i wr => ∃ k : Nat, i = .int .i64 (k : Int) ∧ k ≤ sn.length ∧ Hid (wr.ownsRow w1.heap.size 9 1 q k (sts ((sn.take k).map Lib.decDigits))) ∧ Kept Nothing w1 wr) (fun _ i _ => sn.length - (intOf i).toNat)
  case atStart => exact ⟨0, rfl, Nat.zero_le _, Lib.hid (World.ownsRow_nil _ _ _ _), Kept.refl _ _⟩
  case round =>
    obtain ⟨k, rfl, hk, HP, hkk⟩ := hrel
    have KK := Lib.hid hkk
    clear hkk
    by_cases hlt : k < sn.length
    · obtain ⟨b, o, rfl, hc⟩ := (HV.out.old (K1.out.trans KK.out)).at (by omega)
      have p0 := hc k hlt
      have i1 : (0 : Int) ≤ (k : Int) := by omega
      have i2 : (k : Int) < (sn.length : Int) := by omega
      have ET : Hid (sts ((sn.take (k + 1)).map Lib.decDigits) = sts ((sn.take k).map Lib.decDigits) ++ [str (Lib.decDigits (sn.getD k 0))]) := Lib.hid (by rw [List.take_succ_eq_append_getElem hlt, List.map_append, sts_append, getD_get hlt]; rfl)
      have hn : sn.getD k 0 < 4294967296 := HV.out.1 _ (by rw [getD_get hlt]; exact List.getElem_mem _)
      have HT := Lib.hid (text_any1 (sn.getD k 0) hn wr (HR.out.kept (K1.out.trans KK.out)))
      generalize sts ((sn.take k).map Lib.decDigits) = xs at *
      generalize Lib.decDigits (sn.getD k 0) = dg at *
      generalize sn.getD k 0 = n at *
      obtain ⟨Aq, cq, rfl, _, _⟩ := ow_form HP.out
      have HL5 : Hid (k + 1 ≤ maxLen ∧ (k + 1) * 16 ≤ 140737488355328) := Lib.hid (by unfold maxLen; omega)
      clear hc
      go_wp2_with (first
        | (at_builtin; refine wpList_app _ rfl _ _ 119 rfl w1.heap.size 9 i0 _ 1 16 Tryz.underlying119 hi hz0 hz1 hz2 rfl (by decide) (.slice Aq k cq) k xs rfl (ow_kept HP.out (K2.out.alloc _) (fun _ _ x => x)) (some ⟨w2.heap.size, 0, none⟩) 1 1 [.string ⟨dg.toArray⟩] rfl (src_new w2 _ #[.string ⟨dg.toArray⟩] 1 1 rfl (by simp [Value.oneCell'])) HL5.out.1 HL5.out.2 (by have := ((KK.out.trans K2.out).alloc (.cells #[.string ⟨dg.toArray⟩] 9)).size; exact this) ?_; intro v7 w7 hown7 hg7 _)
        | (go_at_call 106; refine (HT.out).mono ?_; rintro e w2 ⟨rfl, k2⟩; (have K2 := Lib.hid k2); clear k2))
      go_roundw
      case rel => exact ⟨k + 1, by go_num, by omega, Lib.hid (by rw [ET.out]; exact hown7), (KK.out.trans (K2.out.alloc _)).own_grown (ow_kept HP.out (K2.out.alloc _) (fun _ _ x => x)) (Nat.le_refl _) hg7⟩
      case measure => simp [intOf]; omega
    · obtain rfl : k = sn.length := by omega
      rw [List.take_of_length_le (Nat.le_refl _)] at HP
      obtain ⟨g, cg, cur, rfl, hge, hbg⟩ := own_lies HP.out hpos
      have KW := Lib.hid (K1.out.trans KK.out)
      obtain ⟨q0, q1, q2⟩ := HBC.out _ KW.out
      have c0 := (B1.out.kept KK.out (fun x => x)).cell 0
      have hfm : sn.length ≤ cg := by
        obtain ⟨_, _, e, h1, _⟩ := ow_form HP.out
        injection e with _ _ e3
        subst e3
        exact h1
      have HGC : Hid (∀ (j : Nat) x, (sn.map (fun n => (⟨(Lib.decDigits n).toArray⟩ : ByteArray)))[j]? = some x → wr.cell? ⟨g, 0 + j, none⟩ = some (.string x)) := Lib.hid (fun j x hx => by
        rw [← add_none]
        refine HP.out.cells rfl j _ ?_
        unfold sts
        rw [List.map_map, List.getElem?_map]
        rw [List.getElem?_map] at hx
        cases hj : sn[j]? with
        | none => rw [hj] at hx; cases hx
        | some n => rw [hj] at hx; simp at hx; simp [str, ← hx])
      have HJ := Lib.hid (fun w2 (k2 : Kept Nothing wr w2) => Tryz.strings_Join g 0 cg (sn.map (fun n => (⟨(Lib.decDigits n).toArray⟩ : ByteArray))) ⟨bt.toArray⟩ w2
        (fun j x hx => k2.cell_some (HGC.out j x hx) (fun x => x)) (Nat.lt_of_lt_of_le hbg.lt k2.size) (by rw [List.length_map]; omega) (by rw [List.length_map]; exact hfm)
        (by
          have e1 : ((sn.map (fun n => (⟨(Lib.decDigits n).toArray⟩ : ByteArray))).map (·.data.toList)) = sn.map Lib.decDigits := by rw [List.map_map]; exact List.map_congr_left (fun n _ => rfl)
          rw [e1]
          have := HJL.out
          show (Lib.join (sn.map Lib.decDigits) bt).length ≤ _
          omega))
      have e1 : ((sn.map (fun n => (⟨(Lib.decDigits n).toArray⟩ : ByteArray))).map (·.data.toList)) = sn.map Lib.decDigits := by rw [List.map_map]; exact List.map_congr_left (fun n _ => rfl)
      rw [e1, List.length_map] at HJ
      have s1 := add_run op (Lib.join (sn.map Lib.decDigits) bt) (by omega) (by have := HJL.out; omega)
      have s2 := add_run (op ++ Lib.join (sn.map Lib.decDigits) bt) en (by rw [List.length_append]; have := HJL.out; omega) (by omega)
      replace HJ : Hid (∀ w2, Kept Nothing wr w2 → Calls Tryz.prog 107 #[.slice (some ⟨g, 0, none⟩) sn.length cg, .string ⟨bt.toArray⟩] w2 fun e w' => e = .returned (.string ⟨(Lib.join (sn.map Lib.decDigits) bt).toArray⟩) ∧ Below w2.heap.size w2 w') := HJ
      generalize Lib.join (sn.map Lib.decDigits) bt = jt at *
      clear HP HGC e1 hbg
      go_upto_region 8 with fail
      have b2 := Blk.fresh wr 174 #[.string ⟨op.toArray⟩, .string ⟨bt.toArray⟩, .string ⟨en.toArray⟩]
      have k2 := (Kept.refl Nothing wr).alloc (.cells #[.string ⟨op.toArray⟩, .string ⟨bt.toArray⟩, .string ⟨en.toArray⟩] 174)
      clear q0 q1 q2 c0 c1
      generalize wr.alloc (.cells #[.string ⟨op.toArray⟩, .string ⟨bt.toArray⟩, .string ⟨en.toArray⟩] 174) = wX at b2 k2 ⊢
      generalize wr.heap.size = gx at *
      have B2 := Lib.hid b2
      have K2 := Lib.hid k2
      have d0 := b2.cell 0
      have d1 := b2.cell 1
      have d2 := b2.cell 2
      clear b2 k2
      go_region_held3 (fun w' => w'.cell? ⟨gx, 0, none⟩ = some (.string ⟨op.toArray⟩) ∧ w'.cell? ⟨gx, 1, none⟩ = some (.string ⟨bt.toArray⟩) ∧ w'.cell? ⟨gx, 2, none⟩ = some (.string ⟨en.toArray⟩)) (first | exact ⟨d0, d1, d2⟩ | exact ⟨f0, f1, f2⟩) (first
        | (go_simp; go_at_call 107; refine (HJ.out _ (by exact K2.out.drew)).mono ?_; rintro e w9 ⟨rfl, hb9⟩; (have k9 := grows hb9); (have f0 := (B2.out.drew.kept k9 (fun x => x)).cell 0); (have f1 := (B2.out.drew.kept k9 (fun x => x)).cell 1); (have f2 := (B2.out.drew.kept k9 (fun x => x)).cell 2); (have K9 := Lib.hid k9); clear k9 hb9))
      all_goals
        go_wp2
        go_ret
        exact ⟨by rw [HSEG.out]; simp, KW.out.trans (K2.out.drew.trans K9.out)⟩
end Go.Proofs.YtdeblmolgmadiaaGreatDoor
