
/-
  fuse.joined.
-/
import Derived.Test.YthjljamngpddmaaGreatDoorY15
import Derived.Test.YthjljamngpddmaaGreatDoorY05
import Derived.Test.YthjljamngpddmaaGreatDoorY03
import Derived.Test.YthjljamngpddmaaGreatDoorY09
import Derived.Deep.RegionHeld3
import Derived.Test.YthjljamngpddmaaGreatDoorY13
namespace Go.Proofs.YthjljamngpddmaaGreatDoor
open Go.RowKit Go.Sort

theorem fmtu_in1 (u : Nat) (hu : u < 4294967296) (w : World) (hr : Rdy w) :
    Calls Tryz.prog 100 #[.int .u64 (u : Int), .int .i64 10] w fun e w' => e = .returned (.string ⟨(Lib.decDigits u).toArray⟩) ∧ Kept Nothing w w' := by
  by_cases hi : u < 100
  · have hi2 : (u : Int) < 100 := by omega
    go_enter Tryz.func100, Tryz.ntmps100
    go_wp2_with (go_at_call 108; refine (Tryz.internal_strconv_small u hi _).mono ?_; rintro e w' ⟨rfl, rfl⟩)
    go_ret
    exact ⟨rfl, Kept.refl _ _⟩
  · have hi2 : (100 : Int) ≤ (u : Int) := by omega
    have hu1 : 1 ≤ u := by omega
    have hu64 : u < 18446744073709551616 := by omega
    have hnd20 : Lib.nDigits u ≤ 20 := by have := Lib.numDigits_eq u hu1 hu64; split at this <;> omega
    have hal : Tryz.prog.arrayLen 161 = 24 := by kernel_rfl
    have hsl : ∀ W, (Instr.sliceAt 161 (.pointer (some ⟨w.heap.size, 0, none⟩)) none (some (.int .i64 (Lib.nDigits u : Int))) none).run Tryz.prog W = .ok (.slice (some ⟨w.heap.size, 0, none⟩) (Lib.nDigits u) 24) W := fun W => by
      rw [run_sliceAt_array_h W 161 ⟨w.heap.size, 0, none⟩ (by kernel_rfl) .i64 (Lib.nDigits u : Int) (by omega) (by rw [hal]; omega)]
      go_simp
    have hH0 := Lib.holds_zero0 w 161 (Lib.nDigits u) (by omega)
    have hfmt := Tryz.internal_strconv_formatBase10 w.heap.size 0 24 u (Array.replicate (Lib.nDigits u) 0) (w.alloc (.cells Lib.zeros24 161)) hH0 (by rw [Array.size_replicate]; exact Lib.lt_pow_nDigits u) hu64 (by rw [Array.size_replicate]; omega)
    rw [Array.size_replicate] at hfmt
    have HH0 := Lib.hid hH0
    have HF := Lib.hid hfmt
    have htab := Lib.hid hr
    clear hH0 hal hfmt hr
    go_enter Tryz.func100, Tryz.ntmps100
    go_wp2_with (first
      | (go_at_call 109; refine (Tryz.internal_strconv_numDigits u hu1 hu64 _ (Lib.tabIs_alloc htab.out _)).mono ?_; rintro e w' ⟨rfl, rfl⟩))
    go_at_call 110
    refine (HF.out).mono ?_
    rintro e w' ⟨rfl, k, v', dk, rfl, hF⟩
    have hcv : (convert 28 9 (.slice (some ⟨w.heap.size, 0, none⟩) (Lib.nDigits u) 24)).run Tryz.prog ((putRow (fun (b : UInt8) => Value.int .u8 (b.toNat : Int)) (w.alloc (.cells Lib.zeros24 161)) w.heap.size 0 dk).drewN k) = .ok (.string ⟨(Lib.decDigits u).toArray⟩) ((putRow (fun (b : UInt8) => Value.int .u8 (b.toNat : Int)) (w.alloc (.cells Lib.zeros24 161)) w.heap.size 0 dk).drewN k) := by
      have h := run_convert_bytes_back (P := Tryz.prog) ((putRow (fun (b : UInt8) => Value.int .u8 (b.toNat : Int)) (w.alloc (.cells Lib.zeros24 161)) w.heap.size 0 dk).drewN k) 28 9 5 ⟨w.heap.size, 0, none⟩ 24 (Lib.decDigits u) Tryz.underlying28 Tryz.underlying5 Tryz.underlying9 (fun j hj => by
        rw [Lib.row_is_numeral hF j hj, Lib.add_plain, World.cell?_drewN]
        exact cell?_putRow (fun (b : UInt8) => Value.int .u8 (b.toNat : Int)) _ w.heap.size 0 _ dk HH0.out (by rw [hF.size, Array.size_replicate]) j (by rw [hF.size]; rw [Lib.decDigits_length] at hj; exact hj))
      rw [Lib.decDigits_length] at h
      exact h
    go_wp2
    go_ret
    obtain ⟨os, eo⟩ := Lib.fin_at w (.cells Lib.zeros24 161) dk k 0
    exact ⟨rfl, by rw [eo]; exact kept_grow w k os⟩
theorem fmtu_any1 (u : Nat) (hu : u < 4294967296) (w : World) (hr : Rdy w) :
    Calls Tryz.prog 89 #[.int .u64 (u : Int), .int .i64 10] w fun e w' => e = .returned (.string ⟨(Lib.decDigits u).toArray⟩) ∧ Kept Nothing w w' := by
  go_enter Tryz.func89, Tryz.ntmps89
  go_wp2_with (go_at_call 100; refine (fmtu_in1 u hu _ hr).mono ?_; rintro e w1 ⟨rfl, hk⟩)
  go_ret
  exact ⟨rfl, hk⟩
theorem text_any1 (u : Nat) (hu : u < 4294967296) (w : World) (hr : Rdy w) :
    Calls Tryz.prog 78 #[.int .u32 (u : Int)] w fun e w' => e = .returned (.string ⟨(Lib.decDigits u).toArray⟩) ∧ Kept Nothing w w' := by
  go_enter Tryz.func78, Tryz.ntmps78
  go_wp2_with (go_at_call 89; refine (fmtu_any1 u hu _ hr).mono ?_; rintro e w1 ⟨rfl, hk⟩)
  go_ret
  exact ⟨rfl, hk⟩
theorem st_info : (Tryz.prog.info? 9).map (fun i => (i.zero, i.size, i.bytes)) = some (some (.string ⟨#[]⟩), 1, 16) := by kernel_rfl
/-- Texts as the model has them. -/
def sts (l : List (List UInt8)) : List Value := l.map str
theorem sts_append (a b : List (List UInt8)) : sts (a ++ b) = sts a ++ sts b := List.map_append
theorem length_sts (l : List (List UInt8)) : (sts l).length = l.length := List.length_map _

set_option maxRecDepth 20000 in
set_option maxHeartbeats 2000000 in
theorem seg_text (sk : UInt8) (sn : List Nat) (A : Option Addr) (c : Nat) (w : World) (hr : Rdy w) (hs : Bkt w) (h : As w (.slice A sn.length c) sn) (hk1 : 1 ≤ sk.toNat) (hk4 : sk.toNat ≤ 4) (hne : sn ≠ []) (hl : sn.length ≤ 1000) :
    Calls Tryz.prog 53 #[.agg #[.int .u8 (sk.toNat : Int), .slice A sn.length c]] w fun e w' => e = .returned (.string ⟨(Pt.segT (sk, sn)).toArray⟩) ∧ Kept Nothing w w' := by
  obtain ⟨i0, hi, hz0, hz1, hz2⟩ := info_parts st_info
  have HSEG : Hid (Pt.segT (sk, sn) = Pt.opens sk.toNat ++ Lib.join (sn.map Lib.decDigits) (Pt.betw sk.toNat) ++ Pt.ends sk.toNat) := Lib.hid rfl
  have HBC := Lib.hid (fun w1 (k1 : Kept Nothing w w1) => show w1.cell? ⟨0, sk.toNat * 3, none⟩ = some (.string ⟨(Pt.opens sk.toNat).toArray⟩) ∧ w1.cell? ⟨0, sk.toNat * 3 + 1, none⟩ = some (.string ⟨(Pt.betw sk.toNat).toArray⟩) ∧ w1.cell? ⟨0, sk.toNat * 3 + 2, none⟩ = some (.string ⟨(Pt.ends sk.toNat).toArray⟩) from by
    have hb := hs.kept k1
    have hc := bk_cells sk.toNat (by omega)
    exact ⟨by rw [hb.cell]; exact hc.1, by rw [hb.cell]; exact hc.2.1, by rw [hb.cell]; exact hc.2.2⟩)
  have HJL := Lib.hid (Pt.join_len sk.toNat sn h.1)
  have hol := Pt.opens_len sk.toNat
  have hbl := Pt.betw_len sk.toNat
  have hel := Pt.ends_len sk.toNat
  have HR := Lib.hid hr
  have HV := Lib.hid h
  have hki : (sk.toNat : Int) < 5 := by omega
  have hk0i : (0 : Int) ≤ (sk.toNat : Int) := by omega
  have hpos : 0 < sn.length := List.length_pos_iff.2 hne
  generalize Pt.segT (sk, sn) = sg at *
  generalize Pt.opens sk.toNat = op at *
  generalize Pt.betw sk.toNat = bt at *
  generalize Pt.ends sk.toNat = en at *
  generalize sk.toNat = kn at *
  clear h hr hs hne
  go_enter Tryz.func53, Tryz.ntmps53
  go_upto_region 1 with fail
  have b1 := Blk.fresh w 72 #[.int .u8 (kn : Int), .slice A sn.length c]
  have k1 := (Kept.refl Nothing w).alloc (.cells #[.int .u8 (kn : Int), .slice A sn.length c] 72)
  generalize w.alloc (.cells #[.int .u8 (kn : Int), .slice A sn.length c] 72) = w1 at b1 k1 ⊢
  have hbz1 := b1.lt
  have c1 := b1.cell 1
  have B1 := Lib.hid b1
  have K1 := Lib.hid k1
  clear b1 k1
  go_upto_region 3 with fail
  go_loopw [3, 10] (fun q i wr => ∃ k : Nat, i = .int .i64 (k : Int) ∧ k ≤ sn.length ∧ Hid (wr.ownsRow w1.heap.size 9 1 q k (sts ((sn.take k).map Lib.decDigits))) ∧ Kept Nothing w1 wr) (fun _ i _ => sn.length - (intOf i).toNat)
  case atStart => exact ⟨0, rfl, Nat.zero_le _, Lib.hid (World.ownsRow_nil _ _ _ _), Kept.refl _ _⟩
  case round =>
    obtain ⟨k, rfl, hk, HP, hkk⟩ := hrel
    have KK := Lib.hid hkk
    clear hkk
    by_cases hlt : k < sn.length
    · obtain ⟨b, o, rfl, hc⟩ := (HV.out.old (K1.out.trans KK.out)).at (by omega)
      have p0 := hc k hlt
      have i1 : (0 : Int) ≤ (k : Int) := by omega
      have i2 : (k : Int) < (sn.length : Int) := by omega
      have ET : Hid (sts ((sn.take (k + 1)).map Lib.decDigits) = sts ((sn.take k).map Lib.decDigits) ++ [str (Lib.decDigits (sn.getD k 0))]) := Lib.hid (by rw [List.take_succ_eq_append_getElem hlt, List.map_append, sts_append, getD_get hlt]; rfl)
      have hn : sn.getD k 0 < 4294967296 := HV.out.1 _ (by rw [getD_get hlt]; exact List.getElem_mem _)
      have HT := Lib.hid (text_any1 (sn.getD k 0) hn wr (HR.out.kept (K1.out.trans KK.out)))
      generalize sts ((sn.take k).map Lib.decDigits) = xs at *
      generalize Lib.decDigits (sn.getD k 0) = dg at *
      generalize sn.getD k 0 = n at *
      obtain ⟨Aq, cq, rfl, _, _⟩ := ow_form HP.out
      have HL5 : Hid (k + 1 ≤ maxLen ∧ (k + 1) * 16 ≤ 140737488355328) := Lib.hid (by unfold maxLen; omega)
      clear hc
      go_wp2_with (first
        | (at_builtin; refine wpList_app _ rfl _ _ 97 rfl w1.heap.size 9 i0 _ 1 16 Tryz.underlying97 hi hz0 hz1 hz2 rfl (by decide) (.slice Aq k cq) k xs rfl (ow_kept HP.out (K2.out.alloc _) (fun _ _ x => x)) (some ⟨w2.heap.size, 0, none⟩) 1 1 [.string ⟨dg.toArray⟩] rfl (src_new w2 _ #[.string ⟨dg.toArray⟩] 1 1 rfl (by simp [Value.oneCell'])) HL5.out.1 HL5.out.2 (by have := ((KK.out.trans K2.out).alloc (.cells #[.string ⟨dg.toArray⟩] 9)).size; exact this) ?_; intro v7 w7 hown7 hg7 _)
        | (go_at_call 78; refine (HT.out).mono ?_; rintro e w2 ⟨rfl, k2⟩; (have K2 := Lib.hid k2); clear k2))
      go_roundw
      case rel => exact ⟨k + 1, by go_num, by omega, Lib.hid (by rw [ET.out]; exact hown7), (KK.out.trans (K2.out.alloc _)).own_grown (ow_kept HP.out (K2.out.alloc _) (fun _ _ x => x)) (Nat.le_refl _) hg7⟩
      case measure => simp [intOf]; omega
    · obtain rfl : k = sn.length := by omega
      rw [List.take_of_length_le (Nat.le_refl _)] at HP
      obtain ⟨g, cg, cur, rfl, hge, hbg⟩ := own_lies HP.out hpos
      have KW := Lib.hid (K1.out.trans KK.out)
      obtain ⟨q0, q1, q2⟩ := HBC.out _ KW.out
      have c0 := (B1.out.kept KK.out (fun x => x)).cell 0
      have hfm : sn.length ≤ cg := by
        obtain ⟨_, _, e, h1, _⟩ := ow_form HP.out
        injection e with _ _ e3
        subst e3
        exact h1
      have HGC : Hid (∀ (j : Nat) x, (sn.map (fun n => (⟨(Lib.decDigits n).toArray⟩ : ByteArray)))[j]? = some x → wr.cell? ⟨g, 0 + j, none⟩ = some (.string x)) := Lib.hid (fun j x hx => by
        rw [← add_none]
        refine HP.out.cells rfl j _ ?_
        unfold sts
        rw [List.map_map, List.getElem?_map]
        rw [List.getElem?_map] at hx
        cases hj : sn[j]? with
        | none => rw [hj] at hx; cases hx
        | some n => rw [hj] at hx; simp at hx; simp [str, ← hx])
      have HJ := Lib.hid (fun w2 (k2 : Kept Nothing wr w2) => Tryz.strings_Join g 0 cg (sn.map (fun n => (⟨(Lib.decDigits n).toArray⟩ : ByteArray))) ⟨bt.toArray⟩ w2
        (fun j x hx => k2.cell_some (HGC.out j x hx) (fun x => x)) (Nat.lt_of_lt_of_le hbg.lt k2.size) (by rw [List.length_map]; omega) (by rw [List.length_map]; exact hfm)
        (by
          have e1 : ((sn.map (fun n => (⟨(Lib.decDigits n).toArray⟩ : ByteArray))).map (·.data.toList)) = sn.map Lib.decDigits := by rw [List.map_map]; exact List.map_congr_left (fun n _ => rfl)
          rw [e1]
          have := HJL.out
          show (Lib.join (sn.map Lib.decDigits) bt).length ≤ _
          omega))
      have e1 : ((sn.map (fun n => (⟨(Lib.decDigits n).toArray⟩ : ByteArray))).map (·.data.toList)) = sn.map Lib.decDigits := by rw [List.map_map]; exact List.map_congr_left (fun n _ => rfl)
      rw [e1, List.length_map] at HJ
      have s1 := add_run op (Lib.join (sn.map Lib.decDigits) bt) (by omega) (by have := HJL.out; omega)
      have s2 := add_run (op ++ Lib.join (sn.map Lib.decDigits) bt) en (by rw [List.length_append]; have := HJL.out; omega) (by omega)
      replace HJ : Hid (∀ w2, Kept Nothing wr w2 → Calls Tryz.prog 79 #[.slice (some ⟨g, 0, none⟩) sn.length cg, .string ⟨bt.toArray⟩] w2 fun e w' => e = .returned (.string ⟨(Lib.join (sn.map Lib.decDigits) bt).toArray⟩) ∧ Below w2.heap.size w2 w') := HJ
      generalize Lib.join (sn.map Lib.decDigits) bt = jt at *
      clear HP HGC e1 hbg
      go_upto_region 8 with fail
      have b2 := Blk.fresh wr 123 #[.string ⟨op.toArray⟩, .string ⟨bt.toArray⟩, .string ⟨en.toArray⟩]
      have k2 := (Kept.refl Nothing wr).alloc (.cells #[.string ⟨op.toArray⟩, .string ⟨bt.toArray⟩, .string ⟨en.toArray⟩] 123)
      clear q0 q1 q2 c0 c1
      generalize wr.alloc (.cells #[.string ⟨op.toArray⟩, .string ⟨bt.toArray⟩, .string ⟨en.toArray⟩] 123) = wX at b2 k2 ⊢
      generalize wr.heap.size = gx at *
      have B2 := Lib.hid b2
      have K2 := Lib.hid k2
      have d0 := b2.cell 0
      have d1 := b2.cell 1
      have d2 := b2.cell 2
      clear b2 k2
      go_region_held3 (fun w' => w'.cell? ⟨gx, 0, none⟩ = some (.string ⟨op.toArray⟩) ∧ w'.cell? ⟨gx, 1, none⟩ = some (.string ⟨bt.toArray⟩) ∧ w'.cell? ⟨gx, 2, none⟩ = some (.string ⟨en.toArray⟩)) (first | exact ⟨d0, d1, d2⟩ | exact ⟨f0, f1, f2⟩) (first
        | (go_simp; go_at_call 79; refine (HJ.out _ (by exact K2.out.drew)).mono ?_; rintro e w9 ⟨rfl, hb9⟩; (have k9 := grows hb9); (have f0 := (B2.out.drew.kept k9 (fun x => x)).cell 0); (have f1 := (B2.out.drew.kept k9 (fun x => x)).cell 1); (have f2 := (B2.out.drew.kept k9 (fun x => x)).cell 2); (have K9 := Lib.hid k9); clear k9 hb9))
      all_goals
        go_wp2
        go_ret
        exact ⟨by rw [HSEG.out]; simp, KW.out.trans (K2.out.drew.trans K9.out)⟩
end Go.Proofs.YthjljamngpddmaaGreatDoor
namespace Go.Proofs.YthjljamngpddmaaGreatDoor
open Go.RowKit

theorem bf_kept {T e : TypeId} {B b : Nat} {bs : List Value} {w w' : World} (h : Lib.IsBuilderF T e B b bs w) (k : Kept Nothing w w') : Lib.IsBuilderF T e B b bs w' := by
  have one : ∀ p, Lib.BuilderAtF T e B b p bs w → Lib.BuilderAtF T e B b p bs w' := fun p ⟨hB, v, hb, ho, hne⟩ => by
    have hlt := (Array.getElem?_eq_some_iff.1 hb).1
    refine ⟨hB, v, (k.block b hlt (fun x => x)).trans hb, ⟨ho.1, ?_⟩, hne⟩
    rcases ho.2 with hn | ⟨g, cap, cur, fz, hv, hbg, hg, rest⟩
    · exact .inl hn
    · exact .inr ⟨g, cap, cur, fz, hv, hbg, (k.block g (Array.getElem?_eq_some_iff.1 hg).1 (fun x => x)).trans hg, rest⟩
  exact h.elim (fun x => .inl (one _ x)) (fun x => .inr (one _ x))
theorem kept_below {w wr w' : World} (h : Kept Nothing w wr) (hb : Below w.heap.size wr w') : Kept Nothing w w' :=
  ⟨hb.os.trans h.os, hb.tape.trans h.tape, hb.output.trans h.output, Nat.le_trans h.size hb.size, fun k hk hs => (hb.block k hk).trans (h.block k hk hs)⟩
theorem byteCells_append (a b : List UInt8) : Lib.byteCells a ++ Lib.strCells ⟨b.toArray⟩ = Lib.byteCells (a ++ b) := by
  simp [Lib.byteCells, Lib.strCells]

/-- The builder written on. -/
theorem ws_any (B d : Nat) (bs s : List UInt8) (w : World) (h : Lib.IsBuilderF 91 5 B d (Lib.byteCells bs) w) (hl : bs.length + s.length ≤ 1000000) (hB : B ≤ w.heap.size) :
    Calls Tryz.prog 51 #[.pointer (some ⟨d, 0, none⟩), .string ⟨s.toArray⟩] w fun e w' => (∃ v, e = .returned v) ∧ Lib.IsBuilderF 91 5 B d (Lib.byteCells (bs ++ s)) w' ∧ Below B w w' ∧ Lib.OthersKept 5 (some d) w w' := by
  have h0 : Calls Tryz.prog 51 #[.pointer (some ⟨d, 0, none⟩), .string ⟨s.toArray⟩] w fun e w' => e = .returned (.tuple #[.int .i64 (⟨s.toArray⟩ : ByteArray).size, .nilIface]) ∧ (Lib.BuilderAtF 91 5 B d (.pointer (some ⟨d, 0, none⟩)) (Lib.byteCells bs ++ Lib.strCells ⟨s.toArray⟩) w' ∧ Below B w w' ∧ Lib.OthersKept 5 (some d) w w') :=
    Any.Builder_WriteString_k { Tryz.lays156 with } Tryz.Builder_Extra_156 B d (Lib.byteCells bs) ⟨s.toArray⟩ w h (by simp [Lib.byteCells, ByteArray.size]; omega) hB
  refine h0.mono ?_
  rintro e w' ⟨rfl, h1, h2, h3⟩
  refine ⟨⟨_, rfl⟩, .inr ?_, h2, h3⟩
  rw [← byteCells_append]
  exact h1

namespace Pt
theorem ahead_len (l : List Seg) (k : Nat) : (ahead l k).length ≤ 3 := by unfold ahead gap; split; simp; split <;> simp
theorem tx_len (l : List Seg) (h : ∀ s ∈ l, (∀ n ∈ s.2, n < 4294967296) ∧ s.2.length ≤ 255) : ∀ k, k ≤ l.length → (tx l k).length ≤ 3000 * k
  | 0, _ => by simp [tx]
  | k + 1, hk => by
    have h1 := tx_len l h k (by omega)
    have h2 := ahead_len l k
    have hm : l.getD k (0, []) ∈ l := by rw [getD_get (by omega)]; exact List.getElem_mem _
    have h3 := segT_len (l.getD k (0, [])) (h _ hm).1
    have h4 := (h _ hm).2
    unfold tx
    rw [List.length_append, List.length_append]
    omega
theorem may_seg {l : List Seg} (h : may l = true) {s : Seg} (hs : s ∈ l) : 1 ≤ s.1.toNat ∧ s.1.toNat ≤ 4 ∧ s.2 ≠ [] ∧ s.2.length ≤ 255 := by
  unfold may at h
  rw [Bool.and_eq_true, List.all_eq_true] at h
  have := h.1 s hs
  unfold may1 at this
  simp only [Bool.and_eq_true, decide_eq_true_eq] at this
  exact ⟨this.1.1.1, this.1.1.2, List.length_pos_iff.1 this.1.2, this.2⟩
theorem may_le {l : List Seg} (h : may l = true) : l.length ≤ 32 := by
  unfold may at h
  rw [Bool.and_eq_true] at h
  simpa using h.2
end Pt

set_option maxRecDepth 20000 in
set_option maxHeartbeats 2000000 in
theorem path_text (v : Value) (l : List Seg) (w : World) (h : Pts w v l) (hl : l.length ≤ 1000000) (hr : Rdy w) (hs : Bkt w) :
    Calls Tryz.prog 21 #[v] w fun e w' => e = .returned (.string ⟨(Pt.text l).toArray⟩) ∧ Kept Nothing w w' := by
  obtain ⟨A, c, rfl, hc, hm⟩ := h.form
  have HM := Lib.hid (path_may _ l w h (by omega))
  have HV := Lib.hid h
  have HR := Lib.hid hr
  have HS := Lib.hid hs
  have HT : Hid (Pt.text l = if Pt.may l then (if l = [] then [45] else Pt.tx l l.length) else []) := Lib.hid rfl
  clear h hr hs
  cases hmay : Pt.may l with
  | false =>
    rw [hmay] at HM HT
    clear hmay
    go_enter Tryz.func21, Tryz.ntmps21
    go_wp2_with (go_at_call 14; refine (HM.out).mono ?_; rintro e w1 ⟨rfl, k1⟩)
    go_ret
    exact ⟨by rw [HT.out]; rfl, k1⟩
  | true =>
    have h32 := Pt.may_le hmay
    have HSEG := Lib.hid (fun s (hs : s ∈ l) => Pt.may_seg hmay hs)
    rw [hmay] at HM HT
    clear hmay
    by_cases hle : l = []
    · subst hle
      go_enter Tryz.func21, Tryz.ntmps21
      go_wp2_with (go_at_call 14; refine (HM.out).mono ?_; rintro e w1 ⟨rfl, k1⟩)
      go_ret
      exact ⟨by rw [HT.out]; rfl, k1⟩
    · rw [if_pos rfl, if_neg hle] at HT
      have hpos : 0 < l.length := List.length_pos_iff.2 hle
      have hpi : ((l.length : Int) == 0) = false := by simp; omega
      have HTL := Lib.hid (Pt.tx_len l (fun s hs => ⟨HV.out.fits s hs, (HSEG.out s hs).2.2.2⟩))
      clear hle
      go_enter Tryz.func21, Tryz.ntmps21
      go_upto_region 5 with (go_at_call 14; refine (HM.out).mono ?_; rintro e w1 ⟨rfl, k1⟩; (have K1 := Lib.hid k1); clear k1)
      go_upto_region 6 with fail
      have hb1 : Lib.IsBuilderF 91 5 w.heap.size w1.heap.size (Lib.byteCells (Pt.tx l 0)) (w1.alloc (.cells #[.pointer none, .slice none 0 0] 91)) :=
        .inl ⟨K1.out.size, _, heap_alloc_new w1 _, World.ownsRowF_nil _ _ _ _, by simp [Value.ownBlock]⟩
      have k2 := K1.out.alloc (.cells #[.pointer none, .slice none 0 0] 91)
      have hdz : w1.heap.size < (w1.alloc (.cells #[.pointer none, .slice none 0 0] 91)).heap.size := by simp
      generalize w1.alloc (.cells #[.pointer none, .slice none 0 0] 91) = w2 at hb1 k2 hdz ⊢
      have hdw := K1.out.size
      generalize w1.heap.size = d at *
      have HB1 := Lib.hid hb1
      have K2 := Lib.hid k2
      clear hb1 k2 K1
      go_upto_region 7 with fail
      go_loopw [14] (fun i wr => ∃ k : Nat, i = .int .i64 (k : Int) ∧ k ≤ l.length ∧ Hid (Lib.IsBuilderF 91 5 w.heap.size d (Lib.byteCells (Pt.tx l k)) wr) ∧ Hid (Kept Nothing w wr) ∧ d < wr.heap.size) (fun i _ => l.length - (intOf i).toNat)
      case atStart => exact ⟨0, rfl, Nat.zero_le _, HB1, K2, hdz⟩
      case round =>
        clear HB1 K2 hdz
        obtain ⟨k, rfl, hk, HB, KK, hdz⟩ := hrel
        by_cases hlt : k < l.length
        · obtain ⟨b, o, Au, cu, rfl, p0w, p1w, hp⟩ := HV.out.at2 hlt
          have p0 := KK.out.cell_some p0w (fun x => x)
          have p1 := KK.out.cell_some p1w (fun x => x)
          have hmem : l.getD k (0, []) ∈ l := by rw [getD_get hlt]; exact List.getElem_mem _
          obtain ⟨g1, g2, g3, g4⟩ := HSEG.out _ hmem
          have htl := HTL.out k (by omega)
          have hsl := Pt.segT_len (l.getD k (0, [])) (HV.out.fits _ hmem)
          have ET : Hid (Pt.tx l (k + 1) = Pt.tx l k ++ (Pt.ahead l k ++ Pt.segT (l.getD k (0, [])))) := Lib.hid rfl
          have EA : Hid (Pt.ahead l k = if k = 0 then [] else Pt.gap (l.getD (k - 1) (0, [])).1.toNat (l.getD k (0, [])).1.toNat) := Lib.hid rfl
          have hal := Pt.ahead_len l k
          have i1 : (0 : Int) ≤ (k : Int) := by omega
          have i2 : (k : Int) < (l.length : Int) := by omega
          have hls : b < wr.heap.size := World.block_lt_of_cell? _ _ p0
          generalize hsg : l.getD k (0, []) = sg at *
          obtain ⟨sk, sn⟩ := sg
          simp only at p0 p1 g1 g2 g3 g4 hsl EA
          replace hp : As w (.slice Au sn.length cu) sn := hp
          have HST := Lib.hid (fun w1 (k1 : Kept Nothing w w1) (h1 : As w1 (.slice Au sn.length cu) sn) => seg_text sk sn Au cu w1 (HR.out.kept k1) (HS.out.kept k1) h1 g1 g2 g3 (by omega))
          have HAS := Lib.hid (fun w1 (k1 : Kept Nothing w w1) => hp.old k1)
          have hsk := sk.toNat_lt
          have HWS := Lib.hid (fun (bs s : List UInt8) (w1 : World) h h2 h3 => ws_any w.heap.size d bs s w1 h h2 h3)
          have hwz := KK.out.size
          clear hp hsg hmem p0w p1w
          by_cases hk0 : k = 0
          · rw [if_pos hk0] at EA
            have hk0i : ¬ (0 : Int) < (k : Int) := by omega
            clear hk0
            rw [EA.out, List.nil_append] at ET
            clear EA hal g1 g2 g3
            generalize Pt.segT (sk, sn) = st at *
            have BX := Lib.hid ((Kept.refl Nothing wr).alloc (.cells #[.int .u8 (sk.toNat : Int), .slice Au sn.length cu] 72))
            go_wp2_with (first
              | (go_at_call 51; refine (HWS.out _ _ _ (bf_kept HB.out (BX.out.trans K3.out)) (by omega) (Nat.le_trans hwz (BX.out.trans K3.out).size)).mono ?_; rintro e w4 ⟨⟨v4, rfl⟩, b4, l4, o4⟩)
              | (go_at_call 53; refine (HST.out _ (KK.out.trans BX.out) (HAS.out _ (KK.out.trans BX.out))).mono ?_; rintro e w3 ⟨rfl, k3⟩; (have K3 := Lib.hid k3); clear k3))
            go_roundw
            case rel => exact ⟨k + 1, by go_num, by omega, Lib.hid (by rw [ET.out]; exact b4), Lib.hid (kept_below (KK.out.trans (BX.out.trans K3.out)) l4), Nat.lt_of_lt_of_le hdz (Nat.le_trans (BX.out.trans K3.out).size l4.size)⟩
            case measure => simp [intOf]; omega
          · rw [if_neg hk0] at EA
            obtain ⟨m, hm1⟩ : ∃ m, k = m + 1 := ⟨k - 1, by omega⟩
            obtain ⟨bm, om, Am, cm, hbm, m0w, -⟩ := HV.out.at2 (i := m) (by omega)
            have m0 := KK.out.cell_some m0w (fun x => x)
            clear m0w
            injection hbm with hbm
            injection hbm with hb1 hb2
            subst hb1 hb2
            rw [show k - 1 = m by omega] at EA
            rw [EA.out] at ET hal
            have hmk := (l.getD m (0, [])).1.toNat_lt
            have HG := Lib.hid (fun w1 => gap_any (l.getD m (0, [])).1.toNat sk.toNat (by omega) (by omega) w1)
            generalize (l.getD m (0, [])).1.toNat = km at *
            generalize Pt.gap km sk.toNat = gp at *
            generalize Pt.segT (sk, sn) = st at *
            clear EA hk0 g1 g2 g3
            have j1 : (0 : Int) ≤ (m : Int) := by omega
            have j2 : (m : Int) < (l.length : Int) := by omega
            have j3 : (0 : Int) < (k : Int) := by omega
            have j4 : (k : Int) - 1 = (m : Int) := by omega
            have j5 : IntKind.i64.wrap (m : Int) = (m : Int) := by rw [IntKind.wrap_i64]; omega
            clear hm1
            go_upto_region 10 with fail
            have bx := Blk.fresh wr 72 #[.int .u8 (sk.toNat : Int), .slice Au sn.length cu]
            have kx := (Kept.refl Nothing wr).alloc (.cells #[.int .u8 (sk.toNat : Int), .slice Au sn.length cu] 72)
            have n0 := kx.cell_some m0 (fun x => x)
            clear p0 p1 m0
            generalize wr.alloc (.cells #[.int .u8 (sk.toNat : Int), .slice Au sn.length cu] 72) = wX at bx kx n0 ⊢
            have hgx : wr.heap.size ≠ d := by omega
            generalize wr.heap.size = gx at *
            have x0 := bx.cell 0
            have BX := Lib.hid kx
            have BB := Lib.hid bx
            clear bx kx
            go_region_law (first
              | (go_simp; go_at_call 51; refine (HWS.out _ _ _ (bf_kept HB.out BX.out.drew) (by omega) (Nat.le_trans KK.out.size BX.out.size)).mono ?_; rintro e w4 ⟨⟨v4, rfl⟩, b4, l4, o4⟩; (have B4 := Lib.hid b4); (have L4 := Lib.hid l4); (have O4 : Hid (Blk w4 gx 72 #[.int .u8 (sk.toNat : Int), .slice Au sn.length cu]) := Lib.hid (o4 gx _ BB.out (fun e => hgx (by injection e)) (fun c fz e => by injection e with _ e2; exact absurd e2 (by decide)))); clear b4 l4 o4)
              | (go_simp; go_at_call 52; refine (HG.out _).mono ?_; rintro e w9 ⟨rfl, rfl⟩))
            all_goals
              have y0 := O4.out.cell 0
              have y1 := O4.out.cell 1
              have K4 := Lib.hid (kept_below (KK.out.trans BX.out.drew) L4.out)
              have hz4 := L4.out.size
              clear x0 n0
              go_wp2_with (first
                | (go_at_call 51; refine (HWS.out _ _ _ (bf_kept B4.out K5.out) (by rw [List.length_append]; omega) (Nat.le_trans K4.out.size K5.out.size)).mono ?_; rintro e w6 ⟨⟨v6, rfl⟩, b6, l6, o6⟩)
                | (go_at_call 53; refine (HST.out _ K4.out (HAS.out _ K4.out)).mono ?_; rintro e w5 ⟨rfl, k5⟩; (have K5 := Lib.hid k5); clear k5))
              go_roundw
              case rel => exact ⟨k + 1, by go_num, by omega, Lib.hid (by rw [ET.out, ← List.append_assoc]; exact b6), Lib.hid (kept_below (K4.out.trans K5.out) l6), by have := K5.out.size; have := l6.size; have := BB.out.lt; have : wX.drew.heap.size = wX.heap.size := rfl; omega⟩
              case measure => simp [intOf]; omega
        · obtain rfl : k = l.length := by omega
          have HST := Lib.hid (Tryz.Builder_String_any_k w.heap.size d (Pt.tx l l.length) wr HB.out KK.out.size)
          go_wp2_with (go_at_call 54; refine (HST.out).mono ?_; rintro e w4 ⟨rfl, b4, l4, o4⟩)
          go_ret
          exact ⟨by rw [HT.out]; rfl, kept_below KK.out l4⟩
end Go.Proofs.YthjljamngpddmaaGreatDoor
namespace Go.Proofs.YthjljamngpddmaaGreatDoor
open Go.RowKit Go.Shelf

theorem own_set1 {w : World} {base g n : Nat} {e : TypeId} {v a x u : Value} {xs : List Value} (h : w.ownsRow base e 2 v n (a :: x :: xs)) (hg : v.ownBlock = some g) : (w.setCell ⟨g, 1, none⟩ u).ownsRow base e 2 v n (a :: u :: xs) := by
  obtain ⟨h1, h2⟩ := h
  refine ⟨h1, ?_⟩
  rcases h2 with ⟨rfl, _⟩ | ⟨g', cap, cur, rfl, hb, hh, hnc, hcm, hcs, htk⟩
  · simp [Value.ownBlock] at hg
  · obtain rfl : g' = g := by simpa [Value.ownBlock] using hg
    have hB : Blk w g' e cur := hh
    refine .inr ⟨g', cap, _, rfl, hb, hB.put 1 u, hnc, hcm, by simpa using hcs, ?_⟩
    rw [List.length_cons, List.length_cons] at h1
    obtain ⟨m, rfl⟩ : ∃ m, n = m + 1 := ⟨n - 1, by omega⟩
    rw [Array.toList_setIfInBounds]
    rw [show (m + 1) * 2 = m * 2 + 1 + 1 by omega] at htk ⊢
    cases hc : cur.toList with
    | nil => rw [hc] at htk; simp at htk
    | cons c0 r =>
      cases r with
      | nil => rw [hc] at htk; simp at htk
      | cons c1 r =>
        rw [hc, List.take_succ_cons, List.take_succ_cons] at htk
        rw [List.set_cons_succ, List.set_cons_zero, List.take_succ_cons, List.take_succ_cons]
        injection htk with h3 h4
        injection h4 with _ h5
        rw [h3, h5]

theorem Rws.inv {w : World} {B : Nat} {sk : UInt8} {sn : List Nat} {r : List Seg} : ∀ {xs : List Value}, Rws w B xs ((sk, sn) :: r) → ∃ nv ys, xs = .int .u8 (sk.toNat : Int) :: nv :: ys ∧ w.ownsRow B 54 1 nv sn.length (ass sn) ∧ (∀ n ∈ sn, n < 4294967296) ∧ Rws w B ys r
  | _ :: nv :: ys, ⟨h1, h2, h3, h4⟩ => ⟨nv, ys, by rw [h1]; rfl, h2, h3, h4⟩
  | [], h => h.elim
  | [_], h => by unfold Rws at h; exact h.elim
namespace Wk
def ahead (l : List Seg) (n : Nat) : List Seg := match l with | [] => [] | s :: r => (s.1, n :: s.2) :: r
def prepend (l : List Seg) (k : UInt8) (n : Nat) : List Seg × Nat :=
  if !Pt.may l || (decide (k.toNat ≠ 2) && decide (k.toNat ≠ 3)) then ([], 1) else if room l k.toNat then (ahead l n, 0) else if l.length = 32 then ([], 7) else ((k, [n]) :: l, 0)
end Wk

theorem made_as (w : World) (n : Nat) (hn : n < 4294967296) : As (w.alloc (.cells #[.int .u32 (n : Int)] 54)) (.slice (some ⟨w.heap.size, 0, none⟩) 1 1) [n] :=
  ⟨(fun m hm => by obtain rfl := List.mem_singleton.1 hm; exact hn), some ⟨w.heap.size, 0, none⟩, 1, rfl, Nat.le_refl _, by simp [maxLen], src_new w 54 #[.int .u32 (n : Int)] 1 1 rfl (by simp [Value.oneCell'])⟩
end Go.Proofs.YthjljamngpddmaaGreatDoor
namespace Go.Proofs.YthjljamngpddmaaGreatDoor
open Go.RowKit Go.Shelf

theorem own_setN {w : World} {base g n : Nat} {e : TypeId} {v u : Value} {xs : List Value} (h : w.ownsRow base e 1 v n xs) (hg : v.ownBlock = some g) (j : Nat) : (w.setCell ⟨g, j, none⟩ u).ownsRow base e 1 v n (xs.set j u) := by
  obtain ⟨h1, h2⟩ := h
  refine ⟨by rw [List.length_set]; exact h1, ?_⟩
  rcases h2 with ⟨rfl, _⟩ | ⟨g', cap, cur, rfl, hb, hh, hnc, hcm, hcs, htk⟩
  · simp [Value.ownBlock] at hg
  · obtain rfl : g' = g := by simpa [Value.ownBlock] using hg
    have hB : Blk w g' e cur := hh
    refine .inr ⟨g', cap, _, rfl, hb, hB.put j u, hnc, hcm, by simpa using hcs, ?_⟩
    rw [Array.toList_setIfInBounds, List.take_set, htk]
theorem ass_set (l : List Nat) (j m : Nat) : ass (l.set j m) = (ass l).set j (.int .u32 (m : Int)) := by unfold ass; rw [List.map_set]
theorem Rws.setN {w : World} {B g m : Nat} (hm : m < 4294967296) (j : Nat) {v : Value} : ∀ {xs : List Value} {l : List Seg} (_ : Rws w B xs l) (_ : Dist xs) (k : Nat) (_ : k < l.length) (_ : xs[k * 2 + 1]? = some v) (_ : v.ownBlock = some g),
    Rws (w.setCell ⟨g, j, none⟩ (.int .u32 (m : Int))) B xs (l.set k ((l.getD k (0, [])).1, (l.getD k (0, [])).2.set j m))
  | _ :: u :: xs, c :: l, ⟨h1, h2, h3, h4⟩, hd, 0, _, hv, hg => by
    obtain rfl : u = v := by simpa using hv
    have hd2 := List.pairwise_cons.1 (List.pairwise_cons.1 hd).2
    refine ⟨h1, ?_, fun x hx => ?_, h4.apart (Kept.own w g j _) (fun x hx g' hg' (e : g' = g) => ?_)⟩
    · show World.ownsRow _ B _ 1 u (c.2.set j m).length (ass (c.2.set j m))
      rw [List.length_set, ass_set]
      exact own_setN h2 hg j
    · rcases List.mem_or_eq_of_mem_set hx with hx | rfl
      · exact h3 x hx
      · exact hm
    · subst e
      exact hd2.1 x hx g' hg hg'
  | a :: u :: xs, c :: l, ⟨h1, h2, h3, h4⟩, hd, k + 1, hk, hv, hg => by
    have hd2 := List.pairwise_cons.1 (List.pairwise_cons.1 hd).2
    have hv' : xs[k * 2 + 1]? = some v := by rw [Nat.add_mul] at hv; exact hv
    refine ⟨h1, ow_kept h2 (Kept.own w g j _) (fun g' hg' (e : g' = g) => ?_), h3, Rws.setN hm j h4 hd2.2 k (by simpa using hk) hv' hg⟩
    subst e
    exact hd2.1 v (List.mem_of_getElem? hv') g' hg' hg
  | [], [], _, _, k, hk, _, _ => absurd hk (Nat.not_lt_zero _)
  | [], _ :: _, h, _, _, _, _, _ => h.elim
  | [_], _, h, _, _, _, _, _ => by unfold Rws at h; exact h.elim
  | _ :: _ :: _, [], h, _, _, _, _, _ => by unfold Rws at h; exact h.elim

namespace Wk
/-- The first j of a list changed by f. -/
def mix {α : Type} (f : α → α) (j : Nat) (l : List α) : List α := (l.take j).map f ++ l.drop j
section
variable {α : Type} {f : α → α} {j : Nat} {l : List α}
theorem mix_len : (mix f j l).length = l.length := by unfold mix; simp; omega
theorem mix_zero : mix f 0 l = l := by simp [mix]
theorem mix_all : mix f l.length l = l.map f := by simp [mix]
theorem mix_at (d : α) (hj : j < l.length) : (mix f j l).getD j d = l.getD j d := by
  unfold mix
  have h : ((l.take j).map f).length = j := by rw [List.length_map, List.length_take]; omega
  rw [List.getD_eq_getElem?_getD, List.getElem?_append_right (by omega), h, Nat.sub_self, List.getElem?_drop, Nat.add_zero, List.getD_eq_getElem?_getD]
theorem mix_succ (d : α) (hj : j < l.length) : mix f (j + 1) l = (mix f j l).set j (f (l.getD j d)) := by
  unfold mix
  have h : ((l.take j).map f).length = j := by rw [List.length_map, List.length_take]; omega
  have hg : l.getD j d = l[j] := by rw [List.getD_eq_getElem?_getD, List.getElem?_eq_getElem hj]; rfl
  rw [List.take_succ_eq_append_getElem hj, List.map_append, List.set_append_right _ _ (by omega), h, Nat.sub_self, hg, List.drop_eq_getElem_cons hj, List.set_cons_zero]
  simp
theorem mix_skip (d : α) (hj : j < l.length) (h : f (l.getD j d) = l.getD j d) : mix f (j + 1) l = mix f j l := by
  rw [mix_succ d hj, h]
  have h2 := mix_at (f := f) d hj
  have hj2 : j < (mix f j l).length := by rw [mix_len]; exact hj
  have e2 : l.getD j d = (mix f j l)[j] := by rw [← h2, List.getD_eq_getElem?_getD, List.getElem?_eq_getElem hj2]; rfl
  rw [e2, List.set_getElem_self]
end
def rep1 (a b n : Nat) : Nat := if n = a then b else n
def reps (a b : Nat) (s : Seg) : Seg := (s.1, s.2.map (rep1 a b))
def replace (l : List Seg) (a b : Nat) : List Seg := if Pt.may l then l.map (reps a b) else []
/-- The first k segments replaced, and the first j numbers of the next. -/
def half (a b k j : Nat) (l : List Seg) : List Seg := (mix (reps a b) k l).set k ((l.getD k (0, [])).1, mix (rep1 a b) j (l.getD k (0, [])).2)
theorem half_len (a b k j : Nat) (l : List Seg) : (half a b k j l).length = l.length := by unfold half; rw [List.length_set, mix_len]
theorem half_at {a b k j : Nat} {l : List Seg} (hk : k < l.length) : (half a b k j l).getD k (0, []) = ((l.getD k (0, [])).1, mix (rep1 a b) j (l.getD k (0, [])).2) := by
  unfold half
  rw [List.getD_eq_getElem?_getD, List.getElem?_set_self (by rw [mix_len]; exact hk)]
  rfl
theorem half_zero {a b k : Nat} {l : List Seg} (hk : k < l.length) : half a b k 0 l = mix (reps a b) k l := by
  unfold half
  rw [mix_zero]
  have h := mix_at (f := reps a b) (0, ([] : List Nat)) hk
  have hk2 : k < (mix (reps a b) k l).length := by rw [mix_len]; exact hk
  have e : l.getD k (0, []) = (mix (reps a b) k l)[k] := by rw [← h, List.getD_eq_getElem?_getD, List.getElem?_eq_getElem hk2]; rfl
  show (mix (reps a b) k l).set k (l.getD k (0, [])) = _
  rw [e, List.set_getElem_self]
theorem half_full {a b k : Nat} {l : List Seg} (hk : k < l.length) : half a b k (l.getD k (0, [])).2.length l = mix (reps a b) (k + 1) l := by
  unfold half
  rw [mix_all, mix_succ (0, []) hk]
  rfl
theorem half_succ {a b k j : Nat} {l : List Seg} (hj : j < (l.getD k (0, [])).2.length) : half a b k (j + 1) l = (half a b k j l).set k ((l.getD k (0, [])).1, (mix (rep1 a b) j (l.getD k (0, [])).2).set j (rep1 a b ((l.getD k (0, [])).2.getD j 0))) := by
  unfold half
  rw [mix_succ 0 hj, List.set_set]
theorem half_skip {a b k j : Nat} {l : List Seg} (hj : j < (l.getD k (0, [])).2.length) (h : ¬ (l.getD k (0, [])).2.getD j 0 = a) : half a b k (j + 1) l = half a b k j l := by
  unfold half
  rw [mix_skip (f := rep1 a b) 0 hj (if_neg h)]
end Wk
theorem ass_at {l : List Nat} {j : Nat} (hj : j < l.length) : (ass l)[j]? = some (.int .u32 ((l.getD j 0 : Nat) : Int)) := by
  unfold ass
  rw [List.getElem?_map, List.getElem?_eq_getElem hj, List.getD_eq_getElem?_getD, List.getElem?_eq_getElem hj]
  rfl

end Go.Proofs.YthjljamngpddmaaGreatDoor
namespace Go.Proofs.YthjljamngpddmaaGreatDoor
open Go.RowKit Go.Shelf

namespace Fz
theorem joined_l (m : List Seg) : joined [] m = m := rfl
theorem joined_r (a : List Seg) : joined a [] = a := by
  unfold joined
  split
  · rename_i h; cases h
  · rw [List.append_nil]
theorem joined_k {i : List Seg} {x f : Seg} {r : List Seg} (h : ¬ (x.1.toNat = 2 ∧ f.1.toNat = 2)) : joined (i ++ [x]) (f :: r) = (i ++ [x]) ++ f :: r := by
  unfold joined
  rw [List.getLast?_concat]
  simp only [if_neg h]
theorem joined_0 {i : List Seg} {x f : Seg} {r : List Seg} (h : x.1.toNat = 2 ∧ f.1.toNat = 2) (h0 : left x f = 0) : joined (i ++ [x]) (f :: r) = i ++ (f.1, x.2.drop (left x f) ++ f.2) :: r := by
  unfold joined
  rw [List.getLast?_concat]
  simp only [if_pos h, if_pos h0, List.dropLast_concat]
theorem joined_n {i : List Seg} {x f : Seg} {r : List Seg} (h : x.1.toNat = 2 ∧ f.1.toNat = 2) (h0 : ¬ left x f = 0) : joined (i ++ [x]) (f :: r) = (i ++ [(x.1, x.2.take (left x f))]) ++ (f.1, x.2.drop (left x f) ++ f.2) :: r := by
  unfold joined
  rw [List.getLast?_concat]
  simp only [if_pos h, if_neg h0, List.dropLast_concat]
end Fz

theorem Rws.unsnoc {w : World} {B : Nat} {x : Seg} : ∀ {xs : List Value} {l : List Seg}, Rws w B xs (l ++ [x]) → ∃ ys nv, xs = ys ++ [by8 x.1, nv] ∧ Rws w B ys l ∧ w.ownsRow B 54 1 nv x.2.length (ass x.2) ∧ ∀ n ∈ x.2, n < 4294967296
  | [a, v], [], ⟨h1, h2, h3, _⟩ => ⟨[], v, by rw [h1]; rfl, trivial, h2, h3⟩
  | a :: v :: xs, c :: l, ⟨h1, h2, h3, h4⟩ => by
    obtain ⟨ys, nv, e, r, o, b⟩ := Rws.unsnoc h4
    exact ⟨a :: v :: ys, nv, by rw [e]; rfl, ⟨h1, h2, h3, r⟩, o, b⟩
  | [], [], h => h.elim
  | [], _ :: _, h => h.elim
  | [_], [], h => by unfold Rws at h; exact h.elim
  | [_], _ :: _, h => by unfold Rws at h; exact h.elim
  | _ :: _ :: _ :: xs, [], ⟨_, _, _, h4⟩ => by
    cases xs with
    | nil => exact h4.elim
    | cons d r => unfold Rws at h4; exact h4.elim
theorem own_pre {w : World} {B n c m : Nat} {e : TypeId} {A : Option Addr} {size : Nat} {xs : List Value} (h : w.ownsRow B e size (.slice A n c) n xs) (hm : m ≤ n) : w.ownsRow B e size (.slice A m c) m (xs.take (m * size)) := by
  obtain ⟨h1, h2⟩ := h
  have hle : m * size ≤ n * size := Nat.mul_le_mul_right _ hm
  refine ⟨by rw [List.length_take, h1]; omega, ?_⟩
  rcases h2 with ⟨e1, h0⟩ | ⟨g, cap, cur, e1, hb, hh, hn, hx, hs, ht⟩
  · injection e1 with e1 e2 e3
    subst e1 e3
    obtain rfl : m = 0 := by omega
    exact .inl ⟨rfl, rfl⟩
  · injection e1 with e1 e2 e3
    subst e1 e3
    refine .inr ⟨g, c, cur, rfl, hb, hh, by omega, hx, hs, ?_⟩
    rw [← ht, List.take_take, Nat.min_eq_left hle]
theorem own_setS {w : World} {base g n size : Nat} {e : TypeId} {v u : Value} {xs : List Value} (h : w.ownsRow base e size v n xs) (hg : v.ownBlock = some g) (j : Nat) : (w.setCell ⟨g, j, none⟩ u).ownsRow base e size v n (xs.set j u) := by
  obtain ⟨h1, h2⟩ := h
  refine ⟨by rw [List.length_set]; exact h1, ?_⟩
  rcases h2 with ⟨rfl, _⟩ | ⟨g', cap, cur, rfl, hb, hh, hnc, hcm, hcs, htk⟩
  · simp [Value.ownBlock] at hg
  · obtain rfl : g' = g := by simpa [Value.ownBlock] using hg
    have hB : Blk w g' e cur := hh
    refine .inr ⟨g', cap, _, rfl, hb, hB.put j u, hnc, hcm, by simpa using hcs, ?_⟩
    rw [Array.toList_setIfInBounds, List.take_set, htk]
theorem set_snoc2 (ys : List Value) (a u v : Value) (k : Nat) (h : ys.length = k) : (ys ++ [a, u]).set (k + 1) v = ys ++ [a, v] := by
  rw [List.set_append_right _ _ (by omega), h, show k + 1 - k = 1 by omega]
  rfl
theorem slice_loB (A : Option Addr) (n c m : Nat) (hn : m ≤ n) (hc : n ≤ c) : ∃ A' c', (∀ g, A = some ⟨g, 0, none⟩ → m < n → A' = some ⟨g, m, none⟩) ∧ ∀ w, (Instr.slice 70 (.slice A n c) (some (.int .i64 (m : Int))) none none).run Tryz.prog w = .ok (.slice A' (n - m) c') w := by
  have hz := Tryz.sizeOf54
  have he : Tryz.prog.elem 70 = 54 := by kernel_rfl
  refine ⟨if c = m then A else A.map (·.add (m * 1)), c - m, fun g hg h => ?_, fun w => ?_⟩
  · rw [if_neg (by omega), hg]
    simp [add_none]
  · rw [run_slice_l w 70 _ n c (by kernel_rfl) .i64 m (by omega) (by omega), he, hz]
    simp [sliced]
end Go.Proofs.YthjljamngpddmaaGreatDoor
