
/-
  A path's text.
-/
import Derived.Test.YtdeblmolgmadiaaDoorJk
import Derived.Test.YtdeblmolgmadiaaDoorNp
import Derived.Test.YtdeblmolgmadiaaDoorNb
import Derived.Test.YtdeblmolgmadiaaDoorJd
import Derived.Test.YtdeblmolgmadiaaDoorJt
import Derived.Deep.RegionHeld3
namespace Go.Proofs.YtdeblmolgmadiaaDoor
open Go.RowKit

namespace Pt
/-- A segment's text. -/
def segT (s : Seg) : List UInt8 := opens s.1.toNat ++ Lib.join (s.2.map Lib.decDigits) (betw s.1.toNat) ++ ends s.1.toNat
/-- What stands ahead of the k-th segment. -/
def ahead (l : List Seg) (k : Nat) : List UInt8 := if k = 0 then [] else gap (l.getD (k - 1) (0, [])).1.toNat (l.getD k (0, [])).1.toNat
/-- The text of the first k segments. -/
def tx (l : List Seg) : Nat → List UInt8
  | 0 => []
  | k + 1 => tx l k ++ (ahead l k ++ segT (l.getD k (0, [])))
/-- A path's text. -/
def text (l : List Seg) : List UInt8 := if may l then (if l = [] then [45] else tx l l.length) else []
theorem lens_dec (l : List Nat) (h : ∀ n ∈ l, n < 4294967296) : Lib.lens (l.map Lib.decDigits) ≤ 10 * l.length := by
  induction l with
  | nil => simp [Lib.lens]
  | cons n l ih =>
    have h1 := ih (fun m hm => h m (List.mem_cons_of_mem _ hm))
    have h2 := dec_len32 n (h n (List.mem_cons_self ..))
    unfold Lib.lens at h1 ⊢
    rw [List.map_cons, List.map_cons, List.sum_cons, List.length_cons]
    omega
theorem betw_len (k : Nat) : (betw k).length ≤ 1 := by unfold betw; split <;> simp
theorem opens_len (k : Nat) : (opens k).length ≤ 1 := by unfold opens; split <;> simp
theorem ends_len (k : Nat) : (ends k).length ≤ 1 := by unfold ends; split <;> simp
theorem join_len (k : Nat) (l : List Nat) (h : ∀ n ∈ l, n < 4294967296) : (Lib.join (l.map Lib.decDigits) (betw k)).length ≤ 11 * l.length := by
  cases l with
  | nil => simp [Lib.join_nil]
  | cons n l =>
    rw [List.map_cons, Lib.join_cons, List.length_append, Lib.joinTail_length, List.length_map]
    have h1 := lens_dec l (fun m hm => h m (List.mem_cons_of_mem _ hm))
    have h2 := dec_len32 n (h n (List.mem_cons_self ..))
    have h3 := betw_len k
    rw [List.length_cons]
    have h4 : (betw k).length * l.length ≤ 1 * l.length := Nat.mul_le_mul_right _ h3
    omega
theorem segT_len (s : Seg) (h : ∀ n ∈ s.2, n < 4294967296) : (segT s).length ≤ 11 * s.2.length + 2 := by
  unfold segT
  rw [List.length_append, List.length_append]
  have := join_len s.1.toNat s.2 h
  have := opens_len s.1.toNat
  have := ends_len s.1.toNat
  omega
end Pt
end Go.Proofs.YtdeblmolgmadiaaDoor
namespace Go.Proofs.YtdeblmolgmadiaaDoor
open Go.RowKit Go.Sort

theorem fmtu_in1 (u : Nat) (hu : u < 4294967296) (w : World) (hr : Rdy w) :
    Calls Tryd.prog 69 #[.int .u64 (u : Int), .int .i64 10] w fun e w' => e = .returned (.string ⟨(Lib.decDigits u).toArray⟩) ∧ Kept Nothing w w' := by
  by_cases hi : u < 100
  · have hi2 : (u : Int) < 100 := by omega
    go_enter Tryd.func69, Tryd.ntmps69
    go_wp2_with (go_at_call 71; refine (Tryd.internal_strconv_small u hi _).mono ?_; rintro e w' ⟨rfl, rfl⟩)
    go_ret
    exact ⟨rfl, Kept.refl _ _⟩
  · have hi2 : (100 : Int) ≤ (u : Int) := by omega
    have hu1 : 1 ≤ u := by omega
    have hu64 : u < 18446744073709551616 := by omega
    have hnd20 : Lib.nDigits u ≤ 20 := by have := Lib.numDigits_eq u hu1 hu64; split at this <;> omega
    have hal : Tryd.prog.arrayLen 107 = 24 := by kernel_rfl
    have hsl : ∀ W, (Instr.sliceAt 107 (.pointer (some ⟨w.heap.size, 0, none⟩)) none (some (.int .i64 (Lib.nDigits u : Int))) none).run Tryd.prog W = .ok (.slice (some ⟨w.heap.size, 0, none⟩) (Lib.nDigits u) 24) W := fun W => by
      rw [run_sliceAt_array_h W 107 ⟨w.heap.size, 0, none⟩ (by kernel_rfl) .i64 (Lib.nDigits u : Int) (by omega) (by rw [hal]; omega)]
      go_simp
    have hH0 := Lib.holds_zero0 w 107 (Lib.nDigits u) (by omega)
    have hfmt := Tryd.internal_strconv_formatBase10 w.heap.size 0 24 u (Array.replicate (Lib.nDigits u) 0) (w.alloc (.cells Lib.zeros24 107)) hH0 (by rw [Array.size_replicate]; exact Lib.lt_pow_nDigits u) hu64 (by rw [Array.size_replicate]; omega)
    rw [Array.size_replicate] at hfmt
    have HH0 := Lib.hid hH0
    have HF := Lib.hid hfmt
    have htab := Lib.hid hr
    clear hH0 hal hfmt hr
    go_enter Tryd.func69, Tryd.ntmps69
    go_wp2_with (first
      | (go_at_call 72; refine (Tryd.internal_strconv_numDigits u hu1 hu64 _ (Lib.tabIs_alloc htab.out _)).mono ?_; rintro e w' ⟨rfl, rfl⟩))
    go_at_call 73
    refine (HF.out).mono ?_
    rintro e w' ⟨rfl, k, v', dk, rfl, hF⟩
    have hcv : (convert 80 9 (.slice (some ⟨w.heap.size, 0, none⟩) (Lib.nDigits u) 24)).run Tryd.prog ((putRow (fun (b : UInt8) => Value.int .u8 (b.toNat : Int)) (w.alloc (.cells Lib.zeros24 107)) w.heap.size 0 dk).drewN k) = .ok (.string ⟨(Lib.decDigits u).toArray⟩) ((putRow (fun (b : UInt8) => Value.int .u8 (b.toNat : Int)) (w.alloc (.cells Lib.zeros24 107)) w.heap.size 0 dk).drewN k) := by
      have h := run_convert_bytes_back (P := Tryd.prog) ((putRow (fun (b : UInt8) => Value.int .u8 (b.toNat : Int)) (w.alloc (.cells Lib.zeros24 107)) w.heap.size 0 dk).drewN k) 80 9 5 ⟨w.heap.size, 0, none⟩ 24 (Lib.decDigits u) Tryd.underlying80 Tryd.underlying5 Tryd.underlying9 (fun j hj => by
        rw [Lib.row_is_numeral hF j hj, Lib.add_plain, World.cell?_drewN]
        exact cell?_putRow (fun (b : UInt8) => Value.int .u8 (b.toNat : Int)) _ w.heap.size 0 _ dk HH0.out (by rw [hF.size, Array.size_replicate]) j (by rw [hF.size]; rw [Lib.decDigits_length] at hj; exact hj))
      rw [Lib.decDigits_length] at h
      exact h
    go_wp2
    go_ret
    obtain ⟨os, eo⟩ := Lib.fin_at w (.cells Lib.zeros24 107) dk k 0
    exact ⟨rfl, by rw [eo]; exact kept_grow w k os⟩
theorem fmtu_any1 (u : Nat) (hu : u < 4294967296) (w : World) (hr : Rdy w) :
    Calls Tryd.prog 66 #[.int .u64 (u : Int), .int .i64 10] w fun e w' => e = .returned (.string ⟨(Lib.decDigits u).toArray⟩) ∧ Kept Nothing w w' := by
  go_enter Tryd.func66, Tryd.ntmps66
  go_wp2_with (go_at_call 69; refine (fmtu_in1 u hu _ hr).mono ?_; rintro e w1 ⟨rfl, hk⟩)
  go_ret
  exact ⟨rfl, hk⟩
theorem text_any1 (u : Nat) (hu : u < 4294967296) (w : World) (hr : Rdy w) :
    Calls Tryd.prog 62 #[.int .u32 (u : Int)] w fun e w' => e = .returned (.string ⟨(Lib.decDigits u).toArray⟩) ∧ Kept Nothing w w' := by
  go_enter Tryd.func62, Tryd.ntmps62
  go_wp2_with (go_at_call 66; refine (fmtu_any1 u hu _ hr).mono ?_; rintro e w1 ⟨rfl, hk⟩)
  go_ret
  exact ⟨rfl, hk⟩
theorem st_info : (Tryd.prog.info? 9).map (fun i => (i.zero, i.size, i.bytes)) = some (some (.string ⟨#[]⟩), 1, 16) := by kernel_rfl
/-- Texts as the model has them. -/
def sts (l : List (List UInt8)) : List Value := l.map str
theorem sts_append (a b : List (List UInt8)) : sts (a ++ b) = sts a ++ sts b := List.map_append
theorem length_sts (l : List (List UInt8)) : (sts l).length = l.length := List.length_map _

set_option maxRecDepth 20000 in
set_option maxHeartbeats 2000000 in
theorem seg_text (sk : UInt8) (sn : List Nat) (A : Option Addr) (c : Nat) (w : World) (hr : Rdy w) (hs : Bkt w) (h : As w (.slice A sn.length c) sn) (hk1 : 1 ≤ sk.toNat) (hk4 : sk.toNat ≤ 4) (hne : sn ≠ []) (hl : sn.length ≤ 1000) :
    Calls Tryd.prog 54 #[.agg #[.int .u8 (sk.toNat : Int), .slice A sn.length c]] w fun e w' => e = .returned (.string ⟨(Pt.segT (sk, sn)).toArray⟩) ∧ Kept Nothing w w' := by
  obtain ⟨i0, hi, hz0, hz1, hz2⟩ := info_parts st_info
  have HSEG : Hid (Pt.segT (sk, sn) = Pt.opens sk.toNat ++ Lib.join (sn.map Lib.decDigits) (Pt.betw sk.toNat) ++ Pt.ends sk.toNat) := Lib.hid rfl
  have HBC := Lib.hid (fun w1 (k1 : Kept Nothing w w1) => show w1.cell? ⟨0, sk.toNat * 3, none⟩ = some (.string ⟨(Pt.opens sk.toNat).toArray⟩) ∧ w1.cell? ⟨0, sk.toNat * 3 + 1, none⟩ = some (.string ⟨(Pt.betw sk.toNat).toArray⟩) ∧ w1.cell? ⟨0, sk.toNat * 3 + 2, none⟩ = some (.string ⟨(Pt.ends sk.toNat).toArray⟩) from by
    have hb := hs.kept k1
    have hc := bk_cells sk.toNat (by omega)
    exact ⟨by rw [hb.cell]; exact hc.1, by rw [hb.cell]; exact hc.2.1, by rw [hb.cell]; exact hc.2.2⟩)
  have HJL := Lib.hid (Pt.join_len sk.toNat sn h.1)
  have hol := Pt.opens_len sk.toNat
  have hbl := Pt.betw_len sk.toNat
  have hel := Pt.ends_len sk.toNat
  have HR := Lib.hid hr
  have HV := Lib.hid h
  have hki : (sk.toNat : Int) < 5 := by omega
  have hk0i : (0 : Int) ≤ (sk.toNat : Int) := by omega
  have hpos : 0 < sn.length := List.length_pos_iff.2 hne
  generalize Pt.segT (sk, sn) = sg at *
  generalize Pt.opens sk.toNat = op at *
  generalize Pt.betw sk.toNat = bt at *
  generalize Pt.ends sk.toNat = en at *
  generalize sk.toNat = kn at *
  clear h hr hs hne
  go_enter Tryd.func54, Tryd.ntmps54
  go_upto_region 1 with fail
  have b1 := Blk.fresh w 61 #[.int .u8 (kn : Int), .slice A sn.length c]
  have k1 := (Kept.refl Nothing w).alloc (.cells #[.int .u8 (kn : Int), .slice A sn.length c] 61)
  generalize w.alloc (.cells #[.int .u8 (kn : Int), .slice A sn.length c] 61) = w1 at b1 k1 ⊢
  have hbz1 := b1.lt
  have c1 := b1.cell 1
  have B1 := Lib.hid b1
  have K1 := Lib.hid k1
  clear b1 k1
  go_upto_region 3 with fail
  go_loopw [3, 10] (fun q i wr => ∃ k : Nat, i = .int .i64 (k : Int) ∧ k ≤ sn.length ∧ Hid (wr.ownsRow w1.heap.size 9 1 q k (sts ((sn.take k).map Lib.decDigits))) ∧ Kept Nothing w1 wr) (fun _ i _ => sn.length - (intOf i).toNat)
  case atStart => exact ⟨0, rfl, Nat.zero_le _, Lib.hid (World.ownsRow_nil _ _ _ _), Kept.refl _ _⟩
  case round =>
    obtain ⟨k, rfl, hk, HP, hkk⟩ := hrel
    have KK := Lib.hid hkk
    clear hkk
    by_cases hlt : k < sn.length
    · obtain ⟨b, o, rfl, hc⟩ := (HV.out.old (K1.out.trans KK.out)).at (by omega)
      have p0 := hc k hlt
      have i1 : (0 : Int) ≤ (k : Int) := by omega
      have i2 : (k : Int) < (sn.length : Int) := by omega
      have ET : Hid (sts ((sn.take (k + 1)).map Lib.decDigits) = sts ((sn.take k).map Lib.decDigits) ++ [str (Lib.decDigits (sn.getD k 0))]) := Lib.hid (by rw [List.take_succ_eq_append_getElem hlt, List.map_append, sts_append, getD_get hlt]; rfl)
      have hn : sn.getD k 0 < 4294967296 := HV.out.1 _ (by rw [getD_get hlt]; exact List.getElem_mem _)
      have HT := Lib.hid (text_any1 (sn.getD k 0) hn wr (HR.out.kept (K1.out.trans KK.out)))
      generalize sts ((sn.take k).map Lib.decDigits) = xs at *
      generalize Lib.decDigits (sn.getD k 0) = dg at *
      generalize sn.getD k 0 = n at *
      obtain ⟨Aq, cq, rfl, _, _⟩ := ow_form HP.out
      have HL5 : Hid (k + 1 ≤ maxLen ∧ (k + 1) * 16 ≤ 140737488355328) := Lib.hid (by unfold maxLen; omega)
      clear hc
      go_wp2_with (first
        | (at_builtin; refine wpList_app _ rfl _ _ 93 rfl w1.heap.size 9 i0 _ 1 16 Tryd.underlying93 hi hz0 hz1 hz2 rfl (by decide) (.slice Aq k cq) k xs rfl (ow_kept HP.out (K2.out.alloc _) (fun _ _ x => x)) (some ⟨w2.heap.size, 0, none⟩) 1 1 [.string ⟨dg.toArray⟩] rfl (src_new w2 _ #[.string ⟨dg.toArray⟩] 1 1 rfl (by simp [Value.oneCell'])) HL5.out.1 HL5.out.2 (by have := ((KK.out.trans K2.out).alloc (.cells #[.string ⟨dg.toArray⟩] 9)).size; exact this) ?_; intro v7 w7 hown7 hg7 _)
        | (go_at_call 62; refine (HT.out).mono ?_; rintro e w2 ⟨rfl, k2⟩; (have K2 := Lib.hid k2); clear k2))
      go_roundw
      case rel => exact ⟨k + 1, by go_num, by omega, Lib.hid (by rw [ET.out]; exact hown7), (KK.out.trans (K2.out.alloc _)).own_grown (ow_kept HP.out (K2.out.alloc _) (fun _ _ x => x)) (Nat.le_refl _) hg7⟩
      case measure => simp [intOf]; omega
    · obtain rfl : k = sn.length := by omega
      rw [List.take_of_length_le (Nat.le_refl _)] at HP
      obtain ⟨g, cg, cur, rfl, hge, hbg⟩ := own_lies HP.out hpos
      have KW := Lib.hid (K1.out.trans KK.out)
      obtain ⟨q0, q1, q2⟩ := HBC.out _ KW.out
      have c0 := (B1.out.kept KK.out (fun x => x)).cell 0
      have hfm : sn.length ≤ cg := by
        obtain ⟨_, _, e, h1, _⟩ := ow_form HP.out
        injection e with _ _ e3
        subst e3
        exact h1
      have HGC : Hid (∀ (j : Nat) x, (sn.map (fun n => (⟨(Lib.decDigits n).toArray⟩ : ByteArray)))[j]? = some x → wr.cell? ⟨g, 0 + j, none⟩ = some (.string x)) := Lib.hid (fun j x hx => by
        rw [← add_none]
        refine HP.out.cells rfl j _ ?_
        unfold sts
        rw [List.map_map, List.getElem?_map]
        rw [List.getElem?_map] at hx
        cases hj : sn[j]? with
        | none => rw [hj] at hx; cases hx
        | some n => rw [hj] at hx; simp at hx; simp [str, ← hx])
      have HJ := Lib.hid (fun w2 (k2 : Kept Nothing wr w2) => Tryd.strings_Join g 0 cg (sn.map (fun n => (⟨(Lib.decDigits n).toArray⟩ : ByteArray))) ⟨bt.toArray⟩ w2
        (fun j x hx => k2.cell_some (HGC.out j x hx) (fun x => x)) (Nat.lt_of_lt_of_le hbg.lt k2.size) (by rw [List.length_map]; omega) (by rw [List.length_map]; exact hfm)
        (by
          have e1 : ((sn.map (fun n => (⟨(Lib.decDigits n).toArray⟩ : ByteArray))).map (·.data.toList)) = sn.map Lib.decDigits := by rw [List.map_map]; exact List.map_congr_left (fun n _ => rfl)
          rw [e1]
          have := HJL.out
          show (Lib.join (sn.map Lib.decDigits) bt).length ≤ _
          omega))
      have e1 : ((sn.map (fun n => (⟨(Lib.decDigits n).toArray⟩ : ByteArray))).map (·.data.toList)) = sn.map Lib.decDigits := by rw [List.map_map]; exact List.map_congr_left (fun n _ => rfl)
      rw [e1, List.length_map] at HJ
      have s1 := add_run op (Lib.join (sn.map Lib.decDigits) bt) (by omega) (by have := HJL.out; omega)
      have s2 := add_run (op ++ Lib.join (sn.map Lib.decDigits) bt) en (by rw [List.length_append]; have := HJL.out; omega) (by omega)
      replace HJ : Hid (∀ w2, Kept Nothing wr w2 → Calls Tryd.prog 63 #[.slice (some ⟨g, 0, none⟩) sn.length cg, .string ⟨bt.toArray⟩] w2 fun e w' => e = .returned (.string ⟨(Lib.join (sn.map Lib.decDigits) bt).toArray⟩) ∧ Below w2.heap.size w2 w') := HJ
      generalize Lib.join (sn.map Lib.decDigits) bt = jt at *
      clear HP HGC e1 hbg
      go_upto_region 8 with fail
      have b2 := Blk.fresh wr 96 #[.string ⟨op.toArray⟩, .string ⟨bt.toArray⟩, .string ⟨en.toArray⟩]
      have k2 := (Kept.refl Nothing wr).alloc (.cells #[.string ⟨op.toArray⟩, .string ⟨bt.toArray⟩, .string ⟨en.toArray⟩] 96)
      clear q0 q1 q2 c0 c1
      generalize wr.alloc (.cells #[.string ⟨op.toArray⟩, .string ⟨bt.toArray⟩, .string ⟨en.toArray⟩] 96) = wX at b2 k2 ⊢
      generalize wr.heap.size = gx at *
      have B2 := Lib.hid b2
      have K2 := Lib.hid k2
      have d0 := b2.cell 0
      have d1 := b2.cell 1
      have d2 := b2.cell 2
      clear b2 k2
      go_region_held3 (fun w' => w'.cell? ⟨gx, 0, none⟩ = some (.string ⟨op.toArray⟩) ∧ w'.cell? ⟨gx, 1, none⟩ = some (.string ⟨bt.toArray⟩) ∧ w'.cell? ⟨gx, 2, none⟩ = some (.string ⟨en.toArray⟩)) (first | exact ⟨d0, d1, d2⟩ | exact ⟨f0, f1, f2⟩) (first
        | (go_simp; go_at_call 63; refine (HJ.out _ (by exact K2.out.drew)).mono ?_; rintro e w9 ⟨rfl, hb9⟩; (have k9 := grows hb9); (have f0 := (B2.out.drew.kept k9 (fun x => x)).cell 0); (have f1 := (B2.out.drew.kept k9 (fun x => x)).cell 1); (have f2 := (B2.out.drew.kept k9 (fun x => x)).cell 2); (have K9 := Lib.hid k9); clear k9 hb9))
      all_goals
        go_wp2
        go_ret
        exact ⟨by rw [HSEG.out]; simp, KW.out.trans (K2.out.drew.trans K9.out)⟩
end Go.Proofs.YtdeblmolgmadiaaDoor
namespace Go.Proofs.YtdeblmolgmadiaaDoor
open Go.RowKit

theorem bf_kept {T e : TypeId} {B b : Nat} {bs : List Value} {w w' : World} (h : Lib.IsBuilderF T e B b bs w) (k : Kept Nothing w w') : Lib.IsBuilderF T e B b bs w' := by
  have one : ∀ p, Lib.BuilderAtF T e B b p bs w → Lib.BuilderAtF T e B b p bs w' := fun p ⟨hB, v, hb, ho, hne⟩ => by
    have hlt := (Array.getElem?_eq_some_iff.1 hb).1
    refine ⟨hB, v, (k.block b hlt (fun x => x)).trans hb, ⟨ho.1, ?_⟩, hne⟩
    rcases ho.2 with hn | ⟨g, cap, cur, fz, hv, hbg, hg, rest⟩
    · exact .inl hn
    · exact .inr ⟨g, cap, cur, fz, hv, hbg, (k.block g (Array.getElem?_eq_some_iff.1 hg).1 (fun x => x)).trans hg, rest⟩
  exact h.elim (fun x => .inl (one _ x)) (fun x => .inr (one _ x))
theorem kept_below {w wr w' : World} (h : Kept Nothing w wr) (hb : Below w.heap.size wr w') : Kept Nothing w w' :=
  ⟨hb.os.trans h.os, hb.tape.trans h.tape, hb.output.trans h.output, Nat.le_trans h.size hb.size, fun k hk hs => (hb.block k hk).trans (h.block k hk hs)⟩
theorem byteCells_append (a b : List UInt8) : Lib.byteCells a ++ Lib.strCells ⟨b.toArray⟩ = Lib.byteCells (a ++ b) := by
  simp [Lib.byteCells, Lib.strCells]

/-- The builder written on. -/
theorem ws_any (B d : Nat) (bs s : List UInt8) (w : World) (h : Lib.IsBuilderF 82 5 B d (Lib.byteCells bs) w) (hl : bs.length + s.length ≤ 1000000) (hB : B ≤ w.heap.size) :
    Calls Tryd.prog 52 #[.pointer (some ⟨d, 0, none⟩), .string ⟨s.toArray⟩] w fun e w' => (∃ v, e = .returned v) ∧ Lib.IsBuilderF 82 5 B d (Lib.byteCells (bs ++ s)) w' ∧ Below B w w' ∧ Lib.OthersKept 5 (some d) w w' := by
  have h0 : Calls Tryd.prog 52 #[.pointer (some ⟨d, 0, none⟩), .string ⟨s.toArray⟩] w fun e w' => e = .returned (.tuple #[.int .i64 (⟨s.toArray⟩ : ByteArray).size, .nilIface]) ∧ (Lib.BuilderAtF 82 5 B d (.pointer (some ⟨d, 0, none⟩)) (Lib.byteCells bs ++ Lib.strCells ⟨s.toArray⟩) w' ∧ Below B w w' ∧ Lib.OthersKept 5 (some d) w w') :=
    Any.Builder_WriteString_k { Tryd.lays156 with } Tryd.Builder_Extra_156 B d (Lib.byteCells bs) ⟨s.toArray⟩ w h (by simp [Lib.byteCells, ByteArray.size]; omega) hB
  refine h0.mono ?_
  rintro e w' ⟨rfl, h1, h2, h3⟩
  refine ⟨⟨_, rfl⟩, .inr ?_, h2, h3⟩
  rw [← byteCells_append]
  exact h1

namespace Pt
theorem ahead_len (l : List Seg) (k : Nat) : (ahead l k).length ≤ 3 := by unfold ahead gap; split; simp; split <;> simp
theorem tx_len (l : List Seg) (h : ∀ s ∈ l, (∀ n ∈ s.2, n < 4294967296) ∧ s.2.length ≤ 255) : ∀ k, k ≤ l.length → (tx l k).length ≤ 3000 * k
  | 0, _ => by simp [tx]
  | k + 1, hk => by
    have h1 := tx_len l h k (by omega)
    have h2 := ahead_len l k
    have hm : l.getD k (0, []) ∈ l := by rw [getD_get (by omega)]; exact List.getElem_mem _
    have h3 := segT_len (l.getD k (0, [])) (h _ hm).1
    have h4 := (h _ hm).2
    unfold tx
    rw [List.length_append, List.length_append]
    omega
theorem may_seg {l : List Seg} (h : may l = true) {s : Seg} (hs : s ∈ l) : 1 ≤ s.1.toNat ∧ s.1.toNat ≤ 4 ∧ s.2 ≠ [] ∧ s.2.length ≤ 255 := by
  unfold may at h
  rw [Bool.and_eq_true, List.all_eq_true] at h
  have := h.1 s hs
  unfold may1 at this
  simp only [Bool.and_eq_true, decide_eq_true_eq] at this
  exact ⟨this.1.1.1, this.1.1.2, List.length_pos_iff.1 this.1.2, this.2⟩
theorem may_le {l : List Seg} (h : may l = true) : l.length ≤ 32 := by
  unfold may at h
  rw [Bool.and_eq_true] at h
  simpa using h.2
end Pt

set_option maxRecDepth 20000 in
set_option maxHeartbeats 2000000 in
theorem path_text (v : Value) (l : List Seg) (w : World) (h : Pts w v l) (hl : l.length ≤ 1000000) (hr : Rdy w) (hs : Bkt w) :
    Calls Tryd.prog 42 #[v] w fun e w' => e = .returned (.string ⟨(Pt.text l).toArray⟩) ∧ Kept Nothing w w' := by
  obtain ⟨A, c, rfl, hc, hm⟩ := h.form
  have HM := Lib.hid (path_may _ l w h (by omega))
  have HV := Lib.hid h
  have HR := Lib.hid hr
  have HS := Lib.hid hs
  have HT : Hid (Pt.text l = if Pt.may l then (if l = [] then [45] else Pt.tx l l.length) else []) := Lib.hid rfl
  clear h hr hs
  cases hmay : Pt.may l with
  | false =>
    rw [hmay] at HM HT
    clear hmay
    go_enter Tryd.func42, Tryd.ntmps42
    go_wp2_with (go_at_call 31; refine (HM.out).mono ?_; rintro e w1 ⟨rfl, k1⟩)
    go_ret
    exact ⟨by rw [HT.out]; rfl, k1⟩
  | true =>
    have h32 := Pt.may_le hmay
    have HSEG := Lib.hid (fun s (hs : s ∈ l) => Pt.may_seg hmay hs)
    rw [hmay] at HM HT
    clear hmay
    by_cases hle : l = []
    · subst hle
      go_enter Tryd.func42, Tryd.ntmps42
      go_wp2_with (go_at_call 31; refine (HM.out).mono ?_; rintro e w1 ⟨rfl, k1⟩)
      go_ret
      exact ⟨by rw [HT.out]; rfl, k1⟩
    · rw [if_pos rfl, if_neg hle] at HT
      have hpos : 0 < l.length := List.length_pos_iff.2 hle
      have hpi : ((l.length : Int) == 0) = false := by simp; omega
      have HTL := Lib.hid (Pt.tx_len l (fun s hs => ⟨HV.out.fits s hs, (HSEG.out s hs).2.2.2⟩))
      clear hle
      go_enter Tryd.func42, Tryd.ntmps42
      go_upto_region 5 with (go_at_call 31; refine (HM.out).mono ?_; rintro e w1 ⟨rfl, k1⟩; (have K1 := Lib.hid k1); clear k1)
      go_upto_region 6 with fail
      have hb1 : Lib.IsBuilderF 82 5 w.heap.size w1.heap.size (Lib.byteCells (Pt.tx l 0)) (w1.alloc (.cells #[.pointer none, .slice none 0 0] 82)) :=
        .inl ⟨K1.out.size, _, heap_alloc_new w1 _, World.ownsRowF_nil _ _ _ _, by simp [Value.ownBlock]⟩
      have k2 := K1.out.alloc (.cells #[.pointer none, .slice none 0 0] 82)
      have hdz : w1.heap.size < (w1.alloc (.cells #[.pointer none, .slice none 0 0] 82)).heap.size := by simp
      generalize w1.alloc (.cells #[.pointer none, .slice none 0 0] 82) = w2 at hb1 k2 hdz ⊢
      have hdw := K1.out.size
      generalize w1.heap.size = d at *
      have HB1 := Lib.hid hb1
      have K2 := Lib.hid k2
      clear hb1 k2 K1
      go_upto_region 7 with fail
      go_loopw [14] (fun i wr => ∃ k : Nat, i = .int .i64 (k : Int) ∧ k ≤ l.length ∧ Hid (Lib.IsBuilderF 82 5 w.heap.size d (Lib.byteCells (Pt.tx l k)) wr) ∧ Hid (Kept Nothing w wr) ∧ d < wr.heap.size) (fun i _ => l.length - (intOf i).toNat)
      case atStart => exact ⟨0, rfl, Nat.zero_le _, HB1, K2, hdz⟩
      case round =>
        clear HB1 K2 hdz
        obtain ⟨k, rfl, hk, HB, KK, hdz⟩ := hrel
        by_cases hlt : k < l.length
        · obtain ⟨b, o, Au, cu, rfl, p0w, p1w, hp⟩ := HV.out.at2 hlt
          have p0 := KK.out.cell_some p0w (fun x => x)
          have p1 := KK.out.cell_some p1w (fun x => x)
          have hmem : l.getD k (0, []) ∈ l := by rw [getD_get hlt]; exact List.getElem_mem _
          obtain ⟨g1, g2, g3, g4⟩ := HSEG.out _ hmem
          have htl := HTL.out k (by omega)
          have hsl := Pt.segT_len (l.getD k (0, [])) (HV.out.fits _ hmem)
          have ET : Hid (Pt.tx l (k + 1) = Pt.tx l k ++ (Pt.ahead l k ++ Pt.segT (l.getD k (0, [])))) := Lib.hid rfl
          have EA : Hid (Pt.ahead l k = if k = 0 then [] else Pt.gap (l.getD (k - 1) (0, [])).1.toNat (l.getD k (0, [])).1.toNat) := Lib.hid rfl
          have hal := Pt.ahead_len l k
          have i1 : (0 : Int) ≤ (k : Int) := by omega
          have i2 : (k : Int) < (l.length : Int) := by omega
          have hls : b < wr.heap.size := World.block_lt_of_cell? _ _ p0
          generalize hsg : l.getD k (0, []) = sg at *
          obtain ⟨sk, sn⟩ := sg
          simp only at p0 p1 g1 g2 g3 g4 hsl EA
          replace hp : As w (.slice Au sn.length cu) sn := hp
          have HST := Lib.hid (fun w1 (k1 : Kept Nothing w w1) (h1 : As w1 (.slice Au sn.length cu) sn) => seg_text sk sn Au cu w1 (HR.out.kept k1) (HS.out.kept k1) h1 g1 g2 g3 (by omega))
          have HAS := Lib.hid (fun w1 (k1 : Kept Nothing w w1) => hp.old k1)
          have hsk := sk.toNat_lt
          have HWS := Lib.hid (fun (bs s : List UInt8) (w1 : World) h h2 h3 => ws_any w.heap.size d bs s w1 h h2 h3)
          have hwz := KK.out.size
          clear hp hsg hmem p0w p1w
          by_cases hk0 : k = 0
          · rw [if_pos hk0] at EA
            have hk0i : ¬ (0 : Int) < (k : Int) := by omega
            clear hk0
            rw [EA.out, List.nil_append] at ET
            clear EA hal g1 g2 g3
            generalize Pt.segT (sk, sn) = st at *
            have BX := Lib.hid ((Kept.refl Nothing wr).alloc (.cells #[.int .u8 (sk.toNat : Int), .slice Au sn.length cu] 61))
            go_wp2_with (first
              | (go_at_call 52; refine (HWS.out _ _ _ (bf_kept HB.out (BX.out.trans K3.out)) (by omega) (Nat.le_trans hwz (BX.out.trans K3.out).size)).mono ?_; rintro e w4 ⟨⟨v4, rfl⟩, b4, l4, o4⟩)
              | (go_at_call 54; refine (HST.out _ (KK.out.trans BX.out) (HAS.out _ (KK.out.trans BX.out))).mono ?_; rintro e w3 ⟨rfl, k3⟩; (have K3 := Lib.hid k3); clear k3))
            go_roundw
            case rel => exact ⟨k + 1, by go_num, by omega, Lib.hid (by rw [ET.out]; exact b4), Lib.hid (kept_below (KK.out.trans (BX.out.trans K3.out)) l4), Nat.lt_of_lt_of_le hdz (Nat.le_trans (BX.out.trans K3.out).size l4.size)⟩
            case measure => simp [intOf]; omega
          · rw [if_neg hk0] at EA
            obtain ⟨m, hm1⟩ : ∃ m, k = m + 1 := ⟨k - 1, by omega⟩
            obtain ⟨bm, om, Am, cm, hbm, m0w, -⟩ := HV.out.at2 (i := m) (by omega)
            have m0 := KK.out.cell_some m0w (fun x => x)
            clear m0w
            injection hbm with hbm
            injection hbm with hb1 hb2
            subst hb1 hb2
            rw [show k - 1 = m by omega] at EA
            rw [EA.out] at ET hal
            have hmk := (l.getD m (0, [])).1.toNat_lt
            have HG := Lib.hid (fun w1 => gap_any (l.getD m (0, [])).1.toNat sk.toNat (by omega) (by omega) w1)
            generalize (l.getD m (0, [])).1.toNat = km at *
            generalize Pt.gap km sk.toNat = gp at *
            generalize Pt.segT (sk, sn) = st at *
            clear EA hk0 g1 g2 g3
            have j1 : (0 : Int) ≤ (m : Int) := by omega
            have j2 : (m : Int) < (l.length : Int) := by omega
            have j3 : (0 : Int) < (k : Int) := by omega
            have j4 : (k : Int) - 1 = (m : Int) := by omega
            have j5 : IntKind.i64.wrap (m : Int) = (m : Int) := by rw [IntKind.wrap_i64]; omega
            clear hm1
            go_upto_region 10 with fail
            have bx := Blk.fresh wr 61 #[.int .u8 (sk.toNat : Int), .slice Au sn.length cu]
            have kx := (Kept.refl Nothing wr).alloc (.cells #[.int .u8 (sk.toNat : Int), .slice Au sn.length cu] 61)
            have n0 := kx.cell_some m0 (fun x => x)
            clear p0 p1 m0
            generalize wr.alloc (.cells #[.int .u8 (sk.toNat : Int), .slice Au sn.length cu] 61) = wX at bx kx n0 ⊢
            have hgx : wr.heap.size ≠ d := by omega
            generalize wr.heap.size = gx at *
            have x0 := bx.cell 0
            have BX := Lib.hid kx
            have BB := Lib.hid bx
            clear bx kx
            go_region_law (first
              | (go_simp; go_at_call 52; refine (HWS.out _ _ _ (bf_kept HB.out BX.out.drew) (by omega) (Nat.le_trans KK.out.size BX.out.size)).mono ?_; rintro e w4 ⟨⟨v4, rfl⟩, b4, l4, o4⟩; (have B4 := Lib.hid b4); (have L4 := Lib.hid l4); (have O4 : Hid (Blk w4 gx 61 #[.int .u8 (sk.toNat : Int), .slice Au sn.length cu]) := Lib.hid (o4 gx _ BB.out (fun e => hgx (by injection e)) (fun c fz e => by injection e with _ e2; exact absurd e2 (by decide)))); clear b4 l4 o4)
              | (go_simp; go_at_call 53; refine (HG.out _).mono ?_; rintro e w9 ⟨rfl, rfl⟩))
            all_goals
              have y0 := O4.out.cell 0
              have y1 := O4.out.cell 1
              have K4 := Lib.hid (kept_below (KK.out.trans BX.out.drew) L4.out)
              have hz4 := L4.out.size
              clear x0 n0
              go_wp2_with (first
                | (go_at_call 52; refine (HWS.out _ _ _ (bf_kept B4.out K5.out) (by rw [List.length_append]; omega) (Nat.le_trans K4.out.size K5.out.size)).mono ?_; rintro e w6 ⟨⟨v6, rfl⟩, b6, l6, o6⟩)
                | (go_at_call 54; refine (HST.out _ K4.out (HAS.out _ K4.out)).mono ?_; rintro e w5 ⟨rfl, k5⟩; (have K5 := Lib.hid k5); clear k5))
              go_roundw
              case rel => exact ⟨k + 1, by go_num, by omega, Lib.hid (by rw [ET.out, ← List.append_assoc]; exact b6), Lib.hid (kept_below (K4.out.trans K5.out) l6), by have := K5.out.size; have := l6.size; have := BB.out.lt; have : wX.drew.heap.size = wX.heap.size := rfl; omega⟩
              case measure => simp [intOf]; omega
        · obtain rfl : k = l.length := by omega
          have HST := Lib.hid (Tryd.Builder_String_any_k w.heap.size d (Pt.tx l l.length) wr HB.out KK.out.size)
          go_wp2_with (go_at_call 55; refine (HST.out).mono ?_; rintro e w4 ⟨rfl, b4, l4, o4⟩)
          go_ret
          exact ⟨by rw [HT.out]; rfl, kept_below KK.out l4⟩
end Go.Proofs.YtdeblmolgmadiaaDoor
