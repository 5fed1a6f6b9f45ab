
/-
  A path's text.
-/
import Derived.Test.YtdeblmolgmadiaaGreatDoorKb
namespace Go.Proofs.YtdeblmolgmadiaaGreatDoor
open Go.RowKit

theorem bf_kept {T e : TypeId} {B b : Nat} {bs : List Value} {w w' : World} (h : Lib.IsBuilderF T e B b bs w) (k : Kept Nothing w w') : Lib.IsBuilderF T e B b bs w' := by
  have one : ∀ p, Lib.BuilderAtF T e B b p bs w → Lib.BuilderAtF T e B b p bs w' := fun p ⟨hB, v, hb, ho, hne⟩ => by
    have hlt := (Array.getElem?_eq_some_iff.1 hb).1
    refine ⟨hB, v, (k.block b hlt (fun x => x)).trans hb, ⟨ho.1, ?_⟩, hne⟩
    rcases ho.2 with hn | ⟨g, cap, cur, fz, hv, hbg, hg, rest⟩
    · exact .inl hn
    · exact .inr ⟨g, cap, cur, fz, hv, hbg, (k.block g (Array.getElem?_eq_some_iff.1 hg).1 (fun x => x)).trans hg, rest⟩
  exact h.elim (fun x => .inl (one _ x)) (fun x => .inr (one _ x))
theorem kept_below {w wr w' : World} (h : Kept Nothing w wr) (hb : Below w.heap.size wr w') : Kept Nothing w w' :=
  ⟨hb.os.trans h.os, hb.tape.trans h.tape, hb.output.trans h.output, Nat.le_trans h.size hb.size, fun k hk hs => (hb.block k hk).trans (h.block k hk hs)⟩
theorem byteCells_append (a b : List UInt8) : Lib.byteCells a ++ Lib.strCells ⟨b.toArray⟩ = Lib.byteCells (a ++ b) := by
  simp [Lib.byteCells, Lib.strCells]

/-- The builder written on. -/
theorem ws_any (B d : Nat) (bs s : List UInt8) (w : World) (h : Lib.IsBuilderF 113 5 B d (Lib.byteCells bs) w) (hl : bs.length + s.length ≤ 1000000) (hB : B ≤ w.heap.size) :
    Calls Tryz.prog 52 #[.pointer (some ⟨d, 0, none⟩), .string ⟨s.toArray⟩] w fun e w' => (∃ v, e = .returned v) ∧ Lib.IsBuilderF 113 5 B d (Lib.byteCells (bs ++ s)) w' ∧ Below B w w' ∧ Lib.OthersKept 5 (some d) w w' := by
  have h0 : Calls Tryz.prog 52 #[.pointer (some ⟨d, 0, none⟩), .string ⟨s.toArray⟩] w fun e w' => e = .returned (.tuple #[.int .i64 (⟨s.toArray⟩ : ByteArray).size, .nilIface]) ∧ (Lib.BuilderAtF 113 5 B d (.pointer (some ⟨d, 0, none⟩)) (Lib.byteCells bs ++ Lib.strCells ⟨s.toArray⟩) w' ∧ Below B w w' ∧ Lib.OthersKept 5 (some d) w w') :=
    Any.Builder_WriteString_k { Tryz.lays156 with } Tryz.Builder_Extra_156 B d (Lib.byteCells bs) ⟨s.toArray⟩ w h (by simp [Lib.byteCells, ByteArray.size]; omega) hB
  refine h0.mono ?_
  rintro e w' ⟨rfl, h1, h2, h3⟩
  refine ⟨⟨_, rfl⟩, .inr ?_, h2, h3⟩
  rw [← byteCells_append]
  exact h1

namespace Pt
theorem ahead_len (l : List Seg) (k : Nat) : (ahead l k).length ≤ 3 := by unfold ahead gap; split; simp; split <;> simp
theorem tx_len (l : List Seg) (h : ∀ s ∈ l, (∀ n ∈ s.2, n < 4294967296) ∧ s.2.length ≤ 255) : ∀ k, k ≤ l.length → (tx l k).length ≤ 3000 * k
  | 0, _ => by simp [tx]
  | k + 1, hk => by
    have h1 := tx_len l h k (by omega)
    have h2 := ahead_len l k
    have hm : l.getD k (0, []) ∈ l := by rw [getD_get (by omega)]; exact List.getElem_mem _
    have h3 := segT_len (l.getD k (0, [])) (h _ hm).1
    have h4 := (h _ hm).2
    unfold tx
    rw [List.length_append, List.length_append]
    omega
theorem may_seg {l : List Seg} (h : may l = true) {s : Seg} (hs : s ∈ l) : 1 ≤ s.1.toNat ∧ s.1.toNat ≤ 4 ∧ s.2 ≠ [] ∧ s.2.length ≤ 255 := by
  unfold may at h
  rw [Bool.and_eq_true, List.all_eq_true] at h
  have := h.1 s hs
  unfold may1 at this
  simp only [Bool.and_eq_true, decide_eq_true_eq] at this
  exact ⟨this.1.1.1, this.1.1.2, List.length_pos_iff.1 this.1.2, this.2⟩
theorem may_le {l : List Seg} (h : may l = true) : l.length ≤ 32 := by
  unfold may at h
  rw [Bool.and_eq_true] at h
  simpa using h.2
end Pt

set_option maxRecDepth 20000 in
set_option maxHeartbeats 2000000 in
theorem path_text (v : Value) (l : List Seg) (w : World) (h : Pts w v l) (hl : l.length ≤ 1000000) (hr : Rdy w) (hs : Bkt w) :
    Calls Tryz.prog 23 #[v] w fun e w' => e = .returned (.string ⟨(Pt.text l).toArray⟩) ∧ Kept Nothing w w' := by
  obtain ⟨A, c, rfl, hc, hm⟩ := h.form
  have HM := Lib.hid (path_may _ l w h (by omega))
  have HV := Lib.hid h
  have HR := Lib.hid hr
  have HS := Lib.hid hs
  have HT : Hid (Pt.text l = if Pt.may l then (if l = [] then [45] else Pt.tx l l.length) else []) := Lib.hid rfl
  clear h hr hs
  cases hmay : Pt.may l with
  | false =>
    rw [hmay] at HM HT
    clear hmay
    go_enter Tryz.func23, Tryz.ntmps23
    go_wp2_with (go_at_call 16; refine (HM.out).mono ?_; rintro e w1 ⟨rfl, k1⟩)
    go_ret
    exact ⟨by rw [HT.out]; rfl, k1⟩
  | true =>
    have h32 := Pt.may_le hmay
    have HSEG := Lib.hid (fun s (hs : s ∈ l) => Pt.may_seg hmay hs)
    rw [hmay] at HM HT
    clear hmay
    by_cases hle : l = []
    · subst hle
      go_enter Tryz.func23, Tryz.ntmps23
      go_wp2_with (go_at_call 16; refine (HM.out).mono ?_; rintro e w1 ⟨rfl, k1⟩)
      go_ret
      exact ⟨by rw [HT.out]; rfl, k1⟩
    · rw [if_pos rfl, if_neg hle] at HT
      have hpos : 0 < l.length := List.length_pos_iff.2 hle
      have hpi : ((l.length : Int) == 0) = false := by simp; omega
      have HTL := Lib.hid (Pt.tx_len l (fun s hs => ⟨HV.out.fits s hs, (HSEG.out s hs).2.2.2⟩))
      clear hle
      go_enter Tryz.func23, Tryz.ntmps23
      go_upto_region 5 with (go_at_call 16; refine (HM.out).mono ?_; rintro e w1 ⟨rfl, k1⟩; (have K1 := Lib.hid k1); clear k1)
      go_upto_region 6 with fail
      have hb1 : Lib.IsBuilderF 113 5 w.heap.size w1.heap.size (Lib.byteCells (Pt.tx l 0)) (w1.alloc (.cells #[.pointer none, .slice none 0 0] 113)) :=
        .inl ⟨K1.out.size, _, heap_alloc_new w1 _, World.ownsRowF_nil _ _ _ _, by simp [Value.ownBlock]⟩
      have k2 := K1.out.alloc (.cells #[.pointer none, .slice none 0 0] 113)
      have hdz : w1.heap.size < (w1.alloc (.cells #[.pointer none, .slice none 0 0] 113)).heap.size := by simp
      generalize w1.alloc (.cells #[.pointer none, .slice none 0 0] 113) = w2 at hb1 k2 hdz ⊢
      have hdw := K1.out.size
      generalize w1.heap.size = d at *
      have HB1 := Lib.hid hb1
      have K2 := Lib.hid k2
      clear hb1 k2 K1
      go_upto_region 7 with fail
      go_loopw [14] (fun i wr => ∃ k : Nat, i = .int .i64 (k : Int) ∧ k ≤ l.length ∧ Hid (Lib.IsBuilderF 113 5 w.heap.size d (Lib.byteCells (Pt.tx l k)) wr) ∧ Hid (Kept Nothing w wr) ∧ d < wr.heap.size) (fun i _ => l.length - (intOf i).toNat)
      case atStart => exact ⟨0, rfl, Nat.zero_le _, HB1, K2, hdz⟩
      case round =>
        clear HB1 K2 hdz
        obtain ⟨k, rfl, hk, HB, KK, hdz⟩ := hrel
        by_cases hlt : k < l.length
        · obtain ⟨b, o, Au, cu, rfl, p0w, p1w, hp⟩ := HV.out.at2 hlt
          have p0 := KK.out.cell_some p0w (fun x => x)
          have p1 := KK.out.cell_some p1w (fun x => x)
          have hmem : l.getD k (0, []) ∈ l := by rw [getD_get hlt]; exact List.getElem_mem _
          obtain ⟨g1, g2, g3, g4⟩ := HSEG.out _ hmem
          have htl := HTL.out k (by omega)
          have hsl := Pt.segT_len (l.getD k (0, [])) (HV.out.fits _ hmem)
          have ET : Hid (Pt.tx l (k + 1) = Pt.tx l k ++ (Pt.ahead l k ++ Pt.segT (l.getD k (0, [])))) := Lib.hid rfl
          have EA : Hid (Pt.ahead l k = if k = 0 then [] else Pt.gap (l.getD (k - 1) (0, [])).1.toNat (l.getD k (0, [])).1.toNat) := Lib.hid rfl
          have hal := Pt.ahead_len l k
          have i1 : (0 : Int) ≤ (k : Int) := by omega
          have i2 : (k : Int) < (l.length : Int) := by omega
          have hls : b < wr.heap.size := World.block_lt_of_cell? _ _ p0
          generalize hsg : l.getD k (0, []) = sg at *
          obtain ⟨sk, sn⟩ := sg
          simp only at p0 p1 g1 g2 g3 g4 hsl EA
          replace hp : As w (.slice Au sn.length cu) sn := hp
          have HST := Lib.hid (fun w1 (k1 : Kept Nothing w w1) (h1 : As w1 (.slice Au sn.length cu) sn) => seg_text sk sn Au cu w1 (HR.out.kept k1) (HS.out.kept k1) h1 g1 g2 g3 (by omega))
          have HAS := Lib.hid (fun w1 (k1 : Kept Nothing w w1) => hp.old k1)
          have hsk := sk.toNat_lt
          have HWS := Lib.hid (fun (bs s : List UInt8) (w1 : World) h h2 h3 => ws_any w.heap.size d bs s w1 h h2 h3)
          have hwz := KK.out.size
          clear hp hsg hmem p0w p1w
          by_cases hk0 : k = 0
          · rw [if_pos hk0] at EA
            have hk0i : ¬ (0 : Int) < (k : Int) := by omega
            clear hk0
            rw [EA.out, List.nil_append] at ET
            clear EA hal g1 g2 g3
            generalize Pt.segT (sk, sn) = st at *
            have BX := Lib.hid ((Kept.refl Nothing wr).alloc (.cells #[.int .u8 (sk.toNat : Int), .slice Au sn.length cu] 96))
            go_wp2_with (first
              | (go_at_call 52; refine (HWS.out _ _ _ (bf_kept HB.out (BX.out.trans K3.out)) (by omega) (Nat.le_trans hwz (BX.out.trans K3.out).size)).mono ?_; rintro e w4 ⟨⟨v4, rfl⟩, b4, l4, o4⟩)
              | (go_at_call 54; refine (HST.out _ (KK.out.trans BX.out) (HAS.out _ (KK.out.trans BX.out))).mono ?_; rintro e w3 ⟨rfl, k3⟩; (have K3 := Lib.hid k3); clear k3))
            go_roundw
            case rel => exact ⟨k + 1, by go_num, by omega, Lib.hid (by rw [ET.out]; exact b4), Lib.hid (kept_below (KK.out.trans (BX.out.trans K3.out)) l4), Nat.lt_of_lt_of_le hdz (Nat.le_trans (BX.out.trans K3.out).size l4.size)⟩
            case measure => simp [intOf]; omega
          · rw [if_neg hk0] at EA
            obtain ⟨m, hm1⟩ : ∃ m, k = m + 1 := ⟨k - 1, by omega⟩
            obtain ⟨bm, om, Am, cm, hbm, m0w, -⟩ := HV.out.at2 (i := m) (by omega)
            have m0 := KK.out.cell_some m0w (fun x => x)
            clear m0w
            injection hbm with hbm
            injection hbm with hb1 hb2
            subst hb1 hb2
            rw [show k - 1 = m by omega] at EA
            rw [EA.out] at ET hal
            have hmk := (l.getD m (0, [])).1.toNat_lt
            have HG := Lib.hid (fun w1 => gap_any (l.getD m (0, [])).1.toNat sk.toNat (by omega) (by omega) w1)
            generalize (l.getD m (0, [])).1.toNat = km at *
            generalize Pt.gap km sk.toNat = gp at *
            generalize Pt.segT (sk, sn) = st at *
            clear EA hk0 g1 g2 g3
            have j1 : (0 : Int) ≤ (m : Int) := by omega
            have j2 : (m : Int) < (l.length : Int) := by omega
            have j3 : (0 : Int) < (k : Int) := by omega
            have j4 : (k : Int) - 1 = (m : Int) := by omega
            have j5 : IntKind.i64.wrap (m : Int) = (m : Int) := by rw [IntKind.wrap_i64]; omega
            clear hm1
            go_upto_region 10 with fail
            have bx := Blk.fresh wr 96 #[.int .u8 (sk.toNat : Int), .slice Au sn.length cu]
            have kx := (Kept.refl Nothing wr).alloc (.cells #[.int .u8 (sk.toNat : Int), .slice Au sn.length cu] 96)
            have n0 := kx.cell_some m0 (fun x => x)
            clear p0 p1 m0
            generalize wr.alloc (.cells #[.int .u8 (sk.toNat : Int), .slice Au sn.length cu] 96) = wX at bx kx n0 ⊢
            have hgx : wr.heap.size ≠ d := by omega
            generalize wr.heap.size = gx at *
            have x0 := bx.cell 0
            have BX := Lib.hid kx
            have BB := Lib.hid bx
            clear bx kx
            go_region_law (first
              | (go_simp; go_at_call 52; refine (HWS.out _ _ _ (bf_kept HB.out BX.out.drew) (by omega) (Nat.le_trans KK.out.size BX.out.size)).mono ?_; rintro e w4 ⟨⟨v4, rfl⟩, b4, l4, o4⟩; (have B4 := Lib.hid b4); (have L4 := Lib.hid l4); (have O4 : Hid (Blk w4 gx 96 #[.int .u8 (sk.toNat : Int), .slice Au sn.length cu]) := Lib.hid (o4 gx _ BB.out (fun e => hgx (by injection e)) (fun c fz e => by injection e with _ e2; exact absurd e2 (by decide)))); clear b4 l4 o4)
              | (go_simp; go_at_call 53; refine (HG.out _).mono ?_; rintro e w9 ⟨rfl, rfl⟩))
            all_goals
              have y0 := O4.out.cell 0
              have y1 := O4.out.cell 1
              have K4 := Lib.hid (kept_below (KK.out.trans BX.out.drew) L4.out)
              have hz4 := L4.out.size
              clear x0 n0
              go_wp2_with (first
                | (go_at_call 52; refine (HWS.out _ _ _ (bf_kept B4.out K5.out) (by rw [List.length_append]; omega) (Nat.le_trans K4.out.size K5.out.size)).mono ?_; rintro e w6 ⟨⟨v6, rfl⟩, b6, l6, o6⟩)
                | (go_at_call 54; refine (HST.out _ K4.out (HAS.out _ K4.out)).mono ?_; rintro e w5 ⟨rfl, k5⟩; (have K5 := Lib.hid k5); clear k5))
              go_roundw
              case rel => exact ⟨k + 1, by go_num, by omega, Lib.hid (by rw [ET.out, ← List.append_assoc]; exact b6), Lib.hid (kept_below (K4.out.trans K5.out) l6), by have := K5.out.size; have := l6.size; have := BB.out.lt; have : wX.drew.heap.size = wX.heap.size := rfl; omega⟩
              case measure => simp [intOf]; omega
        · obtain rfl : k = l.length := by omega
          have HST := Lib.hid (Tryz.Builder_String_any_k w.heap.size d (Pt.tx l l.length) wr HB.out KK.out.size)
          go_wp2_with (go_at_call 55; refine (HST.out).mono ?_; rintro e w4 ⟨rfl, b4, l4, o4⟩)
          go_ret
          exact ⟨by rw [HT.out]; rfl, kept_below KK.out l4⟩
end Go.Proofs.YtdeblmolgmadiaaGreatDoor
