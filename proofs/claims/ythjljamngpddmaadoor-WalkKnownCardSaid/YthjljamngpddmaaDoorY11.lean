
/-
  walk: Replace.
-/
import Derived.Test.YthjljamngpddmaaDoorY10
import Derived.Test.YthjljamngpddmaaDoorY06
namespace Go.Proofs.YthjljamngpddmaaDoor
open Go.RowKit

theorem bf_kept {T e : TypeId} {B b : Nat} {bs : List Value} {w w' : World} (h : Lib.IsBuilderF T e B b bs w) (k : Kept Nothing w w') : Lib.IsBuilderF T e B b bs w' := by
  have one : ∀ p, Lib.BuilderAtF T e B b p bs w → Lib.BuilderAtF T e B b p bs w' := fun p ⟨hB, v, hb, ho, hne⟩ => by
    have hlt := (Array.getElem?_eq_some_iff.1 hb).1
    refine ⟨hB, v, (k.block b hlt (fun x => x)).trans hb, ⟨ho.1, ?_⟩, hne⟩
    rcases ho.2 with hn | ⟨g, cap, cur, fz, hv, hbg, hg, rest⟩
    · exact .inl hn
    · exact .inr ⟨g, cap, cur, fz, hv, hbg, (k.block g (Array.getElem?_eq_some_iff.1 hg).1 (fun x => x)).trans hg, rest⟩
  exact h.elim (fun x => .inl (one _ x)) (fun x => .inr (one _ x))
theorem kept_below {w wr w' : World} (h : Kept Nothing w wr) (hb : Below w.heap.size wr w') : Kept Nothing w w' :=
  ⟨hb.os.trans h.os, hb.tape.trans h.tape, hb.output.trans h.output, Nat.le_trans h.size hb.size, fun k hk hs => (hb.block k hk).trans (h.block k hk hs)⟩
theorem byteCells_append (a b : List UInt8) : Lib.byteCells a ++ Lib.strCells ⟨b.toArray⟩ = Lib.byteCells (a ++ b) := by
  simp [Lib.byteCells, Lib.strCells]

/-- The builder written on. -/
theorem ws_any (B d : Nat) (bs s : List UInt8) (w : World) (h : Lib.IsBuilderF 82 5 B d (Lib.byteCells bs) w) (hl : bs.length + s.length ≤ 1000000) (hB : B ≤ w.heap.size) :
    Calls Tryd.prog 52 #[.pointer (some ⟨d, 0, none⟩), .string ⟨s.toArray⟩] w fun e w' => (∃ v, e = .returned v) ∧ Lib.IsBuilderF 82 5 B d (Lib.byteCells (bs ++ s)) w' ∧ Below B w w' ∧ Lib.OthersKept 5 (some d) w w' := by
  have h0 : Calls Tryd.prog 52 #[.pointer (some ⟨d, 0, none⟩), .string ⟨s.toArray⟩] w fun e w' => e = .returned (.tuple #[.int .i64 (⟨s.toArray⟩ : ByteArray).size, .nilIface]) ∧ (Lib.BuilderAtF 82 5 B d (.pointer (some ⟨d, 0, none⟩)) (Lib.byteCells bs ++ Lib.strCells ⟨s.toArray⟩) w' ∧ Below B w w' ∧ Lib.OthersKept 5 (some d) w w') :=
    Any.Builder_WriteString_k { Tryd.lays156 with } Tryd.Builder_Extra_156 B d (Lib.byteCells bs) ⟨s.toArray⟩ w h (by simp [Lib.byteCells, ByteArray.size]; omega) hB
  refine h0.mono ?_
  rintro e w' ⟨rfl, h1, h2, h3⟩
  refine ⟨⟨_, rfl⟩, .inr ?_, h2, h3⟩
  rw [← byteCells_append]
  exact h1

namespace Pt
theorem ahead_len (l : List Seg) (k : Nat) : (ahead l k).length ≤ 3 := by unfold ahead gap; split; simp; split <;> simp
theorem tx_len (l : List Seg) (h : ∀ s ∈ l, (∀ n ∈ s.2, n < 4294967296) ∧ s.2.length ≤ 255) : ∀ k, k ≤ l.length → (tx l k).length ≤ 3000 * k
  | 0, _ => by simp [tx]
  | k + 1, hk => by
    have h1 := tx_len l h k (by omega)
    have h2 := ahead_len l k
    have hm : l.getD k (0, []) ∈ l := by rw [getD_get (by omega)]; exact List.getElem_mem _
    have h3 := segT_len (l.getD k (0, [])) (h _ hm).1
    have h4 := (h _ hm).2
    unfold tx
    rw [List.length_append, List.length_append]
    omega
theorem may_seg {l : List Seg} (h : may l = true) {s : Seg} (hs : s ∈ l) : 1 ≤ s.1.toNat ∧ s.1.toNat ≤ 4 ∧ s.2 ≠ [] ∧ s.2.length ≤ 255 := by
  unfold may at h
  rw [Bool.and_eq_true, List.all_eq_true] at h
  have := h.1 s hs
  unfold may1 at this
  simp only [Bool.and_eq_true, decide_eq_true_eq] at this
  exact ⟨this.1.1.1, this.1.1.2, List.length_pos_iff.1 this.1.2, this.2⟩
theorem may_le {l : List Seg} (h : may l = true) : l.length ≤ 32 := by
  unfold may at h
  rw [Bool.and_eq_true] at h
  simpa using h.2
end Pt

set_option maxRecDepth 20000 in
set_option maxHeartbeats 2000000 in
theorem path_text (v : Value) (l : List Seg) (w : World) (h : Pts w v l) (hl : l.length ≤ 1000000) (hr : Rdy w) (hs : Bkt w) :
    Calls Tryd.prog 33 #[v] w fun e w' => e = .returned (.string ⟨(Pt.text l).toArray⟩) ∧ Kept Nothing w w' := by
  obtain ⟨A, c, rfl, hc, hm⟩ := h.form
  have HM := Lib.hid (path_may _ l w h (by omega))
  have HV := Lib.hid h
  have HR := Lib.hid hr
  have HS := Lib.hid hs
  have HT : Hid (Pt.text l = if Pt.may l then (if l = [] then [45] else Pt.tx l l.length) else []) := Lib.hid rfl
  clear h hr hs
  cases hmay : Pt.may l with
  | false =>
    rw [hmay] at HM HT
    clear hmay
    go_enter Tryd.func33, Tryd.ntmps33
    go_wp2_with (go_at_call 34; refine (HM.out).mono ?_; rintro e w1 ⟨rfl, k1⟩)
    go_ret
    exact ⟨by rw [HT.out]; rfl, k1⟩
  | true =>
    have h32 := Pt.may_le hmay
    have HSEG := Lib.hid (fun s (hs : s ∈ l) => Pt.may_seg hmay hs)
    rw [hmay] at HM HT
    clear hmay
    by_cases hle : l = []
    · subst hle
      go_enter Tryd.func33, Tryd.ntmps33
      go_wp2_with (go_at_call 34; refine (HM.out).mono ?_; rintro e w1 ⟨rfl, k1⟩)
      go_ret
      exact ⟨by rw [HT.out]; rfl, k1⟩
    · rw [if_pos rfl, if_neg hle] at HT
      have hpos : 0 < l.length := List.length_pos_iff.2 hle
      have hpi : ((l.length : Int) == 0) = false := by simp; omega
      have HTL := Lib.hid (Pt.tx_len l (fun s hs => ⟨HV.out.fits s hs, (HSEG.out s hs).2.2.2⟩))
      clear hle
      go_enter Tryd.func33, Tryd.ntmps33
      go_upto_region 5 with (go_at_call 34; refine (HM.out).mono ?_; rintro e w1 ⟨rfl, k1⟩; (have K1 := Lib.hid k1); clear k1)
      go_upto_region 6 with fail
      have hb1 : Lib.IsBuilderF 82 5 w.heap.size w1.heap.size (Lib.byteCells (Pt.tx l 0)) (w1.alloc (.cells #[.pointer none, .slice none 0 0] 82)) :=
        .inl ⟨K1.out.size, _, heap_alloc_new w1 _, World.ownsRowF_nil _ _ _ _, by simp [Value.ownBlock]⟩
      have k2 := K1.out.alloc (.cells #[.pointer none, .slice none 0 0] 82)
      have hdz : w1.heap.size < (w1.alloc (.cells #[.pointer none, .slice none 0 0] 82)).heap.size := by simp
      generalize w1.alloc (.cells #[.pointer none, .slice none 0 0] 82) = w2 at hb1 k2 hdz ⊢
      have hdw := K1.out.size
      generalize w1.heap.size = d at *
      have HB1 := Lib.hid hb1
      have K2 := Lib.hid k2
      clear hb1 k2 K1
      go_upto_region 7 with fail
      go_loopw [14] (fun i wr => ∃ k : Nat, i = .int .i64 (k : Int) ∧ k ≤ l.length ∧ Hid (Lib.IsBuilderF 82 5 w.heap.size d (Lib.byteCells (Pt.tx l k)) wr) ∧ Hid (Kept Nothing w wr) ∧ d < wr.heap.size) (fun i _ => l.length - (intOf i).toNat)
      case atStart => exact ⟨0, rfl, Nat.zero_le _, HB1, K2, hdz⟩
      case round =>
        clear HB1 K2 hdz
        obtain ⟨k, rfl, hk, HB, KK, hdz⟩ := hrel
        by_cases hlt : k < l.length
        · obtain ⟨b, o, Au, cu, rfl, p0w, p1w, hp⟩ := HV.out.at2 hlt
          have p0 := KK.out.cell_some p0w (fun x => x)
          have p1 := KK.out.cell_some p1w (fun x => x)
          have hmem : l.getD k (0, []) ∈ l := by rw [getD_get hlt]; exact List.getElem_mem _
          obtain ⟨g1, g2, g3, g4⟩ := HSEG.out _ hmem
          have htl := HTL.out k (by omega)
          have hsl := Pt.segT_len (l.getD k (0, [])) (HV.out.fits _ hmem)
          have ET : Hid (Pt.tx l (k + 1) = Pt.tx l k ++ (Pt.ahead l k ++ Pt.segT (l.getD k (0, [])))) := Lib.hid rfl
          have EA : Hid (Pt.ahead l k = if k = 0 then [] else Pt.gap (l.getD (k - 1) (0, [])).1.toNat (l.getD k (0, [])).1.toNat) := Lib.hid rfl
          have hal := Pt.ahead_len l k
          have i1 : (0 : Int) ≤ (k : Int) := by omega
          have i2 : (k : Int) < (l.length : Int) := by omega
          have hls : b < wr.heap.size := World.block_lt_of_cell? _ _ p0
          generalize hsg : l.getD k (0, []) = sg at *
          obtain ⟨sk, sn⟩ := sg
          simp only at p0 p1 g1 g2 g3 g4 hsl EA
          replace hp : As w (.slice Au sn.length cu) sn := hp
          have HST := Lib.hid (fun w1 (k1 : Kept Nothing w w1) (h1 : As w1 (.slice Au sn.length cu) sn) => seg_text sk sn Au cu w1 (HR.out.kept k1) (HS.out.kept k1) h1 g1 g2 g3 (by omega))
          have HAS := Lib.hid (fun w1 (k1 : Kept Nothing w w1) => hp.old k1)
          have hsk := sk.toNat_lt
          have HWS := Lib.hid (fun (bs s : List UInt8) (w1 : World) h h2 h3 => ws_any w.heap.size d bs s w1 h h2 h3)
          have hwz := KK.out.size
          clear hp hsg hmem p0w p1w
          by_cases hk0 : k = 0
          · rw [if_pos hk0] at EA
            have hk0i : ¬ (0 : Int) < (k : Int) := by omega
            clear hk0
            rw [EA.out, List.nil_append] at ET
            clear EA hal g1 g2 g3
            generalize Pt.segT (sk, sn) = st at *
            have BX := Lib.hid ((Kept.refl Nothing wr).alloc (.cells #[.int .u8 (sk.toNat : Int), .slice Au sn.length cu] 61))
            go_wp2_with (first
              | (go_at_call 52; refine (HWS.out _ _ _ (bf_kept HB.out (BX.out.trans K3.out)) (by omega) (Nat.le_trans hwz (BX.out.trans K3.out).size)).mono ?_; rintro e w4 ⟨⟨v4, rfl⟩, b4, l4, o4⟩)
              | (go_at_call 54; refine (HST.out _ (KK.out.trans BX.out) (HAS.out _ (KK.out.trans BX.out))).mono ?_; rintro e w3 ⟨rfl, k3⟩; (have K3 := Lib.hid k3); clear k3))
            go_roundw
            case rel => exact ⟨k + 1, by go_num, by omega, Lib.hid (by rw [ET.out]; exact b4), Lib.hid (kept_below (KK.out.trans (BX.out.trans K3.out)) l4), Nat.lt_of_lt_of_le hdz (Nat.le_trans (BX.out.trans K3.out).size l4.size)⟩
            case measure => simp [intOf]; omega
          · rw [if_neg hk0] at EA
            obtain ⟨m, hm1⟩ : ∃ m, k = m + 1 := ⟨k - 1, by omega⟩
            obtain ⟨bm, om, Am, cm, hbm, m0w, -⟩ := HV.out.at2 (i := m) (by omega)
            have m0 := KK.out.cell_some m0w (fun x => x)
            clear m0w
            injection hbm with hbm
            injection hbm with hb1 hb2
            subst hb1 hb2
            rw [show k - 1 = m by omega] at EA
            rw [EA.out] at ET hal
            have hmk := (l.getD m (0, [])).1.toNat_lt
            have HG := Lib.hid (fun w1 => gap_any (l.getD m (0, [])).1.toNat sk.toNat (by omega) (by omega) w1)
            generalize (l.getD m (0, [])).1.toNat = km at *
            generalize Pt.gap km sk.toNat = gp at *
            generalize Pt.segT (sk, sn) = st at *
            clear EA hk0 g1 g2 g3
            have j1 : (0 : Int) ≤ (m : Int) := by omega
            have j2 : (m : Int) < (l.length : Int) := by omega
            have j3 : (0 : Int) < (k : Int) := by omega
            have j4 : (k : Int) - 1 = (m : Int) := by omega
            have j5 : IntKind.i64.wrap (m : Int) = (m : Int) := by rw [IntKind.wrap_i64]; omega
            clear hm1
            go_upto_region 10 with fail
            have bx := Blk.fresh wr 61 #[.int .u8 (sk.toNat : Int), .slice Au sn.length cu]
            have kx := (Kept.refl Nothing wr).alloc (.cells #[.int .u8 (sk.toNat : Int), .slice Au sn.length cu] 61)
            have n0 := kx.cell_some m0 (fun x => x)
            clear p0 p1 m0
            generalize wr.alloc (.cells #[.int .u8 (sk.toNat : Int), .slice Au sn.length cu] 61) = wX at bx kx n0 ⊢
            have hgx : wr.heap.size ≠ d := by omega
            generalize wr.heap.size = gx at *
            have x0 := bx.cell 0
            have BX := Lib.hid kx
            have BB := Lib.hid bx
            clear bx kx
            go_region_law (first
              | (go_simp; go_at_call 52; refine (HWS.out _ _ _ (bf_kept HB.out BX.out.drew) (by omega) (Nat.le_trans KK.out.size BX.out.size)).mono ?_; rintro e w4 ⟨⟨v4, rfl⟩, b4, l4, o4⟩; (have B4 := Lib.hid b4); (have L4 := Lib.hid l4); (have O4 : Hid (Blk w4 gx 61 #[.int .u8 (sk.toNat : Int), .slice Au sn.length cu]) := Lib.hid (o4 gx _ BB.out (fun e => hgx (by injection e)) (fun c fz e => by injection e with _ e2; exact absurd e2 (by decide)))); clear b4 l4 o4)
              | (go_simp; go_at_call 53; refine (HG.out _).mono ?_; rintro e w9 ⟨rfl, rfl⟩))
            all_goals
              have y0 := O4.out.cell 0
              have y1 := O4.out.cell 1
              have K4 := Lib.hid (kept_below (KK.out.trans BX.out.drew) L4.out)
              have hz4 := L4.out.size
              clear x0 n0
              go_wp2_with (first
                | (go_at_call 52; refine (HWS.out _ _ _ (bf_kept B4.out K5.out) (by rw [List.length_append]; omega) (Nat.le_trans K4.out.size K5.out.size)).mono ?_; rintro e w6 ⟨⟨v6, rfl⟩, b6, l6, o6⟩)
                | (go_at_call 54; refine (HST.out _ K4.out (HAS.out _ K4.out)).mono ?_; rintro e w5 ⟨rfl, k5⟩; (have K5 := Lib.hid k5); clear k5))
              go_roundw
              case rel => exact ⟨k + 1, by go_num, by omega, Lib.hid (by rw [ET.out, ← List.append_assoc]; exact b6), Lib.hid (kept_below (K4.out.trans K5.out) l6), by have := K5.out.size; have := l6.size; have := BB.out.lt; have : wX.drew.heap.size = wX.heap.size := rfl; omega⟩
              case measure => simp [intOf]; omega
        · obtain rfl : k = l.length := by omega
          have HST := Lib.hid (Tryd.Builder_String_any_k w.heap.size d (Pt.tx l l.length) wr HB.out KK.out.size)
          go_wp2_with (go_at_call 55; refine (HST.out).mono ?_; rintro e w4 ⟨rfl, b4, l4, o4⟩)
          go_ret
          exact ⟨by rw [HT.out]; rfl, kept_below KK.out l4⟩
end Go.Proofs.YthjljamngpddmaaDoor
namespace Go.Proofs.YthjljamngpddmaaDoor
open Go.RowKit Go.Shelf

theorem own_set1 {w : World} {base g n : Nat} {e : TypeId} {v a x u : Value} {xs : List Value} (h : w.ownsRow base e 2 v n (a :: x :: xs)) (hg : v.ownBlock = some g) : (w.setCell ⟨g, 1, none⟩ u).ownsRow base e 2 v n (a :: u :: xs) := by
  obtain ⟨h1, h2⟩ := h
  refine ⟨h1, ?_⟩
  rcases h2 with ⟨rfl, _⟩ | ⟨g', cap, cur, rfl, hb, hh, hnc, hcm, hcs, htk⟩
  · simp [Value.ownBlock] at hg
  · obtain rfl : g' = g := by simpa [Value.ownBlock] using hg
    have hB : Blk w g' e cur := hh
    refine .inr ⟨g', cap, _, rfl, hb, hB.put 1 u, hnc, hcm, by simpa using hcs, ?_⟩
    rw [List.length_cons, List.length_cons] at h1
    obtain ⟨m, rfl⟩ : ∃ m, n = m + 1 := ⟨n - 1, by omega⟩
    rw [Array.toList_setIfInBounds]
    rw [show (m + 1) * 2 = m * 2 + 1 + 1 by omega] at htk ⊢
    cases hc : cur.toList with
    | nil => rw [hc] at htk; simp at htk
    | cons c0 r =>
      cases r with
      | nil => rw [hc] at htk; simp at htk
      | cons c1 r =>
        rw [hc, List.take_succ_cons, List.take_succ_cons] at htk
        rw [List.set_cons_succ, List.set_cons_zero, List.take_succ_cons, List.take_succ_cons]
        injection htk with h3 h4
        injection h4 with _ h5
        rw [h3, h5]

theorem Rws.inv {w : World} {B : Nat} {sk : UInt8} {sn : List Nat} {r : List Seg} : ∀ {xs : List Value}, Rws w B xs ((sk, sn) :: r) → ∃ nv ys, xs = .int .u8 (sk.toNat : Int) :: nv :: ys ∧ w.ownsRow B 25 1 nv sn.length (ass sn) ∧ (∀ n ∈ sn, n < 4294967296) ∧ Rws w B ys r
  | _ :: nv :: ys, ⟨h1, h2, h3, h4⟩ => ⟨nv, ys, by rw [h1]; rfl, h2, h3, h4⟩
  | [], h => h.elim
  | [_], h => by unfold Rws at h; exact h.elim
namespace Wk
def ahead (l : List Seg) (n : Nat) : List Seg := match l with | [] => [] | s :: r => (s.1, n :: s.2) :: r
def prepend (l : List Seg) (k : UInt8) (n : Nat) : List Seg × Nat :=
  if !Pt.may l || (decide (k.toNat ≠ 2) && decide (k.toNat ≠ 3)) then ([], 1) else if room l k.toNat then (ahead l n, 0) else if l.length = 32 then ([], 7) else ((k, [n]) :: l, 0)
end Wk

theorem made_as (w : World) (n : Nat) (hn : n < 4294967296) : As (w.alloc (.cells #[.int .u32 (n : Int)] 25)) (.slice (some ⟨w.heap.size, 0, none⟩) 1 1) [n] :=
  ⟨(fun m hm => by obtain rfl := List.mem_singleton.1 hm; exact hn), some ⟨w.heap.size, 0, none⟩, 1, rfl, Nat.le_refl _, by simp [maxLen], src_new w 25 #[.int .u32 (n : Int)] 1 1 rfl (by simp [Value.oneCell'])⟩
set_option maxRecDepth 20000 in
set_option maxHeartbeats 2000000 in
theorem walk_prepend (v : Value) (l : List Seg) (k : UInt8) (n : Nat) (hn32 : n < 4294967296) (w : World) (h : Pts w v l) (hl : l.length ≤ 1000000) (hn : ∀ s ∈ l, s.2.length ≤ 1000000) :
    Calls Tryd.prog 26 #[v, .int .u8 (k.toNat : Int), .int .u32 (n : Int)] w fun e w' => ∃ v', e = .returned (.tuple #[v', .int .i64 ((Wk.prepend l k n).2 : Int)]) ∧ Pown w' w.heap.size v' (Wk.prepend l k n).1 ∧ Kept Nothing w w' := by
  obtain ⟨A, c, rfl, hc, hm⟩ := h.form
  have HM := Lib.hid (path_may _ l w h (by omega))
  have HRM := Lib.hid (fun w1 (k1 : Kept Nothing w w1) => has_room _ l k.toNat w1 (h.old k1) hl)
  have HC := Lib.hid (fun w1 (k1 : Kept Nothing w w1) => path_copyD _ l w1 (h.old k1) hl hn)
  have HE : Hid (Wk.prepend l k n = if !Pt.may l || (decide (k.toNat ≠ 2) && decide (k.toNat ≠ 3)) then ([], 1) else if Wk.room l k.toNat then (Wk.ahead l n, 0) else if l.length = 32 then ([], 7) else ((k, [n]) :: l, 0)) := Lib.hid rfl
  clear h hn
  cases hmay : Pt.may l with
  | false =>
    rw [hmay] at HM HE
    clear hmay
    go_enter Tryd.func26, Tryd.ntmps26
    go_wp2_with (go_at_call 34; refine (HM.out).mono ?_; rintro e w1 ⟨rfl, k1⟩)
    go_ret2
    exact ⟨_, by rw [HE.out]; rfl, by rw [HE.out]; exact Pown.nil _ _, k1⟩
  | true =>
    have h32 := Pt.may_le hmay
    have HSEG := Lib.hid (fun s (hs : s ∈ l) => Pt.may_seg hmay hs)
    rw [hmay] at HM HE
    clear hmay
    by_cases hk23 : k.toNat ≠ 2 ∧ k.toNat ≠ 3
    · have b2 : ((k.toNat : Int) == 2) = false := by simp; omega
      have b3 : ((k.toNat : Int) == 3) = false := by simp; omega
      have n2 : ((k.toNat : Int) != 2) = true := by simp; omega
      have n3 : ((k.toNat : Int) != 3) = true := by simp; omega
      have HE2 : Hid (Wk.prepend l k n = ([], 1)) := Lib.hid (by rw [HE.out]; simp [hk23.1, hk23.2])
      generalize k.toNat = kn at *
      clear hk23
      go_enter Tryd.func26, Tryd.ntmps26
      go_wp2_with (go_at_call 34; refine (HM.out).mono ?_; rintro e w1 ⟨rfl, k1⟩)
      go_ret2
      exact ⟨_, by rw [HE2.out]; rfl, by rw [HE2.out]; exact Pown.nil _ _, k1⟩
    · have HE2 : Hid (Wk.prepend l k n = if Wk.room l k.toNat then (Wk.ahead l n, 0) else if l.length = 32 then ([], 7) else ((k, [n]) :: l, 0)) := Lib.hid (by
        rw [HE.out, if_neg]
        simp
        omega)
      clear HE
      cases hroom : Wk.room l k.toNat with
      | true =>
        rw [hroom] at HRM HE2
        cases l with
        | nil => simp [Wk.room] at hroom
        | cons s r =>
          obtain ⟨sk, sn⟩ := s
          clear hroom
          have hsn := (HSEG.out _ (List.mem_cons_self ..)).2.2
          simp only at hsn
          have HX := Lib.hid hsn
          clear hsn
          have HE3 : Hid (Wk.prepend ((sk, sn) :: r) k n = ((sk, n :: sn) :: r, 0)) := Lib.hid HE2.out
          have hrl : (((sk, sn) :: r).length : Int) = (r.length : Int) + 1 := by simp
          have i2 : (0 : Int) < (r.length : Int) + 1 := by omega
          clear HE2 HSEG
          rw [show ((sk, sn) :: r).length = r.length + 1 from rfl] at *
          obtain hk | hk : k.toNat = 2 ∨ k.toNat = 3 := by omega
          all_goals
            generalize k.toNat = kn at *
            subst hk
            clear hk23 hrl
            go_enter Tryd.func26, Tryd.ntmps26
            go_upto_region 5 with (first
              | (go_at_call 46; refine (HC.out _ K1.out).mono ?_; rintro e w2 ⟨v2, xs2, rfl, o2, r2, d2, k2⟩; (have O2 := Lib.hid o2); (have R2 := Lib.hid r2); (have D2 := Lib.hid d2); (have K2 := Lib.hid k2); clear o2 r2 d2 k2)
              | (go_at_call 45; refine (HRM.out _ K1.out).mono ?_; rintro e w2 ⟨rfl, rfl⟩)
              | (go_at_call 34; refine (HM.out).mono ?_; rintro e w1 ⟨rfl, k1⟩; (have K1 := Lib.hid k1); clear k1))
            obtain ⟨nv, ys, rfl, no, nf, nr⟩ := R2.out.inv
            obtain ⟨g, cg, cur, rfl, hge, hbg⟩ := own_lies O2.out (by simp)
            have p1 := O2.out.cells (g := g) rfl 1 nv rfl
            rw [add_none, Nat.zero_add] at p1
            obtain ⟨An, cn, rfl, _, _⟩ := ow_form no
            have HBG := Lib.hid hbg
            have HNO := Lib.hid no
            have HNF := Lib.hid nf
            have HNR := Lib.hid nr
            have hgz := hbg.lt
            have KA := Lib.hid ((Kept.refl Nothing w2).alloc (.cells #[.int .u32 (n : Int)] 25))
            have HI := Lib.hid (ins_own w1.heap.size (.slice An sn.length cn) sn n (w2.alloc (.cells #[.int .u32 (n : Int)] 25)) (ow_kept no KA.out (fun _ _ x => x)) HX.out.1 (by have := HX.out.2; omega) (Nat.le_trans K2.out.size KA.out.size) w2.heap.size (Blk.fresh w2 _ _) (fun e => Nat.lt_irrefl _ (ow_ge no e).2))
            clear no nf nr hbg R2
            go_wp2_with (go_at_call 47; refine (HI.out).mono ?_; rintro e w4 ⟨v4, rfl, o4, k4, hb4⟩; (have hbk := (HBG.out.kept KA.out (fun x => x)).kept k4 (fun e => ow_far (ow_kept HNO.out KA.out (fun _ _ x => x)) (HBG.out.kept KA.out (fun x => x)) (by decide) _ e rfl)); (have hgz4 := hbk.lt); (have f4 := hbk.free 1); (have c4 := (hbk.cell 1)); (have hsz : 1 < cur.size := by have := World.block_lt_of_cell? _ _ p1; have h2 := (HBG.out.cell 1).symm.trans p1; exact (Array.getElem?_eq_some_iff.1 h2).1); (rw [Array.getElem?_eq_getElem hsz] at c4); (obtain ⟨A4, c4', rfl, _, _⟩ := ow_form o4); (have O4 := Lib.hid o4); (have K4 := Lib.hid k4); (have B4 := Lib.hid hb4); (have HBK := Lib.hid hbk); clear o4 k4 hb4 hbk)
            go_ret2
            have hnn : ∀ gg, (Value.slice (some ⟨g, 0, none⟩) (r.length + 1) cg).ownBlock = some gg → ¬ (Value.slice An sn.length cn).ownBlock = some gg := fun gg hgg e => by
              obtain rfl : g = gg := by simpa [Value.ownBlock] using hgg
              exact ow_far (ow_kept HNO.out KA.out (fun _ _ x => x)) (HBG.out.kept KA.out (fun x => x)) (by decide) _ e rfl
            have hd := (List.pairwise_cons.1 (List.pairwise_cons.1 D2.out).2).1
            refine ⟨_, by rw [HE3.out]; rfl, ?_, ?_⟩
            · rw [HE3.out]
              refine Pown.weak (B := w1.heap.size) ⟨.int .u8 (sk.toNat : Int) :: .slice A4 (sn.length + 1) c4' :: ys, own_set1 (x := .slice An sn.length cn) (ow_kept (ow_kept O2.out KA.out (fun _ _ x => x)) K4.out hnn) rfl, rfl, ow_kept O4.out (Kept.own w4 g 1 _) (ow_far O4.out HBK.out (by decide)), (fun m hm => ?_), ?_⟩ K1.out.size
              · rcases List.mem_cons.1 hm with rfl | hm
                · exact hn32
                · exact HNF.out m hm
              · refine ((HNR.out.old KA.out).apart K4.out (fun u hu gg hg x => hd u hu gg x hg)).kept (Kept.own w4 g 1 _) (fun g' cs (e : g' = g) x => ?_)
                subst e
                have := HBK.out
                unfold Blk at this
                rw [this] at x
                injection x with x
                injection x with _ e2
                exact absurd e2 (by decide)
            · exact (((K1.out.trans K2.out).trans KA.out).trans_new K4.out (fun i hi hk => by have := (ow_ge HNO.out hk).1; have := K1.out.size; omega)).setCell (p := ⟨g, 1, none⟩) (fun (h : g < w.heap.size) => by have := K1.out.size; omega) _
      | false =>
        rw [hroom] at HRM HE2
        clear hroom
        by_cases hl32 : l.length = 32
        · have hli : ((l.length : Int) == 32) = true := by simp [hl32]
          have HE3 : Hid (Wk.prepend l k n = ([], 7)) := Lib.hid (by rw [HE2.out]; simp [hl32])
          clear hl32
          obtain hk | hk : k.toNat = 2 ∨ k.toNat = 3 := by omega
          all_goals
            generalize k.toNat = kn at *
            subst hk
            clear hk23
            go_enter Tryd.func26, Tryd.ntmps26
            go_wp2_with (first
              | (go_at_call 45; refine (HRM.out _ k1).mono ?_; rintro e w2 ⟨rfl, rfl⟩)
              | (go_at_call 34; refine (HM.out).mono ?_; rintro e w1 ⟨rfl, k1⟩))
            go_ret2
            exact ⟨_, by rw [HE3.out]; rfl, by rw [HE3.out]; exact Pown.nil _ _, k1⟩
        · have hli : ((l.length : Int) == 32) = false := by simp; omega
          have HE3 : Hid (Wk.prepend l k n = ((k, [n]) :: l, 0)) := Lib.hid (by rw [HE2.out]; simp [hl32])
          have HOF := Lib.hid (fun v w h => path_of1 k n hn32 v w h)
          obtain ⟨i0, hi, hz0, hz1, hz2⟩ := info_parts sg_info
          have HL1 : Hid (1 + l.length ≤ maxLen ∧ (1 + l.length) * 32 ≤ 140737488355328) := Lib.hid (by unfold maxLen; omega)
          clear hl32 HE2
          obtain hk | hk : k.toNat = 2 ∨ k.toNat = 3 := by omega
          all_goals
            generalize k.toNat = kn at *
            subst hk
            clear hk23
            go_enter Tryd.func26, Tryd.ntmps26
            go_wp2_with (first
              | (at_builtin; refine wpList_app _ rfl _ _ 23 rfl w1.heap.size 61 i0 (.agg #[.int .u8 0, .slice none 0 0]) 2 32 Tryd.underlying23 hi hz0 hz1 hz2 rfl (by decide) (.slice A3 1 c3) 1 xs3 rfl (ow_kept O3.out K5.out (fun _ _ x => x)) A5 l.length c5 xs5 rfl (src_own O5.out R5.out.one) HL1.out.1 HL1.out.2 ((K3.out.trans K5.out).size) ?_; intro v6 w6 ho6 hg6 _)
              | (go_at_call 46; refine (HC.out _ (K1.out.trans K3.out)).mono ?_; rintro e w5 ⟨v5, xs5, rfl, o5, r5, d5, k5⟩; (obtain ⟨A5, c5, rfl, _, _⟩ := ow_form o5); (have O5 := Lib.hid o5); (have R5 := Lib.hid r5); (have K5 := Lib.hid k5); clear o5 r5 d5 k5)
              | (go_at_call 32; refine (HOF.out _ _ (made_as w1 n hn32)).mono ?_; rintro e w3 ⟨v3, xs3, rfl, o3, r3, k3⟩; (obtain ⟨A3, c3, rfl, _, _⟩ := ow_form o3); (have O3 := Lib.hid (own_weakA o3 ((Kept.refl Nothing w1).alloc (.cells #[.int .u32 (n : Int)] 25)).size)); (have R3 := Lib.hid (r3.weak ((Kept.refl Nothing w1).alloc (.cells #[.int .u32 (n : Int)] 25)).size)); (have K3 := Lib.hid (((Kept.refl Nothing w1).alloc (.cells #[.int .u32 (n : Int)] 25)).trans k3)); clear o3 r3 k3)
              | (go_at_call 45; refine (HRM.out _ K1.out).mono ?_; rintro e w2 ⟨rfl, rfl⟩)
              | (go_at_call 34; refine (HM.out).mono ?_; rintro e w1 ⟨rfl, k1⟩; (have K1 := Lib.hid k1); clear k1))
            go_ret2
            refine ⟨_, by rw [HE3.out]; rfl, ?_, ?_⟩
            · rw [HE3.out]
              refine Pown.weak (B := w1.heap.size) ?_ K1.out.size
              exact Pown.cat (l := [(k, [n])]) (m := l) (ow_kept O3.out K5.out (fun _ _ x => x)) (R3.out.old K5.out) (R5.out.weak K3.out.size) hg6 ho6
            · exact ((K1.out.trans K3.out).trans K5.out).own_grown (ow_kept O3.out K5.out (fun _ _ x => x)) K1.out.size hg6
end Go.Proofs.YthjljamngpddmaaDoor
namespace Go.Proofs.YthjljamngpddmaaDoor
open Go.RowKit Go.Shelf

theorem own_setN {w : World} {base g n : Nat} {e : TypeId} {v u : Value} {xs : List Value} (h : w.ownsRow base e 1 v n xs) (hg : v.ownBlock = some g) (j : Nat) : (w.setCell ⟨g, j, none⟩ u).ownsRow base e 1 v n (xs.set j u) := by
  obtain ⟨h1, h2⟩ := h
  refine ⟨by rw [List.length_set]; exact h1, ?_⟩
  rcases h2 with ⟨rfl, _⟩ | ⟨g', cap, cur, rfl, hb, hh, hnc, hcm, hcs, htk⟩
  · simp [Value.ownBlock] at hg
  · obtain rfl : g' = g := by simpa [Value.ownBlock] using hg
    have hB : Blk w g' e cur := hh
    refine .inr ⟨g', cap, _, rfl, hb, hB.put j u, hnc, hcm, by simpa using hcs, ?_⟩
    rw [Array.toList_setIfInBounds, List.take_set, htk]
theorem ass_set (l : List Nat) (j m : Nat) : ass (l.set j m) = (ass l).set j (.int .u32 (m : Int)) := by unfold ass; rw [List.map_set]
theorem Rws.setN {w : World} {B g m : Nat} (hm : m < 4294967296) (j : Nat) {v : Value} : ∀ {xs : List Value} {l : List Seg} (_ : Rws w B xs l) (_ : Dist xs) (k : Nat) (_ : k < l.length) (_ : xs[k * 2 + 1]? = some v) (_ : v.ownBlock = some g),
    Rws (w.setCell ⟨g, j, none⟩ (.int .u32 (m : Int))) B xs (l.set k ((l.getD k (0, [])).1, (l.getD k (0, [])).2.set j m))
  | _ :: u :: xs, c :: l, ⟨h1, h2, h3, h4⟩, hd, 0, _, hv, hg => by
    obtain rfl : u = v := by simpa using hv
    have hd2 := List.pairwise_cons.1 (List.pairwise_cons.1 hd).2
    refine ⟨h1, ?_, fun x hx => ?_, h4.apart (Kept.own w g j _) (fun x hx g' hg' (e : g' = g) => ?_)⟩
    · show World.ownsRow _ B _ 1 u (c.2.set j m).length (ass (c.2.set j m))
      rw [List.length_set, ass_set]
      exact own_setN h2 hg j
    · rcases List.mem_or_eq_of_mem_set hx with hx | rfl
      · exact h3 x hx
      · exact hm
    · subst e
      exact hd2.1 x hx g' hg hg'
  | a :: u :: xs, c :: l, ⟨h1, h2, h3, h4⟩, hd, k + 1, hk, hv, hg => by
    have hd2 := List.pairwise_cons.1 (List.pairwise_cons.1 hd).2
    have hv' : xs[k * 2 + 1]? = some v := by rw [Nat.add_mul] at hv; exact hv
    refine ⟨h1, ow_kept h2 (Kept.own w g j _) (fun g' hg' (e : g' = g) => ?_), h3, Rws.setN hm j h4 hd2.2 k (by simpa using hk) hv' hg⟩
    subst e
    exact hd2.1 v (List.mem_of_getElem? hv') g' hg' hg
  | [], [], _, _, k, hk, _, _ => absurd hk (Nat.not_lt_zero _)
  | [], _ :: _, h, _, _, _, _, _ => h.elim
  | [_], _, h, _, _, _, _, _ => by unfold Rws at h; exact h.elim
  | _ :: _ :: _, [], h, _, _, _, _, _ => by unfold Rws at h; exact h.elim

namespace Wk
/-- The first j of a list changed by f. -/
def mix {α : Type} (f : α → α) (j : Nat) (l : List α) : List α := (l.take j).map f ++ l.drop j
section
variable {α : Type} {f : α → α} {j : Nat} {l : List α}
theorem mix_len : (mix f j l).length = l.length := by unfold mix; simp; omega
theorem mix_zero : mix f 0 l = l := by simp [mix]
theorem mix_all : mix f l.length l = l.map f := by simp [mix]
theorem mix_at (d : α) (hj : j < l.length) : (mix f j l).getD j d = l.getD j d := by
  unfold mix
  have h : ((l.take j).map f).length = j := by rw [List.length_map, List.length_take]; omega
  rw [List.getD_eq_getElem?_getD, List.getElem?_append_right (by omega), h, Nat.sub_self, List.getElem?_drop, Nat.add_zero, List.getD_eq_getElem?_getD]
theorem mix_succ (d : α) (hj : j < l.length) : mix f (j + 1) l = (mix f j l).set j (f (l.getD j d)) := by
  unfold mix
  have h : ((l.take j).map f).length = j := by rw [List.length_map, List.length_take]; omega
  have hg : l.getD j d = l[j] := by rw [List.getD_eq_getElem?_getD, List.getElem?_eq_getElem hj]; rfl
  rw [List.take_succ_eq_append_getElem hj, List.map_append, List.set_append_right _ _ (by omega), h, Nat.sub_self, hg, List.drop_eq_getElem_cons hj, List.set_cons_zero]
  simp
theorem mix_skip (d : α) (hj : j < l.length) (h : f (l.getD j d) = l.getD j d) : mix f (j + 1) l = mix f j l := by
  rw [mix_succ d hj, h]
  have h2 := mix_at (f := f) d hj
  have hj2 : j < (mix f j l).length := by rw [mix_len]; exact hj
  have e2 : l.getD j d = (mix f j l)[j] := by rw [← h2, List.getD_eq_getElem?_getD, List.getElem?_eq_getElem hj2]; rfl
  rw [e2, List.set_getElem_self]
end
def rep1 (a b n : Nat) : Nat := if n = a then b else n
def reps (a b : Nat) (s : Seg) : Seg := (s.1, s.2.map (rep1 a b))
def replace (l : List Seg) (a b : Nat) : List Seg := if Pt.may l then l.map (reps a b) else []
/-- The first k segments replaced, and the first j numbers of the next. -/
def half (a b k j : Nat) (l : List Seg) : List Seg := (mix (reps a b) k l).set k ((l.getD k (0, [])).1, mix (rep1 a b) j (l.getD k (0, [])).2)
theorem half_len (a b k j : Nat) (l : List Seg) : (half a b k j l).length = l.length := by unfold half; rw [List.length_set, mix_len]
theorem half_at {a b k j : Nat} {l : List Seg} (hk : k < l.length) : (half a b k j l).getD k (0, []) = ((l.getD k (0, [])).1, mix (rep1 a b) j (l.getD k (0, [])).2) := by
  unfold half
  rw [List.getD_eq_getElem?_getD, List.getElem?_set_self (by rw [mix_len]; exact hk)]
  rfl
theorem half_zero {a b k : Nat} {l : List Seg} (hk : k < l.length) : half a b k 0 l = mix (reps a b) k l := by
  unfold half
  rw [mix_zero]
  have h := mix_at (f := reps a b) (0, ([] : List Nat)) hk
  have hk2 : k < (mix (reps a b) k l).length := by rw [mix_len]; exact hk
  have e : l.getD k (0, []) = (mix (reps a b) k l)[k] := by rw [← h, List.getD_eq_getElem?_getD, List.getElem?_eq_getElem hk2]; rfl
  show (mix (reps a b) k l).set k (l.getD k (0, [])) = _
  rw [e, List.set_getElem_self]
theorem half_full {a b k : Nat} {l : List Seg} (hk : k < l.length) : half a b k (l.getD k (0, [])).2.length l = mix (reps a b) (k + 1) l := by
  unfold half
  rw [mix_all, mix_succ (0, []) hk]
  rfl
theorem half_succ {a b k j : Nat} {l : List Seg} (hj : j < (l.getD k (0, [])).2.length) : half a b k (j + 1) l = (half a b k j l).set k ((l.getD k (0, [])).1, (mix (rep1 a b) j (l.getD k (0, [])).2).set j (rep1 a b ((l.getD k (0, [])).2.getD j 0))) := by
  unfold half
  rw [mix_succ 0 hj, List.set_set]
theorem half_skip {a b k j : Nat} {l : List Seg} (hj : j < (l.getD k (0, [])).2.length) (h : ¬ (l.getD k (0, [])).2.getD j 0 = a) : half a b k (j + 1) l = half a b k j l := by
  unfold half
  rw [mix_skip (f := rep1 a b) 0 hj (if_neg h)]
end Wk
theorem ass_at {l : List Nat} {j : Nat} (hj : j < l.length) : (ass l)[j]? = some (.int .u32 ((l.getD j 0 : Nat) : Int)) := by
  unfold ass
  rw [List.getElem?_map, List.getElem?_eq_getElem hj, List.getD_eq_getElem?_getD, List.getElem?_eq_getElem hj]
  rfl

set_option maxHeartbeats 1600000 in
theorem walk_replace (v : Value) (l : List Seg) (a b : Nat) (hb : b < 4294967296) (w : World) (h : Pts w v l) (hl : l.length ≤ 1000000) (hn : ∀ s ∈ l, s.2.length ≤ 1000000) :
    Calls Tryd.prog 29 #[v, .int .u32 (a : Int), .int .u32 (b : Int)] w fun e w' => ∃ v', e = .returned v' ∧ Pown w' w.heap.size v' (Wk.replace l a b) ∧ Kept Nothing w w' := by
  obtain ⟨A, c, rfl, -, -⟩ := h.form
  have HM := Lib.hid (path_may _ l w h (by omega))
  have HC := Lib.hid (fun w1 (k : Kept Nothing w w1) => path_copyD _ l w1 (h.old k) hl hn)
  have HN := Lib.hid hn
  clear h hn
  unfold Wk.replace
  cases hmay : Pt.may l with
  | false =>
    rw [hmay] at HM
    rw [if_neg (by decide)]
    clear hmay HC
    go_enter Tryd.func29, Tryd.ntmps29
    go_wp2_with (go_at_call 34; refine (HM.out).mono ?_; rintro e w1 ⟨rfl, k1⟩)
    go_ret
    exact ⟨_, rfl, ⟨[], World.ownsRow_nil _ _ _ _, trivial⟩, k1⟩
  | true =>
    rw [hmay] at HM
    rw [if_pos rfl]
    clear hmay
    go_enter Tryd.func29, Tryd.ntmps29
    go_upto_region 3 with (go_at_call 34; refine (HM.out).mono ?_; rintro e w1 ⟨rfl, k1⟩; have K1 := Lib.hid k1; clear k1)
    go_upto_region 5 with (go_at_call 46; refine (HC.out _ K1.out).mono ?_; rintro e w2 ⟨v2, xs, rfl, o2, r2, d2, k2⟩; (obtain ⟨A2, c2, rfl, _, _⟩ := ow_form o2); (have O2 := Lib.hid o2); (have R2 := Lib.hid r2); (have D2 := Lib.hid d2); (have K2 := Lib.hid k2); clear o2 r2 d2 k2)
    clear HC HM
    have hbase : w.heap.size ≤ w1.heap.size := K1.out.size
    have R0 : Hid (w2.ownsRow w1.heap.size 61 2 (.slice A2 l.length c2) l.length xs ∧ Rws w2 w1.heap.size xs (Wk.mix (Wk.reps a b) 0 l) ∧ Kept Nothing w1 w2) := Lib.hid ⟨O2.out, by rw [Wk.mix_zero]; exact R2.out, K2.out⟩
    clear O2 R2 K2
    go_loopw [19] (fun i wx => ∃ k : Nat, i = .int .i64 (k : Int) ∧ k ≤ l.length ∧ Hid (wx.ownsRow w1.heap.size 61 2 (.slice A2 l.length c2) l.length xs ∧ Rws wx w1.heap.size xs (Wk.mix (Wk.reps a b) k l) ∧ Kept Nothing w1 wx)) (fun i _ => l.length - (intOf i).toNat)
    case atStart => exact ⟨0, rfl, Nat.zero_le _, R0⟩
    case round =>
      clear R0
      obtain ⟨k, rfl, hk, HX⟩ := hrel
      by_cases hlt : k < l.length
      · have hmem : l.getD k (0, []) ∈ l := by rw [getD_get hlt]; exact List.getElem_mem _
        have hsl := HN.out _ hmem
        obtain ⟨hx1, hx2, hx3⟩ := HX.out
        rw [← Wk.half_zero hlt] at hx2
        obtain ⟨gt, cpt, _, hvt, _, _⟩ := own_lies hx1 (by omega)
        injection hvt with hvt _ hcc
        subst hvt
        subst hcc
        obtain ⟨nv, e0, e1, no, nf⟩ := hx2.at k (by rw [Wk.half_len]; exact hlt)
        rw [Wk.half_at hlt, Wk.mix_zero] at no nf
        have e0' : xs[k * 2]? = some (by8 (l.getD k (0, [])).1) := by rw [e0, Wk.half_at hlt]
        have p0 := hx1.cells (g := gt) rfl _ _ e0'
        have p1 := hx1.cells (g := gt) rfl _ _ e1
        rw [add_none, Nat.zero_add] at p0 p1
        have E1 := Lib.hid e1
        have hls : gt < wr.heap.size := World.block_lt_of_cell? _ _ p0
        have ES := Lib.hid (fun j (hj : j < (l.getD k (0, [])).2.length) => Wk.half_succ (a := a) (b := b) (k := k) hj)
        have ESK := Lib.hid (fun j (hj : j < (l.getD k (0, [])).2.length) h => Wk.half_skip (a := a) (b := b) (k := k) hj h)
        have EF := Lib.hid (Wk.half_full (a := a) (b := b) hlt)
        have EA := Lib.hid (fun j => Wk.half_at (a := a) (b := b) (j := j) hlt)
        generalize l.getD k (0, []) = sg at *
        obtain ⟨sk, sn⟩ := sg
        simp only at no nf hsl ES EF EA ESK
        obtain ⟨Au, cu, rfl, _, _⟩ := ow_form no
        replace p0 : wr.cell? ⟨gt, k * 2, none⟩ = some (.int .u8 (sk.toNat : Int)) := p0
        have i1 : (0 : Int) ≤ (k : Int) := by omega
        have i2 : (k : Int) < (l.length : Int) := by omega
        have ka := (Kept.refl Nothing wr).alloc (.cells #[.int .u8 (sk.toNat : Int), .slice Au sn.length cu] 61)
        have HY : Hid ((wr.alloc (.cells #[.int .u8 (sk.toNat : Int), .slice Au sn.length cu] 61)).ownsRow w1.heap.size 61 2 (.slice (some ⟨gt, 0, none⟩) l.length c2) l.length xs ∧ Rws (wr.alloc (.cells #[.int .u8 (sk.toNat : Int), .slice Au sn.length cu] 61)) w1.heap.size xs (Wk.half a b k 0 l) ∧ Kept Nothing w1 (wr.alloc (.cells #[.int .u8 (sk.toNat : Int), .slice Au sn.length cu] 61))) := Lib.hid ⟨ow_kept hx1 ka (fun _ _ x => x), hx2.old ka, hx3.trans ka⟩
        have YS := Blk.fresh wr 61 #[.int .u8 (sk.toNat : Int), .slice Au sn.length cu]
        clear hx1 hx2 hx3 HX e0 e1 e0' no ka hmem
        go_upto_region 8 with fail
        generalize wr.alloc (.cells #[.int .u8 (sk.toNat : Int), .slice Au sn.length cu] 61) = wA at *
        generalize wr.heap.size = bs at *
        clear p0 p1
        have hsl2 : sn.length ≤ 9223372036854775807 := by omega
        go_loopw [26] (fun i wq => ∃ j : Nat, i = .int .i64 (j : Int) ∧ j ≤ sn.length ∧ Hid (wq.ownsRow w1.heap.size 61 2 (.slice (some ⟨gt, 0, none⟩) l.length c2) l.length xs ∧ Rws wq w1.heap.size xs (Wk.half a b k j l) ∧ Kept Nothing w1 wq ∧ Blk wq bs 61 #[.int .u8 (sk.toNat : Int), .slice Au sn.length cu])) (fun i _ => sn.length - (intOf i).toNat)
        case atStart => exact ⟨0, rfl, Nat.zero_le _, Lib.hid ⟨HY.out.1, HY.out.2.1, HY.out.2.2, YS⟩⟩
        case round =>
          clear HY YS
          obtain ⟨j, rfl, hj, HJ⟩ := hrel
          by_cases hlj : j < sn.length
          · obtain ⟨y1, y2, y3, y4⟩ := HJ.out
            obtain ⟨nv2, _, f1, no2, nf2⟩ := y2.at k (by rw [Wk.half_len]; exact hlt)
            have f1' := f1
            rw [E1.out] at f1'
            injection f1' with f1'
            subst f1'
            rw [EA.out j] at no2
            have hml : (Wk.mix (Wk.rep1 a b) j sn).length = sn.length := Wk.mix_len
            have c1 := y4.cell 1
            have HB := Lib.hid y4
            simp only at no2
            obtain ⟨g, cg, cur, hv, hge, hbg⟩ := own_lies no2 (by omega)
            injection hv with hv _ _
            subst hv
            have q0 := no2.cells (g := g) rfl j _ (ass_at (by omega))
            rw [add_none, Nat.zero_add, Wk.mix_at 0 hlj] at q0
            have qf := hbg.free j
            have j1 : (0 : Int) ≤ (j : Int) := by omega
            have j2 : (j : Int) < (sn.length : Int) := by omega
            have SN := Rws.setN (w := wr) (g := g) hb j y2 D2.out k (by rw [Wk.half_len]; exact hlt) f1 rfl
            rw [EA.out j] at SN
            have SX := Lib.hid SN
            have ES2 := ES.out j hlj
            have Y1 := Lib.hid y1
            have Y2 := Lib.hid y2
            have Y3 := Lib.hid y3
            have HBG := Lib.hid hbg
            have HGE := Lib.hid hge
            have Y4 : Hid (∀ u, Blk (wr.setCell ⟨g, j, none⟩ u) bs 61 #[.int .u8 (sk.toNat : Int), .slice (some ⟨g, 0, none⟩) sn.length cu]) := Lib.hid (fun u => y4.far (p := ⟨g, j, none⟩) (y4.apart hbg (by decide)) u)
            clear y1 y2 y3 y4 HJ f1 no2 nf2 SN hbg hge E1
            generalize hx : sn.getD j 0 = x at *
            by_cases hxa : x = a
            · subst hxa
              rw [show Wk.rep1 x b x = b from if_pos rfl] at ES2
              have ES3 := Lib.hid ES2
              clear ES2 ESK EF EA ES hx hml
              go_wp2
              go_roundw
              case rel => exact ⟨j + 1, by go_num, by omega, Lib.hid ⟨ow_kept Y1.out (Kept.own _ g j _) (ow_far Y1.out HBG.out (by decide)), by rw [ES3.out]; exact SX.out, Y3.out.setCell (p := ⟨g, j, none⟩) (fun h => by have := HGE.out; exact absurd h (Nat.not_lt.2 this)) _, Y4.out _⟩⟩
              case measure => simp [intOf]; omega
            · have hxi : ((x : Int) == (a : Int)) = false := by simp; omega
              have ES3 : Hid (Wk.half a b k (j + 1) l = Wk.half a b k j l) := Lib.hid (ESK.out j hlj (by show ¬ sn.getD j 0 = a; rw [hx]; exact hxa))
              clear ES2 ESK EF EA ES hx hml SX
              go_wp2
              go_roundw
              case rel => exact ⟨j + 1, by go_num, by omega, Lib.hid ⟨Y1.out, by rw [ES3.out]; exact Y2.out, Y3.out, HB.out⟩⟩
              case measure => simp [intOf]; omega
          · obtain rfl : j = sn.length := by omega
            have HJ2 := Lib.hid HJ.out
            clear HJ
            go_wp2
            go_roundw
            case rel =>
              exact ⟨k + 1, by go_num, by omega, Lib.hid ⟨HJ2.out.1, by rw [← EF.out]; exact HJ2.out.2.1, HJ2.out.2.2.1⟩⟩
            case measure => simp [intOf]; omega
      · obtain rfl : k = l.length := by omega
        obtain ⟨x1, x2, x3⟩ := HX.out
        rw [Wk.mix_all] at x2
        have X1 := Lib.hid x1
        have X2 := Lib.hid x2
        have X3 := Lib.hid x3
        clear x1 x2 x3 HX
        go_wp2
        go_ret
        exact ⟨_, rfl, ⟨xs, by rw [List.length_map]; exact own_weakA X1.out hbase, X2.out.weak hbase⟩, K1.out.trans X3.out⟩
end Go.Proofs.YthjljamngpddmaaDoor
