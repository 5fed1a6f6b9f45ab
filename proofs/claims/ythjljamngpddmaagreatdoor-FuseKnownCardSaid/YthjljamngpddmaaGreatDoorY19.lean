
/-
  fuse.Narrow.
-/
import Derived.Test.YthjljamngpddmaaGreatDoorY12
import Derived.Test.YthjljamngpddmaaGreatDoorY10
import Derived.Test.YthjljamngpddmaaGreatDoorY13
import Derived.Test.YthjljamngpddmaaGreatDoorY16
namespace Go.Proofs.YthjljamngpddmaaGreatDoor
open Go.RowKit

namespace Fz
def big (n : Nat) : Bool := decide (65535 < n)
def wideS (s : Seg) : Bool := !Wk.confed s.1 && s.2.any big
theorem all_cons (s : Seg) (l : List Seg) : Pt.all (s :: l) = s.2.map (fun n => (s.1, n)) ++ Pt.all l := by unfold Pt.all; rw [List.flatMap_cons]
theorem hasW_cons (s : Seg) (l : List Seg) : Pt.hasW (s :: l) = (s.2.any big || Pt.hasW l) := by
  unfold Pt.hasW
  rw [all_cons, List.any_append, List.any_map]
  rfl
theorem hasW_eq (l : List Seg) : Pt.hasW (plains l) = l.any wideS := by
  induction l with
  | nil => rfl
  | cons s l ih =>
    unfold plains at ih ⊢
    rw [List.any_cons, ← ih]
    unfold wideS
    cases h : Wk.confed s.1 with
    | true => rw [List.filter_cons_of_neg (by simp [h])]; simp
    | false => rw [List.filter_cons_of_pos (by simp [h]), hasW_cons]; simp
theorem wide_take {l : List Seg} {k : Nat} (hk : k < l.length) : (l.take (k + 1)).any wideS = ((l.take k).any wideS || (!Wk.confed (l.getD k (0, [])).1 && (l.getD k (0, [])).2.any big)) := by
  rw [List.take_succ_eq_append_getElem hk, List.any_append, getD_get hk]
  simp [wideS]
theorem big_take {l : List Nat} {j : Nat} (hj : j < l.length) : (l.take (j + 1)).any big = ((l.take j).any big || big (l.getD j 0)) := by
  have hg : l.getD j 0 = l[j] := by rw [List.getD_eq_getElem?_getD, List.getElem?_eq_getElem hj]; rfl
  rw [List.take_succ_eq_append_getElem hj, List.any_append, hg]
  simp
theorem short_short (n : Nat) : short (short n) = short n := by unfold short; split <;> simp
theorem short_big (n : Nat) : big (short n) = false := by
  have := short_lt n
  unfold big
  simp
  omega
theorem nar_len (l : List Seg) : (nar l).length = l.length := List.length_map _
theorem nar_cnt (l : List Seg) : Pt.cnt (nar l) = Pt.cnt l := by
  unfold Pt.cnt nar
  rw [List.map_map]
  congr 1
  exact List.map_congr_left (fun s _ => by simp [nar1])
theorem nar_wt (l : List Seg) : wt (nar l) = wt l := by
  unfold wt nar
  rw [List.map_map]
  congr 1
  exact List.map_congr_left (fun s _ => by show wt1 (nar1 s) = wt1 s; unfold wt1 nar1; rw [List.length_map])
theorem nar_at {l : List Seg} {k : Nat} (hk : k < l.length) : (nar l).getD k (0, []) = nar1 (l.getD k (0, [])) := by
  rw [getD_get (by rw [nar_len]; exact hk), getD_get hk]
  unfold nar
  rw [List.getElem_map]
theorem nar_nar (l : List Seg) : nar (nar l) = nar l := by
  unfold nar
  rw [List.map_map]
  refine List.map_congr_left (fun s _ => ?_)
  unfold nar1
  show (s.1, (s.2.map short).map short) = (s.1, s.2.map short)
  rw [List.map_map]
  congr 1
  exact List.map_congr_left (fun n _ => short_short n)
theorem nar_wide (l : List Seg) : Pt.hasW (plains (nar l)) = false := by
  rw [hasW_eq, List.any_eq_false]
  intro s hs
  obtain ⟨t, _, rfl⟩ := List.mem_map.1 hs
  unfold wideS nar1
  simp only [List.any_map]
  have : (t.2.any (big ∘ short)) = false := by
    rw [List.any_eq_false]
    intro n _
    show ¬ big (short n) = true
    rw [short_big]; simp
  rw [this]
  simp
theorem narrow_1 (l : List Seg) : (narrow l).1 = nar l := by unfold narrow; split <;> rfl
theorem narrow_3 (l : List Seg) : (narrow l).2.2 = l.any wideS := by
  unfold narrow
  rw [hasW_eq]
  split
  · rename_i h; rw [h]
  · rename_i h; simp only; cases h2 : l.any wideS with
    | true => exact absurd h2 h
    | false => rfl
theorem narrow_2 (l : List Seg) : (narrow l).2.1 = if l.any wideS then plains l else [] := by
  unfold narrow
  rw [hasW_eq]
  split <;> rfl
theorem narrow_nar (l : List Seg) : narrow (nar l) = (nar l, [], false) := by
  unfold narrow
  rw [nar_wide, if_neg (by decide), nar_nar]
theorem plains_plains (l : List Seg) : plains (plains l) = plains l := by
  unfold plains
  rw [List.filter_filter]
  simp
end Fz
theorem brF_bnd (l : List Seg) : (brF l).length ≤ 1000000 ∧ ∀ s ∈ brF l, s.2.length ≤ 1000000 := ⟨by have := brF_len l; omega, fun s hs => by have := (brF_num hs).1; omega⟩
end Go.Proofs.YthjljamngpddmaaGreatDoor
namespace Go.Proofs.YthjljamngpddmaaGreatDoor
open Go.RowKit Go.Shelf

namespace Fz
/-- The first k segments narrow, and the first j numbers of the next. -/
def half (k j : Nat) (l : List Seg) : List Seg := (Wk.mix nar1 k l).set k ((l.getD k (0, [])).1, Wk.mix short j (l.getD k (0, [])).2)
theorem half_len (k j : Nat) (l : List Seg) : (half k j l).length = l.length := by unfold half; rw [List.length_set, Wk.mix_len]
theorem half_at {k j : Nat} {l : List Seg} (hk : k < l.length) : (half k j l).getD k (0, []) = ((l.getD k (0, [])).1, Wk.mix short j (l.getD k (0, [])).2) := by
  unfold half
  rw [List.getD_eq_getElem?_getD, List.getElem?_set_self (by rw [Wk.mix_len]; exact hk)]
  rfl
theorem half_zero {k : Nat} {l : List Seg} (hk : k < l.length) : half k 0 l = Wk.mix nar1 k l := by
  unfold half
  rw [Wk.mix_zero]
  have h := Wk.mix_at (f := nar1) (0, ([] : List Nat)) hk
  have hk2 : k < (Wk.mix nar1 k l).length := by rw [Wk.mix_len]; exact hk
  have e : l.getD k (0, []) = (Wk.mix nar1 k l)[k] := by rw [← h, List.getD_eq_getElem?_getD, List.getElem?_eq_getElem hk2]; rfl
  show (Wk.mix nar1 k l).set k (l.getD k (0, [])) = _
  rw [e, List.set_getElem_self]
theorem half_full {k : Nat} {l : List Seg} (hk : k < l.length) : half k (l.getD k (0, [])).2.length l = Wk.mix nar1 (k + 1) l := by
  unfold half
  rw [Wk.mix_all, Wk.mix_succ (0, []) hk]
  rfl
theorem half_succ {k j : Nat} {l : List Seg} (hj : j < (l.getD k (0, [])).2.length) : half k (j + 1) l = (half k j l).set k ((l.getD k (0, [])).1, (Wk.mix short j (l.getD k (0, [])).2).set j (short ((l.getD k (0, [])).2.getD j 0))) := by
  unfold half
  rw [Wk.mix_succ 0 hj, List.set_set]
end Fz

set_option maxHeartbeats 3200000 in
theorem fuse_narrow (v : Value) (l : List Seg) (w : World) (h : Pts w v l) (hl : l.length ≤ 1000000) (hn : ∀ s ∈ l, s.2.length ≤ 1000000) :
    Calls Tryz.prog 30 #[v] w fun e w' => ∃ v1 v2, e = .returned (.tuple #[v1, v2, .bool (Fz.narrow l).2.2]) ∧ Pown w' w.heap.size v1 (Fz.narrow l).1 ∧ Pown w' w.heap.size v2 (Fz.narrow l).2.1 ∧ Kept Nothing w w' := by
  obtain ⟨A, c, rfl, -, -⟩ := h.form
  have HC := Lib.hid (path_copyD _ l w h hl hn)
  have HB := Lib.hid (fun w1 (k : Kept Nothing w w1) => fuse_bare _ l w1 (h.old k) hl hn)
  have HW := Lib.hid (fun v w1 (p : Pts w1 v (plains l)) => fuse_hasWide v (plains l) w1 p (by have := plains_len l; omega) (fun s hs => hn s (List.mem_filter.1 hs).1))
  have HE : Hid (Fz.narrow l = if Pt.hasW (plains l) then (Fz.nar l, plains l, true) else (Fz.nar l, [], false)) := Lib.hid rfl
  have HN := Lib.hid hn
  have HF := Lib.hid h.fits
  clear h hn
  go_enter Tryz.func30, Tryz.ntmps30
  go_wp2_with (go_at_call 18; refine (HC.out).mono ?_; rintro e w2 ⟨v2, xs, rfl, o2, r2, d2, k2⟩; (obtain ⟨A2, c2, rfl, _, _⟩ := ow_form o2); (have O2 := Lib.hid o2); (have R2 := Lib.hid r2); (have D2 := Lib.hid d2); (have K2 := Lib.hid k2); clear o2 r2 d2 k2)
  clear HC
  have R0 : Hid (w2.ownsRow w.heap.size 72 2 (.slice A2 l.length c2) l.length xs ∧ Rws w2 w.heap.size xs (Wk.mix Fz.nar1 0 l) ∧ Kept Nothing w w2) := Lib.hid ⟨O2.out, by rw [Wk.mix_zero]; exact R2.out, K2.out⟩
  clear O2 R2 K2
  go_loopw [13] (fun i wx => ∃ k : Nat, i = .int .i64 (k : Int) ∧ k ≤ l.length ∧ Hid (wx.ownsRow w.heap.size 72 2 (.slice A2 l.length c2) l.length xs ∧ Rws wx w.heap.size xs (Wk.mix Fz.nar1 k l) ∧ Kept Nothing w wx)) (fun i _ => l.length - (intOf i).toNat)
  case atStart => exact ⟨0, rfl, Nat.zero_le _, R0⟩
  case round =>
    clear R0
    obtain ⟨k, rfl, hk, HX⟩ := hrel
    by_cases hlt : k < l.length
    · have hmem : l.getD k (0, []) ∈ l := by rw [getD_get hlt]; exact List.getElem_mem _
      have hsl := HN.out _ hmem
      have hfl := HF.out _ hmem
      obtain ⟨hx1, hx2, hx3⟩ := HX.out
      rw [← Fz.half_zero hlt] at hx2
      obtain ⟨gt, cpt, _, hvt, _, _⟩ := own_lies hx1 (by omega)
      injection hvt with hvt _ hcc
      subst hvt
      subst hcc
      obtain ⟨nv, e0, e1, no, nf⟩ := hx2.at k (by rw [Fz.half_len]; exact hlt)
      rw [Fz.half_at hlt, Wk.mix_zero] at no nf
      have e0' : xs[k * 2]? = some (by8 (l.getD k (0, [])).1) := by rw [e0, Fz.half_at hlt]
      have p0 := hx1.cells (g := gt) rfl _ _ e0'
      have p1 := hx1.cells (g := gt) rfl _ _ e1
      rw [add_none, Nat.zero_add] at p0 p1
      have E1 := Lib.hid e1
      have hls : gt < wr.heap.size := World.block_lt_of_cell? _ _ p0
      have ES := Lib.hid (fun j (hj : j < (l.getD k (0, [])).2.length) => Fz.half_succ (k := k) hj)
      have EF := Lib.hid (Fz.half_full hlt)
      have EA := Lib.hid (fun j => Fz.half_at (j := j) hlt)
      generalize l.getD k (0, []) = sg at *
      obtain ⟨sk, sn⟩ := sg
      simp only at no nf hsl ES EF EA hfl
      have FL := Lib.hid hfl
      obtain ⟨Au, cu, rfl, _, _⟩ := ow_form no
      replace p0 : wr.cell? ⟨gt, k * 2, none⟩ = some (.int .u8 (sk.toNat : Int)) := p0
      have i1 : (0 : Int) ≤ (k : Int) := by omega
      have i2 : (k : Int) < (l.length : Int) := by omega
      have ka := (Kept.refl Nothing wr).alloc (.cells #[.int .u8 (sk.toNat : Int), .slice Au sn.length cu] 72)
      have HY : Hid ((wr.alloc (.cells #[.int .u8 (sk.toNat : Int), .slice Au sn.length cu] 72)).ownsRow w.heap.size 72 2 (.slice (some ⟨gt, 0, none⟩) l.length c2) l.length xs ∧ Rws (wr.alloc (.cells #[.int .u8 (sk.toNat : Int), .slice Au sn.length cu] 72)) w.heap.size xs (Fz.half k 0 l) ∧ Kept Nothing w (wr.alloc (.cells #[.int .u8 (sk.toNat : Int), .slice Au sn.length cu] 72))) := Lib.hid ⟨ow_kept hx1 ka (fun _ _ x => x), hx2.old ka, hx3.trans ka⟩
      have YS := Blk.fresh wr 72 #[.int .u8 (sk.toNat : Int), .slice Au sn.length cu]
      clear hx1 hx2 hx3 HX e0 e1 e0' no ka hmem hfl nf
      go_upto_region 6 with fail
      generalize wr.alloc (.cells #[.int .u8 (sk.toNat : Int), .slice Au sn.length cu] 72) = wA at *
      generalize wr.heap.size = bs at *
      clear p0 p1
      have hsl2 : sn.length ≤ 9223372036854775807 := by omega
      go_loopw [20] (fun i wq => ∃ j : Nat, i = .int .i64 (j : Int) ∧ j ≤ sn.length ∧ Hid (wq.ownsRow w.heap.size 72 2 (.slice (some ⟨gt, 0, none⟩) l.length c2) l.length xs ∧ Rws wq w.heap.size xs (Fz.half k j l) ∧ Kept Nothing w wq ∧ Blk wq bs 72 #[.int .u8 (sk.toNat : Int), .slice Au sn.length cu])) (fun i _ => sn.length - (intOf i).toNat)
      case atStart => exact ⟨0, rfl, Nat.zero_le _, Lib.hid ⟨HY.out.1, HY.out.2.1, HY.out.2.2, YS⟩⟩
      case round =>
        clear HY YS
        obtain ⟨j, rfl, hj, HJ⟩ := hrel
        by_cases hlj : j < sn.length
        · obtain ⟨y1, y2, y3, y4⟩ := HJ.out
          obtain ⟨nv2, _, f1, no2, nf2⟩ := y2.at k (by rw [Fz.half_len]; exact hlt)
          have f1' := f1
          rw [E1.out] at f1'
          injection f1' with f1'
          subst f1'
          rw [EA.out j] at no2
          have hml : (Wk.mix short j sn).length = sn.length := Wk.mix_len
          have c1 := y4.cell 1
          have HB4 := Lib.hid y4
          simp only at no2
          obtain ⟨g, cg, cur, hv, hge, hbg⟩ := own_lies no2 (by omega)
          injection hv with hv hq1 hq2
          subst hv
          subst hq2
          clear hq1
          have q0 := no2.cells (g := g) rfl j _ (ass_at (by omega))
          rw [add_none, Nat.zero_add, Wk.mix_at 0 hlj] at q0
          have qf := hbg.free j
          have j1 : (0 : Int) ≤ (j : Int) := by omega
          have j2 : (j : Int) < (sn.length : Int) := by omega
          have hx32 : sn.getD j 0 < 4294967296 := by
            have e : sn.getD j 0 = sn[j] := by rw [List.getD_eq_getElem?_getD, List.getElem?_eq_getElem hlj]; rfl
            rw [e]; exact FL.out _ (List.getElem_mem _)
          have hs16 := Fz.short_lt (sn.getD j 0)
          have SN := Rws.setN (w := wr) (g := g) (m := short (sn.getD j 0)) (by omega) j y2 D2.out k (by rw [Fz.half_len]; exact hlt) f1 rfl
          rw [EA.out j] at SN
          have SX := Lib.hid SN
          have ES2 := ES.out j hlj
          have Y1 := Lib.hid y1
          have Y3 := Lib.hid y3
          have HBG := Lib.hid hbg
          have HGE := Lib.hid hge
          have Y4 : Hid (∀ u, Blk (wr.setCell ⟨g, j, none⟩ u) bs 72 #[.int .u8 (sk.toNat : Int), .slice (some ⟨g, 0, none⟩) sn.length cu]) := Lib.hid (fun u => y4.far (p := ⟨g, j, none⟩) (y4.apart hbg (by decide)) u)
          clear y1 y2 y3 y4 HJ f1 no2 nf2 SN hbg hge E1
          have SH := Lib.hid (fun w => short_any (sn.getD j 0) hx32 w)
          have ES3 : Hid (Fz.half k (j + 1) l = (Fz.half k j l).set k (sk, (Wk.mix short j sn).set j (short (sn.getD j 0)))) := Lib.hid ES2
          clear ES2 EF EA ES hml
          generalize sn.getD j 0 = x at *
          generalize short x = y at *
          clear hx32
          have hwr : IntKind.u32.wrap (y : Int) = (y : Int) := by simp [IntKind.wrap, IntKind.bits, IntKind.signed]; omega
          go_upto_region 8 with fail
          go_region_law (go_simp; go_at_call 63; refine (SH.out _).mono ?_; rintro e w9 ⟨rfl, rfl⟩)
          all_goals
            go_wp2
            go_roundw
            case rel => exact ⟨j + 1, by go_num, by omega, Lib.hid ⟨ow_kept Y1.out (Kept.own _ g j _).drew (ow_far Y1.out HBG.out (by decide)), by rw [ES3.out]; exact SX.out.old ((Kept.refl _ _).drew), (Y3.out.setCell (p := ⟨g, j, none⟩) (fun h => by have := HGE.out; exact absurd h (Nat.not_lt.2 this)) _).drew, (Y4.out _).drew⟩⟩
            case measure => simp [intOf]; omega
        · obtain rfl : j = sn.length := by omega
          have HJ2 := Lib.hid HJ.out
          clear HJ
          go_wp2
          go_roundw
          case rel =>
            exact ⟨k + 1, by go_num, by omega, Lib.hid ⟨HJ2.out.1, by rw [← EF.out]; exact HJ2.out.2.1, HJ2.out.2.2.1⟩⟩
          case measure => simp [intOf]; omega
    · obtain rfl : k = l.length := by omega
      obtain ⟨x1, x2, x3⟩ := HX.out
      rw [Wk.mix_all] at x2
      have X1 := Lib.hid x1
      have X2 := Lib.hid x2
      have X3 := Lib.hid x3
      clear x1 x2 x3 HX HF HN
      go_upto_region 12 with (go_at_call 35; refine (HB.out _ X3.out).mono ?_; rintro e w3 ⟨v3, ys, rfl, o3, r3, -, k3⟩; (obtain ⟨A3, c3, rfl, _, _⟩ := ow_form o3); (have P3 := Lib.hid (show Pown w3 wr.heap.size _ (plains l) from ⟨ys, o3, r3⟩)); (have K3 := Lib.hid k3); clear o3 r3 k3)
      have HQ := Lib.hid (HW.out _ _ P3.out.pts)
      have PN := Lib.hid (show Pown w3 w.heap.size (.slice A2 l.length c2) (Fz.nar l) from ⟨xs, by unfold Fz.nar; rw [List.length_map]; exact ow_kept X1.out K3.out (fun _ _ x => x), X2.out.old K3.out⟩)
      cases hW : Pt.hasW (plains l) with
      | true =>
        rw [hW] at HQ HE
        have HE2 : Hid (Fz.narrow l = (Fz.nar l, plains l, true)) := Lib.hid HE.out
        clear HE hW HW HB
        go_wp2_with (go_at_call 64; refine (HQ.out).mono ?_; rintro e w4 ⟨rfl, k4⟩)
        go_ret3
        exact ⟨_, _, by rw [HE2.out]; rfl, by rw [HE2.out]; exact PN.out.old k4, by rw [HE2.out]; exact (P3.out.old k4).weak X3.out.size, (X3.out.trans K3.out).trans k4⟩
      | false =>
        rw [hW] at HQ HE
        have HE2 : Hid (Fz.narrow l = (Fz.nar l, [], false)) := Lib.hid HE.out
        clear HE hW HW HB
        go_wp2_with (go_at_call 64; refine (HQ.out).mono ?_; rintro e w4 ⟨rfl, k4⟩)
        go_ret3
        exact ⟨_, _, by rw [HE2.out]; rfl, by rw [HE2.out]; exact PN.out.old k4, by rw [HE2.out]; exact Pown.nil _ _, (X3.out.trans K3.out).trans k4⟩
end Go.Proofs.YthjljamngpddmaaGreatDoor
