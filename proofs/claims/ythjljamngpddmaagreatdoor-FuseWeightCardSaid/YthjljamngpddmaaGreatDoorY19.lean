
/-
  Proved here: the law FuseNarrow returns true for every input, and each argument reads behind the call as it did before; the listed variables of Go's library and the program's own table of brackets hold what the program's text lays in them (tied). No other condition.
-/
import Derived.Test.YthjljamngpddmaaGreatDoorY12
import Derived.Test.YthjljamngpddmaaGreatDoorY10
import Derived.Test.YthjljamngpddmaaGreatDoorY13
import Derived.Test.YthjljamngpddmaaGreatDoorY16
import Derived.Test.YthjljamngpddmaaGreatDoorY18
import Derived.Test.YthjljamngpddmaaGreatDoorY03
import Derived.Test.YthjljamngpddmaaGreatDoorY07
namespace Go.Proofs.YthjljamngpddmaaGreatDoor
open Go.RowKit

namespace Fz
def big (n : Nat) : Bool := decide (65535 < n)
def wideS (s : Seg) : Bool := !Wk.confed s.1 && s.2.any big
theorem all_cons (s : Seg) (l : List Seg) : Pt.all (s :: l) = s.2.map (fun n => (s.1, n)) ++ Pt.all l := by unfold Pt.all; rw [List.flatMap_cons]
theorem hasW_cons (s : Seg) (l : List Seg) : Pt.hasW (s :: l) = (s.2.any big || Pt.hasW l) := by
  unfold Pt.hasW
  rw [all_cons, List.any_append, List.any_map]
  rfl
theorem hasW_eq (l : List Seg) : Pt.hasW (plains l) = l.any wideS := by
  induction l with
  | nil => rfl
  | cons s l ih =>
    unfold plains at ih ⊢
    rw [List.any_cons, ← ih]
    unfold wideS
    cases h : Wk.confed s.1 with
    | true => rw [List.filter_cons_of_neg (by simp [h])]; simp
    | false => rw [List.filter_cons_of_pos (by simp [h]), hasW_cons]; simp
theorem wide_take {l : List Seg} {k : Nat} (hk : k < l.length) : (l.take (k + 1)).any wideS = ((l.take k).any wideS || (!Wk.confed (l.getD k (0, [])).1 && (l.getD k (0, [])).2.any big)) := by
  rw [List.take_succ_eq_append_getElem hk, List.any_append, getD_get hk]
  simp [wideS]
theorem big_take {l : List Nat} {j : Nat} (hj : j < l.length) : (l.take (j + 1)).any big = ((l.take j).any big || big (l.getD j 0)) := by
  have hg : l.getD j 0 = l[j] := by rw [List.getD_eq_getElem?_getD, List.getElem?_eq_getElem hj]; rfl
  rw [List.take_succ_eq_append_getElem hj, List.any_append, hg]
  simp
theorem short_short (n : Nat) : short (short n) = short n := by unfold short; split <;> simp
theorem short_big (n : Nat) : big (short n) = false := by
  have := short_lt n
  unfold big
  simp
  omega
theorem nar_len (l : List Seg) : (nar l).length = l.length := List.length_map _
theorem nar_cnt (l : List Seg) : Pt.cnt (nar l) = Pt.cnt l := by
  unfold Pt.cnt nar
  rw [List.map_map]
  congr 1
  exact List.map_congr_left (fun s _ => by simp [nar1])
theorem nar_wt (l : List Seg) : wt (nar l) = wt l := by
  unfold wt nar
  rw [List.map_map]
  congr 1
  exact List.map_congr_left (fun s _ => by show wt1 (nar1 s) = wt1 s; unfold wt1 nar1; rw [List.length_map])
theorem nar_at {l : List Seg} {k : Nat} (hk : k < l.length) : (nar l).getD k (0, []) = nar1 (l.getD k (0, [])) := by
  rw [getD_get (by rw [nar_len]; exact hk), getD_get hk]
  unfold nar
  rw [List.getElem_map]
theorem nar_nar (l : List Seg) : nar (nar l) = nar l := by
  unfold nar
  rw [List.map_map]
  refine List.map_congr_left (fun s _ => ?_)
  unfold nar1
  show (s.1, (s.2.map short).map short) = (s.1, s.2.map short)
  rw [List.map_map]
  congr 1
  exact List.map_congr_left (fun n _ => short_short n)
theorem nar_wide (l : List Seg) : Pt.hasW (plains (nar l)) = false := by
  rw [hasW_eq, List.any_eq_false]
  intro s hs
  obtain ⟨t, _, rfl⟩ := List.mem_map.1 hs
  unfold wideS nar1
  simp only [List.any_map]
  have : (t.2.any (big ∘ short)) = false := by
    rw [List.any_eq_false]
    intro n _
    show ¬ big (short n) = true
    rw [short_big]; simp
  rw [this]
  simp
theorem narrow_1 (l : List Seg) : (narrow l).1 = nar l := by unfold narrow; split <;> rfl
theorem narrow_3 (l : List Seg) : (narrow l).2.2 = l.any wideS := by
  unfold narrow
  rw [hasW_eq]
  split
  · rename_i h; rw [h]
  · rename_i h; simp only; cases h2 : l.any wideS with
    | true => exact absurd h2 h
    | false => rfl
theorem narrow_2 (l : List Seg) : (narrow l).2.1 = if l.any wideS then plains l else [] := by
  unfold narrow
  rw [hasW_eq]
  split <;> rfl
theorem narrow_nar (l : List Seg) : narrow (nar l) = (nar l, [], false) := by
  unfold narrow
  rw [nar_wide, if_neg (by decide), nar_nar]
theorem plains_plains (l : List Seg) : plains (plains l) = plains l := by
  unfold plains
  rw [List.filter_filter]
  simp
end Fz
theorem brF_bnd (l : List Seg) : (brF l).length ≤ 1000000 ∧ ∀ s ∈ brF l, s.2.length ≤ 1000000 := ⟨by have := brF_len l; omega, fun s hs => by have := (brF_num hs).1; omega⟩
end Go.Proofs.YthjljamngpddmaaGreatDoor
namespace Go.Proofs.YthjljamngpddmaaGreatDoor
open Go.RowKit Go.Shelf

namespace Fz
/-- The first k segments narrow, and the first j numbers of the next. -/
def half (k j : Nat) (l : List Seg) : List Seg := (Wk.mix nar1 k l).set k ((l.getD k (0, [])).1, Wk.mix short j (l.getD k (0, [])).2)
theorem half_len (k j : Nat) (l : List Seg) : (half k j l).length = l.length := by unfold half; rw [List.length_set, Wk.mix_len]
theorem half_at {k j : Nat} {l : List Seg} (hk : k < l.length) : (half k j l).getD k (0, []) = ((l.getD k (0, [])).1, Wk.mix short j (l.getD k (0, [])).2) := by
  unfold half
  rw [List.getD_eq_getElem?_getD, List.getElem?_set_self (by rw [Wk.mix_len]; exact hk)]
  rfl
theorem half_zero {k : Nat} {l : List Seg} (hk : k < l.length) : half k 0 l = Wk.mix nar1 k l := by
  unfold half
  rw [Wk.mix_zero]
  have h := Wk.mix_at (f := nar1) (0, ([] : List Nat)) hk
  have hk2 : k < (Wk.mix nar1 k l).length := by rw [Wk.mix_len]; exact hk
  have e : l.getD k (0, []) = (Wk.mix nar1 k l)[k] := by rw [← h, List.getD_eq_getElem?_getD, List.getElem?_eq_getElem hk2]; rfl
  show (Wk.mix nar1 k l).set k (l.getD k (0, [])) = _
  rw [e, List.set_getElem_self]
theorem half_full {k : Nat} {l : List Seg} (hk : k < l.length) : half k (l.getD k (0, [])).2.length l = Wk.mix nar1 (k + 1) l := by
  unfold half
  rw [Wk.mix_all, Wk.mix_succ (0, []) hk]
  rfl
theorem half_succ {k j : Nat} {l : List Seg} (hj : j < (l.getD k (0, [])).2.length) : half k (j + 1) l = (half k j l).set k ((l.getD k (0, [])).1, (Wk.mix short j (l.getD k (0, [])).2).set j (short ((l.getD k (0, [])).2.getD j 0))) := by
  unfold half
  rw [Wk.mix_succ 0 hj, List.set_set]
end Fz

set_option maxHeartbeats 3200000 in
theorem fuse_narrow (v : Value) (l : List Seg) (w : World) (h : Pts w v l) (hl : l.length ≤ 1000000) (hn : ∀ s ∈ l, s.2.length ≤ 1000000) :
    Calls Tryz.prog 30 #[v] w fun e w' => ∃ v1 v2, e = .returned (.tuple #[v1, v2, .bool (Fz.narrow l).2.2]) ∧ Pown w' w.heap.size v1 (Fz.narrow l).1 ∧ Pown w' w.heap.size v2 (Fz.narrow l).2.1 ∧ Kept Nothing w w' := by
  obtain ⟨A, c, rfl, -, -⟩ := h.form
  have HC := Lib.hid (path_copyD _ l w h hl hn)
  have HB := Lib.hid (fun w1 (k : Kept Nothing w w1) => fuse_bare _ l w1 (h.old k) hl hn)
  have HW := Lib.hid (fun v w1 (p : Pts w1 v (plains l)) => fuse_hasWide v (plains l) w1 p (by have := plains_len l; omega) (fun s hs => hn s (List.mem_filter.1 hs).1))
  have HE : Hid (Fz.narrow l = if Pt.hasW (plains l) then (Fz.nar l, plains l, true) else (Fz.nar l, [], false)) := Lib.hid rfl
  have HN := Lib.hid hn
  have HF := Lib.hid h.fits
  clear h hn
  go_enter Tryz.func30, Tryz.ntmps30
  go_wp2_with (go_at_call 18; refine (HC.out).mono ?_; rintro e w2 ⟨v2, xs, rfl, o2, r2, d2, k2⟩; (obtain ⟨A2, c2, rfl, _, _⟩ := ow_form o2); (have O2 := Lib.hid o2); (have R2 := Lib.hid r2); (have D2 := Lib.hid d2); (have K2 := Lib.hid k2); clear o2 r2 d2 k2)
  clear HC
  have R0 : Hid (w2.ownsRow w.heap.size 72 2 (.slice A2 l.length c2) l.length xs ∧ Rws w2 w.heap.size xs (Wk.mix Fz.nar1 0 l) ∧ Kept Nothing w w2) := Lib.hid ⟨O2.out, by rw [Wk.mix_zero]; exact R2.out, K2.out⟩
  clear O2 R2 K2
  go_loopw [13] (fun i wx => ∃ k : Nat, i = .int .i64 (k : Int) ∧ k ≤ l.length ∧ Hid (wx.ownsRow w.heap.size 72 2 (.slice A2 l.length c2) l.length xs ∧ Rws wx w.heap.size xs (Wk.mix Fz.nar1 k l) ∧ Kept Nothing w wx)) (fun i _ => l.length - (intOf i).toNat)
  case atStart => exact ⟨0, rfl, Nat.zero_le _, R0⟩
  case round =>
    clear R0
    obtain ⟨k, rfl, hk, HX⟩ := hrel
    by_cases hlt : k < l.length
    · have hmem : l.getD k (0, []) ∈ l := by rw [getD_get hlt]; exact List.getElem_mem _
      have hsl := HN.out _ hmem
      have hfl := HF.out _ hmem
      obtain ⟨hx1, hx2, hx3⟩ := HX.out
      rw [← Fz.half_zero hlt] at hx2
      obtain ⟨gt, cpt, _, hvt, _, _⟩ := own_lies hx1 (by omega)
      injection hvt with hvt _ hcc
      subst hvt
      subst hcc
      obtain ⟨nv, e0, e1, no, nf⟩ := hx2.at k (by rw [Fz.half_len]; exact hlt)
      rw [Fz.half_at hlt, Wk.mix_zero] at no nf
      have e0' : xs[k * 2]? = some (by8 (l.getD k (0, [])).1) := by rw [e0, Fz.half_at hlt]
      have p0 := hx1.cells (g := gt) rfl _ _ e0'
      have p1 := hx1.cells (g := gt) rfl _ _ e1
      rw [add_none, Nat.zero_add] at p0 p1
      have E1 := Lib.hid e1
      have hls : gt < wr.heap.size := World.block_lt_of_cell? _ _ p0
      have ES := Lib.hid (fun j (hj : j < (l.getD k (0, [])).2.length) => Fz.half_succ (k := k) hj)
      have EF := Lib.hid (Fz.half_full hlt)
      have EA := Lib.hid (fun j => Fz.half_at (j := j) hlt)
      generalize l.getD k (0, []) = sg at *
      obtain ⟨sk, sn⟩ := sg
      simp only at no nf hsl ES EF EA hfl
      have FL := Lib.hid hfl
      obtain ⟨Au, cu, rfl, _, _⟩ := ow_form no
      replace p0 : wr.cell? ⟨gt, k * 2, none⟩ = some (.int .u8 (sk.toNat : Int)) := p0
      have i1 : (0 : Int) ≤ (k : Int) := by omega
      have i2 : (k : Int) < (l.length : Int) := by omega
      have ka := (Kept.refl Nothing wr).alloc (.cells #[.int .u8 (sk.toNat : Int), .slice Au sn.length cu] 72)
      have HY : Hid ((wr.alloc (.cells #[.int .u8 (sk.toNat : Int), .slice Au sn.length cu] 72)).ownsRow w.heap.size 72 2 (.slice (some ⟨gt, 0, none⟩) l.length c2) l.length xs ∧ Rws (wr.alloc (.cells #[.int .u8 (sk.toNat : Int), .slice Au sn.length cu] 72)) w.heap.size xs (Fz.half k 0 l) ∧ Kept Nothing w (wr.alloc (.cells #[.int .u8 (sk.toNat : Int), .slice Au sn.length cu] 72))) := Lib.hid ⟨ow_kept hx1 ka (fun _ _ x => x), hx2.old ka, hx3.trans ka⟩
      have YS := Blk.fresh wr 72 #[.int .u8 (sk.toNat : Int), .slice Au sn.length cu]
      clear hx1 hx2 hx3 HX e0 e1 e0' no ka hmem hfl nf
      go_upto_region 6 with fail
      generalize wr.alloc (.cells #[.int .u8 (sk.toNat : Int), .slice Au sn.length cu] 72) = wA at *
      generalize wr.heap.size = bs at *
      clear p0 p1
      have hsl2 : sn.length ≤ 9223372036854775807 := by omega
      go_loopw [20] (fun i wq => ∃ j : Nat, i = .int .i64 (j : Int) ∧ j ≤ sn.length ∧ Hid (wq.ownsRow w.heap.size 72 2 (.slice (some ⟨gt, 0, none⟩) l.length c2) l.length xs ∧ Rws wq w.heap.size xs (Fz.half k j l) ∧ Kept Nothing w wq ∧ Blk wq bs 72 #[.int .u8 (sk.toNat : Int), .slice Au sn.length cu])) (fun i _ => sn.length - (intOf i).toNat)
      case atStart => exact ⟨0, rfl, Nat.zero_le _, Lib.hid ⟨HY.out.1, HY.out.2.1, HY.out.2.2, YS⟩⟩
      case round =>
        clear HY YS
        obtain ⟨j, rfl, hj, HJ⟩ := hrel
        by_cases hlj : j < sn.length
        · obtain ⟨y1, y2, y3, y4⟩ := HJ.out
          obtain ⟨nv2, _, f1, no2, nf2⟩ := y2.at k (by rw [Fz.half_len]; exact hlt)
          have f1' := f1
          rw [E1.out] at f1'
          injection f1' with f1'
          subst f1'
          rw [EA.out j] at no2
          have hml : (Wk.mix short j sn).length = sn.length := Wk.mix_len
          have c1 := y4.cell 1
          have HB4 := Lib.hid y4
          simp only at no2
          obtain ⟨g, cg, cur, hv, hge, hbg⟩ := own_lies no2 (by omega)
          injection hv with hv hq1 hq2
          subst hv
          subst hq2
          clear hq1
          have q0 := no2.cells (g := g) rfl j _ (ass_at (by omega))
          rw [add_none, Nat.zero_add, Wk.mix_at 0 hlj] at q0
          have qf := hbg.free j
          have j1 : (0 : Int) ≤ (j : Int) := by omega
          have j2 : (j : Int) < (sn.length : Int) := by omega
          have hx32 : sn.getD j 0 < 4294967296 := by
            have e : sn.getD j 0 = sn[j] := by rw [List.getD_eq_getElem?_getD, List.getElem?_eq_getElem hlj]; rfl
            rw [e]; exact FL.out _ (List.getElem_mem _)
          have hs16 := Fz.short_lt (sn.getD j 0)
          have SN := Rws.setN (w := wr) (g := g) (m := short (sn.getD j 0)) (by omega) j y2 D2.out k (by rw [Fz.half_len]; exact hlt) f1 rfl
          rw [EA.out j] at SN
          have SX := Lib.hid SN
          have ES2 := ES.out j hlj
          have Y1 := Lib.hid y1
          have Y3 := Lib.hid y3
          have HBG := Lib.hid hbg
          have HGE := Lib.hid hge
          have Y4 : Hid (∀ u, Blk (wr.setCell ⟨g, j, none⟩ u) bs 72 #[.int .u8 (sk.toNat : Int), .slice (some ⟨g, 0, none⟩) sn.length cu]) := Lib.hid (fun u => y4.far (p := ⟨g, j, none⟩) (y4.apart hbg (by decide)) u)
          clear y1 y2 y3 y4 HJ f1 no2 nf2 SN hbg hge E1
          have SH := Lib.hid (fun w => short_any (sn.getD j 0) hx32 w)
          have ES3 : Hid (Fz.half k (j + 1) l = (Fz.half k j l).set k (sk, (Wk.mix short j sn).set j (short (sn.getD j 0)))) := Lib.hid ES2
          clear ES2 EF EA ES hml
          generalize sn.getD j 0 = x at *
          generalize short x = y at *
          clear hx32
          have hwr : IntKind.u32.wrap (y : Int) = (y : Int) := by simp [IntKind.wrap, IntKind.bits, IntKind.signed]; omega
          go_upto_region 8 with fail
          go_region_law (go_simp; go_at_call 63; refine (SH.out _).mono ?_; rintro e w9 ⟨rfl, rfl⟩)
          all_goals
            go_wp2
            go_roundw
            case rel => exact ⟨j + 1, by go_num, by omega, Lib.hid ⟨ow_kept Y1.out (Kept.own _ g j _).drew (ow_far Y1.out HBG.out (by decide)), by rw [ES3.out]; exact SX.out.old ((Kept.refl _ _).drew), (Y3.out.setCell (p := ⟨g, j, none⟩) (fun h => by have := HGE.out; exact absurd h (Nat.not_lt.2 this)) _).drew, (Y4.out _).drew⟩⟩
            case measure => simp [intOf]; omega
        · obtain rfl : j = sn.length := by omega
          have HJ2 := Lib.hid HJ.out
          clear HJ
          go_wp2
          go_roundw
          case rel =>
            exact ⟨k + 1, by go_num, by omega, Lib.hid ⟨HJ2.out.1, by rw [← EF.out]; exact HJ2.out.2.1, HJ2.out.2.2.1⟩⟩
          case measure => simp [intOf]; omega
    · obtain rfl : k = l.length := by omega
      obtain ⟨x1, x2, x3⟩ := HX.out
      rw [Wk.mix_all] at x2
      have X1 := Lib.hid x1
      have X2 := Lib.hid x2
      have X3 := Lib.hid x3
      clear x1 x2 x3 HX HF HN
      go_upto_region 12 with (go_at_call 35; refine (HB.out _ X3.out).mono ?_; rintro e w3 ⟨v3, ys, rfl, o3, r3, -, k3⟩; (obtain ⟨A3, c3, rfl, _, _⟩ := ow_form o3); (have P3 := Lib.hid (show Pown w3 wr.heap.size _ (plains l) from ⟨ys, o3, r3⟩)); (have K3 := Lib.hid k3); clear o3 r3 k3)
      have HQ := Lib.hid (HW.out _ _ P3.out.pts)
      have PN := Lib.hid (show Pown w3 w.heap.size (.slice A2 l.length c2) (Fz.nar l) from ⟨xs, by unfold Fz.nar; rw [List.length_map]; exact ow_kept X1.out K3.out (fun _ _ x => x), X2.out.old K3.out⟩)
      cases hW : Pt.hasW (plains l) with
      | true =>
        rw [hW] at HQ HE
        have HE2 : Hid (Fz.narrow l = (Fz.nar l, plains l, true)) := Lib.hid HE.out
        clear HE hW HW HB
        go_wp2_with (go_at_call 64; refine (HQ.out).mono ?_; rintro e w4 ⟨rfl, k4⟩)
        go_ret3
        exact ⟨_, _, by rw [HE2.out]; rfl, by rw [HE2.out]; exact PN.out.old k4, by rw [HE2.out]; exact (P3.out.old k4).weak X3.out.size, (X3.out.trans K3.out).trans k4⟩
      | false =>
        rw [hW] at HQ HE
        have HE2 : Hid (Fz.narrow l = (Fz.nar l, [], false)) := Lib.hid HE.out
        clear HE hW HW HB
        go_wp2_with (go_at_call 64; refine (HQ.out).mono ?_; rintro e w4 ⟨rfl, k4⟩)
        go_ret3
        exact ⟨_, _, by rw [HE2.out]; rfl, by rw [HE2.out]; exact PN.out.old k4, by rw [HE2.out]; exact Pown.nil _ _, (X3.out.trans K3.out).trans k4⟩
end Go.Proofs.YthjljamngpddmaaGreatDoor
namespace Go.Proofs.YthjljamngpddmaaGreatDoor
open Go.RowKit Go.Shelf

set_option maxRecDepth 100000 in
set_option maxHeartbeats 8000000 in
theorem law_narrow (v : Value) (l : List Seg) (w : World) (h : Pts w v l) (hr : Rdy2 w) (hs : Bkt w) :
    Calls Tryz.prog 7 #[v] w fun e w' => e = .returned (.bool true) ∧ Kept Nothing w w' := by
  obtain ⟨A, c, rfl, -, -⟩ := h.form
  have HM := Lib.hid (brought _ l w h)
  have HR := Lib.hid hr
  have HS := Lib.hid hs
  obtain ⟨hb1, hb2⟩ := brF_bnd l
  have HP8 := Lib.hid (brF_len l)
  have HNUM := Lib.hid (fun s hs => brF_num (l := l) (s := s) hs)
  clear h hr hs
  generalize brF l = P at *
  go_enter Tryz.func7, Tryz.ntmps7
  go_upto_region 2 with (go_at_call 25; refine (HM.out).mono ?_; rintro e w1 ⟨v1, rfl, p1, k1⟩; (have P1 := Lib.hid p1.pts); (have K1 := Lib.hid k1); clear p1 k1)
  obtain ⟨A1, c1, rfl, -, -⟩ := P1.out.form
  have HNA := Lib.hid (fuse_narrow _ P w1 P1.out hb1 hb2)
  have HBL := Lib.hid (Fz.narrow_2 P)
  rw [Fz.narrow_1, Fz.narrow_3] at HNA
  generalize (Fz.narrow P).2.1 = BL at *
  go_upto_region 3 with (go_at_call 30; refine (HNA.out).mono ?_; rintro e w2 ⟨v2, v3, rfl, n2, b2, k2⟩; (have N2 := Lib.hid n2.pts); (have B2 := Lib.hid b2.pts); (have K2 := Lib.hid (K1.out.trans k2)); (have P2 := Lib.hid (P1.out.old k2)); clear n2 b2 k2)
  clear P1 K1 HNA HM
  obtain ⟨A2, c2, rfl, -, -⟩ := N2.out.form
  obtain ⟨A3, c3, rfl, -, -⟩ := B2.out.form
  have hnl : (Fz.nar P).length = P.length := Fz.nar_len P
  rw [hnl] at N2 ⊢
  have hb3 : ∀ s ∈ Fz.nar P, s.2.length ≤ 1000000 := fun s hs => by
    obtain ⟨t, ht, rfl⟩ := List.mem_map.1 hs
    show (t.2.map short).length ≤ _
    rw [List.length_map]
    exact hb2 t ht
  have CN := Lib.hid (fun u (k : Kept Nothing w2 u) => path_count _ (Fz.nar P) u (N2.out.old k) (by omega) hb3)
  have CP := Lib.hid (fun u (k : Kept Nothing w2 u) => path_count _ P u (P2.out.old k) hb1 hb2)
  have WN := Lib.hid (fun u (k : Kept Nothing w2 u) => fuse_wt _ (Fz.nar P) u (N2.out.old k) (by omega) hb3)
  have WP := Lib.hid (fun u (k : Kept Nothing w2 u) => fuse_wt _ P u (P2.out.old k) hb1 hb2)
  have NN := Lib.hid (fun u (k : Kept Nothing w2 u) => fuse_narrow _ (Fz.nar P) u (N2.out.old k) (by omega) hb3)
  have BP := Lib.hid (fun u (k : Kept Nothing w2 u) => fuse_bare _ P u (P2.out.old k) hb1 hb2)
  have hpl := plains_len P
  have hb4 : ∀ s ∈ plains P, s.2.length ≤ 1000000 := fun s hs => hb2 s (List.mem_filter.1 hs).1
  have BB := Lib.hid (fun v u (h : Pts u v (plains P)) => fuse_bare v (plains P) u h (by omega) hb4)
  have WB := Lib.hid (fun v u (h : Pts u v (plains P)) => fuse_wt v (plains P) u h (by omega) hb4)
  have CW := Lib.hid (fun u (k : Kept Nothing w2 u) => wakes9 u (HR.out.kept (K2.out.trans k)) (HS.out.kept (K2.out.trans k)))
  rw [Fz.nar_cnt] at CN
  rw [Fz.nar_wt] at WN
  rw [Fz.narrow_nar] at NN
  rw [Fz.plains_plains] at BB
  rw [Fz.wt_plains] at WB
  clear hb3 hb4 hnl
  go_upto_region 6 with (first
    | (go_at_call 36; refine (WP.out _ m3).mono ?_; rintro e u4 ⟨rfl, q4⟩; have m4 := m3.trans q4)
    | (go_at_call 36; refine (WN.out _ m2).mono ?_; rintro e u3 ⟨rfl, q3⟩; have m3 := m2.trans q3)
    | (go_at_call 19; refine (CP.out _ m1).mono ?_; rintro e u2 ⟨rfl, q2⟩; have m2 := m1.trans q2)
    | (go_at_call 19; refine (CN.out _ (Kept.refl _ _)).mono ?_; rintro e u1 ⟨rfl, m1⟩))
  have M4 := Lib.hid m4
  clear m1 m2 m3 m4 q2 q3 q4 CN CP WN
  go_wp2
  have HW0 : Hid ((P.take 0).any Fz.wideS = false) := Lib.hid rfl
  go_loopw [6, 45] (fun x i wr => ∃ k : Nat, i = .int .i64 (k : Int) ∧ k ≤ P.length ∧ x = .bool ((P.take k).any Fz.wideS) ∧ Hid (Kept Nothing w2 wr)) (fun _ i _ => P.length - (intOf i).toNat)
  case atStart => exact ⟨0, rfl, Nat.zero_le _, by rw [HW0.out], M4⟩
  case round =>
    clear HW0 M4
    obtain ⟨k, rfl, hk, rfl, KK⟩ := hrel
    by_cases hlt : k < P.length
    · have hmem : P.getD k (0, []) ∈ P := by rw [getD_get hlt]; exact List.getElem_mem _
      have hsl := hb2 _ hmem
      have hkk := (HNUM.out _ hmem).2.2
      obtain ⟨b, o, Au, cu, rfl, p0w, p1w, hpA⟩ := P2.out.at2 hlt
      obtain ⟨b', o', Av, cv, rfl, r0w, r1w, hrA⟩ := N2.out.at2 (i := k) hlt
      rw [Fz.nar_at hlt] at r0w r1w hrA
      have HWT := Lib.hid (Fz.wide_take hlt)
      clear hmem
      generalize P.getD k (0, []) = sg at *
      obtain ⟨sk, sn⟩ := sg
      rw [show Fz.nar1 (sk, sn) = (sk, sn.map short) from rfl] at r0w r1w hrA
      simp only [List.length_map] at r1w hrA p0w p1w r0w hsl hkk
      have HPA := Lib.hid hpA
      have HRA := Lib.hid hrA
      clear hpA hrA
      have i1 : (0 : Int) ≤ (k : Int) := by omega
      have i2 : (k : Int) < (P.length : Int) := by omega
      have p0 := KK.out.cell_some p0w (fun x => x)
      have p1 := KK.out.cell_some p1w (fun x => x)
      have r0 := KK.out.cell_some r0w (fun x => x)
      have r1 := KK.out.cell_some r1w (fun x => x)
      have hls : b < wr.heap.size := World.block_lt_of_cell? _ _ p0
      have ka := (Kept.refl Nothing wr).alloc (.cells #[.int .u8 (sk.toNat : Int), .slice Au sn.length cu] 72)
      have YS := Blk.fresh wr 72 #[.int .u8 (sk.toNat : Int), .slice Au sn.length cu]
      go_upto_region 9 with fail
      have KAA := Lib.hid (KK.out.trans ka)
      obtain ⟨wA, hwA⟩ : ∃ wA, wr.alloc (.cells #[.int .u8 (sk.toNat : Int), .slice Au sn.length cu] 72) = wA := ⟨_, rfl⟩
      rw [hwA] at YS KAA ⊢
      generalize wr.heap.size = bs at *
      clear p0 p1 r0 r1 hls ka hwA
      have y0 := YS.cell 0
      have y1 := YS.cell 1
      have s0 := KAA.out.cell_some r0w (fun x => x)
      have s1 := KAA.out.cell_some r1w (fun x => x)
      have YSS := Lib.hid YS
      clear YS
      go_quiet (fail)
      have KB := Lib.hid (KAA.out.drewN nq)
      have YB := Lib.hid (YSS.out.drewN nq)
      generalize wA.drewN nq = wB at *
      have z1 := YB.out.cell 1
      clear y0 y1 s0 s1 KAA YSS
      go_upto_region 12 with fail
      have hsl2 : sn.length ≤ 9223372036854775807 := by omega
      have HW1 : Hid (((P.take k).any Fz.wideS || (!Wk.confed sk && (sn.take 0).any Fz.big)) = (P.take k).any Fz.wideS) := Lib.hid (by simp)
      go_loopw [6, 73] (fun x i wq => ∃ j : Nat, i = .int .i64 (j : Int) ∧ j ≤ sn.length ∧ x = .bool ((P.take k).any Fz.wideS || (!Wk.confed sk && (sn.take j).any Fz.big)) ∧ Hid (Kept Nothing w2 wq) ∧ Hid (Blk wq bs 72 #[.int .u8 (sk.toNat : Int), .slice Au sn.length cu])) (fun _ i _ => sn.length - (intOf i).toNat)
      case atStart => exact ⟨0, rfl, Nat.zero_le _, by rw [HW1.out], KB, YB⟩
      case round =>
        clear KB YB z1 HW1
        obtain ⟨j, rfl, hj, rfl, KJ, YJ⟩ := hrel
        by_cases hlj : j < sn.length
        · obtain ⟨g, og, rfl, hq⟩ := HPA.out.at (by omega)
          obtain ⟨g', og', rfl, hq'⟩ := HRA.out.at (by omega)
          have q0 := KJ.out.cell_some (hq j hlj) (fun x => x)
          have q1 := KJ.out.cell_some (hq' j hlj) (fun x => x)
          have hsm : (sn.map short).getD j 0 = short (sn.getD j 0) := by
            rw [List.getD_eq_getElem?_getD, List.getElem?_map, List.getElem?_eq_getElem hlj, List.getD_eq_getElem?_getD, List.getElem?_eq_getElem hlj]
            rfl
          rw [hsm] at q1
          have t0 := KJ.out.cell_some r0w (fun x => x)
          have t1 := KJ.out.cell_some r1w (fun x => x)
          have u0 := YJ.out.cell 0
          have u1 := YJ.out.cell 1
          have j1 : (0 : Int) ≤ (j : Int) := by omega
          have j2 : (j : Int) < (sn.length : Int) := by omega
          have hbt := Fz.big_take hlj
          have HNX : Hid (((P.take k).any Fz.wideS || (!Wk.confed sk && (sn.take (j + 1)).any Fz.big)) = (((P.take k).any Fz.wideS || (!Wk.confed sk && (sn.take j).any Fz.big)) || (!Wk.confed sk && Fz.big (sn.getD j 0)))) := Lib.hid (by
            rw [hbt]
            cases (P.take k).any Fz.wideS <;> cases Wk.confed sk <;> simp)
          have HSX : Hid (short (sn.getD j 0) = if 65535 < sn.getD j 0 then 23456 else sn.getD j 0) := Lib.hid rfl
          have HBX : Hid (Fz.big (sn.getD j 0) = decide (65535 < sn.getD j 0)) := Lib.hid rfl
          have HCX : Hid (Wk.confed sk = (decide (sk.toNat = 3) || decide (sk.toNat = 4))) := Lib.hid rfl
          clear hbt hsm hq hq'
          generalize sn.getD j 0 = x at *
          generalize ((P.take k).any Fz.wideS || (!Wk.confed sk && (sn.take j).any Fz.big)) = bb at *
          have hk4 : 1 ≤ sk.toNat ∧ sk.toNat ≤ 4 := hkk
          by_cases hx : 65535 < x
          · have hx1 : (65535 : Int) < (x : Int) := by omega
            have hx2 : ¬ (x : Int) ≤ 65535 := by omega
            rw [HSX.out, if_pos hx] at q1
            rw [decide_eq_true hx] at HBX
            clear HSX hx
            cases bb with
            | true =>
              have HN2 : Hid (((P.take k).any Fz.wideS || (!Wk.confed sk && (sn.take (j + 1)).any Fz.big)) = true) := Lib.hid (by rw [HNX.out]; rfl)
              clear HNX HBX HCX hk4 hkk
              go_wp2
              go_roundw
              case rel => exact ⟨j + 1, by go_num, by omega, by rw [HN2.out], KJ, YJ⟩
              case measure => simp [intOf]; omega
            | false =>
              obtain h1 | h2 | h3 : sk.toNat = 1 ∨ sk.toNat = 2 ∨ (sk.toNat ≠ 1 ∧ sk.toNat ≠ 2) := by omega
              · have HN2 : Hid (((P.take k).any Fz.wideS || (!Wk.confed sk && (sn.take (j + 1)).any Fz.big)) = true) := Lib.hid (by rw [HNX.out, HBX.out, HCX.out, h1]; rfl)
                have a1 : ((sk.toNat : Int) == 1) = true := by simp; omega
                clear HNX HBX HCX hk4 hkk h1
                go_wp2
                go_roundw
                case rel => exact ⟨j + 1, by go_num, by omega, by rw [HN2.out], KJ, YJ⟩
                case measure => simp [intOf]; omega
              · have HN2 : Hid (((P.take k).any Fz.wideS || (!Wk.confed sk && (sn.take (j + 1)).any Fz.big)) = true) := Lib.hid (by rw [HNX.out, HBX.out, HCX.out, h2]; rfl)
                have a1 : ((sk.toNat : Int) == 1) = false := by simp; omega
                have a2 : ((sk.toNat : Int) == 2) = true := by simp; omega
                clear HNX HBX HCX hk4 hkk h2
                go_wp2
                go_roundw
                case rel => exact ⟨j + 1, by go_num, by omega, by rw [HN2.out], KJ, YJ⟩
                case measure => simp [intOf]; omega
              · have hcf : Wk.confed sk = true := by rw [HCX.out]; simp; omega
                have HN2 : Hid (((P.take k).any Fz.wideS || (!Wk.confed sk && (sn.take (j + 1)).any Fz.big)) = false) := Lib.hid (by rw [HNX.out, hcf]; rfl)
                have a1 : ((sk.toNat : Int) == 1) = false := by simp; omega
                have a2 : ((sk.toNat : Int) == 2) = false := by simp; omega
                clear HNX HBX HCX hk4 hkk h3 hcf
                go_wp2
                go_roundw
                case rel => exact ⟨j + 1, by go_num, by omega, by rw [HN2.out], KJ, YJ⟩
                case measure => simp [intOf]; omega
          · have hx1 : ¬ (65535 : Int) < (x : Int) := by omega
            have hx2 : (x : Int) ≤ 65535 := by omega
            rw [HSX.out, if_neg hx] at q1
            rw [decide_eq_false hx] at HBX
            have HN2 : Hid (((P.take k).any Fz.wideS || (!Wk.confed sk && (sn.take (j + 1)).any Fz.big)) = bb) := Lib.hid (by rw [HNX.out, HBX.out]; simp)
            clear HSX hx HNX HBX HCX hk4 hkk
            cases bb with
            | true =>
              go_wp2
              go_roundw
              case rel => exact ⟨j + 1, by go_num, by omega, by rw [HN2.out], KJ, YJ⟩
              case measure => simp [intOf]; omega
            | false =>
              go_wp2
              go_roundw
              case rel => exact ⟨j + 1, by go_num, by omega, by rw [HN2.out], KJ, YJ⟩
              case measure => simp [intOf]; omega
        · obtain rfl : j = sn.length := by omega
          rw [List.take_of_length_le (Nat.le_refl _)]
          have HW2 : Hid ((P.take (k + 1)).any Fz.wideS = ((P.take k).any Fz.wideS || (!Wk.confed sk && sn.any Fz.big))) := Lib.hid HWT.out
          clear YJ
          go_wp2
          go_roundw
          case rel => exact ⟨k + 1, by go_num, by omega, by rw [HW2.out], KJ⟩
          case measure => simp [intOf]; omega
    · obtain rfl : k = P.length := by omega
      rw [List.take_of_length_le (Nat.le_refl _)]
      have E1 := Lib.hid (fun a b l m u (h1 : Pts u a l) (h2 : Pts u b m) => path_same a b l m u h1 h2)
      clear HNUM HP8 hb2 hk hlt hb1
      go_upto_region 22 with (first
        | (go_at_call 35; refine (BP.out _ K7.out).mono ?_; rintro e w8 ⟨v8, ys, rfl, o8, r8, -, k8⟩; (have P8 := Lib.hid (show Pts w8 v8 (plains P) from Pts.of_own o8 r8.cells)); (have K8 := Lib.hid (K7.out.trans k8)); (replace PA7 := Lib.hid (PA7.out.old k8)); (obtain ⟨A8, c8, rfl, -, -⟩ := P8.out.form); clear o8 r8 k8)
        | (go_at_call 30; refine (NN.out _ KK.out).mono ?_; rintro e w7 ⟨v7, v7', rfl, p7, p7', k7⟩; (have PA7 := Lib.hid p7.pts); (have PB7 := Lib.hid p7'.pts); (have K7 := Lib.hid (KK.out.trans k7)); (obtain ⟨A7, c7, rfl, -, -⟩ := PA7.out.form); (obtain ⟨B7, d7, rfl, -, -⟩ := PB7.out.form); clear p7 p7' k7))
      have E3 := Lib.hid (fun u (k : Kept Nothing w8 u) => path_same _ _ (Fz.nar P) (Fz.nar P) u (PA7.out.old k) (N2.out.old (K8.out.trans k)))
      have E5 := Lib.hid (fun v u (k : Kept Nothing w8 u) (h : Pts u v (plains P)) => path_same v _ (plains P) (plains P) u h (P8.out.old k))
      rw [decide_eq_true rfl] at E3 E5
      have KF := Lib.hid (K2.out.trans K8.out)
      cases hW : P.any Fz.wideS with
      | true =>
        have E2 := Lib.hid (fun u (k : Kept Nothing w8 u) => path_same _ _ BL (plains P) u (B2.out.old (K8.out.trans k)) (P8.out.old k))
        rw [show decide (BL = plains P) = true from decide_eq_true (by rw [HBL.out, hW]; rfl)] at E2
        clear HBL hW E1 NN BP
        go_wp2_with (first
          | (go_at_call 32; refine (CW.out _ (K8.out.trans m6)).mono ?_; rintro e x7 ⟨rfl, q7⟩)
          | (go_at_call 36; refine (WP.out _ (K8.out.trans m5)).mono ?_; rintro e x6 ⟨rfl, q6⟩; have m6 := m5.trans q6)
          | (go_at_call 36; refine (WB.out _ _ (P8.out.old m4)).mono ?_; rintro e x5 ⟨rfl, q5⟩; have m5 := m4.trans q5)
          | (go_at_call 16; refine (E5.out _ _ m3 P9.out).mono ?_; rintro e x4 ⟨rfl, q4⟩; have m4 := m3.trans q4)
          | (go_at_call 35; refine (BB.out _ _ (P8.out.old m2)).mono ?_; rintro e x3 ⟨v9, zs, rfl, o9, r9, -, q3⟩; (have P9 := Lib.hid (show Pts x3 v9 (plains P) from Pts.of_own o9 r9.cells)); have m3 := m2.trans q3)
          | (go_at_call 16; refine (E3.out _ m1).mono ?_; rintro e x2 ⟨rfl, q2⟩; have m2 := m1.trans q2)
          | (go_at_call 16; refine (E2.out _ (Kept.refl _ _)).mono ?_; rintro e x1 ⟨rfl, m1⟩))
        go_ret
        exact ⟨rfl, KF.out.trans (m6.trans q7)⟩
      | false =>
        clear HBL hW E1 NN BP
        go_wp2_with (first
          | (go_at_call 32; refine (CW.out _ (K8.out.trans m6)).mono ?_; rintro e x7 ⟨rfl, q7⟩)
          | (go_at_call 36; refine (WP.out _ (K8.out.trans m5)).mono ?_; rintro e x6 ⟨rfl, q6⟩; have m6 := m5.trans q6)
          | (go_at_call 36; refine (WB.out _ _ (P8.out.old m4)).mono ?_; rintro e x5 ⟨rfl, q5⟩; have m5 := m4.trans q5)
          | (go_at_call 16; refine (E5.out _ _ m3 P9.out).mono ?_; rintro e x4 ⟨rfl, q4⟩; have m4 := m3.trans q4)
          | (go_at_call 35; refine (BB.out _ _ (P8.out.old m2)).mono ?_; rintro e x3 ⟨v9, zs, rfl, o9, r9, -, q3⟩; (have P9 := Lib.hid (show Pts x3 v9 (plains P) from Pts.of_own o9 r9.cells)); have m3 := m2.trans q3)
          | (go_at_call 16; refine (E3.out _ (Kept.refl _ _)).mono ?_; rintro e x2 ⟨rfl, m2⟩))
        go_ret
        exact ⟨rfl, KF.out.trans (m6.trans q7)⟩
end Go.Proofs.YthjljamngpddmaaGreatDoor
namespace Go.Proofs.YthjljamngpddmaaGreatDoor
open Go.ChangeShapes Go.WideShapes Go.ChangeAt Go.RowKit

set_option maxRecDepth 100000 in
theorem fuseNarrow_lifted (os : Os) (started : os.Started) (H : Type) (enc : TypeId × Value → H) :
    ReturnsInHanded {} Tryz.checked os 7 .any (fun w args => (Rows.fuseNarrowSpec.pre enc Tryz.prog Tryz.f7 [] false w args ∧ laidMetH Tryz.prog laidJ w) ∧ sizedMet enc Tryz.prog Tryz.f7 (OpenSpec.ofChange Rows.fuseNarrowSpec) false w args)
      (Rows.fuseNarrowSpec.post enc Tryz.prog Tryz.f7 false true false false) := by
  refine returnsInHanded_of_change_and (C := Tryz.checked) (X := fun w _ => laidMetH Tryz.prog laidJ w) (fun _ _ _ hh h => h.of_heap hh) ownKnob_none started (by kernel_rfl) Tryz.func7
    (ChangeSpec.witness_shaped (enc := enc) (C := Tryz.checked) (os := os) (X := fun w _ => laidMetH Tryz.prog laidJ w) false (World.doorLaid Tryz.prog 71 os) #[.slice none 0 0] 8 rfl (World.shaped_of_RefB (by kernel_rfl) (by kernel_rfl)) (by kernel_rfl) (by kernel_rfl) (by kernel_rfl) (door_metJ os _)) ?_
  intro W base args ds gs before hval0 hW _ _ hL _
  have hval : ∀ (j : Nat) t v, Tryz.f7.params[j]? = some t → args[j]? = some v → Value.okWide Tryz.prog W .any base t v := hval0
  have hW' : DataW.Whole enc Tryz.prog Tryz.f7.params.toList Rows.fuseNarrowSpec.vars false W args.toList ds gs before := hW
  obtain ⟨p, q, hA0, hV, rfl, hfz, hnd⟩ := hW
  have hA : DataW.TrodAll enc Tryz.prog W 0 (fun _ => true) true Tryz.f7.params.toList args.toList ds p := hA0
  rw [Tryz.params7] at hA hval
  obtain ⟨v0, d0, rfl, rfl, h0⟩ := trodAll_one hA
  obtain ⟨rfl, rfl⟩ := trodVars_none hV
  obtain ⟨hr, hs⟩ := rdyJ hL
  obtain ⟨l, hl⟩ := open_pts (hval 0 23 v0 rfl rfl) h0
  refine (law_narrow v0 l W hl hr hs).mono fun e W' ⟨he, hk⟩ => ?_
  subst he
  exact ⟨_, rfl, law_post hW' rfl (by kernel_rfl) (by rw [Tryz.params7]; exact readableJ (by kernel_rfl)) rfl rfl rfl hk.under⟩
theorem fuseNarrow_row : Rows.FuseNarrowSaid :=
  OpenClaim.holds_of_wide 7 Tryz.f7 rfl rfl rfl rfl rfl rfl rfl ⟨rfl, rfl, rfl, rfl, rfl⟩ rfl rfl rfl rfl rfl (by kernel_rfl) Tryz.func7 (by kernel_rfl)
    (of_decide_eq_true (by kernel_rfl)) (by unfold Func.isWrapper; first | (rw [if_pos (by decide +kernel)]; kernel_rfl) | (rw [if_neg (by decide +kernel)]; exact ⟨rfl, rfl⟩))
    (fun os started H enc _ => fuseNarrow_lifted os started H enc)
theorem fuseNarrow_holds : Rows.FuseNarrowCardSaid :=
  Claim7.holds_tied_plain_at .later [] [.data, .data, .data, .sentinel, .sentinel, .data] true Rows.fuseNarrowCard.stood.harness true
    fuseNarrow_row (fun _ h => by cases h) (by kernel_rfl) (fun _ h => by cases h) fuseNarrow_row_tie rfl ⟨rfl, rfl⟩ (by kernel_rfl) rfl
    (fun f fn hf hfn => by
      obtain rfl : f = 7 := Option.some.inj ((show Tryz.prog.funcNamed "consulate/consulatelaw09.FuseNarrow" = some 7 by kernel_rfl).symm.trans hf) |>.symm
      obtain rfl : fn = Tryz.f7 := (Option.some.inj (Tryz.func7.symm.trans hfn)).symm
      exact ⟨by kernel_rfl, fun j t ht => by
        rw [Tryz.params7] at ht
        have hm : t ∈ [23] := by simpa using Array.mem_of_getElem? ht
        have hall : ([23].all fun u => !Tryz.prog.wantsStandIn u) = true := by kernel_rfl
        exact (show Tryz.prog.wantsStandIn t = false by simpa using List.all_eq_true.1 hall t hm)⟩)
    (by kernel_rfl)
end Go.Proofs.YthjljamngpddmaaGreatDoor
