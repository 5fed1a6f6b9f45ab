
/-
  The document's Replace.
-/
import Derived.Test.YtdeblmolgmadiaaDoorZd
import Derived.Test.YtdeblmolgmadiaaDoorJt
import Derived.Test.YtdeblmolgmadiaaDoorZo
import Derived.Test.YtdeblmolgmadiaaDoorZq
namespace Go.Proofs.YtdeblmolgmadiaaDoor
open Go.RowKit Go.Shelf

theorem own_setN {w : World} {base g n : Nat} {e : TypeId} {v u : Value} {xs : List Value} (h : w.ownsRow base e 1 v n xs) (hg : v.ownBlock = some g) (j : Nat) : (w.setCell ⟨g, j, none⟩ u).ownsRow base e 1 v n (xs.set j u) := by
  obtain ⟨h1, h2⟩ := h
  refine ⟨by rw [List.length_set]; exact h1, ?_⟩
  rcases h2 with ⟨rfl, _⟩ | ⟨g', cap, cur, rfl, hb, hh, hnc, hcm, hcs, htk⟩
  · simp [Value.ownBlock] at hg
  · obtain rfl : g' = g := by simpa [Value.ownBlock] using hg
    have hB : Blk w g' e cur := hh
    refine .inr ⟨g', cap, _, rfl, hb, hB.put j u, hnc, hcm, by simpa using hcs, ?_⟩
    rw [Array.toList_setIfInBounds, List.take_set, htk]
theorem ass_set (l : List Nat) (j m : Nat) : ass (l.set j m) = (ass l).set j (.int .u32 (m : Int)) := by unfold ass; rw [List.map_set]
theorem Rws.setN {w : World} {B g m : Nat} (hm : m < 4294967296) (j : Nat) {v : Value} : ∀ {xs : List Value} {l : List Seg} (_ : Rws w B xs l) (_ : Dist xs) (k : Nat) (_ : k < l.length) (_ : xs[k * 2 + 1]? = some v) (_ : v.ownBlock = some g),
    Rws (w.setCell ⟨g, j, none⟩ (.int .u32 (m : Int))) B xs (l.set k ((l.getD k (0, [])).1, (l.getD k (0, [])).2.set j m))
  | _ :: u :: xs, c :: l, ⟨h1, h2, h3, h4⟩, hd, 0, _, hv, hg => by
    obtain rfl : u = v := by simpa using hv
    have hd2 := List.pairwise_cons.1 (List.pairwise_cons.1 hd).2
    refine ⟨h1, ?_, fun x hx => ?_, h4.apart (Kept.own w g j _) (fun x hx g' hg' (e : g' = g) => ?_)⟩
    · show World.ownsRow _ B _ 1 u (c.2.set j m).length (ass (c.2.set j m))
      rw [List.length_set, ass_set]
      exact own_setN h2 hg j
    · rcases List.mem_or_eq_of_mem_set hx with hx | rfl
      · exact h3 x hx
      · exact hm
    · subst e
      exact hd2.1 x hx g' hg hg'
  | a :: u :: xs, c :: l, ⟨h1, h2, h3, h4⟩, hd, k + 1, hk, hv, hg => by
    have hd2 := List.pairwise_cons.1 (List.pairwise_cons.1 hd).2
    have hv' : xs[k * 2 + 1]? = some v := by rw [Nat.add_mul] at hv; exact hv
    refine ⟨h1, ow_kept h2 (Kept.own w g j _) (fun g' hg' (e : g' = g) => ?_), h3, Rws.setN hm j h4 hd2.2 k (by simpa using hk) hv' hg⟩
    subst e
    exact hd2.1 v (List.mem_of_getElem? hv') g' hg' hg
  | [], [], _, _, k, hk, _, _ => absurd hk (Nat.not_lt_zero _)
  | [], _ :: _, h, _, _, _, _, _ => h.elim
  | [_], _, h, _, _, _, _, _ => by unfold Rws at h; exact h.elim
  | _ :: _ :: _, [], h, _, _, _, _, _ => by unfold Rws at h; exact h.elim

namespace Wk
/-- The first j of a list changed by f. -/
def mix {α : Type} (f : α → α) (j : Nat) (l : List α) : List α := (l.take j).map f ++ l.drop j
section
variable {α : Type} {f : α → α} {j : Nat} {l : List α}
theorem mix_len : (mix f j l).length = l.length := by unfold mix; simp; omega
theorem mix_zero : mix f 0 l = l := by simp [mix]
theorem mix_all : mix f l.length l = l.map f := by simp [mix]
theorem mix_at (d : α) (hj : j < l.length) : (mix f j l).getD j d = l.getD j d := by
  unfold mix
  have h : ((l.take j).map f).length = j := by rw [List.length_map, List.length_take]; omega
  rw [List.getD_eq_getElem?_getD, List.getElem?_append_right (by omega), h, Nat.sub_self, List.getElem?_drop, Nat.add_zero, List.getD_eq_getElem?_getD]
theorem mix_succ (d : α) (hj : j < l.length) : mix f (j + 1) l = (mix f j l).set j (f (l.getD j d)) := by
  unfold mix
  have h : ((l.take j).map f).length = j := by rw [List.length_map, List.length_take]; omega
  have hg : l.getD j d = l[j] := by rw [List.getD_eq_getElem?_getD, List.getElem?_eq_getElem hj]; rfl
  rw [List.take_succ_eq_append_getElem hj, List.map_append, List.set_append_right _ _ (by omega), h, Nat.sub_self, hg, List.drop_eq_getElem_cons hj, List.set_cons_zero]
  simp
theorem mix_skip (d : α) (hj : j < l.length) (h : f (l.getD j d) = l.getD j d) : mix f (j + 1) l = mix f j l := by
  rw [mix_succ d hj, h]
  have h2 := mix_at (f := f) d hj
  have hj2 : j < (mix f j l).length := by rw [mix_len]; exact hj
  have e2 : l.getD j d = (mix f j l)[j] := by rw [← h2, List.getD_eq_getElem?_getD, List.getElem?_eq_getElem hj2]; rfl
  rw [e2, List.set_getElem_self]
end
def rep1 (a b n : Nat) : Nat := if n = a then b else n
def reps (a b : Nat) (s : Seg) : Seg := (s.1, s.2.map (rep1 a b))
def replace (l : List Seg) (a b : Nat) : List Seg := if Pt.may l then l.map (reps a b) else []
/-- The first k segments replaced, and the first j numbers of the next. -/
def half (a b k j : Nat) (l : List Seg) : List Seg := (mix (reps a b) k l).set k ((l.getD k (0, [])).1, mix (rep1 a b) j (l.getD k (0, [])).2)
theorem half_len (a b k j : Nat) (l : List Seg) : (half a b k j l).length = l.length := by unfold half; rw [List.length_set, mix_len]
theorem half_at {a b k j : Nat} {l : List Seg} (hk : k < l.length) : (half a b k j l).getD k (0, []) = ((l.getD k (0, [])).1, mix (rep1 a b) j (l.getD k (0, [])).2) := by
  unfold half
  rw [List.getD_eq_getElem?_getD, List.getElem?_set_self (by rw [mix_len]; exact hk)]
  rfl
theorem half_zero {a b k : Nat} {l : List Seg} (hk : k < l.length) : half a b k 0 l = mix (reps a b) k l := by
  unfold half
  rw [mix_zero]
  have h := mix_at (f := reps a b) (0, ([] : List Nat)) hk
  have hk2 : k < (mix (reps a b) k l).length := by rw [mix_len]; exact hk
  have e : l.getD k (0, []) = (mix (reps a b) k l)[k] := by rw [← h, List.getD_eq_getElem?_getD, List.getElem?_eq_getElem hk2]; rfl
  show (mix (reps a b) k l).set k (l.getD k (0, [])) = _
  rw [e, List.set_getElem_self]
theorem half_full {a b k : Nat} {l : List Seg} (hk : k < l.length) : half a b k (l.getD k (0, [])).2.length l = mix (reps a b) (k + 1) l := by
  unfold half
  rw [mix_all, mix_succ (0, []) hk]
  rfl
theorem half_succ {a b k j : Nat} {l : List Seg} (hj : j < (l.getD k (0, [])).2.length) : half a b k (j + 1) l = (half a b k j l).set k ((l.getD k (0, [])).1, (mix (rep1 a b) j (l.getD k (0, [])).2).set j (rep1 a b ((l.getD k (0, [])).2.getD j 0))) := by
  unfold half
  rw [mix_succ 0 hj, List.set_set]
theorem half_skip {a b k j : Nat} {l : List Seg} (hj : j < (l.getD k (0, [])).2.length) (h : ¬ (l.getD k (0, [])).2.getD j 0 = a) : half a b k (j + 1) l = half a b k j l := by
  unfold half
  rw [mix_skip (f := rep1 a b) 0 hj (if_neg h)]
end Wk
theorem ass_at {l : List Nat} {j : Nat} (hj : j < l.length) : (ass l)[j]? = some (.int .u32 ((l.getD j 0 : Nat) : Int)) := by
  unfold ass
  rw [List.getElem?_map, List.getElem?_eq_getElem hj, List.getD_eq_getElem?_getD, List.getElem?_eq_getElem hj]
  rfl

set_option maxHeartbeats 1600000 in
theorem walk_replace (v : Value) (l : List Seg) (a b : Nat) (hb : b < 4294967296) (w : World) (h : Pts w v l) (hl : l.length ≤ 1000000) (hn : ∀ s ∈ l, s.2.length ≤ 1000000) :
    Calls Tryd.prog 28 #[v, .int .u32 (a : Int), .int .u32 (b : Int)] w fun e w' => ∃ v', e = .returned v' ∧ Pown w' w.heap.size v' (Wk.replace l a b) ∧ Kept Nothing w w' := by
  obtain ⟨A, c, rfl, -, -⟩ := h.form
  have HM := Lib.hid (path_may _ l w h (by omega))
  have HC := Lib.hid (fun w1 (k : Kept Nothing w w1) => path_copyD _ l w1 (h.old k) hl hn)
  have HN := Lib.hid hn
  clear h hn
  unfold Wk.replace
  cases hmay : Pt.may l with
  | false =>
    rw [hmay] at HM
    rw [if_neg (by decide)]
    clear hmay HC
    go_enter Tryd.func28, Tryd.ntmps28
    go_wp2_with (go_at_call 31; refine (HM.out).mono ?_; rintro e w1 ⟨rfl, k1⟩)
    go_ret
    exact ⟨_, rfl, ⟨[], World.ownsRow_nil _ _ _ _, trivial⟩, k1⟩
  | true =>
    rw [hmay] at HM
    rw [if_pos rfl]
    clear hmay
    go_enter Tryd.func28, Tryd.ntmps28
    go_upto_region 3 with (go_at_call 31; refine (HM.out).mono ?_; rintro e w1 ⟨rfl, k1⟩; have K1 := Lib.hid k1; clear k1)
    go_upto_region 5 with (go_at_call 44; refine (HC.out _ K1.out).mono ?_; rintro e w2 ⟨v2, xs, rfl, o2, r2, d2, k2⟩; (obtain ⟨A2, c2, rfl, _, _⟩ := ow_form o2); (have O2 := Lib.hid o2); (have R2 := Lib.hid r2); (have D2 := Lib.hid d2); (have K2 := Lib.hid k2); clear o2 r2 d2 k2)
    clear HC HM
    have hbase : w.heap.size ≤ w1.heap.size := K1.out.size
    have R0 : Hid (w2.ownsRow w1.heap.size 61 2 (.slice A2 l.length c2) l.length xs ∧ Rws w2 w1.heap.size xs (Wk.mix (Wk.reps a b) 0 l) ∧ Kept Nothing w1 w2) := Lib.hid ⟨O2.out, by rw [Wk.mix_zero]; exact R2.out, K2.out⟩
    clear O2 R2 K2
    go_loopw [19] (fun i wx => ∃ k : Nat, i = .int .i64 (k : Int) ∧ k ≤ l.length ∧ Hid (wx.ownsRow w1.heap.size 61 2 (.slice A2 l.length c2) l.length xs ∧ Rws wx w1.heap.size xs (Wk.mix (Wk.reps a b) k l) ∧ Kept Nothing w1 wx)) (fun i _ => l.length - (intOf i).toNat)
    case atStart => exact ⟨0, rfl, Nat.zero_le _, R0⟩
    case round =>
      clear R0
      obtain ⟨k, rfl, hk, HX⟩ := hrel
      by_cases hlt : k < l.length
      · have hmem : l.getD k (0, []) ∈ l := by rw [getD_get hlt]; exact List.getElem_mem _
        have hsl := HN.out _ hmem
        obtain ⟨hx1, hx2, hx3⟩ := HX.out
        rw [← Wk.half_zero hlt] at hx2
        obtain ⟨gt, cpt, _, hvt, _, _⟩ := own_lies hx1 (by omega)
        injection hvt with hvt _ hcc
        subst hvt
        subst hcc
        obtain ⟨nv, e0, e1, no, nf⟩ := hx2.at k (by rw [Wk.half_len]; exact hlt)
        rw [Wk.half_at hlt, Wk.mix_zero] at no nf
        have e0' : xs[k * 2]? = some (by8 (l.getD k (0, [])).1) := by rw [e0, Wk.half_at hlt]
        have p0 := hx1.cells (g := gt) rfl _ _ e0'
        have p1 := hx1.cells (g := gt) rfl _ _ e1
        rw [add_none, Nat.zero_add] at p0 p1
        have E1 := Lib.hid e1
        have hls : gt < wr.heap.size := World.block_lt_of_cell? _ _ p0
        have ES := Lib.hid (fun j (hj : j < (l.getD k (0, [])).2.length) => Wk.half_succ (a := a) (b := b) (k := k) hj)
        have ESK := Lib.hid (fun j (hj : j < (l.getD k (0, [])).2.length) h => Wk.half_skip (a := a) (b := b) (k := k) hj h)
        have EF := Lib.hid (Wk.half_full (a := a) (b := b) hlt)
        have EA := Lib.hid (fun j => Wk.half_at (a := a) (b := b) (j := j) hlt)
        generalize l.getD k (0, []) = sg at *
        obtain ⟨sk, sn⟩ := sg
        simp only at no nf hsl ES EF EA ESK
        obtain ⟨Au, cu, rfl, _, _⟩ := ow_form no
        replace p0 : wr.cell? ⟨gt, k * 2, none⟩ = some (.int .u8 (sk.toNat : Int)) := p0
        have i1 : (0 : Int) ≤ (k : Int) := by omega
        have i2 : (k : Int) < (l.length : Int) := by omega
        have ka := (Kept.refl Nothing wr).alloc (.cells #[.int .u8 (sk.toNat : Int), .slice Au sn.length cu] 61)
        have HY : Hid ((wr.alloc (.cells #[.int .u8 (sk.toNat : Int), .slice Au sn.length cu] 61)).ownsRow w1.heap.size 61 2 (.slice (some ⟨gt, 0, none⟩) l.length c2) l.length xs ∧ Rws (wr.alloc (.cells #[.int .u8 (sk.toNat : Int), .slice Au sn.length cu] 61)) w1.heap.size xs (Wk.half a b k 0 l) ∧ Kept Nothing w1 (wr.alloc (.cells #[.int .u8 (sk.toNat : Int), .slice Au sn.length cu] 61))) := Lib.hid ⟨ow_kept hx1 ka (fun _ _ x => x), hx2.old ka, hx3.trans ka⟩
        have YS := Blk.fresh wr 61 #[.int .u8 (sk.toNat : Int), .slice Au sn.length cu]
        clear hx1 hx2 hx3 HX e0 e1 e0' no ka hmem
        go_upto_region 8 with fail
        generalize wr.alloc (.cells #[.int .u8 (sk.toNat : Int), .slice Au sn.length cu] 61) = wA at *
        generalize wr.heap.size = bs at *
        clear p0 p1
        have hsl2 : sn.length ≤ 9223372036854775807 := by omega
        go_loopw [26] (fun i wq => ∃ j : Nat, i = .int .i64 (j : Int) ∧ j ≤ sn.length ∧ Hid (wq.ownsRow w1.heap.size 61 2 (.slice (some ⟨gt, 0, none⟩) l.length c2) l.length xs ∧ Rws wq w1.heap.size xs (Wk.half a b k j l) ∧ Kept Nothing w1 wq ∧ Blk wq bs 61 #[.int .u8 (sk.toNat : Int), .slice Au sn.length cu])) (fun i _ => sn.length - (intOf i).toNat)
        case atStart => exact ⟨0, rfl, Nat.zero_le _, Lib.hid ⟨HY.out.1, HY.out.2.1, HY.out.2.2, YS⟩⟩
        case round =>
          clear HY YS
          obtain ⟨j, rfl, hj, HJ⟩ := hrel
          by_cases hlj : j < sn.length
          · obtain ⟨y1, y2, y3, y4⟩ := HJ.out
            obtain ⟨nv2, _, f1, no2, nf2⟩ := y2.at k (by rw [Wk.half_len]; exact hlt)
            have f1' := f1
            rw [E1.out] at f1'
            injection f1' with f1'
            subst f1'
            rw [EA.out j] at no2
            have hml : (Wk.mix (Wk.rep1 a b) j sn).length = sn.length := Wk.mix_len
            have c1 := y4.cell 1
            have HB := Lib.hid y4
            simp only at no2
            obtain ⟨g, cg, cur, hv, hge, hbg⟩ := own_lies no2 (by omega)
            injection hv with hv _ _
            subst hv
            have q0 := no2.cells (g := g) rfl j _ (ass_at (by omega))
            rw [add_none, Nat.zero_add, Wk.mix_at 0 hlj] at q0
            have qf := hbg.free j
            have j1 : (0 : Int) ≤ (j : Int) := by omega
            have j2 : (j : Int) < (sn.length : Int) := by omega
            have SN := Rws.setN (w := wr) (g := g) hb j y2 D2.out k (by rw [Wk.half_len]; exact hlt) f1 rfl
            rw [EA.out j] at SN
            have SX := Lib.hid SN
            have ES2 := ES.out j hlj
            have Y1 := Lib.hid y1
            have Y2 := Lib.hid y2
            have Y3 := Lib.hid y3
            have HBG := Lib.hid hbg
            have HGE := Lib.hid hge
            have Y4 : Hid (∀ u, Blk (wr.setCell ⟨g, j, none⟩ u) bs 61 #[.int .u8 (sk.toNat : Int), .slice (some ⟨g, 0, none⟩) sn.length cu]) := Lib.hid (fun u => y4.far (p := ⟨g, j, none⟩) (y4.apart hbg (by decide)) u)
            clear y1 y2 y3 y4 HJ f1 no2 nf2 SN hbg hge E1
            generalize hx : sn.getD j 0 = x at *
            by_cases hxa : x = a
            · subst hxa
              rw [show Wk.rep1 x b x = b from if_pos rfl] at ES2
              have ES3 := Lib.hid ES2
              clear ES2 ESK EF EA ES hx hml
              go_wp2
              go_roundw
              case rel => exact ⟨j + 1, by go_num, by omega, Lib.hid ⟨ow_kept Y1.out (Kept.own _ g j _) (ow_far Y1.out HBG.out (by decide)), by rw [ES3.out]; exact SX.out, Y3.out.setCell (p := ⟨g, j, none⟩) (fun h => by have := HGE.out; exact absurd h (Nat.not_lt.2 this)) _, Y4.out _⟩⟩
              case measure => simp [intOf]; omega
            · have hxi : ((x : Int) == (a : Int)) = false := by simp; omega
              have ES3 : Hid (Wk.half a b k (j + 1) l = Wk.half a b k j l) := Lib.hid (ESK.out j hlj (by show ¬ sn.getD j 0 = a; rw [hx]; exact hxa))
              clear ES2 ESK EF EA ES hx hml SX
              go_wp2
              go_roundw
              case rel => exact ⟨j + 1, by go_num, by omega, Lib.hid ⟨Y1.out, by rw [ES3.out]; exact Y2.out, Y3.out, HB.out⟩⟩
              case measure => simp [intOf]; omega
          · obtain rfl : j = sn.length := by omega
            have HJ2 := Lib.hid HJ.out
            clear HJ
            go_wp2
            go_roundw
            case rel =>
              exact ⟨k + 1, by go_num, by omega, Lib.hid ⟨HJ2.out.1, by rw [← EF.out]; exact HJ2.out.2.1, HJ2.out.2.2.1⟩⟩
            case measure => simp [intOf]; omega
      · obtain rfl : k = l.length := by omega
        obtain ⟨x1, x2, x3⟩ := HX.out
        rw [Wk.mix_all] at x2
        have X1 := Lib.hid x1
        have X2 := Lib.hid x2
        have X3 := Lib.hid x3
        clear x1 x2 x3 HX
        go_wp2
        go_ret
        exact ⟨_, rfl, ⟨xs, by rw [List.length_map]; exact own_weakA X1.out hbase, X2.out.weak hbase⟩, K1.out.trans X3.out⟩
end Go.Proofs.YtdeblmolgmadiaaDoor
namespace Go.Proofs.YtdeblmolgmadiaaDoor
open Go.RowKit
attribute [local go_sem] Oper.semAt_some

theorem Rrs.lt {w : World} {B : Nat} : ∀ {xs : List Value} {l : List Seg}, Rrs w B xs l → ∀ u ∈ xs, ∀ g, u.ownBlock = some g → g < w.heap.size
  | [], [], _ => fun u hu => by cases hu
  | a :: v :: xs, _ :: _, ⟨h1, h2, h3, h4⟩ => fun u hu g hg => by
    subst h1
    rcases List.mem_cons.1 hu with rfl | hu
    · simp [ki, Value.ownBlock] at hg
    · rcases List.mem_cons.1 hu with rfl | hu
      · exact (ow_ge h2 hg).2
      · exact Rrs.lt h4 u hu g hg
  | [], _ :: _, h => h.elim
  | [_], _, h => by unfold Rrs at h; exact h.elim
  | _ :: _ :: _, [], h => by unfold Rrs at h; exact h.elim
theorem Dist.push2 {w : World} {B : Nat} {xs : List Value} {l : List Seg} (h : Dist xs) (hr : Rrs w B xs l) {k v : Value} (hk : k.ownBlock = none) (hv : ∀ g, v.ownBlock = some g → w.heap.size ≤ g) : Dist (xs ++ [k, v]) := by
  refine List.pairwise_append.2 ⟨h, ?_, ?_⟩
  · refine List.pairwise_cons.2 ⟨fun b _ g hg => ?_, List.pairwise_singleton _ _⟩
    rw [hk] at hg; cases hg
  · intro u hu b hb g hg e
    have hlt := hr.lt u hu g hg
    rcases List.mem_cons.1 hb with rfl | hb
    · rw [hk] at e; cases e
    · obtain rfl := List.mem_singleton.1 hb
      have := hv g e
      omega
theorem Rrs.apart {w w' : World} {B : Nat} {S : Nat → Prop} (k : Kept S w w') : ∀ {xs : List Value} {l : List Seg}, Rrs w B xs l → (∀ u ∈ xs, ∀ g, u.ownBlock = some g → ¬ S g) → Rrs w' B xs l
  | [], [], _, _ => trivial
  | _ :: v :: _, _ :: _, ⟨h1, h2, h3, h4⟩, hs => ⟨h1, ow_kept h2 k (fun g hg => hs v (by simp) g hg), h3, Rrs.apart k h4 (fun u hu => hs u (by simp [hu]))⟩
  | [], _ :: _, h, _ => h.elim
  | [_], _, h, _ => by unfold Rrs at h; exact h.elim
  | _ :: _ :: _, [], h, _ => by unfold Rrs at h; exact h.elim
theorem Rrs.own {w : World} {B : Nat} : ∀ {xs : List Value} {l : List Seg} (_ : Rrs w B xs l) (k : Nat) (_ : k < l.length), ∃ v, xs[k * 2]? = some (ki (l.getD k (0, [])).1) ∧ xs[k * 2 + 1]? = some v ∧ w.ownsRow B 24 1 v (l.getD k (0, [])).2.length (ass (l.getD k (0, [])).2) ∧ ∀ n ∈ (l.getD k (0, [])).2, n < 4294967296
  | _ :: v :: _, c :: _, ⟨h1, h2, h3, _⟩, 0, _ => ⟨v, by rw [h1]; rfl, rfl, h2, h3⟩
  | a :: v :: xs, c :: l, ⟨_, _, _, h4⟩, k + 1, hk => by
    obtain ⟨u, e0, e1, e2, e3⟩ := Rrs.own h4 k (by simpa using hk)
    exact ⟨u, by rw [Nat.add_mul]; exact e0, by rw [Nat.add_mul]; exact e1, e2, e3⟩
  | [], [], _, k, hk => absurd hk (Nat.not_lt_zero _)
  | [], _ :: _, h, _, _ => h.elim
  | [_], _, h, _, _ => by unfold Rrs at h; exact h.elim
  | _ :: _ :: _, [], h, _, _ => by unfold Rrs at h; exact h.elim
theorem Rrs.weak {w : World} {B B' : Nat} (hb : B' ≤ B) : ∀ {xs : List Value} {l : List Seg}, Rrs w B xs l → Rrs w B' xs l
  | [], [], _ => trivial
  | _ :: _ :: _, _ :: _, ⟨h1, h2, h3, h4⟩ => ⟨h1, own_weakA h2 hb, h3, Rrs.weak hb h4⟩
  | [], _ :: _, h => h.elim
  | [_], _, h => by unfold Rrs at h; exact h.elim
  | _ :: _ :: _, [], h => by unfold Rrs at h; exact h.elim
theorem Rrs.setN {w : World} {B g m : Nat} (hm : m < 4294967296) (j : Nat) {v : Value} : ∀ {xs : List Value} {l : List Seg} (_ : Rrs w B xs l) (_ : Dist xs) (k : Nat) (_ : k < l.length) (_ : xs[k * 2 + 1]? = some v) (_ : v.ownBlock = some g),
    Rrs (w.setCell ⟨g, j, none⟩ (.int .u32 (m : Int))) B xs (l.set k ((l.getD k (0, [])).1, (l.getD k (0, [])).2.set j m))
  | _ :: u :: xs, c :: l, ⟨h1, h2, h3, h4⟩, hd, 0, _, hv, hg => by
    obtain rfl : u = v := by simpa using hv
    have hd2 := List.pairwise_cons.1 (List.pairwise_cons.1 hd).2
    refine ⟨h1, ?_, fun x hx => ?_, h4.apart (Kept.own w g j _) (fun x hx g' hg' (e : g' = g) => ?_)⟩
    · show World.ownsRow _ B _ 1 u (c.2.set j m).length (ass (c.2.set j m))
      rw [List.length_set, ass_set]
      exact own_setN h2 hg j
    · rcases List.mem_or_eq_of_mem_set hx with hx | rfl
      · exact h3 x hx
      · exact hm
    · subst e
      exact hd2.1 x hx g' hg hg'
  | a :: u :: xs, c :: l, ⟨h1, h2, h3, h4⟩, hd, k + 1, hk, hv, hg => by
    have hd2 := List.pairwise_cons.1 (List.pairwise_cons.1 hd).2
    have hv' : xs[k * 2 + 1]? = some v := by rw [Nat.add_mul] at hv; exact hv
    refine ⟨h1, ow_kept h2 (Kept.own w g j _) (fun g' hg' (e : g' = g) => ?_), h3, Rrs.setN hm j h4 hd2.2 k (by simpa using hk) hv' hg⟩
    subst e
    exact hd2.1 v (List.mem_of_getElem? hv') g' hg' hg
  | [], [], _, _, k, hk, _, _ => absurd hk (Nat.not_lt_zero _)
  | [], _ :: _, h, _, _, _, _, _ => h.elim
  | [_], _, h, _, _, _, _, _ => by unfold Rrs at h; exact h.elim
  | _ :: _ :: _, [], h, _, _, _, _, _ => by unfold Rrs at h; exact h.elim

set_option maxRecDepth 20000 in
set_option maxHeartbeats 2000000 in
theorem rs_copied (v : Value) (l : List Seg) (w : World) (h : Rfs w v l) (hl : l.length ≤ 1000000) (hn : ∀ s ∈ l, s.2.length ≤ 1000000) :
    Calls Tryd.prog 47 #[v] w fun e w' => ∃ v' xs, e = .returned v' ∧ w'.ownsRow w.heap.size 65 2 v' l.length xs ∧ Rrs w' w.heap.size xs l ∧ Dist xs ∧ Kept Nothing w w' := by
  obtain ⟨A, c, rfl, hc, hm⟩ := h.form
  obtain ⟨i0, hi, hz0, hz1, hz2⟩ := info_parts rs_info
  obtain ⟨j0, hj, hy0, hy1, hy2⟩ := info_parts u32_info
  have HV := Lib.hid h
  have HN := Lib.hid hn
  clear h hn
  go_enter Tryd.func47, Tryd.ntmps47
  go_wp2
  go_loopw [3, 4] (fun q i wr => ∃ k : Nat, i = .int .i64 (k : Int) ∧ k ≤ l.length ∧ Hid (∃ xs, wr.ownsRow w.heap.size 65 2 q k xs ∧ Rrs wr w.heap.size xs (l.take k) ∧ Dist xs) ∧ Hid (Kept Nothing w wr)) (fun _ i _ => l.length - (intOf i).toNat)
  case atStart => exact ⟨0, rfl, Nat.zero_le _, Lib.hid ⟨[], World.ownsRow_nil _ _ _ _, trivial, List.Pairwise.nil⟩, Lib.hid (Kept.refl _ _)⟩
  case round =>
    obtain ⟨k, rfl, hk, HP, KK⟩ := hrel
    by_cases hlt : k < l.length
    · obtain ⟨b, o, Au, cu, rfl, p0w, p1w, hpw⟩ := HV.out.at2 hlt
      have p0 := KK.out.cell_some p0w (fun x => x)
      have p1 := KK.out.cell_some p1w (fun x => x)
      have PW : Hid (∀ u, Kept Nothing w u → u.cell? ⟨b, o + k * 2, none⟩ = some (.int .i64 ((l.getD k (0, [])).1.toNat : Int))) := Lib.hid (fun u hu => hu.cell_some p0w (fun x => x))
      have i1 : (0 : Int) ≤ (k : Int) := by omega
      have i2 : (k : Int) < (l.length : Int) := by omega
      have ET : Hid (l.take (k + 1) = l.take k ++ [l.getD k (0, [])]) := Lib.hid (by rw [List.take_succ_eq_append_getElem hlt, getD_get hlt])
      have hsl := HN.out (l.getD k (0, [])) (by rw [getD_get hlt]; exact List.getElem_mem _)
      have HAS := Lib.hid hpw
      obtain ⟨xs, oq, hr, hdi⟩ := HP.out
      have OQ := Lib.hid oq
      have HR := Lib.hid hr
      have HDI := Lib.hid hdi
      obtain ⟨Aq, cq, rfl, _, _⟩ := ow_form oq
      clear p0w p1w hpw oq hr hdi HP
      generalize hsg : l.getD k (0, []) = sg at *
      obtain ⟨sk, sn⟩ := sg
      clear hsg
      simp only at p0 p1 hsl
      replace HAS : Hid (As w (.slice Au sn.length cu) sn) := HAS
      replace PW : Hid (∀ u, Kept Nothing w u → u.cell? ⟨b, o + k * 2, none⟩ = some (.int .i64 (sk.toNat : Int))) := PW
      have HSRC := Lib.hid (HAS.out.old KK.out).src
      have HF := Lib.hid HAS.out.1
      have HKZ := Lib.hid KK.out.size
      have HL5 : Hid (k + 1 ≤ maxLen ∧ (k + 1) * 32 ≤ 140737488355328) := Lib.hid (by unfold maxLen; omega)
      have HL6 : Hid (0 + sn.length ≤ maxLen ∧ (0 + sn.length) * 4 ≤ 140737488355328) := Lib.hid (by unfold maxLen; omega)
      go_wp2_with (first
        | (at_builtin; refine wpList_app _ rfl _ _ 29 rfl w.heap.size 65 i0 _ 2 32 Tryd.underlying29 hi hz0 hz1 hz2 rfl (by decide) (.slice Aq k cq) k xs rfl (ow_kept OQ.out (K7.out.alloc _) (fun _ _ x => x)) (some ⟨w7.heap.size, 0, none⟩) 1 1 [.int .i64 (sk.toNat : Int), .slice A7 sn.length c7] rfl (src_new w7 _ #[.int .i64 (sk.toNat : Int), .slice A7 sn.length c7] 2 1 rfl (by simp [Value.oneCell'])) HL5.out.1 HL5.out.2 (Nat.le_trans HKZ.out (K7.out.alloc (.cells #[.int .i64 (sk.toNat : Int), .slice A7 sn.length c7] 65)).size) ?_; intro v8 w8 ho8 hg8 _)
        | (at_builtin; refine wpList_app _ rfl _ _ 63 rfl wr.heap.size 24 j0 _ 1 4 Tryd.underlying63 hj hy0 hy1 hy2 rfl (by decide) (.slice none 0 0) 0 [] rfl (World.ownsRow_nil _ _ _ _) Au sn.length cu (ass sn) rfl HSRC.out HL6.out.1 HL6.out.2 (Nat.le_refl _) ?_; intro v7 w7 ho7 hg7 _; (rw [Nat.zero_add, List.nil_append] at ho7); (obtain ⟨A7, c7, rfl, _, _⟩ := ow_form ho7); (have O7 := Lib.hid ho7); (have K7 := Lib.hid ((Kept.refl Nothing wr).grown hg7 (fun _ hk _ => by cases hk))); (have q0 := PW.out _ (KK.out.trans K7.out)); clear ho7 hg7))
      go_roundw
      case rel =>
        have k1 := K7.out.alloc (.cells #[.int .i64 (sk.toNat : Int), .slice A7 sn.length c7] 65)
        have oq2 := ow_kept OQ.out k1 (fun _ _ x => x)
        refine ⟨k + 1, by go_num, by omega, Lib.hid ⟨xs ++ [ki sk, .slice A7 sn.length c7], ho8, ?_, HDI.out.push2 HR.out rfl (fun g hg => (ow_ge O7.out hg).1)⟩, Lib.hid ((KK.out.trans k1).own_grown oq2 (Nat.le_refl _) hg8)⟩
        rw [ET.out]
        exact Rrs.push (c := (sk, sn)) oq2 (HR.out.old k1) (ow_kept (own_weakA O7.out HKZ.out) ((Kept.refl Nothing w7).alloc _) (fun _ _ x => x)) HF.out hg8
      case measure => simp [intOf]; omega
    · obtain rfl : k = l.length := by omega
      rw [List.take_of_length_le (Nat.le_refl _)] at HP
      go_wp2
      go_ret
      obtain ⟨xs, h1, h2, h3⟩ := HP.out
      exact ⟨_, xs, rfl, h1, h2, h3, KK.out⟩
end Go.Proofs.YtdeblmolgmadiaaDoor
namespace Go.Proofs.YtdeblmolgmadiaaDoor
open Go.RowKit
attribute [local go_sem] Oper.semAt_some

set_option maxRecDepth 20000 in
set_option maxHeartbeats 2000000 in
theorem rs_strip (v : Value) (l : List Seg) (w : World) (h : Rfs w v l) (hl : l.length ≤ 1000000) (hn : ∀ s ∈ l, s.2.length ≤ 1000000) :
    Calls Tryd.prog 29 #[v] w fun e w' => ∃ v', e = .returned v' ∧ Rfs w' v' (Wk.strip l) ∧ Kept Nothing w w' := by
  obtain ⟨A, c, rfl, hc, hm⟩ := h.form
  obtain ⟨i0, hi, hz0, hz1, hz2⟩ := info_parts rs_info
  have HM := Lib.hid (rf_may _ l w h (by omega))
  have HC := Lib.hid (fun u (k : Kept Nothing w u) => rs_copied _ l u (h.old k) hl hn)
  have HE : Hid (Wk.strip l = if Pt.may l then plains l else []) := Lib.hid rfl
  clear h hn
  cases hmay : Pt.may l with
  | false =>
    rw [hmay, if_neg (by decide)] at HE
    rw [hmay] at HM
    clear hmay HC
    go_enter Tryd.func29, Tryd.ntmps29
    go_wp2_with (go_at_call 32; refine (HM.out).mono ?_; rintro e w1 ⟨rfl, k1⟩)
    go_ret
    exact ⟨_, rfl, by rw [HE.out]; exact (Rown.nil _ 0).rfs, k1⟩
  | true =>
    have HSG := Lib.hid (fun s (hs : s ∈ l) => Pt.may_seg4 hmay hs)
    rw [hmay, if_pos rfl] at HE
    rw [hmay] at HM
    clear hmay
    go_enter Tryd.func29, Tryd.ntmps29
    go_wp2_with (first
      | (go_at_call 47; refine (HC.out _ k1).mono ?_; rintro e w2 ⟨v2, xs, rfl, o2, r2, -, k2⟩)
      | (go_at_call 32; refine (HM.out).mono ?_; rintro e w1 ⟨rfl, k1⟩))
    have O2 := Lib.hid o2
    have R2 := Lib.hid r2
    have K12 := Lib.hid (k1.trans k2)
    have HWZ := Lib.hid k1.size
    obtain ⟨A2, c2, rfl, _, _⟩ := ow_form o2
    clear o2 r2 k1 k2 HC HM
    go_loopw [3, 5] (fun q i wr => ∃ k m : Nat, i = .int .i64 (k : Int) ∧ k ≤ l.length ∧ m ≤ k ∧ Hid (∃ ys, wr.ownsRow w.heap.size 65 2 q m ys ∧ Rrs wr w.heap.size ys (plains (l.take k)) ∧ m = (plains (l.take k)).length) ∧ Hid (wr.ownsRow w1.heap.size 65 2 (.slice A2 l.length c2) l.length xs ∧ Rrs wr w1.heap.size xs l) ∧ Hid (∀ g, q.ownBlock = some g → (Value.slice A2 l.length c2).ownBlock ≠ some g) ∧ Hid (Kept Nothing w wr)) (fun _ i _ => l.length - (intOf i).toNat)
    case atStart => exact ⟨0, 0, rfl, Nat.zero_le _, Nat.le_refl _, Lib.hid ⟨[], World.ownsRow_nil _ _ _ _, by rw [List.take_zero]; trivial, by rw [List.take_zero]; rfl⟩, Lib.hid ⟨O2.out, R2.out⟩, Lib.hid (fun g hg => by simp [Value.ownBlock] at hg), K12⟩
    case round =>
      obtain ⟨k, m, rfl, hk, hmk, HY, HO, HD, KK⟩ := hrel
      clear O2 R2
      by_cases hlt : k < l.length
      · obtain ⟨ys, oq, hry, hym⟩ := HY.out
        obtain ⟨o2, r2⟩ := HO.out
        obtain ⟨nv, e0, e1, no, nf⟩ := r2.own k hlt
        obtain ⟨g, cg, cur, hv, hge, hbg⟩ := own_lies o2 (by omega)
        injection hv with hv1 _ hv3
        subst hv1 hv3
        have p0 := o2.cells (g := g) rfl _ _ e0
        have p1 := o2.cells (g := g) rfl _ _ e1
        rw [add_none, Nat.zero_add] at p0 p1
        obtain ⟨a1, a4, -, -⟩ := HSG.out (l.getD k (0, [])) (by rw [getD_get hlt]; exact List.getElem_mem _)
        have i1 : (0 : Int) ≤ (k : Int) := by omega
        have i2 : (k : Int) < (l.length : Int) := by omega
        have ET : Hid (plains (l.take (k + 1)) = plains (l.take k) ++ if Wk.confed (l.getD k (0, [])).1 then [] else [l.getD k (0, [])]) := Lib.hid (by rw [List.take_succ_eq_append_getElem hlt, plains_snoc, getD_get hlt])
        rw [Wk.confed_le a4] at ET
        obtain ⟨Aq, cq, rfl, _, _⟩ := ow_form oq
        obtain ⟨An, cn, rfl, _, _⟩ := ow_form no
        have OQ := Lib.hid oq
        have HRY := Lib.hid hry
        have HYM := Lib.hid hym
        have NO := Lib.hid no
        have NF := Lib.hid nf
        have HBG := Lib.hid hbg
        have hgl := hbg.lt
        clear oq hry hym o2 r2 e0 e1 no nf hbg hge HY
        generalize hsg : l.getD k (0, []) = sg at *
        obtain ⟨sk, sn⟩ := sg
        clear hsg
        replace p0 : wr.cell? ⟨g, k * 2, none⟩ = some (.int .i64 (sk.toNat : Int)) := p0
        replace p1 : wr.cell? ⟨g, k * 2 + 1, none⟩ = some (.slice An sn.length cn) := p1
        replace NO : Hid (wr.ownsRow w1.heap.size 24 1 (.slice An sn.length cn) sn.length (ass sn)) := NO
        replace ET : Hid (plains (l.take (k + 1)) = plains (l.take k) ++ if decide (3 ≤ sk.toNat) = true then [] else [(sk, sn)]) := ET
        simp only at a1 a4
        by_cases c3 : 3 ≤ sk.toNat
        · have n1 : ¬ (sk.toNat : Int) ≤ 2 := by omega
          have EN : Hid (plains (l.take (k + 1)) = plains (l.take k)) := Lib.hid (by rw [ET.out, if_pos (decide_eq_true c3), List.append_nil])
          clear ET c3
          go_wp2
          go_roundw
          case rel => exact ⟨k + 1, m, by go_num, by omega, by omega, Lib.hid ⟨ys, OQ.out, by rw [EN.out]; exact HRY.out, by rw [EN.out]; exact HYM.out⟩, HO, HD, KK⟩
          case measure => simp [intOf]; omega
        · have n1 : (sk.toNat : Int) ≤ 2 := by omega
          have EN : Hid (plains (l.take (k + 1)) = plains (l.take k) ++ [(sk, sn)]) := Lib.hid (by rw [ET.out, if_neg (by simpa using c3)])
          have HL5 : Hid (m + 1 ≤ maxLen ∧ (m + 1) * 32 ≤ 140737488355328) := Lib.hid (by unfold maxLen; omega)
          have HKZ := Lib.hid KK.out.size
          clear ET c3
          go_wp2_with (at_builtin; refine wpList_app _ rfl _ _ 29 rfl w.heap.size 65 i0 _ 2 32 Tryd.underlying29 hi hz0 hz1 hz2 rfl (by decide) (.slice Aq m cq) m ys rfl (ow_kept OQ.out ((Kept.refl Nothing wr).alloc _) (fun _ _ x => x)) (some ⟨wr.heap.size, 0, none⟩) 1 1 [.int .i64 (sk.toNat : Int), .slice An sn.length cn] rfl (src_new wr _ #[.int .i64 (sk.toNat : Int), .slice An sn.length cn] 2 1 rfl (by simp [Value.oneCell'])) HL5.out.1 HL5.out.2 (Nat.le_trans HKZ.out ((Kept.refl Nothing wr).alloc (.cells #[.int .i64 (sk.toNat : Int), .slice An sn.length cn] 65)).size) ?_; intro v8 w8 ho8 hg8 hat8)
          go_roundw
          case rel =>
            have k1 := (Kept.refl Nothing wr).alloc (.cells #[.int .i64 (sk.toNat : Int), .slice An sn.length cn] 65)
            have oq2 := ow_kept OQ.out k1 (fun _ _ x => x)
            have kg : Kept (fun k => (Value.slice Aq m cq).ownBlock = some k) (wr.alloc (.cells #[.int .i64 (sk.toNat : Int), .slice An sn.length cn] 65)) w8 := (Kept.refl _ _).grown hg8 (fun _ hk _ => hk)
            have hgn : ∀ g', (Value.slice (some ⟨g, 0, none⟩) l.length c2).ownBlock = some g' → ¬ (Value.slice Aq m cq).ownBlock = some g' := fun g' h1 h2 => HD.out g' h2 h1
            have kU : ∀ g' cs, (Value.slice Aq m cq).ownBlock = some g' → (wr.alloc (.cells #[.int .i64 (sk.toNat : Int), .slice An sn.length cn] 65)).heap[g']? ≠ some (.cells cs 24 (0, 0)) := fun g' cs x e => by
              obtain ⟨cs', hh⟩ := ow_lt oq2 x
              rw [hh] at e
              injection e with e
              injection e with _ e2
              exact absurd e2 (by decide)
            refine ⟨k + 1, m + 1, by go_num, by omega, by omega, Lib.hid ⟨ys ++ [ki sk, .slice An sn.length cn], ho8, ?_, by rw [EN.out, List.length_append, HYM.out]; rfl⟩, Lib.hid ⟨ow_kept (ow_kept HO.out.1 k1 (fun _ _ x => x)) kg hgn, (HO.out.2.old k1).kept kg kU⟩, Lib.hid (fun g' h1 h2 => ?_), Lib.hid ((KK.out.trans k1).own_grown oq2 (Nat.le_refl _) hg8)⟩
            · rw [EN.out]
              exact Rrs.push (c := (sk, sn)) oq2 (HRY.out.old k1) (ow_kept (own_weakA NO.out HWZ.out) k1 (fun _ _ x => x)) NF.out hg8
            · rcases hat8 with e | e
              · rw [e] at h1; exact HD.out g' h1 h2
              · rw [e] at h1
                injection h1 with h1
                have : g' = g := by simpa [Value.ownBlock] using h2.symm
                subst this
                simp only [World.size_alloc] at h1
                omega
          case measure => simp [intOf]; omega
      · obtain rfl : k = l.length := by omega
        rw [List.take_of_length_le (Nat.le_refl _)] at HY
        have HF : Hid (Rfs wr _ (Wk.strip l)) := Lib.hid (by
          obtain ⟨ys, h1, h2, h3⟩ := HY.out
          rw [HE.out]
          subst h3
          exact Rown.rfs ⟨ys, h1, h2⟩)
        clear HY
        go_wp2
        go_ret
        exact ⟨_, rfl, HF.out, KK.out⟩
end Go.Proofs.YtdeblmolgmadiaaDoor
namespace Go.Proofs.YtdeblmolgmadiaaDoor
open Go.RowKit
attribute [local go_sem] Oper.semAt_some

theorem Rrs.join {w : World} {B : Nat} {ys : List Value} {m : List Seg} (hm : Rrs w B ys m) : ∀ {xs : List Value} {l : List Seg}, Rrs w B xs l → Rrs w B (xs ++ ys) (l ++ m)
  | [], [], _ => hm
  | _ :: _ :: _, _ :: _, ⟨h1, h2, h3, h4⟩ => ⟨h1, h2, h3, Rrs.join hm h4⟩
  | [], _ :: _, h => h.elim
  | [_], _, h => by unfold Rrs at h; exact h.elim
  | _ :: _ :: _, [], h => by unfold Rrs at h; exact h.elim
theorem Rrs.one {w : World} {B : Nat} : ∀ {xs : List Value} {l : List Seg}, Rrs w B xs l → ∀ u ∈ xs, u.oneCell' = true
  | [], [], _ => fun u hu => by cases hu
  | a :: v :: xs, c :: l, ⟨h1, h2, _, h4⟩ => fun u hu => by
    rcases List.mem_cons.1 hu with rfl | hu
    · rw [h1]; rfl
    · rcases List.mem_cons.1 hu with rfl | hu
      · obtain ⟨A, cc, rfl, _, _⟩ := ow_form h2; rfl
      · exact Rrs.one h4 u hu
  | [], _ :: _, h => h.elim
  | [_], _, h => by unfold Rrs at h; exact h.elim
  | _ :: _ :: _, [], h => by unfold Rrs at h; exact h.elim
theorem Rrs.inv {w : World} {B : Nat} {sk : UInt8} {sn : List Nat} {r : List Seg} : ∀ {xs : List Value}, Rrs w B xs ((sk, sn) :: r) → ∃ nv ys, xs = .int .i64 (sk.toNat : Int) :: nv :: ys ∧ w.ownsRow B 24 1 nv sn.length (ass sn) ∧ (∀ n ∈ sn, n < 4294967296) ∧ Rrs w B ys r
  | _ :: nv :: ys, ⟨h1, h2, h3, h4⟩ => ⟨nv, ys, by rw [h1]; rfl, h2, h3, h4⟩
  | [], h => h.elim
  | [_], h => by unfold Rrs at h; exact h.elim
theorem own_to {w : World} {base n m size : Nat} {e : TypeId} {v : Value} {xs ys : List Value} (h : w.ownsRow base e size v n xs) (e1 : n = m) (e2 : xs = ys) : w.ownsRow base e size v m ys := e1 ▸ e2 ▸ h
theorem own_oneU (w : World) (x : Value) (B : Nat) (hB : B ≤ w.heap.size) : (w.alloc (.cells #[x] 24)).ownsRow B 24 1 (.slice (some ⟨w.heap.size, 0, none⟩) 1 1) 1 [x] :=
  ⟨rfl, .inr ⟨w.heap.size, 1, #[x], rfl, hB, heap_alloc_new w _, Nat.le_refl _, by simp [maxLen], rfl, rfl⟩⟩

set_option maxRecDepth 20000 in
set_option maxHeartbeats 10000000 in
theorem rs_prepend (v : Value) (l : List Seg) (k : UInt8) (n : Nat) (hn32 : n < 4294967296) (w : World) (h : Rfs w v l) (hl : l.length ≤ 1000000) (hn : ∀ s ∈ l, s.2.length ≤ 1000000) :
    Calls Tryd.prog 26 #[v, .int .i64 (k.toNat : Int), .int .u32 (n : Int)] w fun e w' => ∃ v', e = .returned (.tuple #[v', .int .i64 ((Wk.prepend l k n).2 : Int)]) ∧ Rfs w' v' (Wk.prepend l k n).1 ∧ Kept Nothing w w' := by
  obtain ⟨A, c, rfl, hc, hm⟩ := h.form
  have HM := Lib.hid (rf_may _ l w h (by omega))
  have HC := Lib.hid (fun w1 (k1 : Kept Nothing w w1) => rs_copied _ l w1 (h.old k1) hl hn)
  have HE : Hid (Wk.prepend l k n = if !Pt.may l || (decide (k.toNat ≠ 2) && decide (k.toNat ≠ 3)) then ([], 1) else if Wk.room l k.toNat then (Wk.ahead l n, 0) else if l.length = 32 then ([], 7) else ((k, [n]) :: l, 0)) := Lib.hid rfl
  obtain ⟨i0, hi, hz0, hz1, hz2⟩ := info_parts rs_info
  obtain ⟨j0, hj, hy0, hy1, hy2⟩ := info_parts u32_info
  clear h hn
  cases hmay : Pt.may l with
  | false =>
    rw [hmay] at HM HE
    clear hmay HC
    go_enter Tryd.func26, Tryd.ntmps26
    go_wp2_with (go_at_call 32; refine (HM.out).mono ?_; rintro e w1 ⟨rfl, k1⟩)
    go_ret2
    exact ⟨_, by rw [HE.out]; rfl, by rw [HE.out]; exact (Rown.nil _ 0).rfs, k1⟩
  | true =>
    have h32 := (Pt.may_len hmay).1
    have HSEG := Lib.hid (fun s (hs : s ∈ l) => Pt.may_seg4 hmay hs)
    rw [hmay] at HM HE
    clear hmay
    by_cases hk23 : k.toNat ≠ 2 ∧ k.toNat ≠ 3
    · have m2 : ¬ (k.toNat : Int) = 2 := by omega
      have m3 : ¬ (k.toNat : Int) = 3 := by omega
      have n2 : ((k.toNat : Int) != 2) = true := bne_iff_ne.2 m2
      have n3 : ((k.toNat : Int) != 3) = true := bne_iff_ne.2 m3
      have HE2 : Hid (Wk.prepend l k n = ([], 1)) := Lib.hid (by rw [HE.out]; simp [hk23.1, hk23.2])
      generalize k.toNat = kn at *
      clear hk23 HC
      go_enter Tryd.func26, Tryd.ntmps26
      go_wp2_with (go_at_call 32; refine (HM.out).mono ?_; rintro e w1 ⟨rfl, k1⟩)
      go_ret2
      exact ⟨_, by rw [HE2.out]; rfl, by rw [HE2.out]; exact (Rown.nil _ 0).rfs, k1⟩
    · have HE2 : Hid (Wk.prepend l k n = if Wk.room l k.toNat then (Wk.ahead l n, 0) else if l.length = 32 then ([], 7) else ((k, [n]) :: l, 0)) := Lib.hid (by
        rw [HE.out, if_neg]
        simp
        omega)
      clear HE
      have HKK : Hid (k.toNat = 2 ∨ k.toNat = 3) := Lib.hid (by omega)
      clear hk23
      cases hroom : Wk.room l k.toNat with
      | true =>
        rw [hroom] at HE2
        cases l with
        | nil => simp [Wk.room] at hroom
        | cons s r =>
          obtain ⟨sk, sn⟩ := s
          have hrm : sk.toNat = k.toNat ∧ sn.length < 255 := by simpa [Wk.room] using hroom
          clear hroom
          obtain ⟨hrk, hr5⟩ := hrm
          have hlt5 : (sn.length : Int) < 255 := by omega
          have HE3 : Hid (Wk.prepend ((sk, sn) :: r) k n = ((sk, n :: sn) :: r, 0)) := Lib.hid HE2.out
          have i2 : (0 : Int) < ((r.length + 1 : Nat) : Int) := by omega
          have HL6 : Hid (1 + sn.length ≤ maxLen ∧ (1 + sn.length) * 4 ≤ 140737488355328 ∧ 0 + 1 ≤ maxLen) := Lib.hid (by unfold maxLen; omega)
          have HSK := Lib.hid hrk
          clear HE2 HSEG
          rw [show ((sk, sn) :: r).length = r.length + 1 from rfl] at *
          obtain hk | hk : k.toNat = 2 ∨ k.toNat = 3 := HKK.out
          all_goals
            rw [← hrk] at hk
            rw [← hrk]
            have m2 : ((sk.toNat : Int) == (sk.toNat : Int)) = true := beq_self_eq_true _
            clear hrk
            generalize hkn : sk.toNat = kn at *
            have HKN := Lib.hid hkn
            subst hk
            clear hkn
            go_enter Tryd.func26, Tryd.ntmps26
            go_wp2_with (first
              | (at_builtin; refine wpList_app _ rfl _ _ 63 rfl w2.heap.size 24 j0 _ 1 4 Tryd.underlying63 hj hy0 hy1 hy2 rfl (by decide) (.slice A3 1 c3) 1 [.int .u32 (n : Int)] rfl O3.out An sn.length cn (ass sn) rfl HSN.out HL6.out.1 HL6.out.2.1 K3.out.size ?_; intro v4 w4 ho4 hg4 _; (have O4 := Lib.hid ho4); (have K4 := Lib.hid (K3.out.own_grown O3.out (Nat.le_refl _) hg4)); (have HB4 := Lib.hid (HBG.out.kept K4.out (fun x => x))); (have f4 := HB4.out.free 1); (have l4 := HB4.out.lt); (have c4 := HB4.out.cell 1); (rw [HCE.out] at c4); (obtain ⟨A4, c4', rfl, _, _⟩ := ow_form ho4); clear ho4 hg4)
              | (at_builtin; refine wpList_app _ rfl _ _ 63 rfl w2.heap.size 24 j0 _ 1 4 Tryd.underlying63 hj hy0 hy1 hy2 rfl (by decide) (.slice none 0 0) 0 [] rfl (World.ownsRow_nil _ _ _ _) (some ⟨w2.heap.size, 0, none⟩) 1 1 [.int .u32 (n : Int)] rfl (src_new w2 _ #[.int .u32 (n : Int)] 1 1 rfl (by simp [Value.oneCell'])) HL6.out.2.2 (by decide) (by simp) ?_; intro v3 w3 ho3 hg3 _; (rw [Nat.zero_add, List.nil_append] at ho3); (have O3 := Lib.hid ho3); (have K3 := Lib.hid (((Kept.refl Nothing w2).alloc (.cells #[.int .u32 (n : Int)] 24)).grown hg3 (fun _ hk _ => by cases hk))); (have HSN := Lib.hid ((As.of_own HNO.out HNF.out).old K3.out).src); (have q1 := (HBG.out.kept K3.out (fun x => x)).cell 1); (rw [HCE.out] at q1); (obtain ⟨A3, c3, rfl, _, _⟩ := ow_form ho3); clear ho3 hg3)
              | (go_at_call 47; refine (HC.out _ K1.out).mono ?_; rintro e w2 ⟨v2, xs2, rfl, o2, r2, -, k2⟩; (obtain ⟨nv, ys, rfl, no, nf, nr⟩ := r2.inv); (obtain ⟨g, cg, cur, rfl, hge, hbg⟩ := own_lies o2 (by simp)); (have p0 := o2.cells (g := g) rfl 0 _ rfl); (have p1 := o2.cells (g := g) rfl 1 nv rfl); (rw [add_none, Nat.zero_add] at p0 p1); (rw [HKN.out] at p0); (obtain ⟨An, cn, rfl, _, _⟩ := ow_form no); (have HCE : Hid (cur[1]? = some (.slice An sn.length cn)) := Lib.hid (by rw [← hbg.cell 1]; exact p1)); (have HBG := Lib.hid hbg); (have HNO := Lib.hid no); (have HNF := Lib.hid nf); (have HNR := Lib.hid nr); (have O2 := Lib.hid o2); (have K2 := Lib.hid k2); (have HGE := Lib.hid hge); clear o2 r2 no nf nr hbg k2 hge)
              | (go_at_call 32; refine (HM.out).mono ?_; rintro e w1 ⟨rfl, k1⟩; (have K1 := Lib.hid k1); clear k1))
            go_ret2
            refine ⟨_, by rw [HE3.out]; rfl, ?_, ?_⟩
            · rw [HE3.out]
              refine Rown.rfs (B := w1.heap.size) ⟨ki sk :: .slice A4 (1 + sn.length) c4' :: ys, own_to (own_set1 (x := .slice An sn.length cn) (ow_kept O2.out K4.out (fun _ _ x => x)) rfl) rfl (by unfold ki; rw [HKN.out]), rfl, ?_, (fun m hm => ?_), ?_⟩
              · refine own_weakA (own_to (ow_kept O4.out (Kept.own w4 g 1 _) (ow_far O4.out HB4.out (by decide))) (by simp; omega) rfl) K2.out.size
              · rcases List.mem_cons.1 hm with rfl | hm
                · exact hn32
                · exact HNF.out m hm
              · refine (HNR.out.old K4.out).kept (Kept.own w4 g 1 _) (fun g' cs (e : g' = g) x => ?_)
                subst e
                have := HB4.out
                unfold Blk at this
                rw [this] at x
                injection x with x
                injection x with _ x2
                exact absurd x2 (by decide)
            · exact (K1.out.trans (K2.out.trans K4.out)).setCell (p := ⟨g, 1, none⟩) (fun h => by have := HGE.out; have := K1.out.size; exact absurd h (by simp; omega)) _
      | false =>
        rw [hroom, if_neg (by decide)] at HE2
        have HL6 : Hid (0 + 1 ≤ maxLen ∧ 1 + l.length ≤ maxLen ∧ (1 + l.length) * 32 ≤ 140737488355328) := Lib.hid (by unfold maxLen; omega)
        by_cases h0 : l.length = 0
        · have HE3 : Hid (Wk.prepend l k n = ((k, [n]) :: l, 0)) := Lib.hid (by rw [HE2.out, if_neg (by omega)])
          have i2 : ¬ (0 : Int) < (l.length : Int) := by omega
          have i3 : ¬ (32 : Int) ≤ (l.length : Int) := by omega
          clear HE2 HSEG hroom h0
          generalize hkn : k.toNat = kn at *
          have HKN := Lib.hid hkn
          clear hkn
          obtain rfl | rfl : kn = 2 ∨ kn = 3 := HKK.out
          · go_enter Tryd.func26, Tryd.ntmps26
            go_wp2_with (first
              | (at_builtin; refine wpList_app _ rfl _ _ 29 rfl w2.heap.size 65 i0 _ 2 32 Tryd.underlying29 hi hz0 hz1 hz2 rfl (by decide) (.slice A3 1 c3) 1 [.int .i64 2, .slice (some ⟨w2.heap.size, 0, none⟩) 1 1] rfl O3.out A2 l.length c2 xs2 rfl HSN.out HL6.out.2.1 HL6.out.2.2 K3.out.size ?_; intro v4 w4 ho4 hg4 _; (have O4 := Lib.hid ho4); (have HG4 := Lib.hid hg4); (obtain ⟨A4, c4, rfl, _, _⟩ := ow_form ho4); clear ho4 hg4)
              | (at_builtin; refine wpList_app _ rfl _ _ 29 rfl w2.heap.size 65 i0 _ 2 32 Tryd.underlying29 hi hz0 hz1 hz2 rfl (by decide) (.slice none 0 0) 0 [] rfl (World.ownsRow_nil _ _ _ _) (some ⟨w2.heap.size + 1, 0, none⟩) 1 1 [.int .i64 2, .slice (some ⟨w2.heap.size, 0, none⟩) 1 1] rfl (by have hsr := src_new (w2.alloc (.cells #[.int .u32 (n : Int)] 24)) 65 #[.int .i64 2, .slice (some ⟨w2.heap.size, 0, none⟩) 1 1] 2 1 rfl (by simp [Value.oneCell']); rw [World.size_alloc] at hsr; exact hsr) HL6.out.1 (by decide) (by simp; omega) ?_; intro v3 w3 ho3 hg3 _; (rw [Nat.zero_add, List.nil_append] at ho3); (have O3 := Lib.hid ho3); (have K3 := Lib.hid ((((Kept.refl Nothing w2).alloc (.cells #[.int .u32 (n : Int)] 24)).alloc (.cells #[.int .i64 2, .slice (some ⟨w2.heap.size, 0, none⟩) 1 1] 65)).grown hg3 (fun _ hk _ => by cases hk))); (have U3 := Lib.hid (ow_kept (own_oneU w2 (.int .u32 (n : Int)) _ (Nat.le_refl _)) (((Kept.refl Nothing _).alloc (.cells #[.int .i64 2, .slice (some ⟨w2.heap.size, 0, none⟩) 1 1] 65)).grown hg3 (fun _ hk _ => by cases hk)) (fun _ _ x => x))); (have HSN := Lib.hid (src_own (ow_kept O2.out K3.out (fun _ _ x => x)) R2.out.one)); (obtain ⟨A3, c3, rfl, _, _⟩ := ow_form ho3); clear ho3 hg3)
              | (go_at_call 47; refine (HC.out _ K1.out).mono ?_; rintro e w2 ⟨v2, xs2, rfl, o2, r2, -, k2⟩; (obtain ⟨A2, c2, rfl, _, _⟩ := ow_form o2); (have O2 := Lib.hid o2); (have R2 := Lib.hid r2); (have K2 := Lib.hid k2); clear o2 r2 k2)
              | (go_at_call 32; refine (HM.out).mono ?_; rintro e w1 ⟨rfl, k1⟩; (have K1 := Lib.hid k1); clear k1))
            go_ret2
            refine ⟨_, by rw [HE3.out]; rfl, ?_, K1.out.trans (K2.out.trans (K3.out.own_grown O3.out (Nat.le_refl _) HG4.out))⟩
            rw [HE3.out]
            refine Rown.rfs (B := w1.heap.size) ⟨.int .i64 2 :: .slice (some ⟨w2.heap.size, 0, none⟩) 1 1 :: xs2, own_to (own_weakA O4.out K2.out.size) (by rw [List.length_cons]; omega) rfl, ?_⟩
            have kg : Kept (fun g => (Value.slice A3 1 c3).ownBlock = some g) w3 w4 := (Kept.refl _ _).grown HG4.out (fun _ hk _ => hk)
            have hs : ∀ g cs, (Value.slice A3 1 c3).ownBlock = some g → w3.heap[g]? ≠ some (.cells cs 24 (0, 0)) := fun g cs x e => by
              obtain ⟨cs', hh⟩ := ow_lt O3.out x
              rw [hh] at e
              injection e with e
              injection e with _ e2
              exact absurd e2 (by decide)
            have ht : Rrs w4 w1.heap.size xs2 l := (R2.out.old K3.out).kept kg hs
            refine ⟨by unfold ki; rw [HKN.out]; rfl, ow_kept (own_weakA U3.out K2.out.size) kg (fun g hg x => by obtain ⟨cs, hh⟩ := ow_lt U3.out hg; exact hs g cs x hh), (fun m hm => by obtain rfl := List.mem_singleton.1 hm; exact hn32), ht⟩
          · go_enter Tryd.func26, Tryd.ntmps26
            go_wp2_with (first
              | (at_builtin; refine wpList_app _ rfl _ _ 29 rfl w2.heap.size 65 i0 _ 2 32 Tryd.underlying29 hi hz0 hz1 hz2 rfl (by decide) (.slice A3 1 c3) 1 [.int .i64 3, .slice (some ⟨w2.heap.size, 0, none⟩) 1 1] rfl O3.out A2 l.length c2 xs2 rfl HSN.out HL6.out.2.1 HL6.out.2.2 K3.out.size ?_; intro v4 w4 ho4 hg4 _; (have O4 := Lib.hid ho4); (have HG4 := Lib.hid hg4); (obtain ⟨A4, c4, rfl, _, _⟩ := ow_form ho4); clear ho4 hg4)
              | (at_builtin; refine wpList_app _ rfl _ _ 29 rfl w2.heap.size 65 i0 _ 2 32 Tryd.underlying29 hi hz0 hz1 hz2 rfl (by decide) (.slice none 0 0) 0 [] rfl (World.ownsRow_nil _ _ _ _) (some ⟨w2.heap.size + 1, 0, none⟩) 1 1 [.int .i64 3, .slice (some ⟨w2.heap.size, 0, none⟩) 1 1] rfl (by have hsr := src_new (w2.alloc (.cells #[.int .u32 (n : Int)] 24)) 65 #[.int .i64 3, .slice (some ⟨w2.heap.size, 0, none⟩) 1 1] 2 1 rfl (by simp [Value.oneCell']); rw [World.size_alloc] at hsr; exact hsr) HL6.out.1 (by decide) (by simp; omega) ?_; intro v3 w3 ho3 hg3 _; (rw [Nat.zero_add, List.nil_append] at ho3); (have O3 := Lib.hid ho3); (have K3 := Lib.hid ((((Kept.refl Nothing w2).alloc (.cells #[.int .u32 (n : Int)] 24)).alloc (.cells #[.int .i64 3, .slice (some ⟨w2.heap.size, 0, none⟩) 1 1] 65)).grown hg3 (fun _ hk _ => by cases hk))); (have U3 := Lib.hid (ow_kept (own_oneU w2 (.int .u32 (n : Int)) _ (Nat.le_refl _)) (((Kept.refl Nothing _).alloc (.cells #[.int .i64 3, .slice (some ⟨w2.heap.size, 0, none⟩) 1 1] 65)).grown hg3 (fun _ hk _ => by cases hk)) (fun _ _ x => x))); (have HSN := Lib.hid (src_own (ow_kept O2.out K3.out (fun _ _ x => x)) R2.out.one)); (obtain ⟨A3, c3, rfl, _, _⟩ := ow_form ho3); clear ho3 hg3)
              | (go_at_call 47; refine (HC.out _ K1.out).mono ?_; rintro e w2 ⟨v2, xs2, rfl, o2, r2, -, k2⟩; (obtain ⟨A2, c2, rfl, _, _⟩ := ow_form o2); (have O2 := Lib.hid o2); (have R2 := Lib.hid r2); (have K2 := Lib.hid k2); clear o2 r2 k2)
              | (go_at_call 32; refine (HM.out).mono ?_; rintro e w1 ⟨rfl, k1⟩; (have K1 := Lib.hid k1); clear k1))
            go_ret2
            refine ⟨_, by rw [HE3.out]; rfl, ?_, K1.out.trans (K2.out.trans (K3.out.own_grown O3.out (Nat.le_refl _) HG4.out))⟩
            rw [HE3.out]
            refine Rown.rfs (B := w1.heap.size) ⟨.int .i64 3 :: .slice (some ⟨w2.heap.size, 0, none⟩) 1 1 :: xs2, own_to (own_weakA O4.out K2.out.size) (by rw [List.length_cons]; omega) rfl, ?_⟩
            have kg : Kept (fun g => (Value.slice A3 1 c3).ownBlock = some g) w3 w4 := (Kept.refl _ _).grown HG4.out (fun _ hk _ => hk)
            have hs : ∀ g cs, (Value.slice A3 1 c3).ownBlock = some g → w3.heap[g]? ≠ some (.cells cs 24 (0, 0)) := fun g cs x e => by
              obtain ⟨cs', hh⟩ := ow_lt O3.out x
              rw [hh] at e
              injection e with e
              injection e with _ e2
              exact absurd e2 (by decide)
            have ht : Rrs w4 w1.heap.size xs2 l := (R2.out.old K3.out).kept kg hs
            refine ⟨by unfold ki; rw [HKN.out]; rfl, ow_kept (own_weakA U3.out K2.out.size) kg (fun g hg x => by obtain ⟨cs, hh⟩ := ow_lt U3.out hg; exact hs g cs x hh), (fun m hm => by obtain rfl := List.mem_singleton.1 hm; exact hn32), ht⟩
        · have hlp : 0 < l.length := by omega
          have i2 : (0 : Int) < (l.length : Int) := by omega
          have hno : ¬ ((l.getD 0 (0, [])).1.toNat = k.toNat ∧ (l.getD 0 (0, [])).2.length < 255) := fun x => by
            cases l with
            | nil => simp at hlp
            | cons s r => simp [Wk.room] at hroom; exact absurd x (by simp; omega)
          clear HSEG hroom h0
          obtain ⟨kk, HS1⟩ : ∃ kk, Hid ((l.getD 0 (0, [])).1.toNat = kk) := ⟨_, Lib.hid rfl⟩
          obtain ⟨nn, HS2⟩ : ∃ nn, Hid ((l.getD 0 (0, [])).2.length = nn) := ⟨_, Lib.hid rfl⟩
          rw [HS1.out, HS2.out] at hno
          generalize hkn : k.toNat = kn at *
          have HKN := Lib.hid hkn
          clear hkn
          by_cases h32e : l.length = 32
          · have HE3 : Hid (Wk.prepend l k n = ([], 7)) := Lib.hid (by rw [HE2.out, if_pos h32e])
            have i3 : (32 : Int) ≤ (l.length : Int) := by omega
            clear HE2 h32e
            by_cases hkk : kk = kn
            · have n1 : ((kk : Int) == (kn : Int)) = true := by rw [beq_iff_eq]; omega
              have n2 : ¬ (nn : Int) < 255 := by omega
              clear hno
              obtain rfl | rfl : kn = 2 ∨ kn = 3 := HKK.out
              · go_enter Tryd.func26, Tryd.ntmps26
                go_wp2_with (first
                  | (go_at_call 47; refine (HC.out _ K1.out).mono ?_; rintro e w2 ⟨v2, xs2, rfl, o2, r2, -, k2⟩; (obtain ⟨nv, e0, e1, no, nf⟩ := r2.own 0 hlp); (obtain ⟨g, cg, cur, rfl, hge, hbg⟩ := own_lies o2 hlp); (have p0 := o2.cells (g := g) rfl _ _ e0); (have p1 := o2.cells (g := g) rfl _ _ e1); (rw [add_none, Nat.zero_add] at p0 p1); (obtain ⟨An, cn, rfl, _, _⟩ := ow_form no); (replace p0 : w2.cell? ⟨g, 0, none⟩ = some (.int .i64 ((l.getD 0 (0, [])).1.toNat : Int)) := p0); (replace p1 : w2.cell? ⟨g, 1, none⟩ = some (.slice An (l.getD 0 (0, [])).2.length cn) := p1); (rw [HS1.out] at p0); (rw [HS2.out] at p1); clear e0 e1 no nf hge hbg; (have O2 := Lib.hid o2); (have R2 := Lib.hid r2); (have K2 := Lib.hid k2); clear o2 r2 k2)
                  | (go_at_call 32; refine (HM.out).mono ?_; rintro e w1 ⟨rfl, k1⟩; (have K1 := Lib.hid k1); clear k1))
                go_ret2
                exact ⟨_, by rw [HE3.out]; rfl, by rw [HE3.out]; exact (Rown.nil _ 0).rfs, K1.out.trans K2.out⟩
              · go_enter Tryd.func26, Tryd.ntmps26
                go_wp2_with (first
                  | (go_at_call 47; refine (HC.out _ K1.out).mono ?_; rintro e w2 ⟨v2, xs2, rfl, o2, r2, -, k2⟩; (obtain ⟨nv, e0, e1, no, nf⟩ := r2.own 0 hlp); (obtain ⟨g, cg, cur, rfl, hge, hbg⟩ := own_lies o2 hlp); (have p0 := o2.cells (g := g) rfl _ _ e0); (have p1 := o2.cells (g := g) rfl _ _ e1); (rw [add_none, Nat.zero_add] at p0 p1); (obtain ⟨An, cn, rfl, _, _⟩ := ow_form no); (replace p0 : w2.cell? ⟨g, 0, none⟩ = some (.int .i64 ((l.getD 0 (0, [])).1.toNat : Int)) := p0); (replace p1 : w2.cell? ⟨g, 1, none⟩ = some (.slice An (l.getD 0 (0, [])).2.length cn) := p1); (rw [HS1.out] at p0); (rw [HS2.out] at p1); clear e0 e1 no nf hge hbg; (have O2 := Lib.hid o2); (have R2 := Lib.hid r2); (have K2 := Lib.hid k2); clear o2 r2 k2)
                  | (go_at_call 32; refine (HM.out).mono ?_; rintro e w1 ⟨rfl, k1⟩; (have K1 := Lib.hid k1); clear k1))
                go_ret2
                exact ⟨_, by rw [HE3.out]; rfl, by rw [HE3.out]; exact (Rown.nil _ 0).rfs, K1.out.trans K2.out⟩
            · have n1 : ((kk : Int) == (kn : Int)) = false := by rw [beq_eq_false_iff_ne]; omega
              clear hno hkk
              obtain rfl | rfl : kn = 2 ∨ kn = 3 := HKK.out
              · have n1' : ((kk : Int) == 2) = false := n1
                go_enter Tryd.func26, Tryd.ntmps26
                go_wp2_with (first
                  | (go_at_call 47; refine (HC.out _ K1.out).mono ?_; rintro e w2 ⟨v2, xs2, rfl, o2, r2, -, k2⟩; (obtain ⟨nv, e0, e1, no, nf⟩ := r2.own 0 hlp); (obtain ⟨g, cg, cur, rfl, hge, hbg⟩ := own_lies o2 hlp); (have p0 := o2.cells (g := g) rfl _ _ e0); (have p1 := o2.cells (g := g) rfl _ _ e1); (rw [add_none, Nat.zero_add] at p0 p1); (obtain ⟨An, cn, rfl, _, _⟩ := ow_form no); (replace p0 : w2.cell? ⟨g, 0, none⟩ = some (.int .i64 ((l.getD 0 (0, [])).1.toNat : Int)) := p0); (replace p1 : w2.cell? ⟨g, 1, none⟩ = some (.slice An (l.getD 0 (0, [])).2.length cn) := p1); (rw [HS1.out] at p0); (rw [HS2.out] at p1); clear e0 e1 no nf hge hbg; (have O2 := Lib.hid o2); (have R2 := Lib.hid r2); (have K2 := Lib.hid k2); clear o2 r2 k2)
                  | (go_at_call 32; refine (HM.out).mono ?_; rintro e w1 ⟨rfl, k1⟩; (have K1 := Lib.hid k1); clear k1))
                go_ret2
                exact ⟨_, by rw [HE3.out]; rfl, by rw [HE3.out]; exact (Rown.nil _ 0).rfs, K1.out.trans K2.out⟩
              · have n1' : ((kk : Int) == 3) = false := n1
                go_enter Tryd.func26, Tryd.ntmps26
                go_wp2_with (first
                  | (go_at_call 47; refine (HC.out _ K1.out).mono ?_; rintro e w2 ⟨v2, xs2, rfl, o2, r2, -, k2⟩; (obtain ⟨nv, e0, e1, no, nf⟩ := r2.own 0 hlp); (obtain ⟨g, cg, cur, rfl, hge, hbg⟩ := own_lies o2 hlp); (have p0 := o2.cells (g := g) rfl _ _ e0); (have p1 := o2.cells (g := g) rfl _ _ e1); (rw [add_none, Nat.zero_add] at p0 p1); (obtain ⟨An, cn, rfl, _, _⟩ := ow_form no); (replace p0 : w2.cell? ⟨g, 0, none⟩ = some (.int .i64 ((l.getD 0 (0, [])).1.toNat : Int)) := p0); (replace p1 : w2.cell? ⟨g, 1, none⟩ = some (.slice An (l.getD 0 (0, [])).2.length cn) := p1); (rw [HS1.out] at p0); (rw [HS2.out] at p1); clear e0 e1 no nf hge hbg; (have O2 := Lib.hid o2); (have R2 := Lib.hid r2); (have K2 := Lib.hid k2); clear o2 r2 k2)
                  | (go_at_call 32; refine (HM.out).mono ?_; rintro e w1 ⟨rfl, k1⟩; (have K1 := Lib.hid k1); clear k1))
                go_ret2
                exact ⟨_, by rw [HE3.out]; rfl, by rw [HE3.out]; exact (Rown.nil _ 0).rfs, K1.out.trans K2.out⟩
          · have HE3 : Hid (Wk.prepend l k n = ((k, [n]) :: l, 0)) := Lib.hid (by rw [HE2.out, if_neg h32e])
            have i3 : ¬ (32 : Int) ≤ (l.length : Int) := by omega
            clear HE2 h32e
            by_cases hkk : kk = kn
            · have n1 : ((kk : Int) == (kn : Int)) = true := by rw [beq_iff_eq]; omega
              have n2 : ¬ (nn : Int) < 255 := by omega
              clear hno
              obtain rfl | rfl : kn = 2 ∨ kn = 3 := HKK.out
              · go_enter Tryd.func26, Tryd.ntmps26
                go_wp2_with (first
                  | (at_builtin; refine wpList_app _ rfl _ _ 29 rfl w2.heap.size 65 i0 _ 2 32 Tryd.underlying29 hi hz0 hz1 hz2 rfl (by decide) (.slice A3 1 c3) 1 [.int .i64 2, .slice (some ⟨w2.heap.size, 0, none⟩) 1 1] rfl O3.out (some ⟨g, 0, none⟩) l.length cg xs2 rfl HSN.out HL6.out.2.1 HL6.out.2.2 K3.out.size ?_; intro v4 w4 ho4 hg4 _; (have O4 := Lib.hid ho4); (have HG4 := Lib.hid hg4); (obtain ⟨A4, c4, rfl, _, _⟩ := ow_form ho4); clear ho4 hg4)
                  | (at_builtin; refine wpList_app _ rfl _ _ 29 rfl w2.heap.size 65 i0 _ 2 32 Tryd.underlying29 hi hz0 hz1 hz2 rfl (by decide) (.slice none 0 0) 0 [] rfl (World.ownsRow_nil _ _ _ _) (some ⟨w2.heap.size + 1, 0, none⟩) 1 1 [.int .i64 2, .slice (some ⟨w2.heap.size, 0, none⟩) 1 1] rfl (by have hsr := src_new (w2.alloc (.cells #[.int .u32 (n : Int)] 24)) 65 #[.int .i64 2, .slice (some ⟨w2.heap.size, 0, none⟩) 1 1] 2 1 rfl (by simp [Value.oneCell']); rw [World.size_alloc] at hsr; exact hsr) HL6.out.1 (by decide) (by simp; omega) ?_; intro v3 w3 ho3 hg3 _; (rw [Nat.zero_add, List.nil_append] at ho3); (have O3 := Lib.hid ho3); (have K3 := Lib.hid ((((Kept.refl Nothing w2).alloc (.cells #[.int .u32 (n : Int)] 24)).alloc (.cells #[.int .i64 2, .slice (some ⟨w2.heap.size, 0, none⟩) 1 1] 65)).grown hg3 (fun _ hk _ => by cases hk))); (have U3 := Lib.hid (ow_kept (own_oneU w2 (.int .u32 (n : Int)) _ (Nat.le_refl _)) (((Kept.refl Nothing _).alloc (.cells #[.int .i64 2, .slice (some ⟨w2.heap.size, 0, none⟩) 1 1] 65)).grown hg3 (fun _ hk _ => by cases hk)) (fun _ _ x => x))); (have HSN := Lib.hid (src_own (ow_kept O2.out K3.out (fun _ _ x => x)) R2.out.one)); (obtain ⟨A3, c3, rfl, _, _⟩ := ow_form ho3); clear ho3 hg3)
                  | (go_at_call 47; refine (HC.out _ K1.out).mono ?_; rintro e w2 ⟨v2, xs2, rfl, o2, r2, -, k2⟩; (obtain ⟨nv, e0, e1, no, nf⟩ := r2.own 0 hlp); (obtain ⟨g, cg, cur, rfl, hge, hbg⟩ := own_lies o2 hlp); (have p0 := o2.cells (g := g) rfl _ _ e0); (have p1 := o2.cells (g := g) rfl _ _ e1); (rw [add_none, Nat.zero_add] at p0 p1); (obtain ⟨An, cn, rfl, _, _⟩ := ow_form no); (replace p0 : w2.cell? ⟨g, 0, none⟩ = some (.int .i64 ((l.getD 0 (0, [])).1.toNat : Int)) := p0); (replace p1 : w2.cell? ⟨g, 1, none⟩ = some (.slice An (l.getD 0 (0, [])).2.length cn) := p1); (rw [HS1.out] at p0); (rw [HS2.out] at p1); clear e0 e1 no nf hge hbg; (have O2 := Lib.hid o2); (have R2 := Lib.hid r2); (have K2 := Lib.hid k2); clear o2 r2 k2)
                  | (go_at_call 32; refine (HM.out).mono ?_; rintro e w1 ⟨rfl, k1⟩; (have K1 := Lib.hid k1); clear k1))
                go_ret2
                refine ⟨_, by rw [HE3.out]; rfl, ?_, K1.out.trans (K2.out.trans (K3.out.own_grown O3.out (Nat.le_refl _) HG4.out))⟩
                rw [HE3.out]
                refine Rown.rfs (B := w1.heap.size) ⟨.int .i64 2 :: .slice (some ⟨w2.heap.size, 0, none⟩) 1 1 :: xs2, own_to (own_weakA O4.out K2.out.size) (by rw [List.length_cons]; omega) rfl, ?_⟩
                have kg : Kept (fun g => (Value.slice A3 1 c3).ownBlock = some g) w3 w4 := (Kept.refl _ _).grown HG4.out (fun _ hk _ => hk)
                have hs : ∀ g cs, (Value.slice A3 1 c3).ownBlock = some g → w3.heap[g]? ≠ some (.cells cs 24 (0, 0)) := fun g cs x e => by
                  obtain ⟨cs', hh⟩ := ow_lt O3.out x
                  rw [hh] at e
                  injection e with e
                  injection e with _ e2
                  exact absurd e2 (by decide)
                have ht : Rrs w4 w1.heap.size xs2 l := (R2.out.old K3.out).kept kg hs
                refine ⟨by unfold ki; rw [HKN.out]; rfl, ow_kept (own_weakA U3.out K2.out.size) kg (fun g hg x => by obtain ⟨cs, hh⟩ := ow_lt U3.out hg; exact hs g cs x hh), (fun m hm => by obtain rfl := List.mem_singleton.1 hm; exact hn32), ht⟩
              · go_enter Tryd.func26, Tryd.ntmps26
                go_wp2_with (first
                  | (at_builtin; refine wpList_app _ rfl _ _ 29 rfl w2.heap.size 65 i0 _ 2 32 Tryd.underlying29 hi hz0 hz1 hz2 rfl (by decide) (.slice A3 1 c3) 1 [.int .i64 3, .slice (some ⟨w2.heap.size, 0, none⟩) 1 1] rfl O3.out (some ⟨g, 0, none⟩) l.length cg xs2 rfl HSN.out HL6.out.2.1 HL6.out.2.2 K3.out.size ?_; intro v4 w4 ho4 hg4 _; (have O4 := Lib.hid ho4); (have HG4 := Lib.hid hg4); (obtain ⟨A4, c4, rfl, _, _⟩ := ow_form ho4); clear ho4 hg4)
                  | (at_builtin; refine wpList_app _ rfl _ _ 29 rfl w2.heap.size 65 i0 _ 2 32 Tryd.underlying29 hi hz0 hz1 hz2 rfl (by decide) (.slice none 0 0) 0 [] rfl (World.ownsRow_nil _ _ _ _) (some ⟨w2.heap.size + 1, 0, none⟩) 1 1 [.int .i64 3, .slice (some ⟨w2.heap.size, 0, none⟩) 1 1] rfl (by have hsr := src_new (w2.alloc (.cells #[.int .u32 (n : Int)] 24)) 65 #[.int .i64 3, .slice (some ⟨w2.heap.size, 0, none⟩) 1 1] 2 1 rfl (by simp [Value.oneCell']); rw [World.size_alloc] at hsr; exact hsr) HL6.out.1 (by decide) (by simp; omega) ?_; intro v3 w3 ho3 hg3 _; (rw [Nat.zero_add, List.nil_append] at ho3); (have O3 := Lib.hid ho3); (have K3 := Lib.hid ((((Kept.refl Nothing w2).alloc (.cells #[.int .u32 (n : Int)] 24)).alloc (.cells #[.int .i64 3, .slice (some ⟨w2.heap.size, 0, none⟩) 1 1] 65)).grown hg3 (fun _ hk _ => by cases hk))); (have U3 := Lib.hid (ow_kept (own_oneU w2 (.int .u32 (n : Int)) _ (Nat.le_refl _)) (((Kept.refl Nothing _).alloc (.cells #[.int .i64 3, .slice (some ⟨w2.heap.size, 0, none⟩) 1 1] 65)).grown hg3 (fun _ hk _ => by cases hk)) (fun _ _ x => x))); (have HSN := Lib.hid (src_own (ow_kept O2.out K3.out (fun _ _ x => x)) R2.out.one)); (obtain ⟨A3, c3, rfl, _, _⟩ := ow_form ho3); clear ho3 hg3)
                  | (go_at_call 47; refine (HC.out _ K1.out).mono ?_; rintro e w2 ⟨v2, xs2, rfl, o2, r2, -, k2⟩; (obtain ⟨nv, e0, e1, no, nf⟩ := r2.own 0 hlp); (obtain ⟨g, cg, cur, rfl, hge, hbg⟩ := own_lies o2 hlp); (have p0 := o2.cells (g := g) rfl _ _ e0); (have p1 := o2.cells (g := g) rfl _ _ e1); (rw [add_none, Nat.zero_add] at p0 p1); (obtain ⟨An, cn, rfl, _, _⟩ := ow_form no); (replace p0 : w2.cell? ⟨g, 0, none⟩ = some (.int .i64 ((l.getD 0 (0, [])).1.toNat : Int)) := p0); (replace p1 : w2.cell? ⟨g, 1, none⟩ = some (.slice An (l.getD 0 (0, [])).2.length cn) := p1); (rw [HS1.out] at p0); (rw [HS2.out] at p1); clear e0 e1 no nf hge hbg; (have O2 := Lib.hid o2); (have R2 := Lib.hid r2); (have K2 := Lib.hid k2); clear o2 r2 k2)
                  | (go_at_call 32; refine (HM.out).mono ?_; rintro e w1 ⟨rfl, k1⟩; (have K1 := Lib.hid k1); clear k1))
                go_ret2
                refine ⟨_, by rw [HE3.out]; rfl, ?_, K1.out.trans (K2.out.trans (K3.out.own_grown O3.out (Nat.le_refl _) HG4.out))⟩
                rw [HE3.out]
                refine Rown.rfs (B := w1.heap.size) ⟨.int .i64 3 :: .slice (some ⟨w2.heap.size, 0, none⟩) 1 1 :: xs2, own_to (own_weakA O4.out K2.out.size) (by rw [List.length_cons]; omega) rfl, ?_⟩
                have kg : Kept (fun g => (Value.slice A3 1 c3).ownBlock = some g) w3 w4 := (Kept.refl _ _).grown HG4.out (fun _ hk _ => hk)
                have hs : ∀ g cs, (Value.slice A3 1 c3).ownBlock = some g → w3.heap[g]? ≠ some (.cells cs 24 (0, 0)) := fun g cs x e => by
                  obtain ⟨cs', hh⟩ := ow_lt O3.out x
                  rw [hh] at e
                  injection e with e
                  injection e with _ e2
                  exact absurd e2 (by decide)
                have ht : Rrs w4 w1.heap.size xs2 l := (R2.out.old K3.out).kept kg hs
                refine ⟨by unfold ki; rw [HKN.out]; rfl, ow_kept (own_weakA U3.out K2.out.size) kg (fun g hg x => by obtain ⟨cs, hh⟩ := ow_lt U3.out hg; exact hs g cs x hh), (fun m hm => by obtain rfl := List.mem_singleton.1 hm; exact hn32), ht⟩
            · have n1 : ((kk : Int) == (kn : Int)) = false := by rw [beq_eq_false_iff_ne]; omega
              clear hno hkk
              obtain rfl | rfl : kn = 2 ∨ kn = 3 := HKK.out
              · have n1' : ((kk : Int) == 2) = false := n1
                go_enter Tryd.func26, Tryd.ntmps26
                go_wp2_with (first
                  | (at_builtin; refine wpList_app _ rfl _ _ 29 rfl w2.heap.size 65 i0 _ 2 32 Tryd.underlying29 hi hz0 hz1 hz2 rfl (by decide) (.slice A3 1 c3) 1 [.int .i64 2, .slice (some ⟨w2.heap.size, 0, none⟩) 1 1] rfl O3.out (some ⟨g, 0, none⟩) l.length cg xs2 rfl HSN.out HL6.out.2.1 HL6.out.2.2 K3.out.size ?_; intro v4 w4 ho4 hg4 _; (have O4 := Lib.hid ho4); (have HG4 := Lib.hid hg4); (obtain ⟨A4, c4, rfl, _, _⟩ := ow_form ho4); clear ho4 hg4)
                  | (at_builtin; refine wpList_app _ rfl _ _ 29 rfl w2.heap.size 65 i0 _ 2 32 Tryd.underlying29 hi hz0 hz1 hz2 rfl (by decide) (.slice none 0 0) 0 [] rfl (World.ownsRow_nil _ _ _ _) (some ⟨w2.heap.size + 1, 0, none⟩) 1 1 [.int .i64 2, .slice (some ⟨w2.heap.size, 0, none⟩) 1 1] rfl (by have hsr := src_new (w2.alloc (.cells #[.int .u32 (n : Int)] 24)) 65 #[.int .i64 2, .slice (some ⟨w2.heap.size, 0, none⟩) 1 1] 2 1 rfl (by simp [Value.oneCell']); rw [World.size_alloc] at hsr; exact hsr) HL6.out.1 (by decide) (by simp; omega) ?_; intro v3 w3 ho3 hg3 _; (rw [Nat.zero_add, List.nil_append] at ho3); (have O3 := Lib.hid ho3); (have K3 := Lib.hid ((((Kept.refl Nothing w2).alloc (.cells #[.int .u32 (n : Int)] 24)).alloc (.cells #[.int .i64 2, .slice (some ⟨w2.heap.size, 0, none⟩) 1 1] 65)).grown hg3 (fun _ hk _ => by cases hk))); (have U3 := Lib.hid (ow_kept (own_oneU w2 (.int .u32 (n : Int)) _ (Nat.le_refl _)) (((Kept.refl Nothing _).alloc (.cells #[.int .i64 2, .slice (some ⟨w2.heap.size, 0, none⟩) 1 1] 65)).grown hg3 (fun _ hk _ => by cases hk)) (fun _ _ x => x))); (have HSN := Lib.hid (src_own (ow_kept O2.out K3.out (fun _ _ x => x)) R2.out.one)); (obtain ⟨A3, c3, rfl, _, _⟩ := ow_form ho3); clear ho3 hg3)
                  | (go_at_call 47; refine (HC.out _ K1.out).mono ?_; rintro e w2 ⟨v2, xs2, rfl, o2, r2, -, k2⟩; (obtain ⟨nv, e0, e1, no, nf⟩ := r2.own 0 hlp); (obtain ⟨g, cg, cur, rfl, hge, hbg⟩ := own_lies o2 hlp); (have p0 := o2.cells (g := g) rfl _ _ e0); (have p1 := o2.cells (g := g) rfl _ _ e1); (rw [add_none, Nat.zero_add] at p0 p1); (obtain ⟨An, cn, rfl, _, _⟩ := ow_form no); (replace p0 : w2.cell? ⟨g, 0, none⟩ = some (.int .i64 ((l.getD 0 (0, [])).1.toNat : Int)) := p0); (replace p1 : w2.cell? ⟨g, 1, none⟩ = some (.slice An (l.getD 0 (0, [])).2.length cn) := p1); (rw [HS1.out] at p0); (rw [HS2.out] at p1); clear e0 e1 no nf hge hbg; (have O2 := Lib.hid o2); (have R2 := Lib.hid r2); (have K2 := Lib.hid k2); clear o2 r2 k2)
                  | (go_at_call 32; refine (HM.out).mono ?_; rintro e w1 ⟨rfl, k1⟩; (have K1 := Lib.hid k1); clear k1))
                go_ret2
                refine ⟨_, by rw [HE3.out]; rfl, ?_, K1.out.trans (K2.out.trans (K3.out.own_grown O3.out (Nat.le_refl _) HG4.out))⟩
                rw [HE3.out]
                refine Rown.rfs (B := w1.heap.size) ⟨.int .i64 2 :: .slice (some ⟨w2.heap.size, 0, none⟩) 1 1 :: xs2, own_to (own_weakA O4.out K2.out.size) (by rw [List.length_cons]; omega) rfl, ?_⟩
                have kg : Kept (fun g => (Value.slice A3 1 c3).ownBlock = some g) w3 w4 := (Kept.refl _ _).grown HG4.out (fun _ hk _ => hk)
                have hs : ∀ g cs, (Value.slice A3 1 c3).ownBlock = some g → w3.heap[g]? ≠ some (.cells cs 24 (0, 0)) := fun g cs x e => by
                  obtain ⟨cs', hh⟩ := ow_lt O3.out x
                  rw [hh] at e
                  injection e with e
                  injection e with _ e2
                  exact absurd e2 (by decide)
                have ht : Rrs w4 w1.heap.size xs2 l := (R2.out.old K3.out).kept kg hs
                refine ⟨by unfold ki; rw [HKN.out]; rfl, ow_kept (own_weakA U3.out K2.out.size) kg (fun g hg x => by obtain ⟨cs, hh⟩ := ow_lt U3.out hg; exact hs g cs x hh), (fun m hm => by obtain rfl := List.mem_singleton.1 hm; exact hn32), ht⟩
              · have n1' : ((kk : Int) == 3) = false := n1
                go_enter Tryd.func26, Tryd.ntmps26
                go_wp2_with (first
                  | (at_builtin; refine wpList_app _ rfl _ _ 29 rfl w2.heap.size 65 i0 _ 2 32 Tryd.underlying29 hi hz0 hz1 hz2 rfl (by decide) (.slice A3 1 c3) 1 [.int .i64 3, .slice (some ⟨w2.heap.size, 0, none⟩) 1 1] rfl O3.out (some ⟨g, 0, none⟩) l.length cg xs2 rfl HSN.out HL6.out.2.1 HL6.out.2.2 K3.out.size ?_; intro v4 w4 ho4 hg4 _; (have O4 := Lib.hid ho4); (have HG4 := Lib.hid hg4); (obtain ⟨A4, c4, rfl, _, _⟩ := ow_form ho4); clear ho4 hg4)
                  | (at_builtin; refine wpList_app _ rfl _ _ 29 rfl w2.heap.size 65 i0 _ 2 32 Tryd.underlying29 hi hz0 hz1 hz2 rfl (by decide) (.slice none 0 0) 0 [] rfl (World.ownsRow_nil _ _ _ _) (some ⟨w2.heap.size + 1, 0, none⟩) 1 1 [.int .i64 3, .slice (some ⟨w2.heap.size, 0, none⟩) 1 1] rfl (by have hsr := src_new (w2.alloc (.cells #[.int .u32 (n : Int)] 24)) 65 #[.int .i64 3, .slice (some ⟨w2.heap.size, 0, none⟩) 1 1] 2 1 rfl (by simp [Value.oneCell']); rw [World.size_alloc] at hsr; exact hsr) HL6.out.1 (by decide) (by simp; omega) ?_; intro v3 w3 ho3 hg3 _; (rw [Nat.zero_add, List.nil_append] at ho3); (have O3 := Lib.hid ho3); (have K3 := Lib.hid ((((Kept.refl Nothing w2).alloc (.cells #[.int .u32 (n : Int)] 24)).alloc (.cells #[.int .i64 3, .slice (some ⟨w2.heap.size, 0, none⟩) 1 1] 65)).grown hg3 (fun _ hk _ => by cases hk))); (have U3 := Lib.hid (ow_kept (own_oneU w2 (.int .u32 (n : Int)) _ (Nat.le_refl _)) (((Kept.refl Nothing _).alloc (.cells #[.int .i64 3, .slice (some ⟨w2.heap.size, 0, none⟩) 1 1] 65)).grown hg3 (fun _ hk _ => by cases hk)) (fun _ _ x => x))); (have HSN := Lib.hid (src_own (ow_kept O2.out K3.out (fun _ _ x => x)) R2.out.one)); (obtain ⟨A3, c3, rfl, _, _⟩ := ow_form ho3); clear ho3 hg3)
                  | (go_at_call 47; refine (HC.out _ K1.out).mono ?_; rintro e w2 ⟨v2, xs2, rfl, o2, r2, -, k2⟩; (obtain ⟨nv, e0, e1, no, nf⟩ := r2.own 0 hlp); (obtain ⟨g, cg, cur, rfl, hge, hbg⟩ := own_lies o2 hlp); (have p0 := o2.cells (g := g) rfl _ _ e0); (have p1 := o2.cells (g := g) rfl _ _ e1); (rw [add_none, Nat.zero_add] at p0 p1); (obtain ⟨An, cn, rfl, _, _⟩ := ow_form no); (replace p0 : w2.cell? ⟨g, 0, none⟩ = some (.int .i64 ((l.getD 0 (0, [])).1.toNat : Int)) := p0); (replace p1 : w2.cell? ⟨g, 1, none⟩ = some (.slice An (l.getD 0 (0, [])).2.length cn) := p1); (rw [HS1.out] at p0); (rw [HS2.out] at p1); clear e0 e1 no nf hge hbg; (have O2 := Lib.hid o2); (have R2 := Lib.hid r2); (have K2 := Lib.hid k2); clear o2 r2 k2)
                  | (go_at_call 32; refine (HM.out).mono ?_; rintro e w1 ⟨rfl, k1⟩; (have K1 := Lib.hid k1); clear k1))
                go_ret2
                refine ⟨_, by rw [HE3.out]; rfl, ?_, K1.out.trans (K2.out.trans (K3.out.own_grown O3.out (Nat.le_refl _) HG4.out))⟩
                rw [HE3.out]
                refine Rown.rfs (B := w1.heap.size) ⟨.int .i64 3 :: .slice (some ⟨w2.heap.size, 0, none⟩) 1 1 :: xs2, own_to (own_weakA O4.out K2.out.size) (by rw [List.length_cons]; omega) rfl, ?_⟩
                have kg : Kept (fun g => (Value.slice A3 1 c3).ownBlock = some g) w3 w4 := (Kept.refl _ _).grown HG4.out (fun _ hk _ => hk)
                have hs : ∀ g cs, (Value.slice A3 1 c3).ownBlock = some g → w3.heap[g]? ≠ some (.cells cs 24 (0, 0)) := fun g cs x e => by
                  obtain ⟨cs', hh⟩ := ow_lt O3.out x
                  rw [hh] at e
                  injection e with e
                  injection e with _ e2
                  exact absurd e2 (by decide)
                have ht : Rrs w4 w1.heap.size xs2 l := (R2.out.old K3.out).kept kg hs
                refine ⟨by unfold ki; rw [HKN.out]; rfl, ow_kept (own_weakA U3.out K2.out.size) kg (fun g hg x => by obtain ⟨cs, hh⟩ := ow_lt U3.out hg; exact hs g cs x hh), (fun m hm => by obtain rfl := List.mem_singleton.1 hm; exact hn32), ht⟩
end Go.Proofs.YtdeblmolgmadiaaDoor
namespace Go.Proofs.YtdeblmolgmadiaaDoor
open Go.RowKit
attribute [local go_sem] Oper.semAt_some

set_option maxRecDepth 20000 in
set_option maxHeartbeats 4000000 in
theorem rs_replace (v : Value) (l : List Seg) (a b : Nat) (hb : b < 4294967296) (w : World) (h : Rfs w v l) (hl : l.length ≤ 1000000) (hn : ∀ s ∈ l, s.2.length ≤ 1000000) :
    Calls Tryd.prog 30 #[v, .int .u32 (a : Int), .int .u32 (b : Int)] w fun e w' => ∃ v', e = .returned v' ∧ Rfs w' v' (Wk.replace l a b) ∧ Kept Nothing w w' := by
  obtain ⟨A, c, rfl, -, -⟩ := h.form
  have HM := Lib.hid (rf_may _ l w h (by omega))
  have HC := Lib.hid (fun w1 (k : Kept Nothing w w1) => rs_copied _ l w1 (h.old k) hl hn)
  have HN := Lib.hid hn
  clear h hn
  unfold Wk.replace
  cases hmay : Pt.may l with
  | false =>
    rw [hmay] at HM
    rw [if_neg (by decide)]
    clear hmay HC
    go_enter Tryd.func30, Tryd.ntmps30
    go_wp2_with (go_at_call 32; refine (HM.out).mono ?_; rintro e w1 ⟨rfl, k1⟩)
    go_ret
    exact ⟨_, rfl, (Rown.nil _ 0).rfs, k1⟩
  | true =>
    rw [hmay] at HM
    rw [if_pos rfl]
    clear hmay
    go_enter Tryd.func30, Tryd.ntmps30
    go_wp2_with (first
      | (go_at_call 47; refine (HC.out _ K1.out).mono ?_; rintro e w2 ⟨v2, xs, rfl, o2, r2, d2, k2⟩; (obtain ⟨A2, c2, rfl, _, _⟩ := ow_form o2); (have O2 := Lib.hid o2); (have R2 := Lib.hid r2); (have D2 := Lib.hid d2); (have K2 := Lib.hid k2); clear o2 r2 d2 k2)
      | (go_at_call 32; refine (HM.out).mono ?_; rintro e w1 ⟨rfl, k1⟩; have K1 := Lib.hid k1; clear k1))
    clear HC HM
    have hbase : w.heap.size ≤ w1.heap.size := K1.out.size
    have R0 : Hid (w2.ownsRow w1.heap.size 65 2 (.slice A2 l.length c2) l.length xs ∧ Rrs w2 w1.heap.size xs (Wk.mix (Wk.reps a b) 0 l) ∧ Kept Nothing w1 w2) := Lib.hid ⟨O2.out, by rw [Wk.mix_zero]; exact R2.out, K2.out⟩
    clear O2 R2 K2
    go_loopw [8] (fun i wx => ∃ k : Nat, i = .int .i64 (k : Int) ∧ k ≤ l.length ∧ Hid (wx.ownsRow w1.heap.size 65 2 (.slice A2 l.length c2) l.length xs ∧ Rrs wx w1.heap.size xs (Wk.mix (Wk.reps a b) k l) ∧ Kept Nothing w1 wx)) (fun i _ => l.length - (intOf i).toNat)
    case atStart => exact ⟨0, rfl, Nat.zero_le _, R0⟩
    case round =>
      clear R0
      obtain ⟨k, rfl, hk, HX⟩ := hrel
      obtain ⟨u0, hu0⟩ : ∃ u0, u0 = wr := ⟨_, rfl⟩
      subst hu0
      by_cases hlt : k < l.length
      · have hmem : l.getD k (0, []) ∈ l := by rw [getD_get hlt]; exact List.getElem_mem _
        have hsl := HN.out _ hmem
        obtain ⟨hx1, hx2, hx3⟩ := HX.out
        rw [← Wk.half_zero hlt] at hx2
        obtain ⟨gt, cpt, _, hvt, _, _⟩ := own_lies hx1 (by omega)
        injection hvt with hvt _ hcc
        subst hvt
        subst hcc
        obtain ⟨nv, e0, e1, no, nf⟩ := hx2.own k (by rw [Wk.half_len]; exact hlt)
        rw [Wk.half_at hlt, Wk.mix_zero] at no nf
        have E1 := Lib.hid e1
        have ES := Lib.hid (fun j (hj : j < (l.getD k (0, [])).2.length) => Wk.half_succ (a := a) (b := b) (k := k) hj)
        have ESK := Lib.hid (fun j (hj : j < (l.getD k (0, [])).2.length) h => Wk.half_skip (a := a) (b := b) (k := k) hj h)
        have EF := Lib.hid (Wk.half_full (a := a) (b := b) hlt)
        have EA := Lib.hid (fun j => Wk.half_at (a := a) (b := b) (j := j) hlt)
        generalize l.getD k (0, []) = sg at *
        obtain ⟨sk, sn⟩ := sg
        simp only at no nf hsl ES EF EA ESK
        obtain ⟨Au, cu, rfl, _, _⟩ := ow_form no
        have P1 : Hid (∀ u ys, u.ownsRow w1.heap.size 65 2 (.slice (some ⟨gt, 0, none⟩) l.length c2) l.length xs → Rrs u w1.heap.size xs ys → u.cell? ⟨gt, k * 2 + 1, none⟩ = some (.slice Au sn.length cu)) := Lib.hid (fun u ys ho _ => by
          have := ho.cells (g := gt) rfl _ _ E1.out
          rwa [add_none, Nat.zero_add] at this)
        have i1 : (0 : Int) ≤ (k : Int) := by omega
        have i2 : (k : Int) < (l.length : Int) := by omega
        have HY : Hid (u0.ownsRow w1.heap.size 65 2 (.slice (some ⟨gt, 0, none⟩) l.length c2) l.length xs ∧ Rrs u0 w1.heap.size xs (Wk.half a b k 0 l) ∧ Kept Nothing w1 u0) := Lib.hid ⟨hx1, hx2, hx3⟩
        clear hx1 hx2 hx3 HX e0 e1 no hmem
        have hsl2 : sn.length ≤ 9223372036854775807 := by omega
        go_wp2_with fail
        go_loopw [9] (fun i wq => ∃ j : Nat, i = .int .i64 (j : Int) ∧ j ≤ sn.length ∧ Hid (wq.ownsRow w1.heap.size 65 2 (.slice (some ⟨gt, 0, none⟩) l.length c2) l.length xs ∧ Rrs wq w1.heap.size xs (Wk.half a b k j l) ∧ Kept Nothing w1 wq)) (fun i _ => sn.length - (intOf i).toNat)
        case atStart => exact ⟨0, rfl, Nat.zero_le _, HY⟩
        case round =>
          clear HY
          obtain ⟨j, rfl, hj, HJ⟩ := hrel
          have c1 := P1.out _ _ HJ.out.1 HJ.out.2.1
          by_cases hlj : j < sn.length
          · obtain ⟨y1, y2, y3⟩ := HJ.out
            obtain ⟨nv2, _, f1, no2, nf2⟩ := y2.own k (by rw [Wk.half_len]; exact hlt)
            have f1' := f1
            rw [E1.out] at f1'
            injection f1' with f1'
            subst f1'
            rw [EA.out j] at no2
            have hml : (Wk.mix (Wk.rep1 a b) j sn).length = sn.length := Wk.mix_len
            simp only at no2
            obtain ⟨g, cg, cur, hv, hge, hbg⟩ := own_lies no2 (by omega)
            injection hv with hv _ _
            subst hv
            have q0 := no2.cells (g := g) rfl j _ (ass_at (by omega))
            rw [add_none, Nat.zero_add, Wk.mix_at 0 hlj] at q0
            have qf := hbg.free j
            have j1 : (0 : Int) ≤ (j : Int) := by omega
            have j2 : (j : Int) < (sn.length : Int) := by omega
            have SN := Rrs.setN (w := wr) (g := g) hb j y2 D2.out k (by rw [Wk.half_len]; exact hlt) f1 rfl
            rw [EA.out j] at SN
            have SX := Lib.hid SN
            have ES2 := ES.out j hlj
            have Y1 := Lib.hid y1
            have Y2 := Lib.hid y2
            have Y3 := Lib.hid y3
            have HBG := Lib.hid hbg
            have HGE := Lib.hid hge
            clear y1 y2 y3 HJ f1 no2 nf2 SN hbg hge E1 P1
            generalize hx : sn.getD j 0 = x at *
            by_cases hxa : x = a
            · subst hxa
              rw [show Wk.rep1 x b x = b from if_pos rfl] at ES2
              have ES3 := Lib.hid ES2
              clear ES2 ESK EF EA ES hx hml
              go_wp2
              go_roundw
              case rel => exact ⟨j + 1, by go_num, by omega, Lib.hid ⟨ow_kept Y1.out (Kept.own _ g j _) (ow_far Y1.out HBG.out (by decide)), by rw [ES3.out]; exact SX.out, Y3.out.setCell (p := ⟨g, j, none⟩) (fun h => by have := HGE.out; exact absurd h (Nat.not_lt.2 this)) _⟩⟩
              case measure => simp [intOf]; omega
            · have hxi : ((x : Int) == (a : Int)) = false := by simp; omega
              have ES3 : Hid (Wk.half a b k (j + 1) l = Wk.half a b k j l) := Lib.hid (ESK.out j hlj (by show ¬ sn.getD j 0 = a; rw [hx]; exact hxa))
              clear ES2 ESK EF EA ES hx hml SX
              go_wp2
              go_roundw
              case rel => exact ⟨j + 1, by go_num, by omega, Lib.hid ⟨Y1.out, by rw [ES3.out]; exact Y2.out, Y3.out⟩⟩
              case measure => simp [intOf]; omega
          · obtain rfl : j = sn.length := by omega
            have HJ2 := Lib.hid HJ.out
            clear HJ
            go_wp2
            go_roundw
            case rel => exact ⟨k + 1, by go_num, by omega, Lib.hid ⟨HJ2.out.1, by rw [← EF.out]; exact HJ2.out.2.1, HJ2.out.2.2⟩⟩
            case measure => simp [intOf]; omega
      · obtain rfl : k = l.length := by omega
        obtain ⟨x1, x2, x3⟩ := HX.out
        rw [Wk.mix_all] at x2
        have X1 := Lib.hid x1
        have X2 := Lib.hid x2
        have X3 := Lib.hid x3
        clear x1 x2 x3 HX
        go_wp2
        go_ret
        exact ⟨_, rfl, Rown.rfs ⟨xs, by rw [List.length_map]; exact own_weakA X1.out hbase, X2.out.weak hbase⟩, K1.out.trans X3.out⟩
end Go.Proofs.YtdeblmolgmadiaaDoor
