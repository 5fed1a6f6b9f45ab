
/-
  The law's plain: a path without confed segments, its first Sequence filled up.
-/
import Derived.Test.YthjljamngpddmaaGreatDoorY20
import Derived.Test.YthjljamngpddmaaGreatDoorY13
import Derived.Test.YthjljamngpddmaaGreatDoorY16
namespace Go.Proofs.YthjljamngpddmaaGreatDoor
open Go.RowKit Go.Shelf

namespace Fz
/-- Numbers, and so many more, up to 255. -/
def fl (sn : List Nat) (k : Nat) : List Nat := sn ++ (List.range (min k (255 - sn.length))).map (fun i => 70000 + i)
theorem fl_len (sn : List Nat) (k : Nat) : (fl sn k).length = sn.length + min k (255 - sn.length) := by unfold fl; simp
theorem fl_zero (sn : List Nat) : fl sn 0 = sn := by unfold fl; simp
theorem fl_yes {sn : List Nat} {k : Nat} (h : (fl sn k).length < 255) : fl sn (k + 1) = fl sn k ++ [70000 + k] := by
  rw [fl_len] at h
  unfold fl
  rw [show min (k + 1) (255 - sn.length) = k + 1 by omega, show min k (255 - sn.length) = k by omega, List.range_succ, List.map_append, List.append_assoc]
  rfl
theorem fl_no {sn : List Nat} {k : Nat} (h : ¬ (fl sn k).length < 255) : fl sn (k + 1) = fl sn k := by
  rw [fl_len] at h
  unfold fl
  rw [show min (k + 1) (255 - sn.length) = min k (255 - sn.length) by omega]
def plainP (l : List Seg) (m : Nat) : List Seg := match plains (brG l) with | [] => [] | s :: r => if s.1.toNat = 2 then (s.1, fl s.2 m) :: r else s :: r
end Fz

/-- A path of the call's own, its rows apart: at B, its block g. -/
def Own1 (w : World) (B g cp : Nat) (l : List Seg) : Prop := ∃ xs, w.ownsRow B 72 2 (.slice (some ⟨g, 0, none⟩) l.length cp) l.length xs ∧ Rws w B xs l ∧ Dist xs

set_option maxRecDepth 100000 in
set_option maxHeartbeats 3200000 in
theorem plain_any (v : Value) (l : List Seg) (m : Nat) (hm : m < 256) (w : World) (h : Pts w v l) :
    Calls Tryz.prog 29 #[v, .int .u8 (m : Int)] w fun e w' => ∃ v', e = .returned v' ∧ Pts w' v' (Fz.plainP l m) ∧ Kept Nothing w w' := by
  obtain ⟨A, c, rfl, -, -⟩ := h.form
  obtain ⟨j0, hj, hy0, hy1, hy2⟩ := info_parts as_info
  have HM := Lib.hid (brought6 _ l w h)
  have hl6 := brG_len l
  have hnum : ∀ s ∈ brG l, s.2.length ≤ 1000000 := fun s hs => by have := (brG_num hs).1; omega
  have HB := Lib.hid (fun v u (h : Pts u v (brG l)) => fuse_bare v (brG l) u h (by omega) hnum)
  have hn2 : ∀ s ∈ plains (brG l), s.2.length ≤ 40 := fun s hs => (brG_num (List.mem_filter.1 hs).1).1
  have hpl := plains_len (brG l)
  have HE : Hid (Fz.plainP l m = match plains (brG l) with | [] => [] | s :: r => if s.1.toNat = 2 then (s.1, Fz.fl s.2 m) :: r else s :: r) := Lib.hid rfl
  clear h hnum
  go_enter Tryz.func29, Tryz.ntmps29
  go_upto_region 2 with (first
    | (go_at_call 35; refine (HB.out _ _ P1.out).mono ?_; rintro e w2 ⟨v2, xs, rfl, o2, r2, d2, k2⟩; (have O2 := Lib.hid (own_weakA o2 K1.out.size)); (have R2 := Lib.hid (r2.weak K1.out.size)); (have D2 := Lib.hid d2); (have K2 := Lib.hid (K1.out.trans k2)); clear o2 r2 d2 k2)
    | (go_at_call 25; refine (HM.out).mono ?_; rintro e w1 ⟨v1, rfl, p1, k1⟩; (have P1 := Lib.hid p1.pts); (have K1 := Lib.hid k1); clear p1 k1))
  clear HM HB P1 K1
  have hl7 : (plains (brG l)).length ≤ 6 := by omega
  generalize plains (brG l) = P at *
  obtain ⟨A2, c2, rfl, -, -⟩ := ow_form O2.out
  cases P with
  | nil =>
    go_wp2
    go_ret
    exact ⟨_, rfl, by rw [HE.out]; exact Pts.of_own O2.out R2.out.cells, K2.out⟩
  | cons s r =>
    obtain ⟨sk, sn⟩ := s
    have PT := Lib.hid (Pts.of_own O2.out R2.out.cells)
    obtain ⟨b, o, Au, cu, rfl, p0, p1, -⟩ := PT.out.at2 (i := 0) (by simp)
    rw [Nat.zero_mul, Nat.add_zero] at p0 p1
    replace p0 : w2.cell? ⟨b, o, none⟩ = some (.int .u8 (sk.toNat : Int)) := p0
    have hrl : (((sk, sn) :: r).length : Int) = (r.length : Int) + 1 := by simp
    have i2 : (0 : Int) < (r.length : Int) + 1 := by omega
    have hsn : sn.length ≤ 40 := hn2 (sk, sn) (List.mem_cons_self ..)
    obtain ⟨g, cg, cur, hv, hge, hbg⟩ := own_lies O2.out (by simp)
    injection hv with e1 _ e3
    injection e1 with e1
    injection e1 with e1 e2 _
    subst e1 e2 e3
    clear hbg hrl hpl hn2
    by_cases hk : sk.toNat = 2
    · have HE2 : Hid (Fz.plainP l m = (sk, Fz.fl sn m) :: r) := Lib.hid (by rw [HE.out]; simp [hk])
      have hkb : ((sk.toNat : Int) == 2) = true := by simp; omega
      have ST : Hid (Own1 w2 w.heap.size b c2 ((sk, Fz.fl sn 0) :: r)) := Lib.hid ⟨xs, by rw [Fz.fl_zero]; exact O2.out, by rw [Fz.fl_zero]; exact R2.out, D2.out⟩
      rw [show ((sk, sn) :: r).length = r.length + 1 from rfl]
      clear HE O2 R2 D2 PT p1
      go_wp2
      go_loopw [21] (fun i wr => ∃ k : Nat, i = .int .i64 (k : Int) ∧ k ≤ m ∧ Hid (Own1 wr w.heap.size b c2 ((sk, Fz.fl sn k) :: r)) ∧ Hid (Kept Nothing w wr)) (fun i _ => m - (intOf i).toNat)
      case atStart => exact ⟨0, rfl, Nat.zero_le _, ST, K2⟩
      case round =>
        clear ST K2 p0
        obtain ⟨k, rfl, hkm, HS, KK⟩ := hrel
        by_cases hlt : k < m
        · obtain ⟨zs, oz, rz, dz⟩ := HS.out
          obtain ⟨nv, ys, rfl, no, nf, nr⟩ := rz.inv
          obtain ⟨g, cg, cur, hv, hge2, hbg⟩ := own_lies oz (by simp)
          injection hv with e1 _ e3
          injection e1 with e1
          injection e1 with e1 _ _
          subst e1
          have q1 := oz.cells (g := b) rfl 1 nv rfl
          rw [add_none, Nat.zero_add] at q1
          obtain ⟨An, cn, rfl, _, _⟩ := ow_form no
          have hcap : (Fz.fl sn k).length ≤ 255 := by rw [Fz.fl_len]; omega
          have hfy := Lib.hid (@Fz.fl_yes sn k)
          have hfn := Lib.hid (@Fz.fl_no sn k)
          have OZ := Lib.hid oz
          have DZ := Lib.hid dz
          have NO := Lib.hid no
          have NF := Lib.hid nf
          have NR := Lib.hid nr
          have HBG := Lib.hid hbg
          have hlt2 : b < wr.heap.size := hbg.lt
          clear oz dz no nf nr rz hbg e3
          generalize hQ : Fz.fl sn k = Q at *
          clear hQ
          by_cases h255 : Q.length < 255
          · have h255' : (Q.length : Int) < 255 := by omega
            have HNX := Lib.hid (hfy.out h255)
            have hwr : IntKind.u32.wrap ((70000 : Int) + (k : Int)) = (70000 : Int) + (k : Int) := by simp [IntKind.wrap, IntKind.bits, IntKind.signed]; omega
            have KA := Lib.hid ((Kept.refl Nothing wr).alloc (.cells #[.int .u32 ((70000 : Int) + (k : Int))] 54))
            have hHB := HBG.out.kept KA.out (fun x => x)
            clear hfy hfn h255
            go_wp2_with (at_builtin; refine wpList_app _ rfl _ _ 70 rfl w.heap.size 54 j0 (.int .u32 0) 1 4 Tryz.underlying70 hj hy0 hy1 hy2 rfl (by decide) (.slice An Q.length cn) Q.length (ass Q) rfl (ow_kept NO.out KA.out (fun _ _ x => x)) (some ⟨wr.heap.size, 0, none⟩) 1 1 [.int .u32 ((70000 : Int) + (k : Int))] rfl (src_new wr _ #[.int .u32 ((70000 : Int) + (k : Int))] 1 1 rfl (by simp [Value.oneCell'])) (by unfold maxLen; omega) (by omega) (Nat.le_trans KK.out.size KA.out.size) ?_; intro v7 w7 ho7 hg7 hb7; (have hbk := hHB.kept ((Kept.refl (fun k => (Value.slice An Q.length cn).ownBlock = some k) _).grown hg7 (fun _ hk _ => hk)) (fun e => ow_far NO.out HBG.out (by decide) _ e rfl)); (have f7 := hbk.free 1); (have c7 := (hbk.cell 1).trans ((HBG.out.cell 1).symm.trans q1)); (have hlt7 := hbk.lt); (have O7 := Lib.hid ho7); (have G7 := Lib.hid hg7); (have B7 := Lib.hid hb7); (have HBK := Lib.hid hbk); (obtain ⟨A7, c7', rfl, _, _⟩ := ow_form ho7); clear ho7 hg7 hb7 hbk)
            go_roundw
            case rel =>
              have kg : Kept (fun k => (Value.slice An Q.length cn).ownBlock = some k) _ w7 := (Kept.refl _ _).grown G7.out (fun _ hk _ => hk)
              have hdz := (List.pairwise_cons.1 (List.pairwise_cons.1 DZ.out).2)
              have oz2 := ow_kept (ow_kept OZ.out KA.out (fun _ _ x => x)) kg (fun g hg e => by
                obtain rfl : b = g := by simpa [Value.ownBlock] using hg
                exact ow_far NO.out HBG.out (by decide) _ e rfl)
              have hty : ∀ g cs, Only b g → w7.heap[g]? ≠ some (.cells cs 54 (0, 0)) := fun g cs (e : g = b) x => by
                subst e
                have := HBK.out
                unfold Blk at this
                rw [this] at x
                injection x with x
                injection x with _ e2
                exact absurd e2 (by decide)
              refine ⟨k + 1, by go_num, by omega, Lib.hid ⟨.int .u8 (sk.toNat : Int) :: .slice A7 (Q.length + 1) c7' :: ys, ?_, ?_, ?_⟩, Lib.hid ?_⟩
              · rw [HNX.out]
                exact own_set1 oz2 rfl
              · rw [HNX.out]
                refine ⟨rfl, ?_, fun n hn => ?_, ((NR.out.old KA.out).apart kg (fun u hu g' hg' e => hdz.1 u hu g' e hg')).kept (Kept.own w7 b 1 _) hty⟩
                · have := ow_kept O7.out (Kept.own w7 b 1 (.slice A7 (Q.length + 1) c7')) (ow_far O7.out HBK.out (by decide))
                  show World.ownsRow _ _ _ 1 _ (Q ++ [70000 + k]).length (ass (Q ++ [70000 + k]))
                  rw [List.length_append, ass_append]
                  exact this
                · rcases List.mem_append.1 hn with hn | hn
                  · exact NF.out n hn
                  · obtain rfl := List.mem_singleton.1 hn
                    omega
              · refine List.pairwise_cons.2 ⟨fun u hu g hg => by simp [Value.ownBlock] at hg, List.pairwise_cons.2 ⟨fun u hu g' hg' e => ?_, hdz.2⟩⟩
                rcases B7.out with hbb | hbb
                · exact hdz.1 u hu g' (by rw [← hbb]; exact hg') e
                · have h1 : g' = (wr.alloc (.cells #[.int .u32 ((70000 : Int) + (k : Int))] 54)).heap.size := (Option.some.inj (hbb.symm.trans hg')).symm
                  have h2 := (NR.out.old KA.out).lt u hu g' e
                  omega
              · have ho := (ow_ge OZ.out (g := b) rfl).1
                exact ((KK.out.trans KA.out).trans_new kg (fun i hi e => by have := (ow_ge NO.out e).1; omega)).setCell (p := ⟨b, 1, none⟩) (fun (h : b < w.heap.size) => by omega) _
            case measure => simp [intOf]; omega
          · have h255' : ¬ (Q.length : Int) < 255 := by omega
            have HNX := Lib.hid (hfn.out h255)
            have HST : Hid (Own1 wr w.heap.size b c2 ((sk, Fz.fl sn (k + 1)) :: r)) := Lib.hid (by rw [HNX.out]; exact HS.out)
            clear hfy hfn h255
            go_wp2
            go_roundw
            case rel => exact ⟨k + 1, by go_num, by omega, HST, KK⟩
            case measure => simp [intOf]; omega
        · obtain rfl : k = m := by omega
          obtain ⟨zs, oz, rz, dz⟩ := HS.out
          have PF := Lib.hid (Pts.of_own oz rz.cells)
          clear oz rz dz
          go_wp2
          go_ret
          exact ⟨_, rfl, by rw [HE2.out]; exact PF.out, KK.out⟩
    · have HE2 : Hid (Fz.plainP l m = (sk, sn) :: r) := Lib.hid (by rw [HE.out]; simp [hk])
      have hkb : ((sk.toNat : Int) == 2) = false := by simp; omega
      rw [show ((sk, sn) :: r).length = r.length + 1 from rfl]
      clear HE hk
      go_wp2
      go_ret
      exact ⟨_, rfl, by rw [HE2.out]; exact PT.out, K2.out⟩
end Go.Proofs.YthjljamngpddmaaGreatDoor
