
/-
  The law's read, and what the chapter's rows say (wakes).
-/
import Derived.Test.YthjljamngpddmaaGreatDoorY16
import Derived.Test.YthjljamngpddmaaGreatDoorY14
import Derived.Test.YthjljamngpddmaaGreatDoorY11
namespace Go.Proofs.YthjljamngpddmaaGreatDoor
open Go.RowKit Go.Shelf

/-- What Insert of the numbers that move over does. -/
theorem join_ins {B : Nat} {w : World} {Ax Af Al : Option Addr} {cx cf cl : Nat} {xn fn : List Nat} {lf : Nat} (onx : w.ownsRow B 54 1 (.slice Ax xn.length cx) xn.length (ass xn)) (onf : w.ownsRow B 54 1 (.slice Af fn.length cf) fn.length (ass fn))
    (hd : ∀ g, (Value.slice Ax xn.length cx).ownBlock = some g → (Value.slice Af fn.length cf).ownBlock ≠ some g) (hlf : lf ≤ xn.length) (hal : ∀ g, Ax = some ⟨g, 0, none⟩ → lf < xn.length → Al = some ⟨g, lf, none⟩) (hne : fn ≠ []) (hx : xn.length ≤ 1000000) (hf : fn.length ≤ 1000000) (hB : B ≤ w.heap.size) :
    ∀ W, Kept Nothing w W → Calls Tryz.prog 86 #[.slice Af fn.length cf, .int .i64 0, .slice Al (xn.length - lf) cl] W fun e w' => ∃ v', e = .returned v' ∧ w'.ownsRow B 54 1 v' (xn.drop lf ++ fn).length (ass (xn.drop lf ++ fn)) ∧ Kept (fun k => (Value.slice Af fn.length cf).ownBlock = some k) W w' ∧ (v'.ownBlock = (Value.slice Af fn.length cf).ownBlock ∨ ∃ g, v'.ownBlock = some g ∧ W.heap.size ≤ g) := by
  intro W k
  by_cases hlt : lf < xn.length
  · obtain ⟨g, cap, cur, hv, hge, hb⟩ := own_lies onx (by omega)
    injection hv with e1 _ e3
    subst e1 e3
    have hA := hal g rfl hlt
    subst hA
    have hlen : (xn.drop lf).length = xn.length - lf := List.length_drop
    rw [← hlen]
    refine ins_ownN B _ fn (xn.drop lf) W (ow_kept onf k (fun _ _ x => x)) hne hf (by omega) (Nat.le_trans hB k.size) g lf cl cur (hb.kept k (fun x => x)) (fun j u hu => ?_) (hd g rfl) (by omega)
    have h1 := onx.cells (g := g) rfl (lf + j) u (by rw [← hu]; unfold ass; rw [List.map_drop, List.getElem?_drop])
    rw [add_none, Nat.zero_add, hb.cell] at h1
    exact h1
  · obtain rfl : lf = xn.length := by omega
    rw [Nat.sub_self, List.drop_length, List.nil_append]
    refine (ins_none Af Al fn.length cf cl W).mono ?_
    rintro e w' ⟨rfl, k2⟩
    exact ⟨_, rfl, ow_kept onf (k.trans k2) (fun _ _ x => x), k2.mono (fun _ x => x.elim), .inl rfl⟩

set_option maxRecDepth 100000 in
set_option maxHeartbeats 3200000 in
theorem fuse_joined (B : Nat) (va vp : Value) (a m : List Seg) (xs ys : List Value) (w : World) (oa : w.ownsRow B 72 2 va a.length xs) (ra : Rws w B xs a) (op : w.ownsRow B 72 2 vp m.length ys) (rp : Rws w B ys m)
    (hD : Dist (xs ++ ys)) (hne : ∀ g, va.ownBlock = some g → vp.ownBlock ≠ some g) (hB : B ≤ w.heap.size) (hl : a.length ≤ 1000000) (hl2 : m.length ≤ 1000000) (hn : ∀ s ∈ a ++ m, s.2.length ≤ 1000000) (hz : ∀ s ∈ m, s.2 ≠ []) :
    Calls Tryz.prog 65 #[va, vp] w fun e w' => ∃ v', e = .returned v' ∧ Pown w' B v' (Fz.joined a m) ∧ Kept (fun k => B ≤ k) w w' := by
  obtain ⟨Aa, ca, rfl, hca, hcm⟩ := ow_form oa
  obtain ⟨Ap, cp, rfl, hcp, hcpm⟩ := ow_form op
  obtain ⟨i0, hi, hz0, hz1, hz2⟩ := info_parts sg_info
  have OA := Lib.hid oa
  have RA := Lib.hid ra
  have OP := Lib.hid op
  have RP := Lib.hid rp
  have HL5 : Hid (a.length + m.length ≤ maxLen ∧ (a.length + m.length) * 32 ≤ 140737488355328) := Lib.hid (by unfold maxLen; omega)
  have FIN : Hid (∀ v6 w6, w6.ownsRow B 72 2 v6 (a.length + m.length) (xs ++ ys) → w.grownBy w6 (Value.slice Aa a.length ca).ownBlock → Pown w6 B v6 (a ++ m) ∧ Kept (fun k => B ≤ k) w w6) := Lib.hid (fun v6 w6 ho hg => ⟨Pown.cat oa ra rp hg ho, (Kept.refl _ _).grown hg (fun k hk _ => (ow_ge oa hk).1)⟩)
  rcases List.eq_nil_or_concat a with ha | ⟨ini, x, ha⟩
  · subst ha
    rw [Fz.joined_l]
    clear oa ra op rp hD hne hn hz
    rw [show ([] : List Seg).length = 0 from rfl] at *
    go_enter Tryz.func65, Tryz.ntmps65
    go_wp2_with (at_builtin; refine wpList_app _ rfl _ _ 23 rfl B 72 i0 (.agg #[.int .u8 0, .slice none 0 0]) 2 32 Tryz.underlying23 hi hz0 hz1 hz2 rfl (by decide) (.slice Aa 0 ca) 0 xs rfl OA.out Ap m.length cp ys rfl (src_own OP.out RP.out.one) HL5.out.1 HL5.out.2 hB ?_; intro v6 w6 ho6 hg6 _)
    go_ret
    exact ⟨_, rfl, FIN.out _ _ ho6 hg6⟩
  · rw [List.concat_eq_append] at ha
    subst ha
    rw [show (ini ++ [x]).length = ini.length + 1 by simp] at *
    cases m with
    | nil =>
      rw [Fz.joined_r]
      rw [List.append_nil] at FIN
      clear oa ra op rp hD hne hn hz
      rw [show ([] : List Seg).length = 0 from rfl] at *
      go_enter Tryz.func65, Tryz.ntmps65
      go_wp2_with (at_builtin; refine wpList_app _ rfl _ _ 23 rfl B 72 i0 (.agg #[.int .u8 0, .slice none 0 0]) 2 32 Tryz.underlying23 hi hz0 hz1 hz2 rfl (by decide) (.slice Aa (ini.length + 1) ca) (ini.length + 1) xs rfl OA.out Ap 0 cp ys rfl (src_own OP.out RP.out.one) HL5.out.1 HL5.out.2 hB ?_; intro v6 w6 ho6 hg6 _)
      go_ret
      exact ⟨_, rfl, FIN.out _ _ ho6 hg6⟩
    | cons f r =>
      obtain ⟨xk, xn⟩ := x
      obtain ⟨fk, fn⟩ := f
      rw [show ((fk, fn) :: r).length = r.length + 1 from rfl] at *
      obtain ⟨xi, nx, rfl, rxi, onx, bx⟩ := ra.unsnoc
      obtain ⟨nf, yr, rfl, onf, bf, ryr⟩ := rp.inv
      obtain ⟨ga, ca', cura, hva, hga, hba⟩ := own_lies oa (by omega)
      injection hva with e1 _ e3
      subst e1 e3
      obtain ⟨gp, cp', curp, hvp, hgp, hbp⟩ := own_lies op (by omega)
      injection hvp with e1 _ e3
      subst e1 e3
      have hxi := rxi.len2
      simp only at onx bx
      have pa0 := oa.cells (g := ga) rfl (ini.length * 2) (by8 xk) (by rw [List.getElem?_append_right (by omega), hxi, Nat.sub_self]; rfl)
      have pa1 := oa.cells (g := ga) rfl (ini.length * 2 + 1) nx (by rw [List.getElem?_append_right (by omega), hxi, show ini.length * 2 + 1 - ini.length * 2 = 1 by omega]; rfl)
      have pp0 := op.cells (g := gp) rfl 0 (.int .u8 (fk.toNat : Int)) rfl
      have pp1 := op.cells (g := gp) rfl 1 nf rfl
      rw [add_none, Nat.zero_add] at pa0 pa1 pp0 pp1
      replace pa0 : w.cell? ⟨ga, ini.length * 2, none⟩ = some (.int .u8 (xk.toNat : Int)) := pa0
      obtain ⟨Ax, cx, rfl, hxc, -⟩ := ow_form onx
      obtain ⟨Af, cf, rfl, -, -⟩ := ow_form onf
      have ie : (0 : Int) ≤ (ini.length : Int) := by omega
      have ie2 : (ini.length : Int) < (ini.length : Int) + 1 := by omega
      have ir2 : (0 : Int) < (r.length : Int) + 1 := by omega
      have hd1 : ¬ ((ini.length : Int) < 0) := by omega
      have hr1 : (((r.length : Int) + 1) == 0) = false := by simp; omega
      have hr3 : ¬ ((r.length : Int) + 1 = 0) := by omega
      by_cases hk : xk.toNat = 2 ∧ fk.toNat = 2
      · have hlf : Fz.left (xk, xn) (fk, fn) = xn.length - (255 - fn.length) := rfl
        have hle : Fz.left (xk, xn) (fk, fn) ≤ xn.length := by rw [hlf]; omega
        have HJ0 := Lib.hid (Fz.joined_0 (i := ini) (r := r) (x := (xk, xn)) (f := (fk, fn)) hk)
        have HJN := Lib.hid (Fz.joined_n (i := ini) (r := r) (x := (xk, xn)) (f := (fk, fn)) hk)
        obtain ⟨res, hres⟩ : ∃ res, res = Fz.joined (ini ++ [(xk, xn)]) ((fk, fn) :: r) := ⟨_, rfl⟩
        rw [← hres] at HJ0 HJN ⊢
        have hxl : xn.length ≤ 1000000 := hn (xk, xn) (by simp)
        have hfl : fn.length ≤ 1000000 := hn (fk, fn) (by simp)
        have hm1 : max ((255 : Int) - (fn.length : Int)) 0 = ((255 - fn.length : Nat) : Int) := by omega
        have hm2 : (if (255 : Int) - (fn.length : Int) < 0 then (0 : Int) else (255 : Int) - (fn.length : Int)) = ((255 - fn.length : Nat) : Int) := by split <;> omega
        have hm3 : max ((xn.length : Int) - ((255 - fn.length : Nat) : Int)) 0 = ((Fz.left (xk, xn) (fk, fn) : Nat) : Int) := by rw [hlf]; omega
        have hm4 : (if (xn.length : Int) - ((255 - fn.length : Nat) : Int) < 0 then (0 : Int) else (xn.length : Int) - ((255 - fn.length : Nat) : Int)) = ((Fz.left (xk, xn) (fk, fn) : Nat) : Int) := by rw [hlf]; split <;> omega
        clear hlf hres FIN
        simp only at HJ0 HJN
        generalize Fz.left (xk, xn) (fk, fn) = lf at *
        have hdd : ∀ u ∈ xi ++ [by8 xk, .slice Ax xn.length cx], ∀ v ∈ Value.int .u8 (fk.toNat : Int) :: .slice Af fn.length cf :: yr, ∀ g, u.ownBlock = some g → v.ownBlock ≠ some g := (List.pairwise_append.1 hD).2.2
        have hdy : Dist (Value.int .u8 (fk.toNat : Int) :: .slice Af fn.length cf :: yr) := (List.pairwise_append.1 hD).2.1
        have hdx : Dist (xi ++ [by8 xk, .slice Ax xn.length cx]) := (List.pairwise_append.1 hD).1
        obtain ⟨Al, cl, hal, hsl⟩ := slice_loB Ax xn.length cx lf hle hxc
        have hsh := slice_hiA Ax xn.length cx lf (by omega)
        have HINS := Lib.hid (join_ins (Al := Al) (cl := cl) onx onf (hdd _ (by simp) _ (by simp)) hle hal (hz (fk, fn) (by simp)) hxl hfl hB)
        have hgap : ga ≠ gp := fun e => hne ga rfl (by rw [e]; rfl)
        have HBA := Lib.hid hba
        have HBP := Lib.hid hbp
        have HNF := Lib.hid onf
        have HNX := Lib.hid onx
        have HDD := Lib.hid hdd
        have HDY := Lib.hid hdy
        have HBX := Lib.hid bx
        have HBF := Lib.hid bf
        have RXI := Lib.hid rxi
        have RYR := Lib.hid ryr
        have b1 : ((xk.toNat : Int) != 2) = false := by simp; omega
        have b2 : ((fk.toNat : Int) != 2) = false := by simp; omega
        clear hD hne hn hz hdd hdy hdx hal hk bx bf rxi ryr oa ra op rp
        go_enter Tryz.func65, Tryz.ntmps65
        go_upto_region 4 with fail
        go_quiet (fail)
        have KA := Lib.hid ((Kept.refl Nothing w).drewN nq)
        generalize w.drewN nq = wA at *
        have KD := Lib.hid KA.out.drew
        have qa1 := KA.out.cell_some pa1 (fun x => x)
        have qp1 := KA.out.cell_some pp1 (fun x => x)
        clear pa0 pp0
        go_upto_region 7 with fail
        go_region_law (first
          | (go_simp; go_at_call 86; refine (HINS.out _ (by exact KD.out)).mono ?_; rintro e w4 ⟨v4, rfl, o4, k4, hb4⟩; (have hbk := (HBP.out.kept KD.out (fun x => x)).kept k4 (fun e => ow_far HNF.out HBP.out (by decide) gp e rfl)); (have f4 := hbk.free 1); (have c4 := (hbk.cell 1).trans ((HBP.out.cell 1).symm.trans pp1)); (obtain ⟨A4, c4', rfl, _, _⟩ := ow_form o4); (have O4 := Lib.hid o4); (have K4 := Lib.hid k4); (have B4 := Lib.hid hb4); (have HBK := Lib.hid hbk); clear o4 k4 hb4 hbk))
        all_goals
          have hlen : (xn.drop lf ++ fn).length = xn.length - lf + fn.length := by simp
          rw [hlen] at O4 B4
          have hba4 := (HBA.out.kept KD.out (fun x => x)).kept K4.out (fun e => ow_far HNF.out HBA.out (by decide) ga e rfl)
          have kx4 : Kept (Only gp) w4 (w4.setCell ⟨gp, 1, none⟩ (.slice A4 (xn.length - lf + fn.length) c4')) := Kept.own _ _ _ _
          have hba5 := hba4.far (p := ⟨gp, 1, none⟩) hgap (.slice A4 (xn.length - lf + fn.length) c4')
          have ox4 := ow_kept (ow_kept HNX.out KD.out (fun _ _ x => x)) K4.out (fun g hg e => HDD.out _ (by simp) _ (by simp) g hg e)
          have OX5 := Lib.hid (ow_kept ox4 kx4 (ow_far ox4 HBK.out (by decide)))
          have hty : ∀ g cs, Only gp g → w4.heap[g]? ≠ some (.cells cs 54 (0, 0)) := fun g cs (e : g = gp) x => by
            subst e
            have := HBK.out
            unfold Blk at this
            rw [this] at x
            injection x with x
            injection x with _ e2
            exact absurd e2 (by decide)
          have RX5 := Lib.hid (((RXI.out.old KD.out).apart K4.out (fun u hu g hg e => HDD.out u (List.mem_append_left _ hu) _ (by simp) g hg e)).kept kx4 hty)
          have RY5 := Lib.hid (((RYR.out.old KD.out).apart K4.out (fun u hu g hg e => (List.pairwise_cons.1 (List.pairwise_cons.1 HDY.out).2).1 u hu g e hg)).kept kx4 hty)
          have O5 := Lib.hid (ow_kept O4.out kx4 (ow_far O4.out HBK.out (by decide)))
          have oa4 := ow_kept (ow_kept OA.out KD.out (fun _ _ x => x)) K4.out (fun g hg e => by
            obtain rfl : ga = g := by simpa [Value.ownBlock] using hg
            exact ow_far HNF.out HBA.out (by decide) _ e rfl)
          have OA5 := Lib.hid (ow_kept oa4 kx4 (fun g hg (e : g = gp) => by
            obtain rfl : ga = g := by simpa [Value.ownBlock] using hg
            exact hgap e))
          have op4 := ow_kept (ow_kept OP.out KD.out (fun _ _ x => x)) K4.out (fun g hg e => by
            obtain rfl : gp = g := by simpa [Value.ownBlock] using hg
            exact ow_far HNF.out HBP.out (by decide) _ e rfl)
          have OP5 := Lib.hid (own_set1 (u := .slice A4 (xn.length - lf + fn.length) c4') op4 rfl)
          have K5 := Lib.hid (((KD.out.mono (T := fun k => B ≤ k) (fun _ x => x.elim)).trans (K4.out.mono (fun k e => (ow_ge HNF.out e).1))).setCell (p := ⟨gp, 1, none⟩) (fun _ => hgp) (.slice A4 (xn.length - lf + fn.length) c4'))
          clear hba4 kx4 ox4 hty oa4 op4 K4 B4 O4 HBK f4 c4
          generalize w4.setCell ⟨gp, 1, none⟩ (.slice A4 (xn.length - lf + fn.length) c4') = w5 at *
          have r5 := (hba5.cell (ini.length * 2 + 1)).trans ((HBA.out.cell _).symm.trans pa1)
          have f5 := hba5.free (ini.length * 2 + 1)
          have HB5 := Lib.hid hba5
          clear hba5
          go_upto_region 9 with fail
          have kx6 : Kept (Only ga) w5 (w5.setCell ⟨ga, ini.length * 2 + 1, none⟩ (.slice Ax lf cx)) := Kept.own _ _ _ _
          have hty6 : ∀ g cs, Only ga g → w5.heap[g]? ≠ some (.cells cs 54 (0, 0)) := fun g cs (e : g = ga) x => by
            subst e
            have := HB5.out
            unfold Blk at this
            rw [this] at x
            injection x with x
            injection x with _ e2
            exact absurd e2 (by decide)
          have oa6 := own_setS (u := .slice Ax lf cx) OA5.out (g := ga) rfl (ini.length * 2 + 1)
          rw [set_snoc2 _ _ _ _ _ hxi] at oa6
          have OA6 := Lib.hid oa6
          have ox6 := own_pre (ow_kept OX5.out kx6 (ow_far OX5.out HB5.out (by decide))) hle
          have hlt : (xn.take lf).length = lf := by rw [List.length_take]; omega
          have RX6 := Lib.hid (RX5.out.kept kx6 hty6)
          have RA6 := Lib.hid (Rws.snoc (c := (xk, xn.take lf)) (v := .slice Ax lf cx) (by
            rw [hlt]
            have e : ass (xn.take lf) = (ass xn).take (lf * 1) := by unfold ass; rw [Nat.mul_one, List.map_take]
            rw [e]
            exact ox6) (fun n hn => HBX.out n (List.mem_of_mem_take hn)) RX6.out)
          have OP6 := Lib.hid (ow_kept OP5.out kx6 (fun g hg (e : g = ga) => by
            obtain rfl : gp = g := by simpa [Value.ownBlock] using hg
            exact hgap e.symm))
          have RP6 : Hid (Rws (w5.setCell ⟨ga, ini.length * 2 + 1, none⟩ (.slice Ax lf cx)) B (.int .u8 (fk.toNat : Int) :: .slice A4 (xn.length - lf + fn.length) c4' :: yr) ((fk, xn.drop lf ++ fn) :: r)) := Lib.hid ⟨rfl, by
            have := ow_kept O5.out kx6 (ow_far O5.out HB5.out (by decide))
            show World.ownsRow _ B _ 1 _ (xn.drop lf ++ fn).length _
            rw [hlen]
            exact this, (fun n hn => (List.mem_append.1 hn).elim (fun h => HBX.out n (List.mem_of_mem_drop h)) (HBF.out n)), RY5.out.kept kx6 hty6⟩
          have K6 := Lib.hid (K5.out.setCell (p := ⟨ga, ini.length * 2 + 1, none⟩) (fun _ => hga) (.slice Ax lf cx))
          clear kx6 hty6 oa6 ox6 RX6 OA5 OX5 RX5 RY5 O5 OP5 K5 HB5 r5 f5 HDD HDY
          generalize w5.setCell ⟨ga, ini.length * 2 + 1, none⟩ (.slice Ax lf cx) = w6 at *
          have hb6 : B ≤ w6.heap.size := Nat.le_trans hB K6.out.size
          by_cases h0 : lf = 0
          · have hb0 : ((lf : Int) == 0) = true := by simp; omega
            have hsp := slice_hiP ga (ini.length + 1) ca ini.length (by omega)
            have oi := own_pre (m := ini.length) OA6.out (by omega)
            rw [List.take_append_of_le_length (by omega), List.take_of_length_le (by omega)] at oi
            have OI := Lib.hid oi
            have RI := Lib.hid (RA6.out.unsnoc)
            have HR := Lib.hid (HJ0.out h0)
            clear oi
            go_wp2_with (at_builtin; refine wpList_app _ rfl _ _ 23 rfl B 72 i0 (.agg #[.int .u8 0, .slice none 0 0]) 2 32 Tryz.underlying23 hi hz0 hz1 hz2 rfl (by decide) _ ini.length _ rfl OI.out _ (r.length + 1) cp _ rfl (src_own OP6.out RP6.out.one) (by unfold maxLen; omega) (by omega) hb6 ?_; intro v6 w7 ho6 hg6 _)
            go_ret
            obtain ⟨ys, nv, eys, ri, -, -⟩ := RI.out
            obtain ⟨rfl, -⟩ := List.append_inj eys (by rw [hxi, ri.len2])
            exact ⟨_, rfl, by rw [HR.out]; exact Pown.cat (l := ini) OI.out ri RP6.out hg6 ho6, K6.out.grown hg6 (fun k hk _ => (ow_ge OI.out hk).1)⟩
          · have hb0 : ((lf : Int) == 0) = false := by simp; omega
            have HR := Lib.hid (HJN.out h0)
            go_wp2_with (at_builtin; refine wpList_app _ rfl _ _ 23 rfl B 72 i0 (.agg #[.int .u8 0, .slice none 0 0]) 2 32 Tryz.underlying23 hi hz0 hz1 hz2 rfl (by decide) _ (ini.length + 1) _ rfl OA6.out _ (r.length + 1) cp _ rfl (src_own OP6.out RP6.out.one) HL5.out.1 HL5.out.2 hb6 ?_; intro v6 w7 ho6 hg6 _)
            go_ret
            exact ⟨_, rfl, by rw [HR.out]; exact Pown.cat (l := ini ++ [(xk, xn.take lf)]) (by rw [List.length_append]; exact OA6.out) RA6.out RP6.out hg6 (by rw [List.length_append]; exact ho6), K6.out.grown hg6 (fun k hk _ => (ow_ge OA6.out hk).1)⟩
      · rw [Fz.joined_k hk]
        clear oa ra op rp hD hne hn hz rxi onx bx onf bf ryr hba hbp pa1 pp1
        by_cases hk2 : xk.toNat = 2
        · have b1 : ((xk.toNat : Int) != 2) = false := by simp; omega
          have b2 : ((fk.toNat : Int) != 2) = true := by simp; omega
          go_enter Tryz.func65, Tryz.ntmps65
          go_wp2_with (at_builtin; refine wpList_app _ rfl _ _ 23 rfl B 72 i0 (.agg #[.int .u8 0, .slice none 0 0]) 2 32 Tryz.underlying23 hi hz0 hz1 hz2 rfl (by decide) _ (ini.length + 1) _ rfl OA.out _ (r.length + 1) cp _ rfl (src_own OP.out RP.out.one) HL5.out.1 HL5.out.2 hB ?_; intro v6 w6 ho6 hg6 _)
          go_ret
          have hf := FIN.out _ _ ho6 hg6
          rw [List.append_assoc] at hf
          exact ⟨_, rfl, hf⟩
        · have b1 : ((xk.toNat : Int) != 2) = true := by simp; omega
          go_enter Tryz.func65, Tryz.ntmps65
          go_wp2_with (at_builtin; refine wpList_app _ rfl _ _ 23 rfl B 72 i0 (.agg #[.int .u8 0, .slice none 0 0]) 2 32 Tryz.underlying23 hi hz0 hz1 hz2 rfl (by decide) _ (ini.length + 1) _ rfl OA.out _ (r.length + 1) cp _ rfl (src_own OP.out RP.out.one) HL5.out.1 HL5.out.2 hB ?_; intro v6 w6 ho6 hg6 _)
          go_ret
          have hf := FIN.out _ _ ho6 hg6
          rw [List.append_assoc] at hf
          exact ⟨_, rfl, hf⟩
end Go.Proofs.YthjljamngpddmaaGreatDoor
namespace Go.Proofs.YthjljamngpddmaaGreatDoor
open Go.RowKit Go.Shelf

theorem Rws.ge {w : World} {B : Nat} : ∀ {xs : List Value} {l : List Seg}, Rws w B xs l → ∀ u ∈ xs, ∀ g, u.ownBlock = some g → B ≤ g
  | [], [], _ => fun u hu => by cases hu
  | a :: v :: xs, _ :: _, ⟨h1, h2, _, h4⟩ => fun u hu g hg => by
    subst h1
    rcases List.mem_cons.1 hu with rfl | hu
    · simp [by8, Value.ownBlock] at hg
    · rcases List.mem_cons.1 hu with rfl | hu
      · exact (ow_ge h2 hg).1
      · exact Rws.ge h4 u hu g hg
  | [], _ :: _, h => h.elim
  | [_], _, h => by unfold Rws at h; exact h.elim
  | _ :: _ :: _, [], h => by unfold Rws at h; exact h.elim

namespace Fz
theorem lead_cons (s : Seg) (l : List Seg) (n : Nat) : lead (s :: l) n = if n = 0 ∧ Wk.confed s.1 = false then [] else if (takn s n).2.length < s.2.length then [takn s n] else takn s n :: lead l (n - wt1 (takn s n)) := rfl
theorem lead_len (l : List Seg) : ∀ n, (lead l n).length ≤ l.length := by
  induction l with
  | nil => exact fun _ => Nat.le_refl _
  | cons s l ih =>
    intro n
    rw [lead_cons]
    split
    · exact Nat.zero_le _
    · split
      · simp
      · rw [List.length_cons, List.length_cons]
        exact Nat.succ_le_succ (ih _)
theorem lead_le (k : Nat) (l : List Seg) : ∀ n, (∀ s ∈ l, s.2.length ≤ k) → ∀ s ∈ lead l n, s.2.length ≤ k := by
  induction l with
  | nil => exact fun _ _ s hs => by cases hs
  | cons t l ih =>
    intro n h s hs
    have ht : (takn t n).2.length ≤ k := Nat.le_trans (takn_sub (s := t) (n := n)).2.1 (h t (List.mem_cons_self ..))
    rw [lead_cons] at hs
    split at hs
    · cases hs
    · split at hs
      · obtain rfl := List.mem_singleton.1 hs
        exact ht
      · rcases List.mem_cons.1 hs with rfl | hs
        · exact ht
        · exact ih _ (fun x hx => h x (List.mem_cons_of_mem _ hx)) s hs
end Fz

set_option maxHeartbeats 1600000 in
theorem fuse_fuse (vp vq : Value) (p q : List Seg) (w : World) (hp : Pts w vp p) (hq : Pts w vq q) (hl : p.length ≤ 1000000) (hl2 : q.length ≤ 1000000) (hn : ∀ s ∈ p, s.2.length ≤ 1000000) (hn2 : ∀ s ∈ q, s.2.length ≤ 1000000) (hz : ∀ s ∈ plains q, s.2 ≠ []) :
    Calls Tryz.prog 33 #[vp, vq] w fun e w' => ∃ v', e = .returned v' ∧ Pown w' w.heap.size v' (Fz.fuse p q) ∧ Kept Nothing w w' := by
  obtain ⟨A, c, rfl, -, -⟩ := hp.form
  obtain ⟨A2, c2, rfl, -, -⟩ := hq.form
  have W1 := Lib.hid (fuse_wt _ p w hp hl hn)
  have W2 := Lib.hid (fun u (k : Kept Nothing w u) => fuse_wt _ q u (hq.old k) hl2 hn2)
  have hb1 : Fz.wt p ≤ 1000001000000 := Nat.le_trans (Fz.wt_le p 1000000 hn) (Nat.le_trans (Nat.mul_le_mul_right _ hl) (by omega))
  have hb2 : Fz.wt q ≤ 1000001000000 := Nat.le_trans (Fz.wt_le q 1000000 hn2) (Nat.le_trans (Nat.mul_le_mul_right _ hl2) (by omega))
  have HE : Hid (Fz.fuse p q = if Fz.wt p < Fz.wt q then p else Fz.joined (Fz.lead p (Fz.wt p - Fz.wt q)) (plains q)) := Lib.hid rfl
  have HCP := Lib.hid (fun u (k : Kept Nothing w u) => path_copy _ p u (hp.old k) hl hn)
  have HLD := Lib.hid (fun u (k : Kept Nothing w u) (h : Fz.wt p - Fz.wt q ≤ 100000000000000) => fuse_lead _ p (Fz.wt p - Fz.wt q) u (hp.old k) hl hn h)
  have HBR := Lib.hid (fun u (k : Kept Nothing w u) => fuse_bare _ q u (hq.old k) hl2 hn2)
  have HLN := Lib.hid (fun n => Fz.lead_len p n)
  have HLL := Lib.hid (fun n => Fz.lead_le 1000000 p n hn)
  have HPL := Lib.hid (fun s (hs : s ∈ plains q) => hn2 s (List.mem_filter.1 hs).1)
  have HZ := Lib.hid hz
  clear hp hq hn hn2 hz
  generalize Fz.wt p = a at *
  generalize Fz.wt q = b at *
  by_cases hlt : a < b
  · have hi : ((a : Int) - (b : Int)) < 0 := by omega
    rw [if_pos hlt] at HE
    go_enter Tryz.func33, Tryz.ntmps33
    go_wp2_with (first
      | (go_at_call 18; refine (HCP.out _ (K1.out.trans K2.out)).mono ?_; rintro e w3 ⟨v3, rfl, p3, k3⟩)
      | (go_at_call 36; refine (W2.out _ K1.out).mono ?_; rintro e w2 ⟨rfl, k2⟩; (have K2 := Lib.hid k2); clear k2)
      | (go_at_call 36; refine (W1.out).mono ?_; rintro e w1 ⟨rfl, k1⟩; (have K1 := Lib.hid k1); clear k1))
    go_ret
    exact ⟨_, rfl, by rw [HE.out]; exact p3.weak (K1.out.trans K2.out).size, (K1.out.trans K2.out).trans k3⟩
  · have hi : ¬ ((a : Int) - (b : Int)) < 0 := by omega
    have hi2 : (a : Int) - (b : Int) = ((a - b : Nat) : Int) := by omega
    rw [if_neg hlt] at HE
    replace HLD := Lib.hid (fun u k => HLD.out u k (by omega))
    generalize a - b = n at *
    have hpl := plains_len q
    go_enter Tryz.func33, Tryz.ntmps33
    go_wp2_with (first
      | (go_at_call 65; refine (fuse_joined w.heap.size _ _ (Fz.lead p n) (plains q) xs3 xs4 _ O3.out R3.out O4.out R4.out D4.out HNE.out K4.out.size (Nat.le_trans (HLN.out n) hl) (by omega) (fun s hs => (List.mem_append.1 hs).elim (HLL.out n s) (HPL.out s)) HZ.out).mono ?_; rintro e w5 ⟨v5, rfl, p5, k5⟩)
      | (go_at_call 35; refine (HBR.out _ K3.out).mono ?_; rintro e w4 ⟨v4, xs4, rfl, o4, r4, d4, k4⟩; (have O4 := Lib.hid (own_weakA o4 K3.out.size)); (have R4 := Lib.hid (r4.weak K3.out.size)); (have D4 := Lib.hid (show Dist (xs3 ++ xs4) from List.pairwise_append.2 ⟨D3.out, d4, fun u hu v hv g hg e => by have h1 := R3.out.lt u hu g hg; have h2 := r4.ge v hv g e; omega⟩)); (have HNE := Lib.hid (fun g (hg : (Value.ownBlock _ = some g)) (e : v4.ownBlock = some g) => show False by have h1 := (ow_ge O3.out hg).2; have h2 := (ow_ge o4 e).1; omega)); (obtain ⟨B4, cc4, rfl, _, _⟩ := ow_form o4); (replace O3 := Lib.hid (ow_kept O3.out k4 (fun _ _ x => x))); (replace R3 := Lib.hid (R3.out.old k4)); (have K4 := Lib.hid (K3.out.trans k4)); clear o4 r4 d4 k4)
      | (go_at_call 66; refine (HLD.out _ (K1.out.trans K2.out)).mono ?_; rintro e w3 ⟨v3, xs3, rfl, o3, r3, d3, k3⟩; (obtain ⟨B3, cc3, rfl, _, _⟩ := ow_form o3); (have O3 := Lib.hid (own_weakA o3 (K1.out.trans K2.out).size)); (have R3 := Lib.hid (r3.weak (K1.out.trans K2.out).size)); (have D3 := Lib.hid d3); (have K3 := Lib.hid ((K1.out.trans K2.out).trans k3)); clear o3 r3 d3 k3)
      | (go_at_call 36; refine (W2.out _ K1.out).mono ?_; rintro e w2 ⟨rfl, k2⟩; (have K2 := Lib.hid k2); clear k2)
      | (go_at_call 36; refine (W1.out).mono ?_; rintro e w1 ⟨rfl, k1⟩; (have K1 := Lib.hid k1); clear k1))
    go_ret
    exact ⟨_, rfl, by rw [HE.out]; exact p5, K4.out.trans_new k5 (fun i hi hk => by omega)⟩

set_option maxHeartbeats 1600000 in
theorem fuse_whole (vp vq : Value) (p q : List Seg) (b1 b2 b3 : Bool) (x y : Nat) (w : World) (hp : Pts w vp p) (hq : Pts w vq q) (hl : p.length ≤ 1000000) (hl2 : q.length ≤ 1000000) (hn : ∀ s ∈ p, s.2.length ≤ 1000000) (hn2 : ∀ s ∈ q, s.2.length ≤ 1000000) (hz : ∀ s ∈ plains q, s.2 ≠ []) :
    Calls Tryz.prog 34 #[.agg #[vp, vq, .bool b1, .bool b2, .bool b3, .int .u32 (x : Int), .int .u32 (y : Int)]] w fun e w' => ∃ v', e = .returned (.tuple #[v', .bool (Fz.whole p q b1 b2 b3 x).2]) ∧ Pown w' w.heap.size v' (Fz.whole p q b1 b2 b3 x).1 ∧ Kept Nothing w w' := by
  obtain ⟨A, c, rfl, -, -⟩ := hp.form
  obtain ⟨A2, c2, rfl, -, -⟩ := hq.form
  have HCP := Lib.hid (fun u (k : Kept Nothing w u) => path_copy _ p u (hp.old k) hl hn)
  have HFU := Lib.hid (fun u (k : Kept Nothing w u) => fuse_fuse _ _ p q u (hp.old k) (hq.old k) hl hl2 hn hn2 hz)
  have KA := Lib.hid ((Kept.refl Nothing w).alloc (.cells #[.slice A p.length c, .slice A2 q.length c2, .bool b1, .bool b2, .bool b3, .int .u32 (x : Int), .int .u32 (y : Int)] 66))
  have BX := Lib.hid (Blk.fresh w 66 #[.slice A p.length c, .slice A2 q.length c2, .bool b1, .bool b2, .bool b3, .int .u32 (x : Int), .int .u32 (y : Int)])
  have HE : Hid (Fz.whole p q b1 b2 b3 x = if !b1 || (b2 && b3 && !decide (x = 23456)) then (p, b2 && b3 && decide (x = 23456)) else (Fz.fuse p q, b2 && b3 && decide (x = 23456))) := Lib.hid rfl
  clear hp hq hn hn2 hz
  have hx1 : x = 23456 → ((x : Int) == 23456) = true := fun h => by simp; omega
  have hx2 : ¬ x = 23456 → ((x : Int) == 23456) = false := fun h => by simp; omega
  by_cases hx : x = 23456
  · have hb := hx1 hx
    rw [decide_eq_true hx] at HE
    clear hx1 hx2 hx
    cases b1 <;> cases b2 <;> cases b3
    all_goals
      simp at HE
      go_enter Tryz.func34, Tryz.ntmps34
      go_wp2_with (first
        | (go_at_call 18; refine (HCP.out _ KA.out).mono ?_; rintro e w3 ⟨v3, rfl, p3, k3⟩)
        | (go_at_call 33; refine (HFU.out _ KA.out).mono ?_; rintro e w3 ⟨v3, rfl, p3, k3⟩))
      go_ret2
      exact ⟨_, by rw [HE.out]; rfl, by rw [HE.out]; exact p3.weak KA.out.size, KA.out.trans k3⟩
  · have hb := hx2 hx
    rw [decide_eq_false hx] at HE
    clear hx1 hx2 hx
    cases b1 <;> cases b2 <;> cases b3
    all_goals
      simp at HE
      go_enter Tryz.func34, Tryz.ntmps34
      go_wp2_with (first
        | (go_at_call 18; refine (HCP.out _ KA.out).mono ?_; rintro e w3 ⟨v3, rfl, p3, k3⟩)
        | (go_at_call 33; refine (HFU.out _ KA.out).mono ?_; rintro e w3 ⟨v3, rfl, p3, k3⟩))
      go_ret2
      exact ⟨_, by rw [HE.out]; rfl, by rw [HE.out]; exact p3.weak KA.out.size, KA.out.trans k3⟩
end Go.Proofs.YthjljamngpddmaaGreatDoor
namespace Go.Proofs.YthjljamngpddmaaGreatDoor
open Go.RowKit Go.Shelf

set_option maxHeartbeats 800000 in
theorem read_any (l : List UInt8) (p : List Seg) (hpl : Pt.parseP l = (p, 0)) (ha : Asc l) (hl : l.length ≤ 90000) (w : World) (hr : Rdy2 w) (hs : Bkt w) :
    Calls Tryz.prog 41 #[.string ⟨l.toArray⟩] w fun e w' => ∃ rv, e = .returned rv ∧ Pown w' w.heap.size rv p ∧ Kept Nothing w w' := by
  have HP := Lib.hid (parseP_any l ha hl w hr hs)
  rw [hpl] at HP
  clear hpl ha hl hr hs
  replace HP : Hid (Calls Tryz.prog 27 #[.string ⟨l.toArray⟩] w fun e w' => ∃ rv, e = .returned (.tuple #[rv, .int .i64 0]) ∧ Pown w' w.heap.size rv p ∧ Kept Nothing w w') := HP
  go_enter Tryz.func41, Tryz.ntmps41
  go_wp2_with (go_at_call 27; refine (HP.out).mono ?_; rintro e w2 ⟨rv, rfl, p2, k2⟩)
  go_ret
  exact ⟨_, rfl, p2, k2⟩

namespace Fz
def wk : Nat → List UInt8 × List UInt8 × List UInt8
  | 0 => ([53, 32, 49, 48, 32, 50, 51, 52, 53, 54], [49, 48, 32, 55, 48, 48, 48, 48], [53, 32, 49, 48, 32, 55, 48, 48, 48, 48])
  | 1 => ([50, 51, 52, 53, 54], [49, 48, 32, 55, 48, 48, 48, 48], [50, 51, 52, 53, 54])
  | 2 => ([40, 55, 41, 32, 53, 32, 50, 51, 52, 53, 54], [55, 48, 48, 48, 48], [40, 55, 41, 32, 53, 32, 55, 48, 48, 48, 48])
  | _ => ([53, 32, 123, 49, 44, 50, 125, 32, 50, 51, 52, 53, 54], [123, 49, 44, 50, 125, 32, 55, 48, 48, 48, 48], [53, 32, 123, 49, 44, 50, 125, 32, 55, 48, 48, 48, 48])
def wp : Nat → List Seg × List Seg
  | 0 => ([(2, [5, 10, 23456])], [(2, [10, 70000])])
  | 1 => ([(2, [23456])], [(2, [10, 70000])])
  | 2 => ([(3, [7]), (2, [5, 23456])], [(2, [70000])])
  | _ => ([(2, [5]), (1, [1, 2]), (2, [23456])], [(1, [1, 2]), (2, [70000])])
theorem wk_parse (k : Nat) (hk : k < 4) : Pt.parseP (wk k).1 = ((wp k).1, 0) ∧ Pt.parseP (wk k).2.1 = ((wp k).2, 0) := by
  obtain rfl | rfl | rfl | rfl : k = 0 ∨ k = 1 ∨ k = 2 ∨ k = 3 := by omega
  all_goals exact ⟨by rfl, by rfl⟩
def wf : Nat → List Seg
  | 0 => [(2, [5, 10, 70000])]
  | 1 => [(2, [23456])]
  | 2 => [(3, [7]), (2, [5, 70000])]
  | _ => [(2, [5]), (1, [1, 2]), (2, [70000])]
theorem wk_fuse (k : Nat) (hk : k < 4) : fuse (wp k).1 (wp k).2 = wf k := by
  obtain rfl | rfl | rfl | rfl : k = 0 ∨ k = 1 ∨ k = 2 ∨ k = 3 := by omega
  all_goals rfl
theorem e1 : Lib.decDigits 1 = [49] := by rw [dec_small (by decide)]; rfl
theorem e2 : Lib.decDigits 2 = [50] := by rw [dec_small (by decide)]; rfl
theorem e5 : Lib.decDigits 5 = [53] := by rw [dec_small (by decide)]; rfl
theorem e7 : Lib.decDigits 7 = [55] := by rw [dec_small (by decide)]; rfl
theorem e10 : Lib.decDigits 10 = [49, 48] := by rw [dec_step (by decide), dec_small (by decide)]; rfl
theorem e70000 : Lib.decDigits 70000 = [55, 48, 48, 48, 48] := by rw [dec_step (by decide), dec_step (by decide), dec_step (by decide), dec_step (by decide), dec_small (by decide)]; rfl
theorem e23456 : Lib.decDigits 23456 = [50, 51, 52, 53, 54] := by rw [dec_step (by decide), dec_step (by decide), dec_step (by decide), dec_step (by decide), dec_small (by decide)]; rfl
theorem wk_text (k : Nat) (hk : k < 4) : Pt.text (wf k) = (wk k).2.2 := by
  obtain rfl | rfl | rfl | rfl : k = 0 ∨ k = 1 ∨ k = 2 ∨ k = 3 := by omega
  · show Pt.tx [(2, [5, 10, 70000])] 1 = [53, 32, 49, 48, 32, 55, 48, 48, 48, 48]
    simp [Pt.tx, Pt.ahead, Pt.segT, Pt.opens, Pt.betw, Pt.ends, e5, e10, e70000, Lib.join, List.intercalate, List.intersperse]
  · show Pt.tx [(2, [23456])] 1 = [50, 51, 52, 53, 54]
    simp [Pt.tx, Pt.ahead, Pt.segT, Pt.opens, Pt.betw, Pt.ends, e23456, Lib.join, List.intercalate]
  · show Pt.tx [(3, [7]), (2, [5, 70000])] 2 = [40, 55, 41, 32, 53, 32, 55, 48, 48, 48, 48]
    simp [Pt.tx, Pt.ahead, Pt.gap, Pt.segT, Pt.opens, Pt.betw, Pt.ends, e5, e7, e70000, Lib.join, List.intercalate, List.intersperse]
  · show Pt.tx [(2, [5]), (1, [1, 2]), (2, [70000])] 3 = [53, 32, 123, 49, 44, 50, 125, 32, 55, 48, 48, 48, 48]
    simp [Pt.tx, Pt.ahead, Pt.gap, Pt.segT, Pt.opens, Pt.betw, Pt.ends, e1, e2, e5, e70000, Lib.join, List.intercalate, List.intersperse]
end Fz

/-- Four calls: both read, fused, told. -/
theorem row_calls (w : World) (hr : Rdy2 w) (hs : Bkt w) (a b c : List UInt8) (p q f : List Seg) (ha : Asc a) (hb : Asc b) (hla : a.length ≤ 90000) (hlb : b.length ≤ 90000) (hpa : Pt.parseP a = (p, 0)) (hpb : Pt.parseP b = (q, 0))
    (hl : p.length ≤ 1000000) (hl2 : q.length ≤ 1000000) (hn : ∀ s ∈ p, s.2.length ≤ 1000000) (hn2 : ∀ s ∈ q, s.2.length ≤ 1000000) (hz : ∀ s ∈ plains q, s.2 ≠ []) (hf : Fz.fuse p q = f) (hc : Pt.text f = c) (hfl : f.length ≤ 1000000) :
    (∀ u, Kept Nothing w u → Calls Tryz.prog 41 #[.string ⟨a.toArray⟩] u fun e w' => ∃ rv, e = .returned rv ∧ Pts w' rv p ∧ Kept Nothing u w') ∧
    (∀ u, Kept Nothing w u → Calls Tryz.prog 41 #[.string ⟨b.toArray⟩] u fun e w' => ∃ rv, e = .returned rv ∧ Pts w' rv q ∧ Kept Nothing u w') ∧
    (∀ x y u, Pts u x p → Pts u y q → Calls Tryz.prog 33 #[x, y] u fun e w' => ∃ rv, e = .returned rv ∧ Pts w' rv f ∧ Kept Nothing u w') ∧
    (∀ x u, Kept Nothing w u → Pts u x f → Calls Tryz.prog 21 #[x] u fun e w' => e = .returned (.string ⟨c.toArray⟩) ∧ Kept Nothing u w') := by
  refine ⟨fun u k => (read_any a p hpa ha hla u (hr.kept k) (hs.kept k)).mono ?_, fun u k => (read_any b q hpb hb hlb u (hr.kept k) (hs.kept k)).mono ?_, fun x y u h1 h2 => (fuse_fuse x y p q u h1 h2 hl hl2 hn hn2 hz).mono ?_, fun x u k h => (path_text x f u h hfl (hr.kept k).1 (hs.kept k)).mono ?_⟩
  · rintro e w' ⟨rv, rfl, h, k⟩
    exact ⟨rv, rfl, h.pts, k⟩
  · rintro e w' ⟨rv, rfl, h, k⟩
    exact ⟨rv, rfl, h.pts, k⟩
  · rintro e w' ⟨rv, rfl, h, k⟩
    rw [hf] at h
    exact ⟨rv, rfl, h.pts, k⟩
  · rintro e w' ⟨rfl, k⟩
    rw [hc]
    exact ⟨rfl, k⟩
end Go.Proofs.YthjljamngpddmaaGreatDoor
