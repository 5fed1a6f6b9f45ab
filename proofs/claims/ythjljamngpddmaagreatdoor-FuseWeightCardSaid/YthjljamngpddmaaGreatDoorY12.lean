
/-
  Package fuse as plain data.
-/
import Derived.Test.YthjljamngpddmaaGreatDoorY09
import Derived.Test.YthjljamngpddmaaGreatDoorY11
import Derived.Test.YthjljamngpddmaaGreatDoorY10
import Derived.Test.YthjljamngpddmaaGreatDoorY05
namespace Go.Proofs.YthjljamngpddmaaGreatDoor
open Go.RowKit

theorem Pt.may_len {l : List Seg} (h : Pt.may l = true) : l.length ≤ 32 ∧ ∀ s ∈ l, s.2.length ≤ 255 := by
  unfold Pt.may at h
  rw [Bool.and_eq_true, List.all_eq_true] at h
  refine ⟨by simpa using h.2, fun s hs => ?_⟩
  have := h.1 s hs
  unfold Pt.may1 at this
  simp only [Bool.and_eq_true, decide_eq_true_eq] at this
  exact this.2
theorem Pt.not_wide {l : List Seg} (h : Pt.hasW l = false) : ∀ s ∈ l, ∀ n ∈ s.2, n < 65536 := by
  intro s hs n hn
  unfold Pt.hasW at h
  rw [List.any_eq_false] at h
  have := h (s.1, n) (by unfold Pt.all; exact List.mem_flatMap.2 ⟨s, hs, List.mem_map.2 ⟨n, hn, rfl⟩⟩)
  simp at this
  omega

theorem wr_done_own (p : Nat) (F : Nat → Prop) (s : WS) (w : World) (h : Wr w F p s) (he : s.e = 0) (h0 : s.hs = []) :
    Calls Tryz.prog 46 #[.pointer (some ⟨p, 0, none⟩)] w fun r w' => ∃ v, r = .returned (.tuple #[v, .int .i64 s.done.2]) ∧ w'.ownsRow w.heap.size 5 1 v s.done.1.length (bys s.done.1) ∧ Kept Nothing w w' := by
  have hE := Lib.hid (wr_err p F s w h)
  have hn : (s.e != 0) = false := by simpa using he
  have hmx := h.ok.2.1
  obtain ⟨bv, hv, _, hb, h1, h2, hok⟩ := h
  obtain ⟨⟨-, c1, c2, -⟩, -⟩ := cells4 hb
  obtain ⟨A0, cc0, rfl, _, _⟩ := own_form h1
  obtain ⟨A1, cc1, rfl, _, _⟩ := own_form h2
  have HF : Hid (s.done = (s.l, 0)) := by show _ = _; unfold WS.done; rw [if_pos he, if_pos h0]
  rw [HF.out]
  have HC := Lib.hid (sl_clone _ s.l w (Bs.of_own h1).by hmx)
  rw [h0] at c2
  simp only [List.length_nil] at c2
  clear HF he h0 hb h1 h2 hok
  go_enter Tryz.func46, Tryz.ntmps46
  go_wp2_with fail
  refine hE.out.mono ?_
  rintro e w' ⟨rfl, rfl⟩
  go_wp2_with fail
  refine HC.out.mono ?_
  rintro e w1 ⟨v, rfl, ho, hk⟩
  have HO := Lib.hid ho
  clear ho
  go_wp2
  go_ret2
  exact ⟨v, rfl, HO.out, hk⟩

set_option maxHeartbeats 1600000 in
theorem path_bytes (v : Value) (l : List Seg) (wide : Bool) (w : World) (h : Pts w v l) (hl : l.length ≤ 1000000) (hn : ∀ s ∈ l, s.2.length ≤ 1000000) :
    Calls Tryz.prog 11 #[v, .bool wide] w fun e w' => ∃ u, e = .returned (.tuple #[u, .int .i64 ((Pt.bytes l wide).2 : Int)]) ∧ w'.ownsRow w.heap.size 5 1 u (Pt.bytes l wide).1.length (bys (Pt.bytes l wide).1) ∧ Kept Nothing w w' := by
  obtain ⟨A, c, rfl, hc, hm⟩ := h.form
  have HM := Lib.hid (path_may _ l w h (by omega))
  have HW := Lib.hid (fun w' (k : Kept Nothing w w') => path_hasWide _ l w' (h.old k) hl hn)
  have HV := Lib.hid h
  clear h
  cases hmay : Pt.may l with
  | false =>
    have HB : Hid (Pt.bytes l wide = ([], 1)) := Lib.hid (by unfold Pt.bytes; rw [if_pos hmay])
    rw [hmay] at HM
    clear hmay HW HV hn
    rw [HB.out]
    go_enter Tryz.func11, Tryz.ntmps11
    go_wp2_with (go_at_call 14; refine (HM.out).mono ?_; rintro e w1 ⟨rfl, k1⟩)
    go_ret2
    exact ⟨_, rfl, World.ownsRow_nil _ _ _ _, k1⟩
  | true =>
    obtain ⟨hl32, hn255⟩ := Pt.may_len hmay
    have HBE : Hid ((!wide && Pt.hasW l) = true → Pt.bytes l wide = ([], 24)) := Lib.hid (fun e => by unfold Pt.bytes; rw [if_neg (by rw [hmay]; simp), if_pos e])
    have HBF : Hid ((!wide && Pt.hasW l) = false → Pt.bytes l wide = (Pt.form wide l, 0)) := Lib.hid (fun e => by unfold Pt.bytes; rw [if_neg (by rw [hmay]; simp), if_neg (by rw [e]; simp)])
    have HNW : Hid ((!wide && Pt.hasW l) = false → wide = false → ∀ s ∈ l, ∀ n ∈ s.2, n < 65536) := Lib.hid (fun e1 e2 => Pt.not_wide (by rw [e2] at e1; simpa using e1))
    rw [hmay] at HM
    have HN := Lib.hid hn255
    clear hmay hn hn255
    generalize Pt.hasW l = hw at *
    by_cases hwb : (!wide && hw) = true
    · have HB := Lib.hid (HBE.out hwb)
      rw [Bool.and_eq_true] at hwb
      obtain ⟨h1, rfl⟩ := hwb
      obtain rfl : wide = false := by simpa using h1
      clear h1 HBE HBF HNW HV
      rw [HB.out]
      go_enter Tryz.func11, Tryz.ntmps11
      go_wp2_with (first | (go_at_call 14; refine (HM.out).mono ?_; rintro e w1 ⟨rfl, k1⟩) | (go_at_call 43; refine (HW.out _ k1).mono ?_; rintro e w2 ⟨rfl, k2⟩))
      go_ret2
      exact ⟨_, rfl, World.ownsRow_nil _ _ _ _, k1.trans k2⟩
    · have hwf : (!wide && hw) = false := by simpa using hwb
      have HB := Lib.hid (HBF.out hwf)
      have HX := Lib.hid (HNW.out hwf)
      rw [HB.out]
      clear hwb HBE HBF HNW
      cases wide with
      | true =>
        go_enter Tryz.func11, Tryz.ntmps11
        go_upto_region 5 with (go_at_call 14; refine (HM.out).mono ?_; rintro e w1 ⟨rfl, k1⟩)
        go_wp2_with fail
        refine (wr_lay _).mono ?_
        rintro e w3 ⟨p, F, rfl, hW3, k3, s3⟩
        have L3 : Hid (LayPost w p ((⟨[], [], 0⟩ : WS).lay (Pt.form true (l.take 0))) w3) := Lib.hid (by
          rw [List.take_zero, Pt.form_nil, WS.lay_nil]
          exact ⟨F, hW3, k1.trans k3, fun g hg => by
            rcases s3 g hg with x | x
            · exact x.elim
            · have := k1.size; omega⟩)
        clear hW3 k3 s3
        go_wp2_with fail
        go_loopw [21] (fun i wr => ∃ k : Nat, i = .int .i64 (k : Int) ∧ k ≤ l.length ∧ Hid (LayPost w p ((⟨[], [], 0⟩ : WS).lay (Pt.form true (l.take k))) wr)) (fun i _ => l.length - (intOf i).toNat)
        case atStart => exact ⟨0, rfl, Nat.zero_le _, L3⟩
        case round =>
          clear L3
          obtain ⟨k, rfl, hk, HL⟩ := hrel
          by_cases hlt : k < l.length
          · have hkk : Kept Nothing w wr := by obtain ⟨_, _, hk3, _⟩ := HL.out; exact hk3
            obtain ⟨b, o, Au, cu, rfl, p0, p1, hp⟩ := HV.out.at2 hlt
            have q0 := hkk.cell_some p0 (fun x => x)
            have q1 := hkk.cell_some p1 (fun x => x)
            have i1 : (0 : Int) ≤ (k : Int) := by omega
            have i2 : (k : Int) < (l.length : Int) := by omega
            have hmem : l.getD k (0, []) ∈ l := by rw [getD_get hlt]; exact List.getElem_mem _
            have hsn := HN.out _ hmem
            have HXS := Lib.hid (fun e => HX.out e _ hmem)
            have ET : Hid (l.take (k + 1) = l.take k ++ [l.getD k (0, [])]) := Lib.hid (by rw [List.take_succ_eq_append_getElem hlt, getD_get hlt])
            have hsl : ((⟨[], [], 0⟩ : WS).lay (Pt.form true (l.take k))).l.length ≤ 160000 := by
              have h1 := WS.lay_len (⟨[], [], 0⟩ : WS) (Pt.form true (l.take k))
              have h2 := Pt.length_form true (l.take k) (fun s hs => by have := HN.out s (List.mem_of_mem_take hs); omega)
              rw [List.length_take] at h2
              simp only [List.length_nil] at h1
              omega
            have EL : Hid (∀ s, ((⟨[], [], 0⟩ : WS).lay (Pt.form true (l.take k))).lay (Pt.seg true s) = (⟨[], [], 0⟩ : WS).lay (Pt.form true (l.take k ++ [s]))) := Lib.hid (fun s => by rw [WS.lay_lay, ← Pt.form_snoc])
            generalize (⟨[], [], 0⟩ : WS).lay (Pt.form true (l.take k)) = s2 at *
            generalize hsg : l.getD k (0, []) = sg at *
            obtain ⟨sk, sn⟩ := sg
            clear hsg hmem p0 p1 hkk
            simp only at q0 q1 hsn
            have HP := Lib.hid hp
            have HSL := Lib.hid hsl
            have LA : LayPost w p s2 (wr.alloc (.cells #[.int .u8 (sk.toNat : Int), .slice Au sn.length cu] 72)) := by
              obtain ⟨F3, h1, h2, h3⟩ := HL.out
              exact ⟨F3, h1.kept ((Kept.refl Nothing wr).alloc _) (fun _ _ x => x), h2.alloc _, h3⟩
            have CL := Lib.hid (seg_lay w sk.toNat sk.toNat_lt (.slice Au sn.length cu) sn HP.out true (fun e => HXS.out (by first | exact e | trivial)) p s2 _ LA (by omega))
            rw [show UInt8.ofNat sk.toNat = sk from UInt8.ofNat_toNat] at CL
            clear LA HL hp hsl
            go_wp2_with (go_at_call 45; refine (CL.out).mono ?_; rintro e w4 ⟨u4, rfl, hL4⟩)
            go_roundw
            case rel =>
              refine ⟨k + 1, by go_num, by omega, Lib.hid ?_⟩
              rw [ET.out, ← EL.out]
              exact hL4
            case measure => simp [intOf]; omega
          · obtain rfl : k = l.length := by omega
            rw [List.take_of_length_le (Nat.le_refl _)] at HL
            obtain ⟨F3, hW3, hk3, hF3⟩ := HL.out
            have hD := wr_done_own p F3 _ wr hW3 rfl rfl
            have ED : ((⟨[], [], 0⟩ : WS).lay (Pt.form true l)).done = (Pt.form true l, 0) := by simp [WS.lay, WS.done]
            rw [ED] at hD
            have HD := Lib.hid hD
            have K3 := Lib.hid hk3
            clear hD ED HL hW3 hk3 hF3
            go_wp2_with (go_at_call 46; refine (HD.out).mono ?_; rintro e w5 ⟨v5, rfl, hb5, hk5⟩)
            go_ret2
            exact ⟨_, rfl, own_weakA hb5 K3.out.size, K3.out.trans hk5⟩
      | false =>
        obtain rfl : hw = false := by simpa using hwf
        go_enter Tryz.func11, Tryz.ntmps11
        go_upto_region 5 with (first | (go_at_call 14; refine (HM.out).mono ?_; rintro e w1 ⟨rfl, k1⟩) | (go_at_call 43; refine (HW.out _ k1).mono ?_; rintro e w2 ⟨rfl, k2⟩; replace k1 := k1.trans k2))
        go_wp2_with fail
        refine (wr_lay _).mono ?_
        rintro e w3 ⟨p, F, rfl, hW3, k3, s3⟩
        have L3 : Hid (LayPost w p ((⟨[], [], 0⟩ : WS).lay (Pt.form false (l.take 0))) w3) := Lib.hid (by
          rw [List.take_zero, Pt.form_nil, WS.lay_nil]
          exact ⟨F, hW3, k1.trans k3, fun g hg => by
            rcases s3 g hg with x | x
            · exact x.elim
            · have := k1.size; omega⟩)
        clear hW3 k3 s3
        go_wp2_with fail
        go_loopw [21] (fun i wr => ∃ k : Nat, i = .int .i64 (k : Int) ∧ k ≤ l.length ∧ Hid (LayPost w p ((⟨[], [], 0⟩ : WS).lay (Pt.form false (l.take k))) wr)) (fun i _ => l.length - (intOf i).toNat)
        case atStart => exact ⟨0, rfl, Nat.zero_le _, L3⟩
        case round =>
          clear L3
          obtain ⟨k, rfl, hk, HL⟩ := hrel
          by_cases hlt : k < l.length
          · have hkk : Kept Nothing w wr := by obtain ⟨_, _, hk3, _⟩ := HL.out; exact hk3
            obtain ⟨b, o, Au, cu, rfl, p0, p1, hp⟩ := HV.out.at2 hlt
            have q0 := hkk.cell_some p0 (fun x => x)
            have q1 := hkk.cell_some p1 (fun x => x)
            have i1 : (0 : Int) ≤ (k : Int) := by omega
            have i2 : (k : Int) < (l.length : Int) := by omega
            have hmem : l.getD k (0, []) ∈ l := by rw [getD_get hlt]; exact List.getElem_mem _
            have hsn := HN.out _ hmem
            have HXS := Lib.hid (fun e => HX.out e _ hmem)
            have ET : Hid (l.take (k + 1) = l.take k ++ [l.getD k (0, [])]) := Lib.hid (by rw [List.take_succ_eq_append_getElem hlt, getD_get hlt])
            have hsl : ((⟨[], [], 0⟩ : WS).lay (Pt.form false (l.take k))).l.length ≤ 160000 := by
              have h1 := WS.lay_len (⟨[], [], 0⟩ : WS) (Pt.form false (l.take k))
              have h2 := Pt.length_form false (l.take k) (fun s hs => by have := HN.out s (List.mem_of_mem_take hs); omega)
              rw [List.length_take] at h2
              simp only [List.length_nil] at h1
              omega
            have EL : Hid (∀ s, ((⟨[], [], 0⟩ : WS).lay (Pt.form false (l.take k))).lay (Pt.seg false s) = (⟨[], [], 0⟩ : WS).lay (Pt.form false (l.take k ++ [s]))) := Lib.hid (fun s => by rw [WS.lay_lay, ← Pt.form_snoc])
            generalize (⟨[], [], 0⟩ : WS).lay (Pt.form false (l.take k)) = s2 at *
            generalize hsg : l.getD k (0, []) = sg at *
            obtain ⟨sk, sn⟩ := sg
            clear hsg hmem p0 p1 hkk
            simp only at q0 q1 hsn
            have HP := Lib.hid hp
            have HSL := Lib.hid hsl
            have LA : LayPost w p s2 (wr.alloc (.cells #[.int .u8 (sk.toNat : Int), .slice Au sn.length cu] 72)) := by
              obtain ⟨F3, h1, h2, h3⟩ := HL.out
              exact ⟨F3, h1.kept ((Kept.refl Nothing wr).alloc _) (fun _ _ x => x), h2.alloc _, h3⟩
            have CL := Lib.hid (seg_lay w sk.toNat sk.toNat_lt (.slice Au sn.length cu) sn HP.out false (fun e => HXS.out (by first | exact e | trivial)) p s2 _ LA (by omega))
            rw [show UInt8.ofNat sk.toNat = sk from UInt8.ofNat_toNat] at CL
            clear LA HL hp hsl
            go_wp2_with (go_at_call 45; refine (CL.out).mono ?_; rintro e w4 ⟨u4, rfl, hL4⟩)
            go_roundw
            case rel =>
              refine ⟨k + 1, by go_num, by omega, Lib.hid ?_⟩
              rw [ET.out, ← EL.out]
              exact hL4
            case measure => simp [intOf]; omega
          · obtain rfl : k = l.length := by omega
            rw [List.take_of_length_le (Nat.le_refl _)] at HL
            obtain ⟨F3, hW3, hk3, hF3⟩ := HL.out
            have hD := wr_done_own p F3 _ wr hW3 rfl rfl
            have ED : ((⟨[], [], 0⟩ : WS).lay (Pt.form false l)).done = (Pt.form false l, 0) := by simp [WS.lay, WS.done]
            rw [ED] at hD
            have HD := Lib.hid hD
            have K3 := Lib.hid hk3
            clear hD ED HL hW3 hk3 hF3
            go_wp2_with (go_at_call 46; refine (HD.out).mono ?_; rintro e w5 ⟨v5, rfl, hb5, hk5⟩)
            go_ret2
            exact ⟨_, rfl, own_weakA hb5 K3.out.size, K3.out.trans hk5⟩
end Go.Proofs.YthjljamngpddmaaGreatDoor
namespace Go.Proofs.YthjljamngpddmaaGreatDoor
open Go.RowKit

theorem wk1 : Pt.parseP [49, 48, 32, 50, 48, 32, 123, 51, 48, 44, 52, 48, 125] = ([(2, [10, 20]), (1, [30, 40])], 0) := by rfl
theorem wk1b : Pt.bytes [(2, [10, 20]), (1, [30, 40])] false = ([2, 2, 0, 10, 0, 20, 1, 2, 0, 30, 0, 40], 0) := by rfl
theorem wk2 : Pt.parseP [40, 54, 53, 48, 48, 49, 32, 54, 53, 48, 48, 50, 41, 32, 49, 48] = ([(3, [65001, 65002]), (2, [10])], 0) := by rfl
theorem wk3 : Pt.parseP [49, 32, 124, 32, 50] = ([(2, [1]), (2, [2])], 0) := by rfl
theorem wk4 : Pt.parseP [91, 55, 93] = ([(4, [7])], 0) := by rfl
theorem wk5 : Pt.parseP [45] = ([], 0) := by rfl

theorem made_by {w : World} {cs : Array Value} {l : List UInt8} {n : Nat} (hn : w.heap.size = n) (hl : cs.toList = bys l) (hm : l.length ≤ maxLen) : By (w.alloc (.cells cs 5)) (.slice (some ⟨n, 0, none⟩) l.length l.length) l := by
  subst hn
  exact (Bs.made (Blk.fresh w 5 cs) hl hm).by
theorem made_blk {w : World} {cs : Array Value} {t : TypeId} {n : Nat} (hn : w.heap.size = n) : Blk (w.alloc (.cells cs t)) n t cs := by
  subst hn
  exact Blk.fresh w t cs

theorem asc_of {l : List UInt8} (h : l.all (fun b => b.toNat < 128) = true) : Asc l := fun b hb => by
  have := List.all_eq_true.1 h b hb
  simpa using this

set_option maxRecDepth 20000 in
set_option maxHeartbeats 4000000 in
theorem wakes_true (w : World) (hr : Rdy2 w) (hs : Bkt w) :
    Calls Tryz.prog 24 #[] w fun e w' => e = .returned (.bool true) ∧ Kept Nothing w w' := by
  have H1 := Lib.hid (parseP_any [49, 48, 32, 50, 48, 32, 123, 51, 48, 44, 52, 48, 125] (asc_of rfl) (by simp))
  have H2 := Lib.hid (parseP_any [40, 54, 53, 48, 48, 49, 32, 54, 53, 48, 48, 50, 41, 32, 49, 48] (asc_of rfl) (by simp))
  have H3 := Lib.hid (parseP_any [49, 32, 124, 32, 50] (asc_of rfl) (by simp))
  have H4 := Lib.hid (parseP_any [91, 55, 93] (asc_of rfl) (by simp))
  have H5 := Lib.hid (parseP_any [45] (asc_of rfl) (by simp))
  have HB := Lib.hid (fun v w (h : Pts w v [(2, [10, 20]), (1, [30, 40])]) => path_bytes v _ false w h (by simp) (by simp))
  rw [wk1] at H1
  rw [wk2] at H2
  rw [wk3] at H3
  rw [wk4] at H4
  rw [wk5] at H5
  rw [wk1b] at HB
  have HR := Lib.hid hr
  have HS := Lib.hid hs
  clear hr hs
  go_enter Tryz.func24, Tryz.ntmps24
  go_upto_region 2 with (go_at_call 27; refine (H1.out _ HR.out HS.out).mono ?_; rintro e w1 ⟨v1, rfl, p1, k1⟩; (have P1 := Lib.hid p1); (have R1 := Lib.hid (HR.out.kept k1)); (have S1 := Lib.hid (HS.out.kept k1)); (have K1 := Lib.hid k1); clear p1 k1)
  go_upto_region 3 with (go_at_call 11; refine (HB.out _ _ P1.out.pts).mono ?_; rintro e w2 ⟨v2, rfl, b2, k2⟩; (replace b2 := Bs.of_own b2); (have B2 := Lib.hid b2); (have R2 := Lib.hid (R1.out.kept k2)); (have S2 := Lib.hid (S1.out.kept k2)); (have K2 := Lib.hid k2); clear b2 k2)
  go_upto_region 4 with (go_at_call 27; refine (H2.out _ R2.out S2.out).mono ?_; rintro e w3 ⟨v3, rfl, p3, k3⟩; (have P3 := Lib.hid p3); (have R3 := Lib.hid (R2.out.kept k3)); (have S3 := Lib.hid (S2.out.kept k3)); (have K3 := Lib.hid k3); clear p3 k3)
  go_upto_region 5 with (go_at_call 27; refine (H3.out _ R3.out S3.out).mono ?_; rintro e w4 ⟨v4, rfl, p4, k4⟩; (have P4 := Lib.hid p4); (have R4 := Lib.hid (R3.out.kept k4)); (have S4 := Lib.hid (S3.out.kept k4)); (have K4 := Lib.hid k4); clear p4 k4)
  go_upto_region 6 with (go_at_call 27; refine (H4.out _ R4.out S4.out).mono ?_; rintro e w5 ⟨v5, rfl, p5, k5⟩; (have P5 := Lib.hid p5); (have R5 := Lib.hid (R4.out.kept k5)); (have S5 := Lib.hid (S4.out.kept k5)); (have K5 := Lib.hid k5); clear p5 k5)
  have K36 := Lib.hid (K4.out.trans K5.out)
  obtain ⟨A3, c3, rfl, -, -⟩ := P3.out.pts.form
  obtain ⟨A4, c4, rfl, -, -⟩ := P4.out.pts.form
  obtain ⟨A5, c5, rfl, -, -⟩ := P5.out.pts.form
  obtain ⟨b3, o3, _, _, rfl, x30, -, -⟩ := P3.out.pts.at2 (i := 0) (by simp)
  obtain ⟨b3', o3', _, _, e3, x31, -, -⟩ := P3.out.pts.at2 (i := 1) (by simp)
  obtain ⟨rfl, rfl⟩ : b3 = b3' ∧ o3 = o3' := by simpa using e3
  obtain ⟨b5, o5, _, _, rfl, x50, -, -⟩ := P5.out.pts.at2 (i := 0) (by simp)
  replace x30 := K36.out.cell_some x30 (fun x => x)
  replace x31 := K36.out.cell_some x31 (fun x => x)
  have X30 : Hid (w5.cell? ⟨b3, o3, none⟩ = some (.int .u8 3)) := Lib.hid x30
  have X31 : Hid (w5.cell? ⟨b3, o3 + 2, none⟩ = some (.int .u8 2)) := Lib.hid x31
  have X50 : Hid (w5.cell? ⟨b5, o5, none⟩ = some (.int .u8 4)) := Lib.hid x50
  have B5 := Lib.hid (B2.out.kept (K3.out.trans (K4.out.trans K5.out)) (NoBytes.nothing _))
  have KA := Lib.hid (K1.out.trans (K2.out.trans (K3.out.trans (K4.out.trans K5.out))))
  clear x30 x31 x50 P1 P3 P4 P5 B2 K1 K2 K3 K4 K5 K36 R1 R2 R3 R4 S1 S2 S3 S4 H1 H2 H3 H4 HB HR HS e3
  go_wp2_with (first
    | (go_at_call 27; refine (H5.out _ R5.out S5.out).mono ?_; rintro e w6 ⟨v6, rfl, p6, k6⟩; (obtain ⟨A6, c6, rfl, -, -⟩ := p6.pts.form); (have KZ := Lib.hid k6); (have B6 := Lib.hid (B5.out.kept k6 (NoBytes.nothing _))); (have K6 := Lib.hid (KA.out.trans k6)); clear p6 k6)
    | (go_at_call 13; refine (by_equal _ _ [2, 2, 0, 10, 0, 20, 1, 2, 0, 30, 0, 40] [2, 2, 0, 10, 0, 20, 1, 2, 0, 30, 0, 40] _ (B6.out.kept ((Kept.refl Nothing _).alloc _) (NoBytes.nothing _)).by (made_by (l := [2, 2, 0, 10, 0, 20, 1, 2, 0, 30, 0, 40]) rfl rfl (by simp [maxLen]))).mono ?_; rintro e w7 ⟨rfl, e7⟩; (have K7 : Hid (Kept Nothing w6 w7) := Lib.hid (by rw [← e7]; exact (Kept.refl Nothing _).alloc _)); (have y30 := (KZ.out.trans K7.out).cell_some X30.out (fun x => x)); (have y31 := (KZ.out.trans K7.out).cell_some X31.out (fun x => x)); (have y50 := (KZ.out.trans K7.out).cell_some X50.out (fun x => x)); clear e7))
  go_ret
  exact ⟨rfl, K6.out.trans K7.out⟩
end Go.Proofs.YthjljamngpddmaaGreatDoor
namespace Go.Proofs.YthjljamngpddmaaGreatDoor
open Go.RowKit

section
variable {P : Program} (w : World)
/-- As run_app; and what the elder value reads stays. -/
theorem run_app2 (base : Nat) (t ty e : TypeId) (i : TypeInfo) (z : Value) (size bytes : Nat) (ht : P.underlying t = some (.slice e)) (hi : P.info? e = some i) (hz : i.zero = some z)
    (hsize : i.size = size) (hby : i.bytes = bytes) (hzs : z.cells.size = size) (hsz : 0 < size)
    (v : Value) (n : Nat) (xs : List Value) (hown : w.ownsRow base e size v n xs)
    (A : Option Addr) (m c : Nat) (news : List Value) (hs : Src w size A m news)
    (h63 : n + m ≤ maxLen) (hbytes : (n + m) * bytes ≤ 140737488355328) (hbase : base ≤ w.heap.size) :
    ∃ v' w', (Builtin.append_ #[t, t] ty #[v, .slice A m c]).run P w = .ok v' w' ∧ w'.ownsRow base e size v' (n + m) (xs ++ news) ∧ w.grownBy w' v.ownBlock ∧
      (v'.ownBlock = v.ownBlock ∨ v'.ownBlock = some w.heap.size) ∧ (∀ g, v.ownBlock = some g → ∀ j u, xs[j]? = some u → w'.cell? ((⟨g, 0, none⟩ : Addr).add j) = some u) := by
  obtain ⟨v', w', hr, h2, h3, h4⟩ := run_app (P := P) w base t ty e i z size bytes ht hi hz hsize hby hzs hsz v n xs hown A m c news hs h63 hbytes hbase
  refine ⟨v', w', hr, h2, h3, h4, ?_⟩
  intro g hg j u hu
  have same : v'.ownBlock = some g → w'.cell? ((⟨g, 0, none⟩ : Addr).add j) = some u := fun e => h2.cells e j u (by
    rw [List.getElem?_append_left (List.getElem?_eq_some_iff.1 hu).1]; exact hu)
  have hlt := (hown.lt g hg).2
  rcases h4 with h4 | h4
  · exact same (h4.trans hg)
  · obtain ⟨h1, hn2, hn3, hn4⟩ := hs
    rcases hown.2 with ⟨rfl, rfl⟩ | ⟨g', cap, cur, rfl, hbg, hgg, hnc, hcm, hcs, htake⟩
    · simp [Value.ownBlock] at hg
    · obtain rfl : g' = g := by simpa [Value.ownBlock] using hg
      subst hsize hby
      cases A with
      | none =>
        obtain rfl : m = 0 := hn2 rfl
        exfalso
        have : (Builtin.append_ #[t, t] ty #[.slice (some ⟨g', 0, none⟩) n cap, .slice none 0 c]).run P w = .ok (.slice (some ⟨g', 0, none⟩) n cap) w := by
          simp [Builtin.append_, run_underlying ht, sizeOf, typeInfo, hi, Builtin.lenOf, Builtin.firstCells, hnc, storeCells]
        rw [this] at hr
        injection hr with e1 e2
        rw [← e1] at h4
        simp [Value.ownBlock] at h4
        omega
      | some a =>
        by_cases hroom : n + m ≤ cap
        · exfalso
          have hfit : n * i.size + news.length ≤ cur.size := by rw [h1, hcs, ← Nat.add_mul]; exact Nat.mul_le_mul_right _ hroom
          have hr2 := run_append_room (P := P) w t ty e i ht hi g' n cap cur hgg a m c news h1 (hn3 a rfl) hn4 hroom hfit
          rw [hr2] at hr
          injection hr with e1 e2
          rw [← e1] at h4
          simp [Value.ownBlock] at h4
          omega
        · have hsmall : n + m ≤ 9223372036854775807 := by simp only [maxLen] at h63; omega
          have hr2 := run_append_grow (P := P) w t ty e i z ht hi hz ⟨g', 0, none⟩ n cap xs hown.1 (hown.cells rfl) a m c news h1 (hn3 a rfl) (by omega) (by omega) (growslice_fits (by omega) hbytes)
          rw [hr2] at hr
          injection hr with e1 e2
          rw [← e2]
          exact Go.Lib.cell?_alloc_some _ (hown.cells rfl j u hu)
theorem wp_app2 {o : Oper} {a : Act} {K : Act → World → Prop} {Q : Exit → Act → World → Prop} (s x : Operand) (t : TypeId)
    (ho : o.op = .call { callee := .builtin .append, args := #[s, x], argTypes := #[t, t] })
    (base : Nat) (e : TypeId) (i : TypeInfo) (z : Value) (size bytes : Nat) (ht : P.underlying t = some (.slice e)) (hi : P.info? e = some i) (hz : i.zero = some z)
    (hsize : i.size = size) (hby : i.bytes = bytes) (hzs : z.cells.size = size) (hsz : 0 < size)
    (v : Value) (n : Nat) (xs : List Value) (hv : a.eval s = v) (hown : w.ownsRow base e size v n xs)
    (A : Option Addr) (m c : Nat) (news : List Value) (hx : a.eval x = .slice A m c) (hs : Src w size A m news)
    (h63 : n + m ≤ maxLen) (hbytes : (n + m) * bytes ≤ 140737488355328) (hbase : base ≤ w.heap.size)
    (h : ∀ v' w', w'.ownsRow base e size v' (n + m) (xs ++ news) → w.grownBy w' v.ownBlock → (∀ g, v.ownBlock = some g → ∀ j u, xs[j]? = some u → w'.cell? ((⟨g, 0, none⟩ : Addr).add j) = some u) → K (a.put o.dst v') w') : o.wp P a w K Q := by
  obtain ⟨v', w', hr, h2, h3, h4, h5⟩ := run_app2 (P := P) w base t o.type e i z size bytes ht hi hz hsize hby hzs hsz v n xs hown A m c news hs h63 hbytes hbase
  unfold Oper.wp execOp
  simp only [ho, resolve, invoke, builtin, Sem.run_bind, Sem.run_pure, Result.andThen_ok, List.map_toArray, List.map_cons, List.map_nil, hv, hx, hr]
  exact h v' w' h2 h3 h5
/-- At a plain region's list, the operation guarded or not. -/
theorem wpList_app2 {ops : Array Oper} {rest : List Oper} {o : Oper} {a : Act} {Q : Exit → Act → World → Prop} (hw : Region.wanted o (yielded ops a.tmps) = true) (s x : Operand) (t : TypeId)
    (ho : o.op = .call { callee := .builtin .append, args := #[s, x], argTypes := #[t, t] })
    (base : Nat) (e : TypeId) (i : TypeInfo) (z : Value) (size bytes : Nat) (ht : P.underlying t = some (.slice e)) (hi : P.info? e = some i) (hz : i.zero = some z)
    (hsize : i.size = size) (hby : i.bytes = bytes) (hzs : z.cells.size = size) (hsz : 0 < size)
    (v : Value) (n : Nat) (xs : List Value) (hv : a.eval s = v) (hown : w.ownsRow base e size v n xs)
    (A : Option Addr) (m c : Nat) (news : List Value) (hx : a.eval x = .slice A m c) (hs : Src w size A m news)
    (h63 : n + m ≤ maxLen) (hbytes : (n + m) * bytes ≤ 140737488355328) (hbase : base ≤ w.heap.size)
    (h : ∀ v' w', w'.ownsRow base e size v' (n + m) (xs ++ news) → w.grownBy w' v.ownBlock → (∀ g, v.ownBlock = some g → ∀ j u, xs[j]? = some u → w'.cell? ((⟨g, 0, none⟩ : Addr).add j) = some u) → wpList P ops Q rest (a.put o.dst v') w') : wpList P ops Q (o :: rest) a w :=
  wpList_step fun K hK => by
    rw [if_pos hw]
    exact wp_app2 w s x t ho base e i z size bytes ht hi hz hsize hby hzs hsz v n xs hv hown A m c news hx hs h63 hbytes hbase fun v' w' h2 h3 h4 => hK _ _ (h v' w' h2 h3 h4)
end

/-- A row of bytes of the call's own, read behind such an append. -/
theorem bs_elder {w w' : World} {base n c : Nat} {A : Option Addr} {l : List UInt8} (h : w.ownsRow base 5 1 (.slice A l.length c) l.length (bys l)) (hn : n = l.length)
    (hc : ∀ g, (Value.slice A n c).ownBlock = some g → ∀ j u, (bys l)[j]? = some u → w'.cell? ((⟨g, 0, none⟩ : Addr).add j) = some u) : By w' (.slice A n c) l := by
  subst hn
  obtain ⟨A', c', e, h1, h2, s1, s2, s3, s4⟩ := (Bs.of_own h).by
  injection e with e1 _ e3
  subst e1 e3
  refine ⟨A, c, rfl, h1, h2, s1, s2, fun a ha j u hu => ?_, s4⟩
  rcases h.2 with ⟨e1, _⟩ | ⟨g, cap, cur, e1, _⟩
  · rw [ha] at e1; injection e1 with e1; cases e1
  · injection e1 with e1
    rw [ha] at e1
    injection e1 with e1
    subst e1
    exact hc g (by rw [ha]; rfl) j u hu
theorem Rws.join {w : World} {B : Nat} {ys : List Value} {m : List Seg} (hm : Rws w B ys m) : ∀ {xs : List Value} {l : List Seg}, Rws w B xs l → Rws w B (xs ++ ys) (l ++ m)
  | [], [], _ => hm
  | _ :: _ :: _, _ :: _, ⟨h1, h2, h3, h4⟩ => ⟨h1, h2, h3, Rws.join hm h4⟩
  | [], _ :: _, h => h.elim
  | [_], _, h => by unfold Rws at h; exact h.elim
  | _ :: _ :: _, [], h => by unfold Rws at h; exact h.elim
theorem Rws.one {w : World} {B : Nat} : ∀ {xs : List Value} {l : List Seg}, Rws w B xs l → ∀ u ∈ xs, u.oneCell' = true
  | [], [], _ => fun u hu => by cases hu
  | a :: v :: xs, _ :: _, ⟨h1, h2, h3, h4⟩ => fun u hu => by
    obtain ⟨A, c, rfl, _, _⟩ := ow_form h2
    subst h1
    rcases List.mem_cons.1 hu with rfl | hu
    · rfl
    · rcases List.mem_cons.1 hu with rfl | hu
      · rfl
      · exact Rws.one h4 u hu
  | [], _ :: _, h => h.elim
  | [_], _, h => by unfold Rws at h; exact h.elim
  | _ :: _ :: _, [], h => by unfold Rws at h; exact h.elim
theorem Rws.weak {w : World} {B B' : Nat} (hb : B' ≤ B) : ∀ {xs : List Value} {l : List Seg}, Rws w B xs l → Rws w B' xs l
  | [], [], _ => trivial
  | _ :: _ :: _, _ :: _, ⟨h1, h2, h3, h4⟩ => ⟨h1, own_weakA h2 hb, h3, Rws.weak hb h4⟩
  | [], _ :: _, h => h.elim
  | [_], _, h => by unfold Rws at h; exact h.elim
  | _ :: _ :: _, [], h => by unfold Rws at h; exact h.elim
theorem Pown.weak {w : World} {B B' : Nat} {v : Value} {l : List Seg} (h : Pown w B v l) (hb : B' ≤ B) : Pown w B' v l := by
  obtain ⟨xs, h1, h2⟩ := h
  exact ⟨xs, own_weakA h1 hb, h2.weak hb⟩
theorem src_own {w : World} {base : Nat} {e : TypeId} {size n c : Nat} {A : Option Addr} {xs : List Value} (h : w.ownsRow base e size (.slice A n c) n xs) (h1 : ∀ u ∈ xs, u.oneCell' = true) : Src w size A n xs := by
  refine ⟨h.1, ?_, ?_, h1⟩
  · intro hA
    rcases h.2 with ⟨_, h0⟩ | ⟨g, cap, cur, e1, _⟩
    · exact h0
    · rw [hA] at e1; injection e1 with e1; cases e1
  · intro a ha j u hu
    rcases h.2 with ⟨_, h0⟩ | ⟨g, cap, cur, e1, _⟩
    · exfalso
      have := h.1
      rw [h0, Nat.zero_mul] at this
      rw [List.eq_nil_of_length_eq_zero this] at hu
      simp at hu
    · injection e1 with e2
      rw [ha] at e2
      injection e2 with e2
      subst e2
      exact h.cells (by rw [ha]; rfl) j u hu
/-- A path's row put behind a path's row. -/
theorem Pown.cat {w w' : World} {B : Nat} {p v' : Value} {l m : List Seg} {xs ys : List Value} (op : w.ownsRow B 72 2 p l.length xs) (hp : Rws w B xs l) (hq : Rws w B ys m) (hg : w.grownBy w' p.ownBlock)
    (ho : w'.ownsRow B 72 2 v' (l.length + m.length) (xs ++ ys)) : Pown w' B v' (l ++ m) := by
  have kg : Kept (fun k => p.ownBlock = some k) w w' := (Kept.refl _ w).grown hg (fun _ hk _ => hk)
  have hs : ∀ g cs, p.ownBlock = some g → w.heap[g]? ≠ some (.cells cs 54 (0, 0)) := fun g cs x e => by
    obtain ⟨cs', hh⟩ := ow_lt op x
    rw [hh] at e
    injection e with e
    injection e with _ e2
    exact absurd e2 (by decide)
  exact ⟨xs ++ ys, by rw [List.length_append]; exact ho, (hq.kept kg hs).join (hp.kept kg hs)⟩

theorem brF_may (l m : List Seg) : Pt.may (brF l ++ brF m) = true := by
  unfold Pt.may
  rw [Bool.and_eq_true]
  refine ⟨List.all_eq_true.2 fun s hs => ?_, by
    have := brF_len l; have := brF_len m
    rw [decide_eq_true_eq, List.length_append]; omega⟩
  obtain ⟨h1, h2, h3, h4⟩ : s.2.length ≤ 40 ∧ s.2 ≠ [] ∧ 1 ≤ s.1.toNat ∧ s.1.toNat ≤ 4 := (List.mem_append.1 hs).elim brF_num brF_num
  have := List.length_pos_iff.2 h2
  unfold Pt.may1
  simp
  refine ⟨⟨⟨?_, ?_⟩, ?_⟩, ?_⟩ <;> first | omega | (rw [UInt8.le_iff_toNat_le]; simpa using h3) | (rw [UInt8.le_iff_toNat_le]; simpa using h4)
theorem brF_may1 (l : List Seg) : Pt.may (brF l) = true := by
  have := brF_may l []
  rwa [brF_nil, List.append_nil] at this
theorem bytes_of_may {l : List Seg} (h : Pt.may l = true) : Pt.bytes l true = (Pt.form true l, 0) := by
  unfold Pt.bytes
  rw [if_neg (by rw [h]; simp), if_neg (by simp)]
end Go.Proofs.YthjljamngpddmaaGreatDoor
namespace Go.Proofs.YthjljamngpddmaaGreatDoor
open Go.RowKit Go.Shelf

/-- The cells of the segments that are not confed. -/
def cutC : List Value → List Seg → List Value
  | a :: v :: xs, s :: l => if Wk.confed s.1 then cutC xs l else a :: v :: cutC xs l
  | _, _ => []
def plains (l : List Seg) : List Seg := l.filter fun s => !Wk.confed s.1
theorem plains_snoc (l : List Seg) (s : Seg) : plains (l ++ [s]) = plains l ++ (if Wk.confed s.1 then [] else [s]) := by
  unfold plains
  rw [List.filter_append]
  cases h : Wk.confed s.1 <;> simp [h]
theorem plains_len (l : List Seg) : (plains l).length ≤ l.length := List.length_filter_le _ _
theorem cutC_snoc {w : World} {B : Nat} (a v : Value) (s : Seg) : ∀ {xs : List Value} {l : List Seg}, Rws w B xs l → cutC (xs ++ [a, v]) (l ++ [s]) = cutC xs l ++ (if Wk.confed s.1 then [] else [a, v])
  | [], [], _ => by
    show (if Wk.confed s.1 then cutC [] [] else a :: v :: cutC [] []) = _
    cases Wk.confed s.1 <;> simp [cutC]
  | b :: u :: xs, t :: l, ⟨_, _, _, h⟩ => by
    have ih := cutC_snoc a v s h
    show (if Wk.confed t.1 then cutC (xs ++ [a, v]) (l ++ [s]) else b :: u :: cutC (xs ++ [a, v]) (l ++ [s])) = (if Wk.confed t.1 then cutC xs l else b :: u :: cutC xs l) ++ _
    rw [ih]
    cases Wk.confed t.1 <;> simp
  | [], _ :: _, h => h.elim
  | [_], _, h => by unfold Rws at h; exact h.elim
  | _ :: _ :: _, [], h => by unfold Rws at h; exact h.elim
theorem cutC_rws {w : World} {B : Nat} : ∀ {xs : List Value} {l : List Seg}, Rws w B xs l → Rws w B (cutC xs l) (plains l)
  | [], [], _ => trivial
  | b :: u :: xs, t :: l, ⟨h1, h2, h3, h⟩ => by
    have ih := cutC_rws h
    show Rws w B (if Wk.confed t.1 then cutC xs l else b :: u :: cutC xs l) (plains (t :: l))
    unfold plains at ih ⊢
    cases hc : Wk.confed t.1 with
    | true => simpa [hc] using ih
    | false =>
      rw [List.filter_cons_of_pos (by simp [hc])]
      exact ⟨h1, h2, h3, ih⟩
  | [], _ :: _, h => h.elim
  | [_], _, h => by unfold Rws at h; exact h.elim
  | _ :: _ :: _, [], h => by unfold Rws at h; exact h.elim
theorem Rws.len2 {w : World} {B : Nat} : ∀ {xs : List Value} {l : List Seg}, Rws w B xs l → xs.length = l.length * 2
  | [], [], _ => rfl
  | _ :: _ :: xs, _ :: l, ⟨_, _, _, h⟩ => by have := Rws.len2 h; simp [this]; omega
  | [], _ :: _, h => h.elim
  | [_], _, h => by unfold Rws at h; exact h.elim
  | _ :: _ :: _, [], h => by unfold Rws at h; exact h.elim
theorem Rws.first {w : World} {B : Nat} : ∀ {xs : List Value} {l : List Seg} (k : Nat), Rws w B xs l → Rws w B (xs.take (k * 2)) (l.take k)
  | xs, l, 0, _ => by simp; trivial
  | [], [], k + 1, _ => by simp; trivial
  | a :: v :: xs, s :: l, k + 1, ⟨h1, h2, h3, h⟩ => by
    rw [show (k + 1) * 2 = k * 2 + 1 + 1 from by omega]
    exact ⟨h1, h2, h3, Rws.first k h⟩
  | [], _ :: _, _ + 1, h => h.elim
  | [_], _, _ + 1, h => by unfold Rws at h; exact h.elim
  | _ :: _ :: _, [], _ + 1, h => by unfold Rws at h; exact h.elim
theorem take_two (xs : List Value) (k : Nat) (a v : Value) (h1 : xs[k * 2]? = some a) (h2 : xs[k * 2 + 1]? = some v) : xs.take ((k + 1) * 2) = xs.take (k * 2) ++ [a, v] := by
  rw [show (k + 1) * 2 = k * 2 + 1 + 1 by omega, List.take_add_one, List.take_add_one, h1, h2]
  simp

/-- Cells stored into a block, from o on. -/
theorem Blk.setCells {t : TypeId} {g : Nat} : ∀ (vs : List Value) (o : Nat) (w : World) (cur : Array Value), Blk w g t cur → ∃ cur', Blk (w.setCells g o vs) g t cur' ∧ cur'.size = cur.size ∧ cur'.toList.take o = cur.toList.take o ∧ Kept (Only g) w (w.setCells g o vs)
  | [], o, w, cur, h => ⟨cur, h, rfl, rfl, Kept.refl _ _⟩
  | v :: vs, o, w, cur, h => by
    obtain ⟨cur', h1, h2, h3, h4⟩ := Blk.setCells vs (o + 1) (w.setCell ⟨g, o, none⟩ v) (cur.setIfInBounds o v) (h.put o v)
    refine ⟨cur', h1, by rw [h2]; simp, ?_, (Kept.own w g o v).trans h4⟩
    have h5 : cur'.toList.take o = ((cur'.toList).take (o + 1)).take o := by rw [List.take_take]; congr 1; omega
    rw [h5, h3, List.take_take, show min o (o + 1) = o by omega]
    simp [List.take_set_of_le]
theorem run_clear_seg (w : World) (b o n c : Nat) (hn : 0 < n)
    (hc : ∀ j, j < n * 2 → (w.cell? ⟨b, o + j, none⟩).isSome = true) (hf : ∀ j, j < n * 2 → w.frozen? ⟨b, o + j, none⟩ = false) :
    ∃ vs, ∀ ty, (Builtin.clear_ #[23] ty #[.slice (some ⟨b, o, none⟩) n c]).run Tryz.prog w = .ok (.tuple #[]) (w.setCells b o vs) := by
  refine ⟨(Builtin.zeroCells #[.int .u8 0, .slice none 0 0] n).toList, fun ty => ?_⟩
  have hl : (Builtin.zeroCells #[.int .u8 0, .slice none 0 0] n).toList.length = n * 2 := by simp [Builtin.zeroCells]
  have h1 : ∀ v ∈ (Builtin.zeroCells #[.int .u8 0, .slice none 0 0] n).toList, v.oneCell' = true := by
    intro v hv
    simp only [Builtin.zeroCells, Array.toList_map, List.mem_map] at hv
    obtain ⟨i, _, rfl⟩ := hv
    have h2 : i % 2 = 0 ∨ i % 2 = 1 := by omega
    show Value.oneCell' ((#[Value.int .u8 0, .slice none 0 0] : Array Value)[i % 2]!) = true
    rcases h2 with h2 | h2 <;> rw [h2] <;> rfl
  have hst := run_storeCells_cells (P := Tryz.prog) b o (Builtin.zeroCells #[.int .u8 0, .slice none 0 0] n).toList 0 w (by rw [hl]; simpa using hc) (by rw [hl]; simpa using hf) h1
  simp only [Nat.add_zero] at hst
  obtain ⟨m, rfl⟩ : ∃ m, n = m + 1 := ⟨n - 1, by omega⟩
  have hz := Tryz.zeroValue72
  simp [Builtin.clear_, run_underlying Tryz.underlying23, hz, Value.cells, hst]

theorem cutC_all {w : World} {B : Nat} : ∀ {xs : List Value} {l : List Seg}, Rws w B xs l → (∀ s ∈ l, Wk.confed s.1 = false) → cutC xs l = xs ∧ plains l = l
  | [], [], _, _ => ⟨rfl, rfl⟩
  | b :: u :: xs, t :: l, ⟨_, _, _, h⟩, hc => by
    have ih := cutC_all h (fun s hs => hc s (List.mem_cons_of_mem _ hs))
    have h0 := hc t (List.mem_cons_self ..)
    refine ⟨?_, ?_⟩
    · show (if Wk.confed t.1 then cutC xs l else b :: u :: cutC xs l) = _
      rw [h0, ih.1]; rfl
    · unfold plains at ih ⊢
      rw [List.filter_cons_of_pos (by simp [h0]), ih.2]
  | [], _ :: _, h, _ => h.elim
  | [_], _, h, _ => by unfold Rws at h; exact h.elim
  | _ :: _ :: _, [], h, _ => by unfold Rws at h; exact h.elim
theorem slice_loP (g n c k : Nat) (hk : k < n) (hn : n ≤ c) (w : World) :
    (Instr.slice 23 (.slice (some ⟨g, 0, none⟩) n c) (some (.int .i64 (k : Int))) none none).run Tryz.prog w = .ok (.slice (some ⟨g, k * 2, none⟩) (n - k) (c - k)) w := by
  have hz := Tryz.sizeOf72
  have he : Tryz.prog.elem 23 = 72 := by kernel_rfl
  rw [run_slice_l w 23 _ n c (by kernel_rfl) .i64 k (by omega) (by omega), he, hz]
  have hck : ¬ c = k := by omega
  simp [sliced, hck, add_none]
theorem slice_hiP (g n c k : Nat) (hk : k ≤ c) (w : World) :
    (Instr.slice 23 (.slice (some ⟨g, 0, none⟩) n c) none (some (.int .i64 (k : Int))) none).run Tryz.prog w = .ok (.slice (some ⟨g, 0, none⟩) k c) w := by
  have hz := Tryz.sizeOf72
  have he : Tryz.prog.elem 23 = 72 := by kernel_rfl
  rw [run_slice_h w 23 _ n c (by kernel_rfl) .i64 k (by omega) (by omega), he, hz]
  simp [sliced, Addr.add]
/-- Two cells stored. -/
theorem take_put2 (cur : Array Value) (k : Nat) (a v : Value) (h : k * 2 + 1 < cur.size) : ((cur.setIfInBounds (k * 2) a).setIfInBounds (k * 2 + 1) v).toList.take ((k + 1) * 2) = cur.toList.take (k * 2) ++ [a, v] := by
  rw [take_two _ k a v]
  · congr 1
    simp [List.take_set_of_le]
  · rw [Array.toList_setIfInBounds, Array.toList_setIfInBounds, List.getElem?_set_ne (by omega), List.getElem?_set_self (by simp; omega)]
  · rw [Array.toList_setIfInBounds, Array.toList_setIfInBounds, List.getElem?_set_self (by simp; omega)]

end Go.Proofs.YthjljamngpddmaaGreatDoor
namespace Go.Proofs.YthjljamngpddmaaGreatDoor
open Go.RowKit

namespace Fz
def nar1 (s : Seg) : Seg := (s.1, s.2.map short)
/-- A narrow path. -/
def nar (l : List Seg) : List Seg := l.map nar1
def wt1 (s : Seg) : Nat := if s.1.toNat = 2 then s.2.length else if s.1.toNat = 1 then 1 else 0
/-- A path's weight. -/
def wt (l : List Seg) : Nat := (l.map wt1).sum
def narrow (l : List Seg) : List Seg × List Seg × Bool := if Pt.hasW (plains l) then (nar l, plains l, true) else (nar l, [], false)
/-- A segment, of a Sequence no more than n numbers. -/
def takn (s : Seg) (n : Nat) : Seg := if s.1.toNat = 2 then (s.1, s.2.take n) else s
/-- What goes ahead, if n is wanting. -/
def lead : List Seg → Nat → List Seg
  | [], _ => []
  | s :: l, n => if n = 0 ∧ Wk.confed s.1 = false then [] else if (takn s n).2.length < s.2.length then [takn s n] else takn s n :: lead l (n - wt1 (takn s n))
/-- How many numbers of the one ahead stay there. -/
def left (x f : Seg) : Nat := x.2.length - (255 - f.2.length)
def joined (a m : List Seg) : List Seg :=
  match a.getLast?, m with
  | some x, f :: r =>
    if x.1.toNat = 2 ∧ f.1.toNat = 2 then (if left x f = 0 then a.dropLast else a.dropLast ++ [(x.1, x.2.take (left x f))]) ++ (f.1, x.2.drop (left x f) ++ f.2) :: r
    else a ++ m
  | _, _ => a ++ m
def fuse (p q : List Seg) : List Seg := if wt p < wt q then p else joined (lead p (wt p - wt q)) (plains q)
def whole (p q : List Seg) (hasB hasBy hasWide : Bool) (one : Nat) : List Seg × Bool :=
  if !hasB || (hasBy && hasWide && !decide (one = 23456)) then (p, hasBy && hasWide && decide (one = 23456)) else (fuse p q, hasBy && hasWide && decide (one = 23456))

theorem short_lt (n : Nat) : short n < 65536 := by unfold short; split <;> omega
theorem wt_cons (s : Seg) (l : List Seg) : wt (s :: l) = wt1 s + wt l := by unfold wt; rw [List.map_cons, List.sum_cons]
theorem wt_append (a b : List Seg) : wt (a ++ b) = wt a + wt b := by unfold wt; rw [List.map_append, List.sum_append]
theorem wt1_conf {s : Seg} (h : Wk.confed s.1 = true) : wt1 s = 0 := by
  unfold Wk.confed at h
  unfold wt1
  simp at h
  rw [if_neg (by omega), if_neg (by omega)]
theorem wt_plains (l : List Seg) : wt (plains l) = wt l := by
  induction l with
  | nil => rfl
  | cons s l ih =>
    unfold plains at ih ⊢
    cases h : Wk.confed s.1 with
    | true => rw [List.filter_cons_of_neg (by simp [h]), ih, wt_cons, wt1_conf h, Nat.zero_add]
    | false => rw [List.filter_cons_of_pos (by simp [h]), wt_cons, wt_cons, ih]
theorem wt1_le (s : Seg) : wt1 s ≤ s.2.length + 1 := by unfold wt1; split <;> (try split) <;> omega
theorem wt_le (l : List Seg) (k : Nat) (h : ∀ s ∈ l, s.2.length ≤ k) : wt l ≤ l.length * (k + 1) := by
  induction l with
  | nil => simp [wt]
  | cons s l ih =>
    have h1 := ih (fun x hx => h x (List.mem_cons_of_mem _ hx))
    have h2 := wt1_le s
    have h3 := h s (List.mem_cons_self ..)
    rw [wt_cons, List.length_cons, Nat.add_mul]
    omega
end Fz
end Go.Proofs.YthjljamngpddmaaGreatDoor
