
/-
  Paths: Bytes.
-/
import Derived.Test.YtdeblmolgmadiaaGreatDoorJh
namespace Go.Proofs.YtdeblmolgmadiaaGreatDoor
open Go.RowKit

theorem Pt.may_len {l : List Seg} (h : Pt.may l = true) : l.length ≤ 32 ∧ ∀ s ∈ l, s.2.length ≤ 255 := by
  unfold Pt.may at h
  rw [Bool.and_eq_true, List.all_eq_true] at h
  refine ⟨by simpa using h.2, fun s hs => ?_⟩
  have := h.1 s hs
  unfold Pt.may1 at this
  simp only [Bool.and_eq_true, decide_eq_true_eq] at this
  exact this.2
theorem Pt.not_wide {l : List Seg} (h : Pt.hasW l = false) : ∀ s ∈ l, ∀ n ∈ s.2, n < 65536 := by
  intro s hs n hn
  unfold Pt.hasW at h
  rw [List.any_eq_false] at h
  have := h (s.1, n) (by unfold Pt.all; exact List.mem_flatMap.2 ⟨s, hs, List.mem_map.2 ⟨n, hn, rfl⟩⟩)
  simp at this
  omega

theorem wr_done_own (p : Nat) (F : Nat → Prop) (s : WS) (w : World) (h : Wr w F p s) (he : s.e = 0) (h0 : s.hs = []) :
    Calls Tryz.prog 47 #[.pointer (some ⟨p, 0, none⟩)] w fun r w' => ∃ v, r = .returned (.tuple #[v, .int .i64 s.done.2]) ∧ w'.ownsRow w.heap.size 5 1 v s.done.1.length (bys s.done.1) ∧ Kept Nothing w w' := by
  have hE := Lib.hid (wr_err p F s w h)
  have hn : (s.e != 0) = false := by simpa using he
  have hmx := h.ok.2.1
  obtain ⟨bv, hv, _, hb, h1, h2, hok⟩ := h
  obtain ⟨⟨-, c1, c2, -⟩, -⟩ := cells4 hb
  obtain ⟨A0, cc0, rfl, _, _⟩ := own_form h1
  obtain ⟨A1, cc1, rfl, _, _⟩ := own_form h2
  have HF : Hid (s.done = (s.l, 0)) := by show _ = _; unfold WS.done; rw [if_pos he, if_pos h0]
  rw [HF.out]
  have HC := Lib.hid (sl_clone _ s.l w (Bs.of_own h1).by hmx)
  rw [h0] at c2
  simp only [List.length_nil] at c2
  clear HF he h0 hb h1 h2 hok
  go_enter Tryz.func47, Tryz.ntmps47
  go_wp2_with fail
  refine hE.out.mono ?_
  rintro e w' ⟨rfl, rfl⟩
  go_wp2_with fail
  refine HC.out.mono ?_
  rintro e w1 ⟨v, rfl, ho, hk⟩
  have HO := Lib.hid ho
  clear ho
  go_wp2
  go_ret2
  exact ⟨v, rfl, HO.out, hk⟩

set_option maxHeartbeats 1600000 in
theorem path_bytes (v : Value) (l : List Seg) (wide : Bool) (w : World) (h : Pts w v l) (hl : l.length ≤ 1000000) (hn : ∀ s ∈ l, s.2.length ≤ 1000000) :
    Calls Tryz.prog 13 #[v, .bool wide] w fun e w' => ∃ u, e = .returned (.tuple #[u, .int .i64 ((Pt.bytes l wide).2 : Int)]) ∧ w'.ownsRow w.heap.size 5 1 u (Pt.bytes l wide).1.length (bys (Pt.bytes l wide).1) ∧ Kept Nothing w w' := by
  obtain ⟨A, c, rfl, hc, hm⟩ := h.form
  have HM := Lib.hid (path_may _ l w h (by omega))
  have HW := Lib.hid (fun w' (k : Kept Nothing w w') => path_hasWide _ l w' (h.old k) hl hn)
  have HV := Lib.hid h
  clear h
  cases hmay : Pt.may l with
  | false =>
    have HB : Hid (Pt.bytes l wide = ([], 1)) := Lib.hid (by unfold Pt.bytes; rw [if_pos hmay])
    rw [hmay] at HM
    clear hmay HW HV hn
    rw [HB.out]
    go_enter Tryz.func13, Tryz.ntmps13
    go_wp2_with (go_at_call 16; refine (HM.out).mono ?_; rintro e w1 ⟨rfl, k1⟩)
    go_ret2
    exact ⟨_, rfl, World.ownsRow_nil _ _ _ _, k1⟩
  | true =>
    obtain ⟨hl32, hn255⟩ := Pt.may_len hmay
    have HBE : Hid ((!wide && Pt.hasW l) = true → Pt.bytes l wide = ([], 24)) := Lib.hid (fun e => by unfold Pt.bytes; rw [if_neg (by rw [hmay]; simp), if_pos e])
    have HBF : Hid ((!wide && Pt.hasW l) = false → Pt.bytes l wide = (Pt.form wide l, 0)) := Lib.hid (fun e => by unfold Pt.bytes; rw [if_neg (by rw [hmay]; simp), if_neg (by rw [e]; simp)])
    have HNW : Hid ((!wide && Pt.hasW l) = false → wide = false → ∀ s ∈ l, ∀ n ∈ s.2, n < 65536) := Lib.hid (fun e1 e2 => Pt.not_wide (by rw [e2] at e1; simpa using e1))
    rw [hmay] at HM
    have HN := Lib.hid hn255
    clear hmay hn hn255
    generalize Pt.hasW l = hw at *
    by_cases hwb : (!wide && hw) = true
    · have HB := Lib.hid (HBE.out hwb)
      rw [Bool.and_eq_true] at hwb
      obtain ⟨h1, rfl⟩ := hwb
      obtain rfl : wide = false := by simpa using h1
      clear h1 HBE HBF HNW HV
      rw [HB.out]
      go_enter Tryz.func13, Tryz.ntmps13
      go_wp2_with (first | (go_at_call 16; refine (HM.out).mono ?_; rintro e w1 ⟨rfl, k1⟩) | (go_at_call 44; refine (HW.out _ k1).mono ?_; rintro e w2 ⟨rfl, k2⟩))
      go_ret2
      exact ⟨_, rfl, World.ownsRow_nil _ _ _ _, k1.trans k2⟩
    · have hwf : (!wide && hw) = false := by simpa using hwb
      have HB := Lib.hid (HBF.out hwf)
      have HX := Lib.hid (HNW.out hwf)
      rw [HB.out]
      clear hwb HBE HBF HNW
      cases wide with
      | true =>
        go_enter Tryz.func13, Tryz.ntmps13
        go_upto_region 5 with (go_at_call 16; refine (HM.out).mono ?_; rintro e w1 ⟨rfl, k1⟩)
        go_wp2_with fail
        refine (wr_lay _).mono ?_
        rintro e w3 ⟨p, F, rfl, hW3, k3, s3⟩
        have L3 : Hid (LayPost w p ((⟨[], [], 0⟩ : WS).lay (Pt.form true (l.take 0))) w3) := Lib.hid (by
          rw [List.take_zero, Pt.form_nil, WS.lay_nil]
          exact ⟨F, hW3, k1.trans k3, fun g hg => by
            rcases s3 g hg with x | x
            · exact x.elim
            · have := k1.size; omega⟩)
        clear hW3 k3 s3
        go_wp2_with fail
        go_loopw [21] (fun i wr => ∃ k : Nat, i = .int .i64 (k : Int) ∧ k ≤ l.length ∧ Hid (LayPost w p ((⟨[], [], 0⟩ : WS).lay (Pt.form true (l.take k))) wr)) (fun i _ => l.length - (intOf i).toNat)
        case atStart => exact ⟨0, rfl, Nat.zero_le _, L3⟩
        case round =>
          clear L3
          obtain ⟨k, rfl, hk, HL⟩ := hrel
          by_cases hlt : k < l.length
          · have hkk : Kept Nothing w wr := by obtain ⟨_, _, hk3, _⟩ := HL.out; exact hk3
            obtain ⟨b, o, Au, cu, rfl, p0, p1, hp⟩ := HV.out.at2 hlt
            have q0 := hkk.cell_some p0 (fun x => x)
            have q1 := hkk.cell_some p1 (fun x => x)
            have i1 : (0 : Int) ≤ (k : Int) := by omega
            have i2 : (k : Int) < (l.length : Int) := by omega
            have hmem : l.getD k (0, []) ∈ l := by rw [getD_get hlt]; exact List.getElem_mem _
            have hsn := HN.out _ hmem
            have HXS := Lib.hid (fun e => HX.out e _ hmem)
            have ET : Hid (l.take (k + 1) = l.take k ++ [l.getD k (0, [])]) := Lib.hid (by rw [List.take_succ_eq_append_getElem hlt, getD_get hlt])
            have hsl : ((⟨[], [], 0⟩ : WS).lay (Pt.form true (l.take k))).l.length ≤ 160000 := by
              have h1 := WS.lay_len (⟨[], [], 0⟩ : WS) (Pt.form true (l.take k))
              have h2 := Pt.length_form true (l.take k) (fun s hs => by have := HN.out s (List.mem_of_mem_take hs); omega)
              rw [List.length_take] at h2
              simp only [List.length_nil] at h1
              omega
            have EL : Hid (∀ s, ((⟨[], [], 0⟩ : WS).lay (Pt.form true (l.take k))).lay (Pt.seg true s) = (⟨[], [], 0⟩ : WS).lay (Pt.form true (l.take k ++ [s]))) := Lib.hid (fun s => by rw [WS.lay_lay, ← Pt.form_snoc])
            generalize (⟨[], [], 0⟩ : WS).lay (Pt.form true (l.take k)) = s2 at *
            generalize hsg : l.getD k (0, []) = sg at *
            obtain ⟨sk, sn⟩ := sg
            clear hsg hmem p0 p1 hkk
            simp only at q0 q1 hsn
            have HP := Lib.hid hp
            have HSL := Lib.hid hsl
            have LA : LayPost w p s2 (wr.alloc (.cells #[.int .u8 (sk.toNat : Int), .slice Au sn.length cu] 96)) := by
              obtain ⟨F3, h1, h2, h3⟩ := HL.out
              exact ⟨F3, h1.kept ((Kept.refl Nothing wr).alloc _) (fun _ _ x => x), h2.alloc _, h3⟩
            have CL := Lib.hid (seg_lay w sk.toNat sk.toNat_lt (.slice Au sn.length cu) sn HP.out true (fun e => HXS.out (by first | exact e | trivial)) p s2 _ LA (by omega))
            rw [show UInt8.ofNat sk.toNat = sk from UInt8.ofNat_toNat] at CL
            clear LA HL hp hsl
            go_wp2_with (go_at_call 46; refine (CL.out).mono ?_; rintro e w4 ⟨u4, rfl, hL4⟩)
            go_roundw
            case rel =>
              refine ⟨k + 1, by go_num, by omega, Lib.hid ?_⟩
              rw [ET.out, ← EL.out]
              exact hL4
            case measure => simp [intOf]; omega
          · obtain rfl : k = l.length := by omega
            rw [List.take_of_length_le (Nat.le_refl _)] at HL
            obtain ⟨F3, hW3, hk3, hF3⟩ := HL.out
            have hD := wr_done_own p F3 _ wr hW3 rfl rfl
            have ED : ((⟨[], [], 0⟩ : WS).lay (Pt.form true l)).done = (Pt.form true l, 0) := by simp [WS.lay, WS.done]
            rw [ED] at hD
            have HD := Lib.hid hD
            have K3 := Lib.hid hk3
            clear hD ED HL hW3 hk3 hF3
            go_wp2_with (go_at_call 47; refine (HD.out).mono ?_; rintro e w5 ⟨v5, rfl, hb5, hk5⟩)
            go_ret2
            exact ⟨_, rfl, own_weakA hb5 K3.out.size, K3.out.trans hk5⟩
      | false =>
        obtain rfl : hw = false := by simpa using hwf
        go_enter Tryz.func13, Tryz.ntmps13
        go_upto_region 5 with (first | (go_at_call 16; refine (HM.out).mono ?_; rintro e w1 ⟨rfl, k1⟩) | (go_at_call 44; refine (HW.out _ k1).mono ?_; rintro e w2 ⟨rfl, k2⟩; replace k1 := k1.trans k2))
        go_wp2_with fail
        refine (wr_lay _).mono ?_
        rintro e w3 ⟨p, F, rfl, hW3, k3, s3⟩
        have L3 : Hid (LayPost w p ((⟨[], [], 0⟩ : WS).lay (Pt.form false (l.take 0))) w3) := Lib.hid (by
          rw [List.take_zero, Pt.form_nil, WS.lay_nil]
          exact ⟨F, hW3, k1.trans k3, fun g hg => by
            rcases s3 g hg with x | x
            · exact x.elim
            · have := k1.size; omega⟩)
        clear hW3 k3 s3
        go_wp2_with fail
        go_loopw [21] (fun i wr => ∃ k : Nat, i = .int .i64 (k : Int) ∧ k ≤ l.length ∧ Hid (LayPost w p ((⟨[], [], 0⟩ : WS).lay (Pt.form false (l.take k))) wr)) (fun i _ => l.length - (intOf i).toNat)
        case atStart => exact ⟨0, rfl, Nat.zero_le _, L3⟩
        case round =>
          clear L3
          obtain ⟨k, rfl, hk, HL⟩ := hrel
          by_cases hlt : k < l.length
          · have hkk : Kept Nothing w wr := by obtain ⟨_, _, hk3, _⟩ := HL.out; exact hk3
            obtain ⟨b, o, Au, cu, rfl, p0, p1, hp⟩ := HV.out.at2 hlt
            have q0 := hkk.cell_some p0 (fun x => x)
            have q1 := hkk.cell_some p1 (fun x => x)
            have i1 : (0 : Int) ≤ (k : Int) := by omega
            have i2 : (k : Int) < (l.length : Int) := by omega
            have hmem : l.getD k (0, []) ∈ l := by rw [getD_get hlt]; exact List.getElem_mem _
            have hsn := HN.out _ hmem
            have HXS := Lib.hid (fun e => HX.out e _ hmem)
            have ET : Hid (l.take (k + 1) = l.take k ++ [l.getD k (0, [])]) := Lib.hid (by rw [List.take_succ_eq_append_getElem hlt, getD_get hlt])
            have hsl : ((⟨[], [], 0⟩ : WS).lay (Pt.form false (l.take k))).l.length ≤ 160000 := by
              have h1 := WS.lay_len (⟨[], [], 0⟩ : WS) (Pt.form false (l.take k))
              have h2 := Pt.length_form false (l.take k) (fun s hs => by have := HN.out s (List.mem_of_mem_take hs); omega)
              rw [List.length_take] at h2
              simp only [List.length_nil] at h1
              omega
            have EL : Hid (∀ s, ((⟨[], [], 0⟩ : WS).lay (Pt.form false (l.take k))).lay (Pt.seg false s) = (⟨[], [], 0⟩ : WS).lay (Pt.form false (l.take k ++ [s]))) := Lib.hid (fun s => by rw [WS.lay_lay, ← Pt.form_snoc])
            generalize (⟨[], [], 0⟩ : WS).lay (Pt.form false (l.take k)) = s2 at *
            generalize hsg : l.getD k (0, []) = sg at *
            obtain ⟨sk, sn⟩ := sg
            clear hsg hmem p0 p1 hkk
            simp only at q0 q1 hsn
            have HP := Lib.hid hp
            have HSL := Lib.hid hsl
            have LA : LayPost w p s2 (wr.alloc (.cells #[.int .u8 (sk.toNat : Int), .slice Au sn.length cu] 96)) := by
              obtain ⟨F3, h1, h2, h3⟩ := HL.out
              exact ⟨F3, h1.kept ((Kept.refl Nothing wr).alloc _) (fun _ _ x => x), h2.alloc _, h3⟩
            have CL := Lib.hid (seg_lay w sk.toNat sk.toNat_lt (.slice Au sn.length cu) sn HP.out false (fun e => HXS.out (by first | exact e | trivial)) p s2 _ LA (by omega))
            rw [show UInt8.ofNat sk.toNat = sk from UInt8.ofNat_toNat] at CL
            clear LA HL hp hsl
            go_wp2_with (go_at_call 46; refine (CL.out).mono ?_; rintro e w4 ⟨u4, rfl, hL4⟩)
            go_roundw
            case rel =>
              refine ⟨k + 1, by go_num, by omega, Lib.hid ?_⟩
              rw [ET.out, ← EL.out]
              exact hL4
            case measure => simp [intOf]; omega
          · obtain rfl : k = l.length := by omega
            rw [List.take_of_length_le (Nat.le_refl _)] at HL
            obtain ⟨F3, hW3, hk3, hF3⟩ := HL.out
            have hD := wr_done_own p F3 _ wr hW3 rfl rfl
            have ED : ((⟨[], [], 0⟩ : WS).lay (Pt.form false l)).done = (Pt.form false l, 0) := by simp [WS.lay, WS.done]
            rw [ED] at hD
            have HD := Lib.hid hD
            have K3 := Lib.hid hk3
            clear hD ED HL hW3 hk3 hF3
            go_wp2_with (go_at_call 47; refine (HD.out).mono ?_; rintro e w5 ⟨v5, rfl, hb5, hk5⟩)
            go_ret2
            exact ⟨_, rfl, own_weakA hb5 K3.out.size, K3.out.trans hk5⟩
end Go.Proofs.YtdeblmolgmadiaaGreatDoor
