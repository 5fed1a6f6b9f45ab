
/-
  Paths' texts, read: Parse.
-/
import Derived.Test.YtfjpphfadglohaaDoorJl
namespace Go.Proofs.YtfjpphfadglohaaDoor
open Go.RowKit

namespace Pt
theorem segL_suffix (b : List UInt8) : ∀ (f : Nat) (rest : List UInt8) (acc : List Nat) (err : Nat), (segL f b rest acc err).1 <:+ rest
  | 0, rest, acc, err => by unfold segL; exact List.suffix_refl _
  | f + 1, rest, acc, err => by
    unfold segL
    split
    · exact List.suffix_refl _
    · split
      · exact (segL_suffix b f _ _ _).trans ((List.drop_suffix _ _).trans (List.drop_suffix _ _))
      · exact List.drop_suffix _ _
theorem segM_suffix (k : Nat) (s : PS) : (segM k s).1.rest <:+ s.rest := by
  have h := (segL_suffix (betw k) (s.rest.length + 1) (s.rest.drop (opens k).length) [] s.err).trans (List.drop_suffix _ _)
  unfold segM
  simp only
  split
  · exact h
  · refine List.IsSuffix.trans ?_ h
    show Lib.trimPrefix _ _ <:+ _
    unfold Lib.trimPrefix
    split
    · exact List.drop_suffix _ _
    · exact List.suffix_refl _
theorem segM_read (k : Nat) (s : PS) : (segM k s).1.read.length ≤ s.read.length + 1 := by
  unfold segM
  simp only
  split
  · exact Nat.le_succ _
  · simp
theorem gap_len (k m : Nat) : 1 ≤ (gap k m).length := by unfold gap; split <;> simp
theorem gap_open (k : Nat) (r : List UInt8) : Lib.hasPrefix (r.drop (gap k (kindOf (r.drop 1))).length) (opens (kindOf (r.drop 1))) = true := by
  by_cases h : k = 2 ∧ kindOf (r.drop 1) = 2
  · rw [h.2]
    simp [opens, Lib.hasPrefix]
  · have : gap k (kindOf (r.drop 1)) = [32] := if_neg h
    rw [this]
    exact (kind_open (r.drop 1)).1
end Pt
theorem Asc.suffix {l m : List UInt8} (h : Asc l) (hs : m <:+ l) : Asc m := fun b hb => h b (hs.subset hb)

set_option maxRecDepth 20000 in
set_option maxHeartbeats 4000000 in
theorem rg_path (w0 : World) (hr : Rdy2 w0) (hs : Bkt w0) (p : Nat) (s : Pt.PS) (w : World) (h : SegSt w0 p s w) (ha : Asc s.rest) (hl : s.read.length + s.rest.length ≤ 90000) :
    Calls Tryd.prog 86 #[.pointer (some ⟨p, 0, none⟩)] w fun e w' => e = .returned (.bool (Pt.pathL (s.rest.length + 1) (Pt.kindOf s.rest) s).2) ∧ SegSt w0 p (Pt.pathL (s.rest.length + 1) (Pt.kindOf s.rest) s).1 w' ∧ (Pt.pathL (s.rest.length + 1) (Pt.kindOf s.rest) s).1.read.length ≤ 100000 := by
  obtain ⟨R, HRR⟩ : ∃ R, Hid (Pt.pathL (s.rest.length + 1) (Pt.kindOf s.rest) s = R) := ⟨_, Lib.hid rfl⟩
  rw [HRR.out]
  have HS := Lib.hid hs
  have HR2 := Lib.hid hr
  have HST := Lib.hid h
  have HA := Lib.hid ha
  obtain ⟨rv, hB, hP, hk0, hp0⟩ := h
  have c0 := hB.cell 0
  have HKO := Lib.hid (kindOf_any s.rest w (hs.kept hk0))
  have HKP := Lib.hid (Pt.kind_open s.rest)
  have HB := Lib.hid hB
  have hpw := hB.lt
  clear hs hr hP hk0 hB ha
  generalize Pt.kindOf s.rest = k0 at *
  go_enter Tryd.func86, Tryd.ntmps86
  go_wp2_with (go_at_call 93; refine (HKO.out).mono ?_; rintro e w1 ⟨rfl, k1⟩)
  have ST1 : Hid (SegSt w0 p s w1) := Lib.hid (by
    obtain ⟨rv, hB, hP, hk0, hp0⟩ := HST.out
    exact ⟨rv, hB.kept k1 (fun x => x), hP.old k1, hk0.trans k1, hp0⟩)
  clear k1 c0 HB HKO HST
  go_loopw [3] (fun kd wr => ∃ (f k : Nat) (s2 : Pt.PS), kd = .int .u8 (k : Int) ∧ Hid (SegSt w0 p s2 wr) ∧ Hid (Lib.hasPrefix s2.rest (Pt.opens k) = true ∧ 1 ≤ k ∧ k ≤ 4) ∧ Hid (Asc s2.rest) ∧ s2.read.length + s2.rest.length ≤ 90000 ∧ Hid (s2.rest.length < f ∧ Pt.pathL f k s2 = R)) (fun _ wr => rgm p undef wr)
  case atStart => exact ⟨s.rest.length + 1, k0, s, rfl, ST1, HKP, HA, hl, Lib.hid ⟨by omega, HRR.out⟩⟩
  case round =>
    clear ST1 HKP HA hl HRR
    obtain ⟨f, k, s2, rfl, HST, HOP, HA, hl, HF⟩ := hrel
    obtain ⟨hf, hpl⟩ := HF.out
    obtain ⟨f, rfl⟩ : ∃ g, f = g + 1 := ⟨f - 1, by omega⟩
    have HSEG := Lib.hid (rg_segment w0 HR2.out HS.out p k HOP.out.2.1 HOP.out.2.2 s2 wr HST.out HOP.out.1 HA.out (by omega) (by omega))
    have hsz : rgm p undef wr = 2 * s2.rest.length := by
      obtain ⟨rv, hB, _⟩ := HST.out
      unfold rgm
      rw [hB.cell 0]
      simp
      rfl
    have hsx := Pt.segM_suffix k s2
    have hlen := hsx.length_le
    have hrd := Pt.segM_read k s2
    have HA1 := Lib.hid (HA.out.suffix hsx)
    have hpl2 : R = if (Pt.segM k s2).2 = false then ((Pt.segM k s2).1, false) else if (Pt.segM k s2).1.rest = [] then ((Pt.segM k s2).1, true) else if Lib.hasPrefix (Pt.segM k s2).1.rest (Pt.gap k (Pt.kindOf ((Pt.segM k s2).1.rest.drop 1))) = true then Pt.pathL f (Pt.kindOf ((Pt.segM k s2).1.rest.drop 1)) ⟨(Pt.segM k s2).1.rest.drop (Pt.gap k (Pt.kindOf ((Pt.segM k s2).1.rest.drop 1))).length, (Pt.segM k s2).1.read, (Pt.segM k s2).1.err⟩ else ((Pt.segM k s2).1, false) := by
      rw [← hpl]
      conv => lhs; unfold Pt.pathL
    have HPL := Lib.hid hpl2
    have hk1 := HOP.out.2.1
    have hk4 := HOP.out.2.2
    clear hpl hpl2 HF hsx HST
    generalize (Pt.segM k s2).2 = ok at *
    generalize (Pt.segM k s2).1 = s3 at *
    cases ok with
    | false =>
      have HE : Hid (R = (s3, false)) := Lib.hid (by rw [HPL.out]; rfl)
      clear HPL
      go_wp2_with (go_at_call 94; refine (HSEG.out).mono ?_; rintro e w4 ⟨rfl, st4⟩)
      go_ret
      rw [HE.out]
      exact ⟨rfl, st4, by show s3.read.length ≤ _; omega⟩
    | true =>
      by_cases he : s3.rest = []
      · have HE : Hid (R = (s3, true)) := Lib.hid (by rw [HPL.out, if_neg (by simp), if_pos he])
        clear HPL
        go_wp2_with (go_at_call 94; refine (HSEG.out).mono ?_; rintro e w4 ⟨rfl, st4⟩; (have ST4 := Lib.hid st4); (obtain ⟨rv4, b4, p4, kk4, -⟩ := st4); (have c4 := b4.cell 0); (have B4 := Lib.hid b4); (have P4 := Lib.hid p4); (have K4 := Lib.hid kk4); clear b4 p4 kk4)
        go_ret
        rw [HE.out]
        exact ⟨rfl, ST4.out, by show s3.read.length ≤ _; omega⟩
      · have hpos : 0 < s3.rest.length := List.length_pos_iff.2 he
        have hie : s3.rest.isEmpty = false := List.isEmpty_eq_false_iff.2 he
        have HE1 := ext_hi s3.rest 1
        have hlen1 : (1 : Int) ≤ (s3.rest.length : Int) := by omega
        have HKP := Lib.hid (Pt.kind_open (s3.rest.drop 1))
        have HGO := Lib.hid (Pt.gap_open k s3.rest)
        have hgl := Pt.gap_len k (Pt.kindOf (s3.rest.drop 1))
        have HKO := Lib.hid (fun w (h : Bkt w) => kindOf_any (s3.rest.drop 1) w h)
        have HGA := Lib.hid (fun w => gap_any k (Pt.kindOf (s3.rest.drop 1)) (by omega) (by have := HKP.out.2.2; omega) w)
        have HCT := Lib.hid (fun rv err w h => rg_cut p s3.rest (Pt.gap k (Pt.kindOf (s3.rest.drop 1))) rv err w h)
        have HTR : Hid (Lib.hasPrefix s3.rest (Pt.gap k (Pt.kindOf (s3.rest.drop 1))) = true → Lib.trimPrefix s3.rest (Pt.gap k (Pt.kindOf (s3.rest.drop 1))) = s3.rest.drop (Pt.gap k (Pt.kindOf (s3.rest.drop 1))).length) := Lib.hid (fun e => by unfold Lib.trimPrefix; rw [e]; rfl)
        have HTF : Hid (Lib.hasPrefix s3.rest (Pt.gap k (Pt.kindOf (s3.rest.drop 1))) = false → Lib.trimPrefix s3.rest (Pt.gap k (Pt.kindOf (s3.rest.drop 1))) = s3.rest) := Lib.hid (fun e => by unfold Lib.trimPrefix; rw [e]; rfl)
        have HPL2 := Lib.hid (HPL.out.trans ((if_neg (by simp)).trans (if_neg he)))
        clear HPL
        generalize Pt.kindOf (s3.rest.drop 1) = k2 at *
        generalize Pt.gap k k2 = gp at *
        generalize s3.rest.drop 1 = r1 at *
        cases hg : Lib.hasPrefix s3.rest gp with
        | true =>
          have HPL3 := Lib.hid (HPL2.out.trans (if_pos hg))
          have et := HTR.out hg
          rw [hg, et] at HCT
          clear hg HTR HTF HPL2 et
          have HA2 := Lib.hid (HA1.out.drop gp.length)
          have hr2 : (s3.rest.drop gp.length).length < s3.rest.length := by rw [List.length_drop]; omega
          go_wp2_with (first
            | (go_at_call 94; refine (HSEG.out).mono ?_; rintro e w4 ⟨rfl, st4⟩; (have ST4 := Lib.hid st4); (obtain ⟨rv4, b4, p4, kk4, -⟩ := st4); (have c4 := b4.cell 0); (have B4 := Lib.hid b4); (have P4 := Lib.hid p4); (have K4 := Lib.hid kk4); clear b4 p4 kk4)
            | (go_at_call 93; refine (HKO.out _ (HS.out.kept K4.out)).mono ?_; rintro e w5 ⟨rfl, k5⟩)
            | (go_at_call 74; refine (HGA.out _).mono ?_; rintro e w6 ⟨rfl, rfl⟩)
            | (go_at_call 95; refine (HCT.out _ _ _ (by exact B4.out.kept k5 (fun x => x))).mono ?_; rintro e w7 ⟨rfl, r7, k7⟩))
          go_roundw
          case rel =>
            refine ⟨f, k2, ⟨s3.rest.drop gp.length, s3.read, s3.err⟩, rfl, Lib.hid ⟨rv4, r7, (P4.out.old k5).off (B4.out.kept k5 (fun x => x)) k7, (K4.out.trans k5).trans_new k7 (fun i hi (e : i = p) => by omega), hp0⟩, Lib.hid ⟨HGO.out, HKP.out.2⟩, HA2, ?_, Lib.hid ⟨?_, HPL3.out.symm⟩⟩
            · show s3.read.length + (s3.rest.drop gp.length).length ≤ _
              omega
            · show (s3.rest.drop gp.length).length < f
              omega
          case measure =>
            have h7 : rgm p undef w7 = 2 * (s3.rest.drop gp.length).length := by
              unfold rgm
              rw [r7.cell 0]
              simp
              show 2 * (s3.rest.drop gp.length).length = _
              rw [List.length_drop]
            rw [h7, hsz]
            omega
        | false =>
          have HPL3 : Hid (R = (s3, false)) := Lib.hid (HPL2.out.trans (if_neg (by rw [hg]; simp)))
          have et := HTF.out hg
          rw [hg, et] at HCT
          clear hg HTR HTF HPL2 et
          go_wp2_with (first
            | (go_at_call 94; refine (HSEG.out).mono ?_; rintro e w4 ⟨rfl, st4⟩; (have ST4 := Lib.hid st4); (obtain ⟨rv4, b4, p4, kk4, -⟩ := st4); (have c4 := b4.cell 0); (have B4 := Lib.hid b4); (have P4 := Lib.hid p4); (have K4 := Lib.hid kk4); clear b4 p4 kk4)
            | (go_at_call 93; refine (HKO.out _ (HS.out.kept K4.out)).mono ?_; rintro e w5 ⟨rfl, k5⟩)
            | (go_at_call 74; refine (HGA.out _).mono ?_; rintro e w6 ⟨rfl, rfl⟩)
            | (go_at_call 95; refine (HCT.out _ _ _ (by exact B4.out.kept k5 (fun x => x))).mono ?_; rintro e w7 ⟨rfl, r7, k7⟩))
          go_ret
          rw [HPL3.out]
          exact ⟨rfl, ⟨rv4, r7, (P4.out.old k5).off (B4.out.kept k5 (fun x => x)) k7, (K4.out.trans k5).trans_new k7 (fun i hi (e : i = p) => by omega), hp0⟩, by show s3.read.length ≤ _; omega⟩
end Go.Proofs.YtfjpphfadglohaaDoor
