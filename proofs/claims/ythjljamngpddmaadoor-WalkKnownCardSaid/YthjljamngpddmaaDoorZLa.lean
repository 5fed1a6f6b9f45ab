
/-
  The law WalkKnown, walked.
-/
import Derived.Test.YthjljamngpddmaaDoorY12
namespace Go.Proofs.YthjljamngpddmaaDoor
open Go.RowKit Go.Shelf

set_option maxRecDepth 100000 in
set_option maxHeartbeats 8000000 in
theorem law_wknown (w : World) (hr : Rdy w) (hs : Bkt w) :
    Calls Tryd.prog 5 #[] w fun e w' => e = .returned (.bool true) ∧ Kept Nothing w w' := by
  have HR := Lib.hid hr
  have HS := Lib.hid hs
  have hmk := make255
  have AZ := Lib.hid (as255 w)
  have KM := Lib.hid ((Kept.refl Nothing w).alloc (.cells (madeCells #[.int .u32 0] 255) 25))
  have OF := Lib.hid (fun v u h => path_ofL 2 kz (fun e => by have := congrArg List.length e; rw [kz_len] at this; simp at this) (by rw [kz_len]; omega) v u h)
  have OF2 := Lib.hid (fun v u h => path_ofL 2 [5, 0] (by decide) (by decide) v u h)
  have hkzb : ∀ s ∈ ([(2, kz)] : List Seg), s.2.length ≤ 1000000 := fun s hs => by
    obtain rfl := List.mem_singleton.1 hs
    rw [kz_len]; omega
  have PF := Lib.hid (fun v u (h : Pts u v [(2, kz)]) => walk_prepend v _ 2 7 (by decide) u h (by simp) hkzb)
  have hmb : ∀ s ∈ kMany 32, s.2.length ≤ 1000000 := fun s hs => by
    rw [List.eq_of_mem_replicate hs]; simp
  have PM := Lib.hid (fun v u (h : Pts u v (kMany 32)) => walk_prepend v _ 2 7 (by decide) u h (by unfold kMany; simp) hmb)
  have PS := Lib.hid (fun u => walk_prepend _ _ 1 7 (by decide) u (Pts.nil u) (by simp) (fun s hs => by cases hs))
  have PC := Lib.hid (fun u => walk_prepend _ _ 4 7 (by decide) u (Pts.nil u) (by simp) (fun s hs => by cases hs))
  have PQ := Lib.hid (fun u => walk_prepend _ _ 3 7 (by decide) u (Pts.nil u) (by simp) (fun s hs => by cases hs))
  have hbb : ∀ s ∈ kBad, s.2.length ≤ 1000000 := by decide
  have hlb : ∀ s ∈ kLate, s.2.length ≤ 1000000 := by decide
  have hzb : ∀ s ∈ kZero, s.2.length ≤ 1000000 := by decide
  have PB := Lib.hid (fun v u (h : Pts u v kBad) => walk_prepend v _ 2 7 (by decide) u h (by decide) hbb)
  have FB := Lib.hid (fun v u (h : Pts u v kBad) => walk_first v _ u h (by decide))
  rw [kp_full] at PF
  rw [kp_many] at PM
  rw [kp_set] at PS
  rw [kp_cset] at PC
  rw [kp_cseq] at PQ
  rw [kp_bad] at PB
  rw [kf_bad] at FB
  clear hr hs hkzb hmb
  replace PF : Hid (∀ v u, Pts u v [(2, kz)] → Calls Tryd.prog 26 #[v, .int .u8 2, .int .u32 7] u fun e w' => ∃ v', e = .returned (.tuple #[v', .int .i64 0]) ∧ Pown w' u.heap.size v' [(2, [7]), (2, kz)] ∧ Kept Nothing u w') := PF
  replace PM : Hid (∀ v u, Pts u v (kMany 32) → Calls Tryd.prog 26 #[v, .int .u8 2, .int .u32 7] u fun e w' => ∃ v', e = .returned (.tuple #[v', .int .i64 7]) ∧ Pown w' u.heap.size v' [] ∧ Kept Nothing u w') := PM
  replace PS : Hid (∀ u, Calls Tryd.prog 26 #[.slice none 0 0, .int .u8 1, .int .u32 7] u fun e w' => ∃ v', e = .returned (.tuple #[v', .int .i64 1]) ∧ Pown w' u.heap.size v' [] ∧ Kept Nothing u w') := PS
  replace PC : Hid (∀ u, Calls Tryd.prog 26 #[.slice none 0 0, .int .u8 4, .int .u32 7] u fun e w' => ∃ v', e = .returned (.tuple #[v', .int .i64 1]) ∧ Pown w' u.heap.size v' [] ∧ Kept Nothing u w') := PC
  replace PQ : Hid (∀ u, Calls Tryd.prog 26 #[.slice none 0 0, .int .u8 3, .int .u32 7] u fun e w' => ∃ v', e = .returned (.tuple #[v', .int .i64 0]) ∧ Pown w' u.heap.size v' [(3, [7])] ∧ Kept Nothing u w') := PQ
  replace PB : Hid (∀ v u, Pts u v kBad → Calls Tryd.prog 26 #[v, .int .u8 2, .int .u32 7] u fun e w' => ∃ v', e = .returned (.tuple #[v', .int .i64 1]) ∧ Pown w' u.heap.size v' [] ∧ Kept Nothing u w') := PB
  replace FB : Hid (∀ v u, Pts u v kBad → Calls Tryd.prog 8 #[v] u fun e w' => e = .returned (.tuple #[.int .u8 0, .int .u32 0, .bool false]) ∧ Kept Nothing u w') := FB
  go_enter Tryd.func5, Tryd.ntmps5
  go_upto_region 2 with (go_at_call 32; refine (OF.out _ _ AZ.out).mono ?_; rintro e w1 ⟨v1, rfl, p1, k1⟩; (obtain ⟨A1, c1, rfl, _, _⟩ := p1.form); (have P1 := Lib.hid p1); (have K1 := Lib.hid (KM.out.trans k1)); clear p1 k1)
  clear hmk AZ OF KM
  go_upto_region 3 with (go_at_call 26; refine (PF.out _ _ P1.out).mono ?_; rintro e w2 ⟨v2, rfl, p2, k2⟩; (obtain ⟨A2, c2, rfl, _, _⟩ := p2.pts.form); (have P2 := Lib.hid p2.pts); (have K2 := Lib.hid (K1.out.trans k2)); clear p2 k2)
  clear P1 PF K1
  go_wp2
  obtain ⟨i0, hi, hz0, hz1, hz2⟩ := info_parts sg_info
  go_loopw [4, 28] (fun q i wr => ∃ k : Nat, i = .int .i64 (k : Int) ∧ k ≤ 32 ∧ Hid (Pown wr w2.heap.size q (kMany k)) ∧ Hid (Kept Nothing w2 wr)) (fun _ i _ => 32 - (intOf i).toNat)
  case atStart => exact ⟨0, rfl, Nat.zero_le _, Lib.hid (Pown.nil _ _), Lib.hid (Kept.refl _ _)⟩
  case round =>
    obtain ⟨k, rfl, hk, HP, KK⟩ := hrel
    by_cases hlt : k < 32
    · obtain ⟨xs, oq, hr⟩ := HP.out
      rw [show (kMany k).length = k from List.length_replicate] at oq
      have OQ := Lib.hid oq
      have HRW := Lib.hid hr
      obtain ⟨Aq, cq, rfl, _, _⟩ := ow_form oq
      clear oq hr
      have i2 : (k : Int) < 32 := by omega
      have ET : Hid (kMany (k + 1) = kMany k ++ [(1, [1])]) := Lib.hid (by unfold kMany; rw [List.replicate_succ'])
      have AS1 := Lib.hid (as_mk wr #[.int .u32 1] [1] rfl (by simp) (by simp))
      have K0 := Lib.hid ((Kept.refl Nothing wr).alloc (.cells #[.int .u32 1] 25))
      have hz1' : (wr.alloc (.cells #[.int .u32 1] 25)).heap.size = wr.heap.size + 1 := World.size_alloc _ _
      clear PM PS PC PQ PB FB OF2
      go_wp2_with (at_builtin; refine wpList_app _ rfl _ _ 23 rfl w2.heap.size 61 i0 (.agg #[.int .u8 0, .slice none 0 0]) 2 32 Tryd.underlying23 hi hz0 hz1 hz2 rfl (by decide) (.slice Aq k cq) k xs rfl (ow_kept OQ.out (K0.out.alloc _) (fun _ _ x => x)) (some ⟨wr.heap.size + 1, 0, none⟩) 1 1 [.int .u8 1, .slice (some ⟨wr.heap.size, 0, none⟩) 1 1] rfl (by rw [← hz1']; exact src_new (wr.alloc (.cells #[.int .u32 1] 25)) _ #[.int .u8 1, .slice (some ⟨wr.heap.size, 0, none⟩) 1 1] 2 1 rfl (by simp [Value.oneCell'])) (by unfold maxLen; omega) (by omega) (by have := (KK.out.trans (K0.out.alloc (.cells #[.int .u8 1, .slice (some ⟨wr.heap.size, 0, none⟩) 1 1] 61))).size; exact this) ?_; intro v7 w7 hown7 hg7 _; (have O7 := Lib.hid hown7); (have G7 := Lib.hid hg7); (obtain ⟨A7, c7, rfl, _, _⟩ := ow_form hown7); clear hown7 hg7)
      go_roundw
      case rel =>
        have ka := K0.out.alloc (.cells #[.int .u8 1, .slice (some ⟨wr.heap.size, 0, none⟩) 1 1] 61)
        have oq2 := ow_kept OQ.out ka (fun _ _ x => x)
        have o1 : (wr.alloc (.cells #[.int .u32 1] 25)).ownsRow wr.heap.size 25 1 (.slice (some ⟨wr.heap.size, 0, none⟩) 1 1) 1 [.int .u32 1] := ⟨rfl, .inr ⟨wr.heap.size, 1, #[.int .u32 1], rfl, Nat.le_refl _, heap_alloc_new wr _, Nat.le_refl _, by simp [maxLen], rfl, rfl⟩⟩
        refine ⟨k + 1, by go_num, by omega, Lib.hid ⟨xs ++ [by8 1, .slice (some ⟨wr.heap.size, 0, none⟩) 1 1], ?_, ?_⟩, Lib.hid ((KK.out.trans ka).own_grown oq2 (Nat.le_refl _) G7.out)⟩
        · rw [ET.out, List.length_append, show (kMany k).length = k from List.length_replicate]; exact O7.out
        · rw [ET.out]
          exact Rws.push (c := (1, [1])) oq2 (HRW.out.old ka) (ow_kept (own_weakA o1 KK.out.size) ((Kept.refl Nothing _).alloc _) (fun _ _ x => x)) (by simp) G7.out
      case measure => simp [intOf]; omega
    · obtain rfl : k = 32 := by omega
      have PMY := Lib.hid HP.out.pts
      obtain ⟨Aq, cq, rfl, _, _⟩ := PMY.out.form
      rw [show (kMany 32).length = 32 from List.length_replicate]
      have KA := Lib.hid (K2.out.trans KK.out)
      replace P2 := Lib.hid (P2.out.old KK.out)
      clear HP K2 KK hi hz0 hz1 hz2
      go_upto_region 9 with (go_at_call 26; refine (PM.out _ _ PMY.out).mono ?_; rintro e w3 ⟨v3, rfl, p3, k3⟩; (obtain ⟨A3, c3, rfl, _, _⟩ := p3.pts.form); (have K3 := Lib.hid (KA.out.trans k3)); (replace P2 := Lib.hid (P2.out.old k3)); clear p3 k3)
      go_upto_region 10 with (go_at_call 26; refine (PS.out _).mono ?_; rintro e w4 ⟨v4, rfl, p4, k4⟩; (obtain ⟨A4, c4, rfl, _, _⟩ := p4.pts.form); (have K4 := Lib.hid (K3.out.trans k4)); (replace P2 := Lib.hid (P2.out.old k4)); clear p4 k4)
      go_upto_region 11 with (go_at_call 26; refine (PC.out _).mono ?_; rintro e w5 ⟨v5, rfl, p5, k5⟩; (obtain ⟨A5, c5, rfl, _, _⟩ := p5.pts.form); (have K5 := Lib.hid (K4.out.trans k5)); (replace P2 := Lib.hid (P2.out.old k5)); clear p5 k5)
      clear PM PMY PS PC KA K3 K4
      go_upto_region 12 with fail
      have PBD := Lib.hid (made1 w5 5 9 (by decide))
      have KB := Lib.hid (((Kept.refl Nothing w5).alloc (.cells #[.int .u32 9] 25)).alloc (.cells #[.int .u8 5, .slice (some ⟨w5.heap.size, 0, none⟩) 1 1] 61))
      replace PBD : Hid (Pts ((w5.alloc (.cells #[.int .u32 9] 25)).alloc (.cells #[.int .u8 5, .slice (some ⟨w5.heap.size, 0, none⟩) 1 1] 61)) (.slice (some ⟨w5.heap.size + 1, 0, none⟩) 1 1) kBad) := PBD
      have K6 := Lib.hid (K5.out.trans KB.out)
      replace P2 := Lib.hid (P2.out.old KB.out)
      clear KB K5
      generalize (w5.alloc (.cells #[.int .u32 9] 25)).alloc (.cells #[.int .u8 5, .slice (some ⟨w5.heap.size, 0, none⟩) 1 1] 61) = w6 at *
      generalize w5.heap.size + 1 = gB at *
      go_upto_region 13 with (go_at_call 26; refine (PB.out _ _ PBD.out).mono ?_; rintro e w7 ⟨v7, rfl, p7, k7⟩; (obtain ⟨A7, c7, rfl, _, _⟩ := p7.pts.form); (have K7 := Lib.hid (K6.out.trans k7)); (replace P2 := Lib.hid (P2.out.old k7)); (replace PBD := Lib.hid (PBD.out.old k7)); clear p7 k7)
      go_upto_region 14 with (go_at_call 8; refine (FB.out _ _ PBD.out).mono ?_; rintro e w8 ⟨rfl, k8⟩; (have K8 := Lib.hid (K7.out.trans k8)); (replace P2 := Lib.hid (P2.out.old k8)); (replace PBD := Lib.hid (PBD.out.old k8)); clear k8)
      go_upto_region 15 with (go_at_call 26; refine (PQ.out _).mono ?_; rintro e w9 ⟨v9, rfl, p9, k9⟩; (obtain ⟨A9, c9, rfl, _, _⟩ := p9.pts.form); (have P9 := Lib.hid p9.pts); (have K9 := Lib.hid (K8.out.trans k9)); (replace P2 := Lib.hid (P2.out.old k9)); (replace PBD := Lib.hid (PBD.out.old k9)); clear p9 k9)
      clear PB FB PQ K6 K7 K8
      go_upto_region 16 with fail
      have PLT : Hid (Pts (((w9.alloc (.cells #[.int .u32 1] 25)).alloc (.cells #[.int .u32 2] 25)).alloc (.cells #[.int .u8 2, .slice (some ⟨w9.heap.size, 0, none⟩) 1 1, .int .u8 3, .slice (some ⟨w9.heap.size + 1, 0, none⟩) 1 1] 61)) (.slice (some ⟨w9.heap.size + 1 + 1, 0, none⟩) 2 2) kLate) := Lib.hid (made2 w9 2 3 1 2 (by decide) (by decide))
      have KB := Lib.hid ((((Kept.refl Nothing w9).alloc (.cells #[.int .u32 1] 25)).alloc (.cells #[.int .u32 2] 25)).alloc (.cells #[.int .u8 2, .slice (some ⟨w9.heap.size, 0, none⟩) 1 1, .int .u8 3, .slice (some ⟨w9.heap.size + 1, 0, none⟩) 1 1] 61))
      have K10 := Lib.hid (K9.out.trans KB.out)
      replace P2 := Lib.hid (P2.out.old KB.out)
      replace P9 := Lib.hid (P9.out.old KB.out)
      replace PBD := Lib.hid (PBD.out.old KB.out)
      clear KB K9
      generalize ((w9.alloc (.cells #[.int .u32 1] 25)).alloc (.cells #[.int .u32 2] 25)).alloc (.cells #[.int .u8 2, .slice (some ⟨w9.heap.size, 0, none⟩) 1 1, .int .u8 3, .slice (some ⟨w9.heap.size + 1, 0, none⟩) 1 1] 61) = w10 at *
      generalize w9.heap.size + 1 + 1 = gL at *
      have AZ2 := Lib.hid (as_mk w10 #[.int .u32 5, .int .u32 0] [5, 0] rfl (by simp) (by simp))
      have KZ2 := Lib.hid ((Kept.refl Nothing w10).alloc (.cells #[.int .u32 5, .int .u32 0] 25))
      go_upto_region 17 with (go_at_call 32; refine (OF2.out _ _ AZ2.out).mono ?_; rintro e w11 ⟨v11, rfl, p11, k11⟩; (obtain ⟨A11, c11, rfl, _, _⟩ := p11.form); (have PZ := Lib.hid (show Pts w11 _ kZero from p11)); (have K11 := Lib.hid (K10.out.trans (KZ2.out.trans k11))); (replace P2 := Lib.hid (P2.out.old (KZ2.out.trans k11))); (replace P9 := Lib.hid (P9.out.old (KZ2.out.trans k11))); (replace PBD := Lib.hid (PBD.out.old (KZ2.out.trans k11))); (replace PLT := Lib.hid (PLT.out.old (KZ2.out.trans k11))); clear p11 k11)
      clear OF2 AZ2 KZ2 K10
      obtain ⟨b, o, Au, cu, hA2, -, q1, -⟩ := P2.out.at2 (i := 0) (by simp)
      rw [Nat.zero_mul, Nat.add_zero] at q1
      replace q1 : w11.cell? ⟨b, o + 1, none⟩ = some (.slice Au 1 cu) := q1
      subst hA2
      have T1 := Lib.hid (fun u (k : Kept Nothing w11 u) => walk_has _ kBad 9 u (PBD.out.old k) (by decide) hbb)
      have T2 := Lib.hid (fun u (k : Kept Nothing w11 u) => walk_strip _ kBad u (PBD.out.old k) (by decide) hbb)
      have T3 := Lib.hid (fun u (k : Kept Nothing w11 u) => walk_replace _ kBad 9 8 (by decide) u (PBD.out.old k) (by decide) hbb)
      have T4 := Lib.hid (fun u (k : Kept Nothing w11 u) => walk_length _ kBad u (PBD.out.old k) (by decide) hbb)
      have T5 := Lib.hid (fun u (k : Kept Nothing w11 u) => walk_origin _ kBad u (PBD.out.old k) (by decide) hbb)
      have T6 := Lib.hid (fun u (k : Kept Nothing w11 u) => walk_ordered _ kBad u (PBD.out.old k) (by decide) hbb)
      have T7 := Lib.hid (fun u (k : Kept Nothing w11 u) => walk_loops _ kBad 9 9 u (PBD.out.old k) (by decide) hbb)
      have T8 := Lib.hid (fun u (k : Kept Nothing w11 u) => path_text _ _ u (P9.out.old k) (by decide) (HR.out.kept (K11.out.trans k)) (HS.out.kept (K11.out.trans k)))
      have T9 := Lib.hid (fun u (k : Kept Nothing w11 u) => walk_ordered _ kLate u (PLT.out.old k) (by decide) hlb)
      have T10 := Lib.hid (fun u (k : Kept Nothing w11 u) => walk_right _ kLate 1 0 u (PLT.out.old k) (by decide) hlb)
      have T11 := Lib.hid (fun u (k : Kept Nothing w11 u) => walk_right _ kZero 3 5 u (PZ.out.old k) (by decide) hzb)
      have T12 := Lib.hid (fun u (_ : Kept Nothing w11 u) => walk_right _ _ 3 0 u (Pts.nil u) (by simp) (fun s hs => by cases hs))
      have T13 := Lib.hid (fun u (_ : Kept Nothing w11 u) => walk_right _ _ 1 0 u (Pts.nil u) (by simp) (fun s hs => by cases hs))
      have T14 := Lib.hid (fun u (k : Kept Nothing w11 u) => walk_origin _ kLate u (PLT.out.old k) (by decide) hlb)
      have T15 := Lib.hid (fun u (k : Kept Nothing w11 u) => walk_neighbour _ kLate u (PLT.out.old k) (by decide) hlb)
      have T16 := Lib.hid (fun u (_ : Kept Nothing w11 u) => walk_ordered _ _ u (Pts.nil u) (by simp) (fun s hs => by cases hs))
      have T17 := Lib.hid (fun u (k : Kept Nothing w11 u) => tells_true u (HR.out.kept (K11.out.trans k)) (HS.out.kept (K11.out.trans k)))
      rw [kx_bad.1] at T1
      rw [kx_bad.2.1] at T2
      rw [kx_bad.2.2.1] at T3
      rw [kx_bad.2.2.2.1] at T4
      rw [kx_bad.2.2.2.2.1] at T5
      rw [kx_bad.2.2.2.2.2.1] at T6
      rw [kx_bad.2.2.2.2.2.2] at T7
      rw [kt_b] at T8
      rw [kx_late.1] at T9
      rw [kx_late.2.1] at T10
      rw [kx_zero] at T11
      rw [kx_nil.1] at T12
      rw [kx_nil.2.1] at T13
      rw [kx_late.2.2.1] at T14
      rw [kx_late.2.2.2] at T15
      rw [kx_nil.2.2] at T16
      clear hbb hlb hzb P2 PBD P9 PLT PZ HR HS
      go_wp2_with (first
        | (go_at_call 25; refine (T17.out _ m16).mono ?_; rintro e z17 ⟨rfl, n17⟩)
        | (go_at_call 14; refine (T16.out _ m15).mono ?_; rintro e z16 ⟨rfl, n16⟩; have m16 := m15.trans n16)
        | (go_at_call 18; refine (T15.out _ m14).mono ?_; rintro e z15 ⟨rfl, n15⟩; have m15 := m14.trans n15)
        | (go_at_call 20; refine (T14.out _ m13).mono ?_; rintro e z14 ⟨rfl, n14⟩; have m14 := m13.trans n14)
        | (go_at_call 16; refine (T13.out _ m12).mono ?_; rintro e z13 ⟨rfl, n13⟩; have m13 := m12.trans n13)
        | (go_at_call 16; refine (T12.out _ m11).mono ?_; rintro e z12 ⟨rfl, n12⟩; have m12 := m11.trans n12)
        | (go_at_call 16; refine (T11.out _ m10).mono ?_; rintro e z11 ⟨rfl, n11⟩; have m11 := m10.trans n11)
        | (go_at_call 16; refine (T10.out _ m9).mono ?_; rintro e z10 ⟨rfl, n10⟩; have m10 := m9.trans n10)
        | (go_at_call 14; refine (T9.out _ m8).mono ?_; rintro e z9 ⟨rfl, n9⟩; have m9 := m8.trans n9)
        | (go_at_call 33; refine (T8.out _ m7).mono ?_; rintro e z8 ⟨rfl, n8⟩; have m8 := m7.trans n8)
        | (go_at_call 12; refine (T7.out _ m6).mono ?_; rintro e z7 ⟨rfl, n7⟩; have m7 := m6.trans n7)
        | (go_at_call 14; refine (T6.out _ m5).mono ?_; rintro e z6 ⟨rfl, n6⟩; have m6 := m5.trans n6)
        | (go_at_call 20; refine (T5.out _ m4).mono ?_; rintro e z5 ⟨rfl, n5⟩; have m5 := m4.trans n5)
        | (go_at_call 22; refine (T4.out _ m3).mono ?_; rintro e z4 ⟨rfl, n4⟩; have m4 := m3.trans n4)
        | (go_at_call 29; refine (T3.out _ m2).mono ?_; rintro e z3 ⟨y3, rfl, f3, n3⟩; (obtain ⟨B3, d3, rfl, _, _⟩ := f3.pts.form); have m3 := m2.trans n3)
        | (go_at_call 28; refine (T2.out _ m1).mono ?_; rintro e z2 ⟨y2, rfl, f2, n2⟩; (obtain ⟨B2, d2, rfl, _, _⟩ := f2.pts.form); have m2 := m1.trans n2)
        | (go_at_call 10; refine (T1.out _ (Kept.refl _ _)).mono ?_; rintro e z1 ⟨rfl, m1⟩))
      go_ret
      exact ⟨rfl, K11.out.trans (m16.trans n17)⟩
end Go.Proofs.YthjljamngpddmaaDoor
