
/-
  The law FuseKnown.
-/
import Derived.Test.YthjljamngpddmaaGreatDoorY25
import Derived.Test.YthjljamngpddmaaGreatDoorY18
import Derived.Test.YthjljamngpddmaaGreatDoorY19
import Derived.Test.YthjljamngpddmaaGreatDoorY22
namespace Go.Proofs.YthjljamngpddmaaGreatDoor
open Go.RowKit Go.Shelf

/-- A path of one segment. -/
theorem path_ofL (k : UInt8) (l : List Nat) (hne : l ≠ []) (hl : l.length ≤ 1000000) (v : Value) (w : World) (h : As w v l) :
    Calls Tryz.prog 42 #[.int .u8 (k.toNat : Int), v] w fun e w' => ∃ v' xs, e = .returned v' ∧ w'.ownsRow w.heap.size 72 2 v' 1 xs ∧ Rws w' w.heap.size xs [(k, l)] ∧ Kept Nothing w w' := by
  obtain ⟨A, c, rfl, _, _⟩ := h.form
  have HC := Lib.hid (as_clone _ l w h (by omega))
  have HF := Lib.hid h.1
  have hpos : 0 < l.length := List.length_pos_iff.2 hne
  have hz : ((l.length : Int) == 0) = false := by simp; omega
  clear h
  go_enter Tryz.func42, Tryz.ntmps42
  go_wp2_with (go_at_call 56; refine (HC.out).mono ?_; rintro e w2 ⟨v2, rfl, o2, k2⟩; (obtain ⟨A2, c2, rfl, _, _⟩ := ow_form o2); (have O2 := Lib.hid o2); (have K2 := Lib.hid k2); clear o2 k2)
  go_ret
  refine ⟨_, [.int .u8 (k.toNat : Int), .slice A2 l.length c2], rfl, own_weakA (own_one w2 #[.int .u8 (k.toNat : Int), .slice A2 l.length c2] rfl) K2.out.size, ⟨rfl, ow_kept O2.out ((Kept.refl Nothing w2).alloc _) (fun _ _ x => x), HF.out, trivial⟩, K2.out.alloc _⟩

def kz : List Nat := List.replicate 255 0
theorem kz_len : kz.length = 255 := List.length_replicate
theorem kz_fuse : Fz.fuse [(2, [1, 2]), (2, kz)] [(2, kz)] = [(2, [1, 2]), (2, kz)] := by
  have hp : ∀ s ∈ ([(2, kz)] : List Seg), Wk.confed s.1 = false := fun s hs => by
    obtain rfl := List.mem_singleton.1 hs
    rfl
  have hw : ([(2, kz)] : List Seg).any Fz.wideS = false := by
    rw [List.any_eq_false]
    intro s hs
    obtain rfl := List.mem_singleton.1 hs
    unfold Fz.wideS
    have : kz.any Fz.big = false := by
      rw [List.any_eq_false]
      intro n hn
      rw [List.eq_of_mem_replicate hn]
      decide
    rw [this]
    simp
  have h := Fz.fuse_way hp [1, 2]
  rw [Fz.nar_self hp hw] at h
  have e1 : Fz.ahd [(2, kz)] 2 = [(2, [2]), (2, kz)] := Fz.ahd_no (fun h => by have := h.2; rw [kz_len] at this; omega)
  have e2 : Fz.pre [(2, kz)] [1, 2] = [(2, [1, 2]), (2, kz)] := by
    show Fz.ahd (Fz.ahd [(2, kz)] 2) 1 = _
    rw [e1]
    rfl
  rw [e2] at h
  exact h
theorem as_mk (w : World) (cs : Array Value) (l : List Nat) (h : cs.toList = ass l) (hm : l.length ≤ 1000) (hl : ∀ n ∈ l, n < 4294967296) : As (w.alloc (.cells cs 54)) (.slice (some ⟨w.heap.size, 0, none⟩) l.length l.length) l := by
  have hs : cs.size = l.length := by rw [← Array.length_toList, h, length_ass]
  refine As.of_own (base := 0) (e := 54) ⟨by rw [length_ass, Nat.mul_one], .inr ⟨w.heap.size, l.length, cs, rfl, Nat.zero_le _, heap_alloc_new w _, Nat.le_refl _, by unfold maxLen; omega, by rw [hs, Nat.mul_one], ?_⟩⟩ hl
  rw [List.take_of_length_le (by simp [hs]), h]
theorem make255 (w : World) : (Instr.makeSlice 70 (.int .i64 255) (.int .i64 255)).run Tryz.prog w = .ok (.slice (some ⟨w.heap.size, 0, none⟩) 255 255) (w.alloc (.cells (madeCells #[.int .u32 0] 255) 54)) := by
  obtain ⟨i, hi, h1, h2, h3⟩ := info_parts as_info
  have := run_make (P := Tryz.prog) w 70 54 i (.int .u32 0) Tryz.underlying70 hi h1 .i64 .i64 255 255 (by omega) (by omega) (by rw [h3]; omega) (by omega)
  rw [h2, Nat.mul_one] at this
  exact this
theorem as255 (w : World) : As (w.alloc (.cells (madeCells #[.int .u32 0] 255) 54)) (.slice (some ⟨w.heap.size, 0, none⟩) 255 255) kz := by
  have h := as_mk w (madeCells #[.int .u32 0] 255) kz (by rw [toList_madeCells_one]; unfold ass kz; rw [List.map_replicate]; rfl) (by rw [kz_len]; omega) (fun n hn => by have := List.eq_of_mem_replicate hn; omega)
  rwa [kz_len] at h

/-- Its texts. -/
theorem kp1 : Pt.parseP [40, 55, 48, 48, 48, 48, 41, 32, 49, 32, 123, 55, 48, 48, 48, 49, 44, 50, 125, 32, 91, 55, 48, 48, 48, 50, 93] = ([(3, [70000]), (2, [1]), (1, [70001, 2]), (4, [70002])], 0) := by rfl
theorem kp2 : Pt.parseP [40, 55, 48, 48, 48, 48, 41, 32, 49] = ([(3, [70000]), (2, [1])], 0) := by rfl
theorem kp3 : Pt.parseP [49, 32, 50, 32, 123, 51, 44, 52, 125, 32, 40, 53, 41, 32, 91, 54, 93] = ([(2, [1, 2]), (1, [3, 4]), (3, [5]), (4, [6])], 0) := by rfl
theorem kn1 : Fz.narrow [(3, [70000]), (2, [1]), (1, [70001, 2]), (4, [70002])] = ([(3, [23456]), (2, [1]), (1, [23456, 2]), (4, [23456])], [(2, [1]), (1, [70001, 2])], true) := by rfl
theorem kn2 : Fz.narrow [(3, [70000]), (2, [1])] = ([(3, [23456]), (2, [1])], [], false) := by rfl
set_option linter.unusedSimpArgs false in
theorem kx1 : Pt.text [(3, [23456]), (2, [1]), (1, [23456, 2]), (4, [23456])] = [40, 50, 51, 52, 53, 54, 41, 32, 49, 32, 123, 50, 51, 52, 53, 54, 44, 50, 125, 32, 91, 50, 51, 52, 53, 54, 93] := by
  show Pt.tx [(3, [23456]), (2, [1]), (1, [23456, 2]), (4, [23456])] 4 = _
  simp [Pt.tx, Pt.ahead, Pt.gap, Pt.segT, Pt.opens, Pt.betw, Pt.ends, Fz.e1, Fz.e2, Fz.e23456, Lib.join, List.intercalate, List.intersperse]
set_option linter.unusedSimpArgs false in
theorem kx2 : Pt.text [(2, [1]), (1, [70001, 2])] = [49, 32, 123, 55, 48, 48, 48, 49, 44, 50, 125] := by
  show Pt.tx [(2, [1]), (1, [70001, 2])] 2 = _
  simp [Pt.tx, Pt.ahead, Pt.gap, Pt.segT, Pt.opens, Pt.betw, Pt.ends, Fz.e1, Fz.e2, Fz.e70001, Lib.join, List.intercalate, List.intersperse]

set_option maxRecDepth 100000 in
set_option maxHeartbeats 8000000 in
theorem law_known (w : World) (hr : Rdy2 w) (hs : Bkt w) :
    Calls Tryz.prog 8 #[] w fun e w' => e = .returned (.bool true) ∧ Kept Nothing w w' := by
  have HR := Lib.hid hr
  have HS := Lib.hid hs
  clear hr hs
  go_enter Tryz.func8, Tryz.ntmps8
  go_wp2
  go_loopw [26] (fun i wr => ∃ k : Nat, i = .int .i64 (k : Int) ∧ k ≤ 13 ∧ Hid (Kept Nothing w wr)) (fun i _ => 13 - (intOf i).toNat)
  case atStart => exact ⟨0, rfl, Nat.zero_le _, Lib.hid (Kept.refl _ _)⟩
  case round =>
    obtain ⟨k, rfl, hk, KK⟩ := hrel
    by_cases h4 : k < 13
    · obtain ⟨a, b, c, p, q, hix, ha, hb, hla, hlb, hpa, hpb, hl, hl2, hn, hn2, hz, hc, hfl⟩ := krows k h4
      obtain ⟨C1, C2, C3, C4⟩ := row_calls w HR.out HS.out a b c p q _ ha hb hla hlb hpa hpb hl hl2 hn hn2 hz rfl hc hfl
      replace C1 := Lib.hid C1
      replace C2 := Lib.hid C2
      replace C3 := Lib.hid C3
      replace C4 := Lib.hid C4
      have i2 : (k : Int) < 13 := by omega
      clear ha hb hla hlb hpa hpb hl hl2 hn hn2 hz hc hfl
      generalize Fz.fuse p q = f at *
      go_upto_region 4 with fail
      have b0 := Blk.fresh wr 75 #[.string ⟨a.toArray⟩, .string ⟨b.toArray⟩, .string ⟨c.toArray⟩]
      have k0 := (Kept.refl Nothing wr).alloc (.cells #[.string ⟨a.toArray⟩, .string ⟨b.toArray⟩, .string ⟨c.toArray⟩] 75)
      obtain ⟨w1, hw1⟩ : ∃ w1, wr.alloc (.cells #[.string ⟨a.toArray⟩, .string ⟨b.toArray⟩, .string ⟨c.toArray⟩] 75) = w1 := ⟨_, rfl⟩
      rw [hw1] at b0 k0 ⊢
      have c0 := b0.cell 0
      have c1 := b0.cell 1
      have c2 := b0.cell 2
      have B0 := Lib.hid b0
      have K0 := Lib.hid (KK.out.trans k0)
      generalize wr.heap.size = bn at *
      clear b0 k0 hw1 hix
      go_region_law (first
        | (go_simp; go_at_call 21; refine (C4.out _ _ K4.out P4.out).mono ?_; rintro e w5 ⟨rfl, k5⟩; (have d2 := (B4.out.kept k5 (fun x => x)).cell 2); (have K5 := Lib.hid (K4.out.trans k5)); clear k5)
        | (go_simp; go_at_call 33; refine (C3.out _ _ _ (P2.out.old M3.out) P3.out).mono ?_; rintro e w4 ⟨v4, rfl, p4, k4⟩; (obtain ⟨A4, cc4, rfl, _, _⟩ := p4.form); (have B4 := Lib.hid (B3.out.kept k4 (fun x => x))); (have g2 := B4.out.cell 2); (have P4 := Lib.hid p4); (have K4 := Lib.hid (K3.out.trans k4)); clear p4 k4)
        | (go_simp; go_at_call 41; refine (C2.out _ K2.out).mono ?_; rintro e w3 ⟨v3, rfl, p3, k3⟩; (obtain ⟨A3, cc3, rfl, _, _⟩ := p3.form); (have B3 := Lib.hid (B2.out.kept k3 (fun x => x))); (have h2 := B3.out.cell 2); (have P3 := Lib.hid p3); (have K3 := Lib.hid (K2.out.trans k3)); (have M3 := Lib.hid k3); clear p3 k3)
        | (go_simp; go_at_call 41; refine (C1.out _ (by exact K0.out.drew)).mono ?_; rintro e w2 ⟨v2, rfl, p2, k2⟩; (obtain ⟨A2, cc2, rfl, _, _⟩ := p2.form); (have B2 := Lib.hid (B0.out.kept (((Kept.refl Nothing w1).drew).trans k2) (fun x => x))); (have i1 := B2.out.cell 1); (have i2 := B2.out.cell 2); (have P2 := Lib.hid p2); (have K2 := Lib.hid (K0.out.drew.trans k2)); clear p2 k2))
      all_goals
        go_wp2
        go_roundw
        case rel => exact ⟨k + 1, by go_num, by omega, Lib.hid K5.out⟩
        case measure => simp [intOf]; omega
    · obtain rfl : k = 13 := by omega
      have hmk := make255
      have KM := Lib.hid ((Kept.refl Nothing wr).alloc (.cells (madeCells #[.int .u32 0] 255) 54))
      have AZ := Lib.hid (as255 wr)
      have OF := Lib.hid (fun v u h => path_ofL 2 kz (fun e => by have := congrArg List.length e; rw [kz_len] at this; simp at this) (by rw [kz_len]; omega) v u h)
      have OF2 := Lib.hid (fun v u h => path_ofL 2 [1, 2] (by decide) (by decide) v u h)
      have RD1 := Lib.hid (fun u (k : Kept Nothing wr u) => read_any _ _ kp1 (asc_of rfl) (by decide) u (HR.out.kept (KK.out.trans k)) (HS.out.kept (KK.out.trans k)))
      have RD2 := Lib.hid (fun u (k : Kept Nothing wr u) => read_any _ _ kp2 (asc_of rfl) (by decide) u (HR.out.kept (KK.out.trans k)) (HS.out.kept (KK.out.trans k)))
      have RD3 := Lib.hid (fun u (k : Kept Nothing wr u) => read_any _ _ kp3 (asc_of rfl) (by decide) u (HR.out.kept (KK.out.trans k)) (HS.out.kept (KK.out.trans k)))
      have NA1 := Lib.hid (fun v u (h : Pts u v [(3, [70000]), (2, [1]), (1, [70001, 2]), (4, [70002])]) => fuse_narrow v _ u h (by decide) (by decide))
      have NA2 := Lib.hid (fun v u (h : Pts u v [(3, [70000]), (2, [1])]) => fuse_narrow v _ u h (by decide) (by decide))
      have TX1 := Lib.hid (fun v u (k : Kept Nothing wr u) (h : Pts u v [(3, [23456]), (2, [1]), (1, [23456, 2]), (4, [23456])]) => path_text v _ u h (by decide) (HR.out.kept (KK.out.trans k)).1 (HS.out.kept (KK.out.trans k)))
      have TX2 := Lib.hid (fun v u (k : Kept Nothing wr u) (h : Pts u v [(2, [1]), (1, [70001, 2])]) => path_text v _ u h (by decide) (HR.out.kept (KK.out.trans k)).1 (HS.out.kept (KK.out.trans k)))
      have WT := Lib.hid (fun v u (h : Pts u v [(2, [1, 2]), (1, [3, 4]), (3, [5]), (4, [6])]) => fuse_wt v _ u h (by decide) (by decide))
      have CW := Lib.hid (fun u (k : Kept Nothing wr u) => wakes9 u (HR.out.kept (KK.out.trans k)) (HS.out.kept (KK.out.trans k)))
      have hk1 : ∀ s ∈ ([(2, [1, 2]), (2, kz)] : List Seg), s.2.length ≤ 1000000 := fun s hs => by
        rcases List.mem_cons.1 hs with rfl | hs
        · simp
        · obtain rfl := List.mem_singleton.1 hs
          rw [kz_len]; omega
      have hk2 : ∀ s ∈ ([(2, kz)] : List Seg), s.2.length ≤ 1000000 := fun s hs => hk1 s (List.mem_cons_of_mem _ hs)
      have hk3 : ∀ s ∈ plains [(2, kz)], s.2 ≠ [] := fun s hs => by
        obtain rfl := List.mem_singleton.1 (List.mem_filter.1 hs).1
        exact fun e => by have := congrArg List.length e; rw [kz_len] at this; simp at this
      have FU := Lib.hid (fun v v' u (h : Pts u v [(2, [1, 2]), (2, kz)]) (h' : Pts u v' [(2, kz)]) => fuse_fuse v v' _ _ u h h' (by simp) (by simp) hk1 hk2 hk3)
      rw [kn1] at NA1
      rw [kn2] at NA2
      rw [kx1] at TX1
      rw [kx2] at TX2
      rw [kz_fuse] at FU
      rw [show Fz.wt [(2, [1, 2]), (1, [3, 4]), (3, [5]), (4, [6])] = 3 by rfl] at WT
      obtain ⟨i0, hi, hz0, hz1, hz2⟩ := info_parts sg_info
      clear hk1 hk2 hk3
      go_upto_region 9 with (go_at_call 42; refine (OF.out _ _ AZ.out).mono ?_; rintro e w2 ⟨v2, xs, rfl, o2, r2, k2⟩; (obtain ⟨A2, c2, rfl, _, _⟩ := ow_form o2); (have O2 := Lib.hid o2); (have R2 := Lib.hid r2); (have K2 := Lib.hid (KM.out.trans k2)); clear o2 r2 k2)
      have AS2 := Lib.hid (as_mk w2 #[.int .u32 1, .int .u32 2] [1, 2] rfl (by simp) (by simp))
      have KA := Lib.hid ((Kept.refl Nothing w2).alloc (.cells #[.int .u32 1, .int .u32 2] 54))
      clear OF AZ hmk
      go_upto_region 10 with (first
        | (go_at_call 33; refine (FU.out _ _ _ P4.out P2.out).mono ?_; rintro e w5 ⟨v5, rfl, p5, k5⟩; (have P5 := Lib.hid p5.pts); (obtain ⟨A5, c5, rfl, _, _⟩ := p5.pts.form); (have K5 := Lib.hid (K4.out.trans k5)); clear p5 k5)
        | (at_builtin; refine wpList_app _ rfl _ _ 23 rfl wr.heap.size 72 i0 (.agg #[.int .u8 0, .slice none 0 0]) 2 32 Tryz.underlying23 hi hz0 hz1 hz2 rfl (by decide) (.slice A3 1 c3) 1 xs3 rfl O3.out A2 1 c2 xs rfl (src_own (ow_kept O2.out K3.out (fun _ _ x => x)) (R2.out.old K3.out).one) (by simp [maxLen]) (by omega) (K2.out.trans K3.out).size ?_; intro v4 w4 ho4 hg4 _; (have k4 := (K2.out.trans K3.out).own_grown O3.out (Nat.le_refl _) hg4); (have kg : Kept (fun q => (Value.slice A3 1 c3).ownBlock = some q) w3 w4 := (Kept.refl _ _).grown hg4 (fun _ hk _ => hk)); (have P4 := Lib.hid (Pown.cat (l := [(2, [1, 2])]) (m := [(2, kz)]) O3.out R3.out ((R2.out.old K3.out).weak (KM.out.size)) hg4 ho4).pts); (have o24 := ow_kept (ow_kept O2.out K3.out (fun _ _ x => x)) kg (fun q hq e => by have h1 := (ow_ge O2.out hq).2; have h2 := HGE.out q e; omega)); (have r24 := (R2.out.old K3.out).kept kg (fun q cs e x => by obtain ⟨cs', hh⟩ := ow_lt O3.out e; rw [hh] at x; injection x with x; injection x with _ e2; exact absurd e2 (by decide))); (have P2 := Lib.hid (Pts.of_own o24 r24.cells)); (have K4 := Lib.hid k4); (obtain ⟨A4, c4, rfl, _, _⟩ := P4.out.form); clear k4 kg o24 r24 ho4 hg4)
        | (go_at_call 42; refine (OF2.out _ _ AS2.out).mono ?_; rintro e w3 ⟨v3, xs3, rfl, o3, r3, k3⟩; (have HGE := Lib.hid (fun q (hq : v3.ownBlock = some q) => (Nat.le_trans KA.out.size (ow_ge o3 hq).1))); (obtain ⟨A3, c3, rfl, _, _⟩ := ow_form o3); (have O3 := Lib.hid (own_weakA o3 (K2.out.trans KA.out).size)); (have R3 := Lib.hid (r3.weak (K2.out.trans KA.out).size)); (have K3 := Lib.hid (KA.out.trans k3)); clear o3 r3 k3))
      clear OF2 AS2 KA FU
      go_upto_region 11 with (first
        | (go_at_call 30; refine (NA1.out _ _ P6.out).mono ?_; rintro e w7 ⟨v7, v7', rfl, p7, p7', k7⟩; (have P7 := Lib.hid p7.pts); (have Q7 := Lib.hid p7'.pts); (obtain ⟨A7, c7, rfl, _, _⟩ := p7.pts.form); (obtain ⟨B7, d7, rfl, _, _⟩ := p7'.pts.form); (have K7 := Lib.hid (K6.out.trans k7)); (replace P5 := Lib.hid (P5.out.old k7)); clear p7 p7' k7)
        | (go_at_call 41; refine (RD1.out _ K5.out).mono ?_; rintro e w6 ⟨v6, rfl, p6, k6⟩; (have P6 := Lib.hid p6.pts); (replace P5 := Lib.hid (P5.out.old k6)); (have K6 := Lib.hid (K5.out.trans k6)); clear p6 k6))
      go_upto_region 12 with (first
        | (go_at_call 30; refine (NA2.out _ _ P8.out).mono ?_; rintro e w9 ⟨v9, v9', rfl, p9, p9', k9⟩; (obtain ⟨A9, c9, rfl, _, _⟩ := p9.pts.form); (obtain ⟨B9, d9, rfl, _, _⟩ := p9'.pts.form); (have K9 := Lib.hid (K8.out.trans k9)); (replace P5 := Lib.hid (P5.out.old k9)); (replace P7 := Lib.hid (P7.out.old k9)); (replace Q7 := Lib.hid (Q7.out.old k9)); clear p9 p9' k9)
        | (go_at_call 41; refine (RD2.out _ K7.out).mono ?_; rintro e w8 ⟨v8, rfl, p8, k8⟩; (have P8 := Lib.hid p8.pts); (replace P5 := Lib.hid (P5.out.old k8)); (replace P7 := Lib.hid (P7.out.old k8)); (replace Q7 := Lib.hid (Q7.out.old k8)); (have K8 := Lib.hid (K7.out.trans k8)); clear p8 k8))
      obtain ⟨b, o, Au, cu, hA5, -, p1, -⟩ := P5.out.at2 (i := 0) (by simp)
      obtain ⟨b', o', Au', cu', hA5', -, p2, -⟩ := P5.out.at2 (i := 1) (by simp)
      rw [hA5] at hA5'
      injection hA5' with hA5'
      injection hA5' with e1 e2 _
      subst e1 e2
      rw [Nat.zero_mul, Nat.add_zero] at p1
      replace p1 : w9.cell? ⟨b, o + 1, none⟩ = some (.slice Au 2 cu) := p1
      replace p2 : w9.cell? ⟨b, o + 2 + 1, none⟩ = some (.slice Au' kz.length cu') := p2
      rw [kz_len] at p2
      subst hA5
      have KZ := Lib.hid (KK.out.trans K9.out)
      clear P5 RD1 RD2 NA1 NA2 K2 K5 K7
      go_wp2_with (first
        | (go_at_call 32; refine (CW.out _ (K9.out.trans m4)).mono ?_; rintro e z5 ⟨rfl, q5⟩)
        | (go_at_call 36; refine (WT.out _ _ PZ.out).mono ?_; rintro e z4 ⟨rfl, q4⟩; have m4 := m3.trans q4)
        | (go_at_call 41; refine (RD3.out _ (K9.out.trans m2)).mono ?_; rintro e z3 ⟨vz, rfl, pz, q3⟩; (have PZ := Lib.hid pz.pts); have m3 := m2.trans q3)
        | (go_at_call 21; refine (TX2.out _ _ (K9.out.trans m1) (Q7.out.old m1)).mono ?_; rintro e z2 ⟨rfl, q2⟩; have m2 := m1.trans q2)
        | (go_at_call 21; refine (TX1.out _ _ K9.out P7.out).mono ?_; rintro e z1 ⟨rfl, m1⟩))
      go_ret
      exact ⟨rfl, KZ.out.trans (m4.trans q5)⟩
end Go.Proofs.YthjljamngpddmaaGreatDoor
