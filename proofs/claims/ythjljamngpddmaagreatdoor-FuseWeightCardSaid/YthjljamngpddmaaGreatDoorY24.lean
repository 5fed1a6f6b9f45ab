
/-
  A range over a method value with two variables, left by its end or by a break.
-/
import Derived.Test.YthjljamngpddmaaGreatDoorY21
import Derived.Test.YthjljamngpddmaaGreatDoorY23
import Derived.Test.YthjljamngpddmaaGreatDoorY17
import Derived.Test.YthjljamngpddmaaGreatDoorY19
import Derived.Test.YthjljamngpddmaaGreatDoorY18
import Derived.Test.YthjljamngpddmaaGreatDoorY03
import Derived.Test.YthjljamngpddmaaGreatDoorY07
import Derived.Test.YthjljamngpddmaaGreatDoorY09
namespace Go.Proofs.YthjljamngpddmaaGreatDoor
open Go.RowKit Go.Shelf

/-- Numbers of two bytes as the model has them. -/
def chs (l : List Nat) : List Value := l.map fun (n : Nat) => .int .u16 (n : Int)
theorem length_chs (l : List Nat) : (chs l).length = l.length := List.length_map _
/-- The slice value v reads as these numbers. -/
def Chn (w : World) (v : Value) (l : List Nat) : Prop := (∀ n ∈ l, n < 65536) ∧ ∃ A c, v = .slice A l.length c ∧ l.length ≤ c ∧ c ≤ maxLen ∧ Src w 1 A l.length (chs l)
theorem Chn.form {w : World} {v : Value} {l : List Nat} (h : Chn w v l) : ∃ A c, v = .slice A l.length c ∧ l.length ≤ c ∧ c ≤ maxLen := by
  obtain ⟨_, A, c, hv, hc, hm, _⟩ := h; exact ⟨A, c, hv, hc, hm⟩
theorem Chn.at {w : World} {A : Option Addr} {n c : Nat} {l : List Nat} (h : Chn w (.slice A n c) l) (h0 : 0 < n) : ∃ b o, A = some ⟨b, o, none⟩ ∧ ∀ i, i < n → w.cell? ⟨b, o + i, none⟩ = some (.int .u16 ((l.getD i 0 : Nat) : Int)) := by
  obtain ⟨_, A', c', hv, _, _, hs⟩ := h
  injection hv with h1 h2 h3
  subst h1 h2 h3
  cases A with
  | none => have := hs.2.1 rfl; omega
  | some a =>
    have hg : ∀ i, i < l.length → (chs l)[i]? = some (.int .u16 ((l.getD i 0 : Nat) : Int)) := fun i hi => by
      unfold chs
      rw [List.getElem?_map, List.getElem?_eq_getElem hi, List.getD_eq_getElem?_getD, List.getElem?_eq_getElem hi]
      rfl
    have h1 : ∀ i, i < l.length → w.cell? (a.add i) = some (.int .u16 ((l.getD i 0 : Nat) : Int)) := fun i hi => hs.2.2.1 a rfl i _ (hg i hi)
    obtain ⟨b, o, spot⟩ := a
    have hsp : spot = none := by simpa [Addr.add] using World.cell?_spot (h1 0 h0)
    subst hsp
    exact ⟨b, o, rfl, fun i hi => by have := h1 i hi; rwa [add_none] at this⟩
theorem slice_hiC (A : Option Addr) (n c k : Nat) (hk : k ≤ c) (w : World) :
    (Instr.slice 56 (.slice A n c) none (some (.int .i64 (k : Int))) none).run Tryz.prog w = .ok (.slice A k c) w := by
  have hz := Tryz.sizeOf60
  have he : Tryz.prog.elem 56 = 60 := by kernel_rfl
  rw [run_slice_h w 56 _ n c (by kernel_rfl) .i64 k (by omega) (by omega), he, hz]
  cases A with
  | none => simp [sliced]
  | some a => simp [sliced, Addr.add]

namespace Fz
theorem pre_snoc (l : List Seg) (ch : List Nat) (k : Nat) (hk : k < ch.length) : pre l (ch.take (k + 1)).reverse = ahd (pre l (ch.take k).reverse) (ch.getD k 0) := by
  have hg : ch.getD k 0 = ch[k] := by rw [List.getD_eq_getElem?_getD, List.getElem?_eq_getElem hk]; rfl
  rw [List.take_succ_eq_append_getElem hk, List.reverse_append, hg]
  rfl
theorem ahd_len (l : List Seg) (n : Nat) : (ahd l n).length ≤ l.length + 1 := by
  cases l with
  | nil => simp [ahd]
  | cons s l =>
    by_cases hc : s.1.toNat = 2 ∧ s.2.length < 255
    · rw [ahd_yes hc]; simp
    · rw [ahd_no hc]; simp
theorem ahd_bnd {l : List Seg} (h : ∀ s ∈ l, s.2.length ≤ 255) (n : Nat) : ∀ s ∈ ahd l n, s.2.length ≤ 255 := by
  cases l with
  | nil =>
    intro s hs
    obtain rfl := List.mem_singleton.1 hs
    simp
  | cons t l =>
    by_cases hc : t.1.toNat = 2 ∧ t.2.length < 255
    · rw [ahd_yes hc]
      intro s hs
      rcases List.mem_cons.1 hs with rfl | hs
      · simp; omega
      · exact h s (List.mem_cons_of_mem _ hs)
    · rw [ahd_no hc]
      intro s hs
      rcases List.mem_cons.1 hs with rfl | hs
      · simp
      · exact h s hs
theorem pre_bnd {l : List Seg} (h : ∀ s ∈ l, s.2.length ≤ 255) : ∀ t, (pre l t).length ≤ l.length + t.length ∧ ∀ s ∈ pre l t, s.2.length ≤ 255
  | [] => ⟨Nat.le_refl _, h⟩
  | n :: t => by
    have ih := pre_bnd h t
    refine ⟨?_, ahd_bnd ih.2 n⟩
    have := ahd_len (pre l t) n
    show (ahd (pre l t) n).length ≤ _
    rw [List.length_cons]
    omega
theorem plainP_ok (l : List Seg) (m : Nat) : (plainP l m).length ≤ 6 ∧ ∀ s ∈ plainP l m, Wk.confed s.1 = false ∧ s.2 ≠ [] ∧ s.2.length ≤ 255 := by
  have h1 : (plains (brG l)).length ≤ 6 := Nat.le_trans (plains_len _) (brG_len l)
  have h2 : ∀ s ∈ plains (brG l), Wk.confed s.1 = false ∧ s.2 ≠ [] ∧ s.2.length ≤ 40 := fun s hs => by
    have h3 := List.mem_filter.1 hs
    have h4 := brG_num h3.1
    exact ⟨by simpa using h3.2, h4.2.1, h4.1⟩
  unfold plainP
  generalize plains (brG l) = P at *
  cases P with
  | nil => exact ⟨Nat.zero_le _, fun s hs => by cases hs⟩
  | cons t r =>
    have ht := h2 t (List.mem_cons_self ..)
    simp only
    split
    · refine ⟨h1, fun s hs => ?_⟩
      rcases List.mem_cons.1 hs with rfl | hs
      · refine ⟨ht.1, fun e => ?_, ?_⟩
        · have := congrArg List.length e
          simp only [fl_len, List.length_nil] at this
          have := List.length_pos_iff.2 ht.2.1
          omega
        · show (fl t.2 m).length ≤ 255
          rw [fl_len]
          omega
      · have := h2 s (List.mem_cons_of_mem _ hs)
        exact ⟨this.1, this.2.1, by omega⟩
    · refine ⟨h1, fun s hs => ?_⟩
      have := h2 s hs
      exact ⟨this.1, this.2.1, by omega⟩
theorem nar_bnd {l : List Seg} {k : Nat} (h : ∀ s ∈ l, s.2.length ≤ k) : ∀ s ∈ nar l, s.2.length ≤ k := fun s hs => by
  obtain ⟨t, ht, rfl⟩ := List.mem_map.1 hs
  show (t.2.map short).length ≤ k
  rw [List.length_map]
  exact h t ht
end Fz
end Go.Proofs.YthjljamngpddmaaGreatDoor
namespace Go.Proofs.YthjljamngpddmaaGreatDoor
open Go.RowKit Go.Shelf

theorem Chn.old {w w' : World} {v : Value} {l : List Nat} (h : Chn w v l) (k : Kept Nothing w w') : Chn w' v l := by
  obtain ⟨h0, A, c, hv, hc, hm, hr⟩ := h
  exact ⟨h0, A, c, hv, hc, hm, hr.kept k⟩

set_option maxRecDepth 100000 in
set_option maxHeartbeats 8000000 in
theorem law_way (v0 v2 : Value) (l : List Seg) (m : Nat) (hm : m < 256) (ch : List Nat) (w : World) (h : Pts w v0 l) (hu : Chn w v2 ch) (hr : Rdy2 w) (hs : Bkt w) :
    Calls Tryz.prog 5 #[v0, .int .u8 (m : Int), v2] w fun e w' => e = .returned (.bool true) ∧ Kept Nothing w w' := by
  obtain ⟨A, c, rfl, -, -⟩ := h.form
  obtain ⟨Ac, cc, rfl, hcc, hccm⟩ := hu.form
  have HM := Lib.hid (plain_any _ l m hm w h)
  have HR := Lib.hid hr
  have HS := Lib.hid hs
  have HU := Lib.hid hu
  obtain ⟨hP6, hPS⟩ := Fz.plainP_ok l m
  clear h hr hs hu
  generalize Fz.plainP l m = P at *
  have hp0 : ∀ s ∈ P, Wk.confed s.1 = false := fun s hs => (hPS s hs).1
  have hpl : plains P = P := Fz.plains_of hp0
  have hp255 : ∀ s ∈ P, s.2.length ≤ 255 := fun s hs => (hPS s hs).2.2
  have hpz : ∀ s ∈ plains P, s.2 ≠ [] := fun s hs => (hPS s (by rw [hpl] at hs; exact hs)).2.1
  have hb2 : ∀ s ∈ P, s.2.length ≤ 1000000 := fun s hs => by have := hp255 s hs; omega
  have hnb : ∀ s ∈ Fz.nar P, s.2.length ≤ 255 := Fz.nar_bnd hp255
  -- the chain
  obtain ⟨K, hK⟩ : ∃ K, K = min ch.length 300 := ⟨_, rfl⟩
  have hK1 : K ≤ ch.length := by omega
  have hK2 : K ≤ 300 := by omega
  have hmin1 : min (ch.length : Int) 300 = (K : Int) := by omega
  have hmin2 : (if (ch.length : Int) ≤ 300 then (ch.length : Int) else 300) = (K : Int) := by split <;> omega
  have hmin3 : (if (300 : Int) < (ch.length : Int) then (300 : Int) else (ch.length : Int)) = (K : Int) := by split <;> omega
  have hsc := slice_hiC Ac ch.length cc K (by omega)
  have hchl : ch.length ≤ 9223372036854775807 := by unfold maxLen at hccm; omega
  clear hPS hK hcc hccm hm
  go_enter Tryz.func5, Tryz.ntmps5
  go_upto_region 3 with (go_at_call 29; refine (HM.out).mono ?_; rintro e w1 ⟨v1, rfl, p1, k1⟩; (obtain ⟨A1, c1, rfl, -, -⟩ := p1.form); (have P1 := Lib.hid p1); (have K1 := Lib.hid k1); clear p1 k1)
  have HNA := Lib.hid (fuse_narrow _ P w1 P1.out (by omega) hb2)
  have HBL := Lib.hid (Fz.narrow_2 P)
  rw [Fz.narrow_1, Fz.narrow_3] at HNA
  generalize (Fz.narrow P).2.1 = BL at *
  clear hmin1 hmin2 hmin3 hsc HM
  go_upto_region 5 with (go_at_call 30; refine (HNA.out).mono ?_; rintro e w2 ⟨v2, v3, rfl, n2, b2, k2⟩; (have N2 := Lib.hid n2.pts); (have B2 := Lib.hid b2.pts); (have K2 := Lib.hid (K1.out.trans k2)); (have P2 := Lib.hid (P1.out.old k2)); (obtain ⟨A2, c2, rfl, -, -⟩ := N2.out.form); (obtain ⟨A3, c3, rfl, -, -⟩ := B2.out.form); clear n2 b2 k2)
  have hnl : (Fz.nar P).length = P.length := Fz.nar_len P
  rw [hnl] at N2 ⊢
  have CW := Lib.hid (fun u (k : Kept Nothing w2 u) => wakes9 u (HR.out.kept (K2.out.trans k)) (HS.out.kept (K2.out.trans k)))
  have HCH := Lib.hid (HU.out.old K2.out)
  have HN0 : Hid (Pts w2 (.slice A2 P.length c2) (Fz.pre (Fz.nar P) (ch.take 0).reverse)) := Lib.hid N2.out
  have HW0 : Hid (Pts w2 (.slice A1 P.length c1) (Fz.pre P (ch.take 0).reverse)) := Lib.hid P2.out
  clear HNA P1 K1 HU N2 HR HS
  go_wp2
  go_loopw [7, 10, 38] (fun x y i wr => ∃ k : Nat, i = .int .i64 (k : Int) ∧ k ≤ K ∧ Hid (Pts wr x (Fz.pre (Fz.nar P) (ch.take k).reverse)) ∧ Hid (Pts wr y (Fz.pre P (ch.take k).reverse)) ∧ Hid (Kept Nothing w2 wr)) (fun _ _ i _ => K - (intOf i).toNat)
  case atStart => exact ⟨0, rfl, Nat.zero_le _, HN0, HW0, Lib.hid (Kept.refl _ _)⟩
  case round =>
    clear HN0 HW0
    obtain ⟨k, rfl, hk, HNx, HWx, KK⟩ := hrel
    obtain ⟨hn1, hn2⟩ := Fz.pre_bnd hnb (ch.take k).reverse
    obtain ⟨hw1, hw2⟩ := Fz.pre_bnd hp255 (ch.take k).reverse
    rw [List.length_reverse, List.length_take] at hn1 hw1
    obtain ⟨An, cn, rfl, -, -⟩ := HNx.out.form
    obtain ⟨Aw, cw, rfl, -, -⟩ := HWx.out.form
    by_cases hlt : k < K
    · obtain ⟨b, o, rfl, hq⟩ := HCH.out.at (by omega)
      have q0 := KK.out.cell_some (hq k (by omega)) (fun x => x)
      have HF := HCH.out.1
      have hkc : k < ch.length := by omega
      have hn16 : ch.getD k 0 < 65536 := by
        have e : ch.getD k 0 = ch[k] := by rw [List.getD_eq_getElem?_getD, List.getElem?_eq_getElem hkc]; rfl
        rw [e]; exact HF _ (List.getElem_mem _)
      have i1 : (0 : Int) ≤ (k : Int) := by omega
      have i2 : (k : Int) < (K : Int) := by omega
      have SN := Lib.hid (Fz.pre_snoc (Fz.nar P) ch k hkc)
      have SW := Lib.hid (Fz.pre_snoc P ch k hkc)
      clear hq HF
      generalize ch.getD k 0 = n at *
      have hwr : IntKind.u32.wrap (n : Int) = (n : Int) := by simp [IntKind.wrap, IntKind.bits, IntKind.signed]; omega
      have A1' := Lib.hid (ahead_any _ _ n (by omega) wr HNx.out (by omega) (fun s hs => by have := hn2 s hs; omega))
      have A2' := Lib.hid (fun u (kk : Kept Nothing wr u) => ahead_any _ _ n (by omega) u (HWx.out.old kk) (by omega) (fun s hs => by have := hw2 s hs; omega))
      rw [← SN.out] at A1'
      rw [← SW.out] at A2'
      clear HNx HWx hn1 hn2 hw1 hw2 hn16 SN SW
      generalize (Fz.pre (Fz.nar P) (ch.take k).reverse).length = ln at *
      generalize (Fz.pre P (ch.take k).reverse).length = lw at *
      go_wp2_with (first
        | (go_at_call 31; refine (A2'.out _ K7.out).mono ?_; rintro e w8 ⟨v8, rfl, p8, k8⟩; (have P8 := Lib.hid p8.pts); (have K8 := Lib.hid k8); clear p8 k8)
        | (go_at_call 31; refine (A1'.out).mono ?_; rintro e w7 ⟨v7, rfl, p7, k7⟩; (have P7 := Lib.hid p7.pts); (have K7 := Lib.hid k7); clear p7 k7))
      go_roundw
      case rel => exact ⟨k + 1, by go_num, by omega, Lib.hid (P7.out.old K8.out), P8, Lib.hid ((KK.out.trans K7.out).trans K8.out)⟩
      case measure => simp [intOf]; omega
    · obtain rfl : k = K := by omega
      clear HCH hlt hk
      generalize ht : (ch.take k).reverse = t at *
      have htl : t.length ≤ 300 := by rw [← ht, List.length_reverse, List.length_take]; omega
      clear ht
      have hfw := Fz.fuse_way hp0 t
      have hns := Fz.nar_self hp0
      have E1 := Lib.hid (fun u (kk : Kept Nothing wr u) => path_same _ _ _ _ u (HNx.out.old kk) (HWx.out.old kk))
      cases hW : P.any Fz.wideS with
      | false =>
        rw [show decide (Fz.pre (Fz.nar P) t = Fz.pre P t) = true from decide_eq_true (by rw [hns hW])] at E1
        have hBL : BL = [] := by rw [HBL.out, hW]; rfl
        subst hBL
        rw [show ([] : List Seg).length = 0 from rfl]
        clear hns hfw HBL hW HNx HWx
        generalize (Fz.pre (Fz.nar P) t).length = ln at *
        generalize (Fz.pre P t).length = lw at *
        go_wp2_with (first
          | (go_at_call 32; refine (CW.out _ (KK.out.trans m1)).mono ?_; rintro e x7 ⟨rfl, q7⟩)
          | (go_at_call 16; refine (E1.out _ (Kept.refl _ _)).mono ?_; rintro e x1 ⟨rfl, m1⟩))
        go_ret
        exact ⟨rfl, (K2.out.trans KK.out).trans (m1.trans q7)⟩
      | true =>
        have hBL : BL = P := by rw [HBL.out, hW, hpl]; rfl
        subst hBL
        obtain ⟨hn1, hn2⟩ := Fz.pre_bnd hnb t
        have hn3 : ∀ s ∈ Fz.pre (Fz.nar BL) t, s.2.length ≤ 1000000 := fun s hs => by have := hn2 s hs; omega
        have PB := Lib.hid (B2.out.old KK.out)
        have PP := Lib.hid (P2.out.old KK.out)
        have S1 := Lib.hid (fun u (kk : Kept Nothing wr u) => path_same _ _ _ _ u (PB.out.old kk) (PP.out.old kk))
        have FU := Lib.hid (fun u (kk : Kept Nothing wr u) => fuse_fuse _ _ _ BL u (HNx.out.old kk) (PB.out.old kk) (by omega) (by omega) hn3 hb2 hpz)
        have SW := Lib.hid (fun x u (kk : Kept Nothing wr u) (hx : Pts u x (Fz.pre BL t)) => path_same x _ _ _ u hx (HWx.out.old kk))
        have SN := Lib.hid (fun x u (kk : Kept Nothing wr u) (hx : Pts u x (Fz.pre (Fz.nar BL) t)) => path_same x _ _ _ u hx (HNx.out.old kk))
        have WH := Lib.hid (fun b2 b3 x y u (kk : Kept Nothing wr u) => fuse_whole _ _ _ BL true b2 b3 x y u (HNx.out.old kk) (PB.out.old kk) (by omega) (by omega) hn3 hb2 hpz)
        rw [decide_eq_true rfl] at S1 SW SN
        rw [hfw] at FU
        have w1 : Fz.whole (Fz.pre (Fz.nar BL) t) BL true false false 0 = (Fz.pre BL t, false) := by unfold Fz.whole; rw [hfw]; rfl
        have w2' : Fz.whole (Fz.pre (Fz.nar BL) t) BL true true true 23456 = (Fz.pre BL t, true) := by unfold Fz.whole; rw [hfw]; rfl
        have w3' : Fz.whole (Fz.pre (Fz.nar BL) t) BL true true true 7 = (Fz.pre (Fz.nar BL) t, false) := by unfold Fz.whole; rfl
        have w4' : Fz.whole (Fz.pre (Fz.nar BL) t) BL true true false 7 = (Fz.pre BL t, false) := by unfold Fz.whole; rw [hfw]; rfl
        have W1 := Lib.hid (fun u kk => WH.out false false 0 0 u kk)
        have W2 := Lib.hid (fun u kk => WH.out true true 23456 70000 u kk)
        have W3 := Lib.hid (fun u kk => WH.out true true 7 70000 u kk)
        have W4 := Lib.hid (fun u kk => WH.out true false 7 0 u kk)
        rw [w1] at W1
        rw [w2'] at W2
        rw [w3'] at W3
        rw [w4'] at W4
        have HNy := HNx
        clear hns hfw hW E1 WH w1 w2' w3' w4' hn1 hn2 hn3 PB PP HBL hpz hb2 hnb hp255 hpl hp0 hnl B2 P2 HNx HWx HNy
        generalize hNN : Fz.pre (Fz.nar BL) t = NN at *
        generalize hWW : Fz.pre BL t = WW at *
        clear hNN hWW
        replace W1 : Hid (∀ u, Kept Nothing wr u → Calls Tryz.prog 34 #[.agg #[.slice An NN.length cn, .slice A3 BL.length c3, .bool true, .bool false, .bool false, .int .u32 0, .int .u32 0]] u fun e w' => ∃ v', e = .returned (.tuple #[v', .bool false]) ∧ Pown w' u.heap.size v' WW ∧ Kept Nothing u w') := W1
        replace W2 : Hid (∀ u, Kept Nothing wr u → Calls Tryz.prog 34 #[.agg #[.slice An NN.length cn, .slice A3 BL.length c3, .bool true, .bool true, .bool true, .int .u32 23456, .int .u32 70000]] u fun e w' => ∃ v', e = .returned (.tuple #[v', .bool true]) ∧ Pown w' u.heap.size v' WW ∧ Kept Nothing u w') := W2
        replace W3 : Hid (∀ u, Kept Nothing wr u → Calls Tryz.prog 34 #[.agg #[.slice An NN.length cn, .slice A3 BL.length c3, .bool true, .bool true, .bool true, .int .u32 7, .int .u32 70000]] u fun e w' => ∃ v', e = .returned (.tuple #[v', .bool false]) ∧ Pown w' u.heap.size v' NN ∧ Kept Nothing u w') := W3
        replace W4 : Hid (∀ u, Kept Nothing wr u → Calls Tryz.prog 34 #[.agg #[.slice An NN.length cn, .slice A3 BL.length c3, .bool true, .bool true, .bool false, .int .u32 7, .int .u32 0]] u fun e w' => ∃ v', e = .returned (.tuple #[v', .bool false]) ∧ Pown w' u.heap.size v' WW ∧ Kept Nothing u w') := W4
        go_upto_region 14 with (first
          | (go_at_call 16; refine (SW.out _ _ m2 P2'.out).mono ?_; rintro e x3 ⟨rfl, q3⟩; have m3 := m2.trans q3)
          | (go_at_call 33; refine (FU.out _ m1).mono ?_; rintro e x2 ⟨y2, rfl, f2, q2⟩; (have P2' := Lib.hid f2.pts); have m2 := m1.trans q2)
          | (go_at_call 16; refine (S1.out _ (Kept.refl _ _)).mono ?_; rintro e x1 ⟨rfl, m1⟩))
        have M3 := Lib.hid m3
        clear m1 m2 m3 q2 q3 f2 P2' FU S1
        go_upto_region 15 with (go_at_call 34; refine (W1.out _ M3.out).mono ?_; rintro e x4 ⟨y4, rfl, f4, q4⟩; (have F4 := Lib.hid f4.pts); (have M4 := Lib.hid (M3.out.trans q4)); (obtain ⟨B4, d4, rfl, -, -⟩ := f4.pts.form); clear f4 q4)
        go_upto_region 16 with (go_at_call 34; refine (W2.out _ M4.out).mono ?_; rintro e x5 ⟨y5, rfl, f5, q5⟩; (have F5 := Lib.hid f5.pts); (replace F4 := Lib.hid (F4.out.old q5)); (have M5 := Lib.hid (M4.out.trans q5)); (obtain ⟨B5, d5, rfl, -, -⟩ := f5.pts.form); clear f5 q5)
        go_upto_region 17 with (go_at_call 34; refine (W3.out _ M5.out).mono ?_; rintro e x6 ⟨y6, rfl, f6, q6⟩; (have F6 := Lib.hid f6.pts); (replace F4 := Lib.hid (F4.out.old q6)); (replace F5 := Lib.hid (F5.out.old q6)); (have M6 := Lib.hid (M5.out.trans q6)); (obtain ⟨B6, d6, rfl, -, -⟩ := f6.pts.form); clear f6 q6)
        go_upto_region 18 with (go_at_call 34; refine (W4.out _ M6.out).mono ?_; rintro e x7 ⟨y7, rfl, f7, q7⟩; (have F7 := Lib.hid f7.pts); (replace F4 := Lib.hid (F4.out.old q7)); (replace F5 := Lib.hid (F5.out.old q7)); (replace F6 := Lib.hid (F6.out.old q7)); (have M7 := Lib.hid (M6.out.trans q7)); (obtain ⟨B7, d7, rfl, -, -⟩ := f7.pts.form); clear f7 q7)
        have T7 := Lib.hid (fun u (kk : Kept Nothing x7 u) => SW.out _ u (M7.out.trans kk) (F7.out.old kk))
        have T4 := Lib.hid (fun u (kk : Kept Nothing x7 u) => SW.out _ u (M7.out.trans kk) (F4.out.old kk))
        have T5 := Lib.hid (fun u (kk : Kept Nothing x7 u) => SW.out _ u (M7.out.trans kk) (F5.out.old kk))
        have T6 := Lib.hid (fun u (kk : Kept Nothing x7 u) => SN.out _ u (M7.out.trans kk) (F6.out.old kk))
        have CW2 := Lib.hid (fun u (kk : Kept Nothing x7 u) => CW.out u (KK.out.trans (M7.out.trans kk)))
        have KZ := Lib.hid ((K2.out.trans KK.out).trans M7.out)
        clear F4 F5 F6 F7 SW SN W1 W2 W3 W4 M3 M4 M5 M6 CW
        go_wp2_with (first
          | (go_at_call 32; refine (CW2.out _ n4).mono ?_; rintro e z5 ⟨rfl, r5⟩)
          | (go_at_call 16; refine (T6.out _ n3).mono ?_; rintro e z4 ⟨rfl, r4⟩; have n4 := n3.trans r4)
          | (go_at_call 16; refine (T5.out _ n2).mono ?_; rintro e z3 ⟨rfl, r3⟩; have n3 := n2.trans r3)
          | (go_at_call 16; refine (T4.out _ n1).mono ?_; rintro e z2 ⟨rfl, r2⟩; have n2 := n1.trans r2)
          | (go_at_call 16; refine (T7.out _ (Kept.refl _ _)).mono ?_; rintro e z1 ⟨rfl, n1⟩))
        go_ret
        exact ⟨rfl, KZ.out.trans (n4.trans r5)⟩
end Go.Proofs.YthjljamngpddmaaGreatDoor
namespace Go.Proofs.YthjljamngpddmaaGreatDoor
open Go.ChangeShapes Go.WideShapes Go.ChangeAt Go.RowKit

set_option maxRecDepth 100000 in
theorem open_chn {H : Type} {enc : TypeId × Value → H} {W : World} {base : Nat} {v : Value} {d : DataW H} {p : List MemPlace} (hv : Value.okWide Tryz.prog W .any base 56 v)
    (h : DataW.Trod enc Tryz.prog W 0 (fun _ => true) true 56 v d p) : ∃ l, Chn W v l := by
  obtain ⟨a0, len, cap, rfl⟩ := okWide_slice Tryz.underlying56 hv
  obtain ⟨fuel, hf⟩ := h
  rcases open_ints Tryz.underlying56 Tryz.underlying60 (by kernel_rfl) hf with ⟨hcs, hx⟩ | ⟨a, len', cap', zs, hcs, _, hl, hm, hz, hx, hcell, hwz⟩
  · simp [Value.cells] at hcs
    obtain ⟨rfl, rfl, rfl⟩ := hcs
    exact ⟨[], (fun _ h => by cases h), none, 0, rfl, Nat.le_refl _, by simp [maxLen], rfl, fun _ => rfl, (fun a h => by cases h), (fun u h => by cases h)⟩
  · simp [Value.cells] at hcs
    obtain ⟨rfl, rfl, rfl⟩ := hcs
    simp only [if_true] at hz
    have hr : ∀ z ∈ zs, 0 ≤ z ∧ z ≤ 65535 := fun z hz' => by
      have hw := hwz z hz'
      simpa [Lit.wf, IntKind.min, IntKind.max, IntKind.signed, IntKind.bits] using hw
    have hlen : ((zs.take len).map (fun z => z.toNat)).length = len := by rw [List.length_map, List.length_take]; omega
    refine ⟨(zs.take len).map (fun z => z.toNat), fun n hn => ?_, some a, cap, by rw [hlen], by rw [hlen]; exact hl, hm, by rw [length_chs, Nat.mul_one], (fun h => by cases h), fun a' ha j u hu => ?_, fun u hu => ?_⟩
    · obtain ⟨z, hz', rfl⟩ := List.mem_map.1 hn
      have := hr z (List.mem_of_mem_take hz')
      omega
    · injection ha with ha
      subst ha
      have hj : j < len := by
        have := (List.getElem?_eq_some_iff.1 hu).1
        rwa [length_chs, hlen] at this
      have hzj : zs[j]? = some (zs[j]'(by omega)) := List.getElem?_eq_getElem (by omega)
      have hc := hcell j (by omega)
      have h1 := hr (zs[j]'(by omega)) (List.getElem_mem _)
      rw [hc, ← hu]
      unfold chs
      rw [List.getElem?_map, List.getElem?_map, List.getElem?_take_of_lt hj, hzj]
      simp only [Option.map_some, List.getD_eq_getElem?_getD, hzj, Option.getD_some, Option.some.injEq, Value.int.injEq, true_and]
      omega
    · unfold chs at hu
      obtain ⟨b, _, rfl⟩ := List.mem_map.1 hu
      rfl
set_option maxRecDepth 100000 in
theorem fuseWay_lifted (os : Os) (started : os.Started) (H : Type) (enc : TypeId × Value → H) :
    ReturnsInHanded {} Tryz.checked os 5 .any (fun w args => (Rows.fuseWaySpec.pre enc Tryz.prog Tryz.f5 [] false w args ∧ laidMetH Tryz.prog laidJ w) ∧ sizedMet enc Tryz.prog Tryz.f5 (OpenSpec.ofChange Rows.fuseWaySpec) false w args)
      (Rows.fuseWaySpec.post enc Tryz.prog Tryz.f5 false true false false) := by
  refine returnsInHanded_of_change_and (C := Tryz.checked) (X := fun w _ => laidMetH Tryz.prog laidJ w) (fun _ _ _ hh h => h.of_heap hh) ownKnob_none started (by kernel_rfl) Tryz.func5
    (ChangeSpec.witness_shaped (enc := enc) (C := Tryz.checked) (os := os) (X := fun w _ => laidMetH Tryz.prog laidJ w) false (World.doorLaid Tryz.prog 71 os) #[.slice none 0 0, .int .u8 0, .slice none 0 0] 8 rfl (World.shaped_of_RefB (by kernel_rfl) (by kernel_rfl)) (by kernel_rfl) (by kernel_rfl) (by kernel_rfl) (door_metJ os _)) ?_
  intro W base args ds gs before hval0 hW _ _ hL _
  have hval : ∀ (j : Nat) t v, Tryz.f5.params[j]? = some t → args[j]? = some v → Value.okWide Tryz.prog W .any base t v := hval0
  have hW' : DataW.Whole enc Tryz.prog Tryz.f5.params.toList Rows.fuseWaySpec.vars false W args.toList ds gs before := hW
  obtain ⟨p, q, hA0, hV, rfl, hfz, hnd⟩ := hW
  have hA : DataW.TrodAll enc Tryz.prog W 0 (fun _ => true) true Tryz.f5.params.toList args.toList ds p := hA0
  rw [Tryz.params5] at hA hval
  obtain ⟨v0, v1, v2, d0, d1, d2, p0, p1, p2, rfl, rfl, rfl, h0, h1, h2⟩ := trodAll_three hA
  obtain ⟨rfl, rfl⟩ := trodVars_none hV
  obtain ⟨hr, hs⟩ := rdyJ hL
  obtain ⟨l, hl⟩ := open_pts (hval 0 23 v0 rfl rfl) h0
  obtain ⟨n, rfl, _, _, hwf⟩ := open_int Tryz.underlying5 (hval 1 5 v1 rfl rfl) h1
  have hrng : 0 ≤ n ∧ n ≤ 255 := by simpa [Lit.wf, IntKind.min, IntKind.max, IntKind.signed, IntKind.bits] using hwf
  obtain ⟨x, rfl⟩ : ∃ x : Nat, n = x := ⟨n.toNat, by omega⟩
  obtain ⟨ch, hch⟩ := open_chn (hval 2 56 v2 rfl rfl) h2
  refine (law_way v0 v2 l x (by omega) ch W hl hch hr hs).mono fun e W' ⟨he, hk⟩ => ?_
  subst he
  exact ⟨_, rfl, law_post hW' rfl (by kernel_rfl) (by rw [Tryz.params5]; exact readableJ (by kernel_rfl)) rfl rfl rfl hk.under⟩
theorem fuseWay_row : Rows.FuseWaySaid :=
  OpenClaim.holds_of_wide 5 Tryz.f5 rfl rfl rfl rfl rfl rfl rfl ⟨rfl, rfl, rfl, rfl, rfl⟩ rfl rfl rfl rfl rfl (by kernel_rfl) Tryz.func5 (by kernel_rfl)
    (of_decide_eq_true (by kernel_rfl)) (by unfold Func.isWrapper; first | (rw [if_pos (by decide +kernel)]; kernel_rfl) | (rw [if_neg (by decide +kernel)]; exact ⟨rfl, rfl⟩))
    (fun os started H enc _ => fuseWay_lifted os started H enc)
theorem fuseWay_holds : Rows.FuseWayCardSaid :=
  Claim7.holds_tied_plain_at .later [] [.data, .data, .data, .sentinel, .sentinel, .data] true Rows.fuseWayCard.stood.harness true
    fuseWay_row (fun _ h => by cases h) (by kernel_rfl) (fun _ h => by cases h) fuseWay_row_tie rfl ⟨rfl, rfl⟩ (by kernel_rfl) rfl
    (fun f fn hf hfn => by
      obtain rfl : f = 5 := Option.some.inj ((show Tryz.prog.funcNamed "consulate/consulatelaw09.FuseWay" = some 5 by kernel_rfl).symm.trans hf) |>.symm
      obtain rfl : fn = Tryz.f5 := (Option.some.inj (Tryz.func5.symm.trans hfn)).symm
      exact ⟨by kernel_rfl, fun j t ht => by
        rw [Tryz.params5] at ht
        have hm : t ∈ [23, 5, 56] := by simpa using Array.mem_of_getElem? ht
        have hall : ([23, 5, 56].all fun u => !Tryz.prog.wantsStandIn u) = true := by kernel_rfl
        exact (show Tryz.prog.wantsStandIn t = false by simpa using List.all_eq_true.1 hall t hm)⟩)
    (by kernel_rfl)
end Go.Proofs.YthjljamngpddmaaGreatDoor
namespace Go.Proofs.YthjljamngpddmaaGreatDoor
open Go.RowKit

theorem wp_rf2 {P : Program} {α : Type} {g : Operand} {p1 p2 q1 q2 : Tmp} {assign body : Code} {K : Act → World → Prop} {Q : Exit → Act → World → Prop} {b : Nat} {a : Act} {w : World} {gf : Nat} {fs : Array Value}
    (hg : a.eval g = .func (.func gf) fs #[]) (eg : ∀ args w, (callFunc gf args).run P w = .ok (.enter gf args) w) {u v : α → Value} {xs : List α} {S : Nat → Prop} (hS : ∀ k, S k → k < w.heap.size)
    (hseq : SeqAll P gf fs (fun x => #[u x, v x]) xs S w)
    (I : List α → World → Prop) (X : List α → World → Prop)
    (hI : ∀ s A B, I s A → w.heap.size ≤ A.heap.size → Kept (fun k => w.heap.size ≤ k) A B → I s B) (hX : ∀ s A B, X s A → w.heap.size ≤ A.heap.size → Kept (fun k => w.heap.size ≤ k) A B → X s B) (h0 : I [] w)
    (hassign : ∀ (l : Nat) (x : α) (W : World) (K : Act → World → Prop), K { tmps := (((a.tmps.setIfInBounds p1 (u x)).setIfInBounds p2 (v x)).setIfInBounds q1 (u x)).setIfInBounds q2 (v x), defers := [] } W →
      assign.wpIn (Fence.wide.inRound l) 2 P (Exit.then K (fun _ _ _ => False)) { tmps := (a.tmps.setIfInBounds p1 (u x)).setIfInBounds p2 (v x), defers := [] } W)
    (hbody : ∀ (l : Nat) (pre : List α) (x : α) (W : World), I pre W → pre ++ [x] <+: xs → w.heap.size ≤ W.heap.size →
      body.wpIn (Fence.wide.inRound l) 2 P (RfPost S I (fun c s W => c = .exit b ∧ X s W) (pre ++ [x]) W) { tmps := (((a.tmps.setIfInBounds p1 (u x)).setIfInBounds p2 (v x)).setIfInBounds q1 (u x)).setIfInBounds q2 (v x), defers := [] } W)
    (hpost : ∀ (D : Nat) (W : World), w.heap.size ≤ D → (I xs W ∨ ∃ pre, pre <+: xs ∧ X pre W) → W.heap[D]? = some (.deferred (some [])) → K { a with defers := { target := .collected D, args := #[] } :: a.defers } W) :
    (Code.rangeFunc g #[p1, p2] assign body).wp P (Exit.inBlock b (Exit.then K Q)) a w := by
  refine wp_rf (encs := fun x => #[u x, v x]) hg eg hS hseq (fun _ => rfl) I (fun c s W => c = .exit b ∧ X s W) hI (fun c s A B h hA hk => ⟨h.1, hX s A B h.2 hA hk⟩) h0 _ ?_ hbody ?_ ?_
  · intro l x W K hK
    rw [fold_two]
    exact hassign l x W K hK
  · intro D W hD hi hd
    exact hpost D W hD (.inl hi) hd
  · rintro D c pre W hD hp ⟨rfl, hx⟩ hd
    apply wp_exit
    simp only [Exit.inBlock, Exit.then, ↓reduceIte]
    exact hpost D W hD (.inr ⟨pre, hp, hx⟩) hd
end Go.Proofs.YthjljamngpddmaaGreatDoor
