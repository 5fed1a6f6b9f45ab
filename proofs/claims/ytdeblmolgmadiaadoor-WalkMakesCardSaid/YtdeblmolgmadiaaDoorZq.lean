
/-
  The document's First, Neighbour, Origin, Length.
-/
import Derived.Test.YtdeblmolgmadiaaDoorZi
import Derived.Test.YtdeblmolgmadiaaDoorZb
namespace Go.Proofs.YtdeblmolgmadiaaDoor
open Go.RowKit
attribute [local go_sem] Oper.semAt_some

theorem Pt.may_seg4 {l : List Seg} (h : Pt.may l = true) {s : Seg} (hs : s ∈ l) : 1 ≤ s.1.toNat ∧ s.1.toNat ≤ 4 ∧ 0 < s.2.length ∧ s.2.length ≤ 255 := by
  unfold Pt.may at h
  rw [Bool.and_eq_true, List.all_eq_true] at h
  have := h.1 s hs
  unfold Pt.may1 at this
  simp only [Bool.and_eq_true, decide_eq_true_eq] at this
  exact ⟨this.1.1.1, this.1.1.2, this.1.2, this.2⟩
theorem Pt.all_take {l : List Seg} {k : Nat} (hk : k < l.length) : Pt.all (l.take (k + 1)) = Pt.all (l.take k) ++ (l.getD k (0, [])).2.map (fun n => ((l.getD k (0, [])).1, n)) := by
  rw [List.take_succ_eq_append_getElem hk, Pt.all_append, getD_get hk]
  simp [Pt.all]
namespace Rk
/-- Does it stand there? -/
def at1 (n wh : Nat) (x : UInt8 × Nat) : Bool := x.2 == n && (wh == 3 || wh == (if 3 ≤ x.1.toNat then 2 else 1))
def stands (l : List Seg) (n wh : Nat) : Bool := Pt.may l && (Pt.all l).any (at1 n wh)
theorem has_eq (l : List Seg) (n : Nat) : Wk.has l n = stands l n 3 := by
  unfold Wk.has stands
  congr 1
  refine List.any_congr rfl (fun x => ?_) |>.trans rfl
  simp [at1]
theorem loops_eq (l : List Seg) (m c : Nat) : Wk.loops l m c = (stands l m 2 || stands l c 1) := by
  unfold Wk.loops stands
  cases h : Pt.may l with
  | false => rfl
  | true =>
    simp only [Bool.true_and]
    rw [Bool.eq_iff_iff, Bool.or_eq_true, List.any_eq_true, List.any_eq_true, List.any_eq_true]
    have hk : ∀ x ∈ Pt.all l, 1 ≤ x.1.toNat ∧ x.1.toNat ≤ 4 := fun x hx => by
      unfold Pt.all at hx
      obtain ⟨s, hs, hx⟩ := List.mem_flatMap.1 hx
      obtain ⟨n, hn, rfl⟩ := List.mem_map.1 hx
      have := Pt.may_seg4 h hs
      exact ⟨this.1, this.2.1⟩
    have hc : ∀ x ∈ Pt.all l, Wk.confed x.1 = decide (3 ≤ x.1.toNat) := fun x hx => by
      have := hk x hx
      unfold Wk.confed
      rw [Bool.eq_iff_iff]
      simp
      omega
    constructor
    · rintro ⟨x, hx, h⟩
      rw [hc x hx] at h
      by_cases h3 : 3 ≤ x.1.toNat
      · exact .inl ⟨x, hx, by simpa [at1, h3] using h⟩
      · exact .inr ⟨x, hx, by simpa [at1, h3] using h⟩
    · rintro (⟨x, hx, h⟩ | ⟨x, hx, h⟩)
      · refine ⟨x, hx, ?_⟩
        rw [hc x hx]
        by_cases h3 : 3 ≤ x.1.toNat
        · simpa [at1, h3] using h
        · simp [at1, h3] at h
      · refine ⟨x, hx, ?_⟩
        rw [hc x hx]
        by_cases h3 : 3 ≤ x.1.toNat
        · simp [at1, h3] at h
        · simpa [at1, h3] using h
end Rk

set_option maxRecDepth 20000 in
set_option maxHeartbeats 2000000 in
theorem rs_stands (v : Value) (l : List Seg) (n wh : Nat) (w : World) (h : Rfs w v l) (hl : l.length ≤ 1000000) (h3 : wh = 1 ∨ wh = 2 ∨ wh = 3) :
    Calls Tryd.prog 35 #[v, .int .u32 (n : Int), .int .i64 (wh : Int)] w fun e w' => e = .returned (.bool (Rk.stands l n wh)) ∧ Kept Nothing w w' := by
  obtain ⟨A, c, rfl, hc, hm⟩ := h.form
  have HM := Lib.hid (rf_may _ l w h (by omega))
  have HV := Lib.hid h
  have HST : Hid (Rk.stands l n wh = (Pt.may l && (Pt.all l).any (Rk.at1 n wh))) := Lib.hid rfl
  clear h
  cases hmay : Pt.may l with
  | false =>
    rw [hmay] at HM HST
    clear hmay HV
    go_enter Tryd.func35, Tryd.ntmps35
    go_wp2_with (go_at_call 32; refine (HM.out).mono ?_; rintro e w1 ⟨rfl, k1⟩)
    go_ret
    exact ⟨by rw [HST.out]; rfl, k1⟩
  | true =>
    have HSG := Lib.hid (fun s (hs : s ∈ l) => Pt.may_seg4 hmay hs)
    rw [hmay, Bool.true_and] at HST
    rw [hmay] at HM
    clear hmay
    go_enter Tryd.func35, Tryd.ntmps35
    go_wp2_with (go_at_call 32; refine (HM.out).mono ?_; rintro e w1 ⟨rfl, k1⟩)
    have K1 := Lib.hid k1
    clear k1
    go_loopw [7] (fun i wr => ∃ k : Nat, i = .int .i64 (k : Int) ∧ k ≤ l.length ∧ Hid ((Pt.all (l.take k)).any (Rk.at1 n wh) = false) ∧ w1 = wr) (fun i _ => l.length - (intOf i).toNat)
    case atStart => exact ⟨0, rfl, Nat.zero_le _, Lib.hid (by rw [List.take_zero]; rfl), rfl⟩
    case round =>
      obtain ⟨k, rfl, hk, HN, rfl⟩ := hrel
      by_cases hlt : k < l.length
      · obtain ⟨b, o, Au, cu, rfl, p0, p1, hp⟩ := (HV.out.old K1.out).at2 hlt
        have i1 : (0 : Int) ≤ (k : Int) := by omega
        have i2 : (k : Int) < (l.length : Int) := by omega
        have hmem : l.getD k (0, []) ∈ l := by rw [getD_get hlt]; exact List.getElem_mem _
        obtain ⟨hk1, hk4, hs1, hs2⟩ := HSG.out _ hmem
        have HAT := Lib.hid (Pt.all_take hlt)
        have HPRE : Hid (∀ j, j < (l.getD k (0, [])).2.length → Rk.at1 n wh ((l.getD k (0, [])).1, (l.getD k (0, [])).2.getD j 0) = true → Rk.stands l n wh = true) := Lib.hid (fun j hj h => by
          rw [HST.out, List.any_eq_true]
          refine ⟨_, ?_, h⟩
          unfold Pt.all
          refine List.mem_flatMap.2 ⟨_, hmem, List.mem_map.2 ⟨_, ?_, rfl⟩⟩
          rw [getD_get hj]
          exact List.getElem_mem _)
        have HAS := Lib.hid hp
        clear hp hmem
        generalize hsg : l.getD k (0, []) = sg at *
        obtain ⟨sk, sn⟩ := sg
        clear hsg
        simp only at p0 p1 hk1 hk4 hs1 hs2
        replace HAS : Hid (As w1 (.slice Au sn.length cu) sn) := HAS
        replace HAT : Hid (Pt.all (l.take (k + 1)) = Pt.all (l.take k) ++ sn.map (fun n => (sk, n))) := HAT
        replace HPRE : Hid (∀ j, j < sn.length → Rk.at1 n wh (sk, sn.getD j 0) = true → Rk.stands l n wh = true) := HPRE
        go_wp2_with fail
        go_loopw [8] (fun i wq => ∃ j : Nat, i = .int .i64 (j : Int) ∧ j ≤ sn.length ∧ Hid ((sn.take j).any (fun m => Rk.at1 n wh (sk, m)) = false) ∧ w1 = wq) (fun i _ => sn.length - (intOf i).toNat)
        case atStart => exact ⟨0, rfl, Nat.zero_le _, Lib.hid (by rw [List.take_zero]; rfl), rfl⟩
        case round =>
          obtain ⟨j, rfl, hj, HJ, rfl⟩ := hrel
          by_cases hjt : j < sn.length
          · obtain ⟨b3, o3, rfl, hc3⟩ := HAS.out.at (by omega)
            have x0 := hc3 j hjt
            have j1 : (0 : Int) ≤ (j : Int) := by omega
            have j2 : (j : Int) < (sn.length : Int) := by omega
            have HJN : Hid (Rk.at1 n wh (sk, sn.getD j 0) = false → (sn.take (j + 1)).any (fun m => Rk.at1 n wh (sk, m)) = false) := Lib.hid (fun h => by
              rw [List.take_succ_eq_append_getElem hjt, List.any_append, HJ.out, ← getD_get hjt (d := 0)]
              simpa using h)
            have HJP := Lib.hid (HPRE.out j hjt)
            have HA1 : Hid (Rk.at1 n wh (sk, sn.getD j 0) = (sn.getD j 0 == n && (wh == 3 || wh == (if 3 ≤ sk.toNat then 2 else 1)))) := Lib.hid rfl
            clear hc3 HJ
            generalize sn.getD j 0 = xn at *
            generalize Rk.at1 n wh (sk, xn) = at_ at *
            by_cases e1 : xn = n
            · have n1 : ((xn : Int) == (n : Int)) = true := by simp; omega
              rcases h3 with rfl | rfl | rfl
              · by_cases e2 : 3 ≤ sk.toNat
                · have n2 : (3 : Int) ≤ (sk.toNat : Int) := by omega
                  have HF := Lib.hid (HJN.out (by rw [HA1.out, if_pos e2]; simp))
                  clear HA1 HJN HJP e1 e2
                  go_wp2
                  go_roundw
                  case rel => exact ⟨j + 1, by go_num, by omega, HF, by first | rfl | trivial⟩
                  case measure => simp [intOf]; omega
                · have n2 : ¬ (3 : Int) ≤ (sk.toNat : Int) := by omega
                  have HF := Lib.hid (HJP.out (by rw [HA1.out, if_neg e2, e1]; simp))
                  clear HA1 HJN HJP e1 e2
                  go_wp2
                  go_ret
                  exact ⟨by rw [HF.out]; rfl, K1.out⟩
              · by_cases e2 : 3 ≤ sk.toNat
                · have n2 : (3 : Int) ≤ (sk.toNat : Int) := by omega
                  have HF := Lib.hid (HJP.out (by rw [HA1.out, if_pos e2, e1]; simp))
                  clear HA1 HJN HJP e1 e2
                  go_wp2
                  go_ret
                  exact ⟨by rw [HF.out]; rfl, K1.out⟩
                · have n2 : ¬ (3 : Int) ≤ (sk.toNat : Int) := by omega
                  have HF := Lib.hid (HJN.out (by rw [HA1.out, if_neg e2]; simp))
                  clear HA1 HJN HJP e1 e2
                  go_wp2
                  go_roundw
                  case rel => exact ⟨j + 1, by go_num, by omega, HF, by first | rfl | trivial⟩
                  case measure => simp [intOf]; omega
              · have HF := Lib.hid (HJP.out (by rw [HA1.out, e1]; simp))
                by_cases e2 : 3 ≤ sk.toNat
                · have n2 : (3 : Int) ≤ (sk.toNat : Int) := by omega
                  clear HA1 HJN HJP e1 e2
                  go_wp2
                  go_ret
                  exact ⟨by rw [HF.out]; rfl, K1.out⟩
                · have n2 : ¬ (3 : Int) ≤ (sk.toNat : Int) := by omega
                  clear HA1 HJN HJP e1 e2
                  go_wp2
                  go_ret
                  exact ⟨by rw [HF.out]; rfl, K1.out⟩
            · have n1 : ((xn : Int) == (n : Int)) = false := by simp; omega
              have HF := Lib.hid (HJN.out (by rw [HA1.out, show (xn == n) = false by simp; omega]; rfl))
              by_cases e2 : 3 ≤ sk.toNat
              · have n2 : (3 : Int) ≤ (sk.toNat : Int) := by omega
                clear HA1 HJN HJP e1 e2
                go_wp2
                go_roundw
                case rel => exact ⟨j + 1, by go_num, by omega, HF, by first | rfl | trivial⟩
                case measure => simp [intOf]; omega
              · have n2 : ¬ (3 : Int) ≤ (sk.toNat : Int) := by omega
                clear HA1 HJN HJP e1 e2
                go_wp2
                go_roundw
                case rel => exact ⟨j + 1, by go_num, by omega, HF, by first | rfl | trivial⟩
                case measure => simp [intOf]; omega
          · obtain rfl : j = sn.length := by omega
            rw [List.take_of_length_le (Nat.le_refl _)] at HJ
            have HF : Hid ((Pt.all (l.take (k + 1))).any (Rk.at1 n wh) = false) := Lib.hid (by
              rw [HAT.out, List.any_append, HN.out, List.any_map]
              exact HJ.out)
            clear HJ HAT HPRE
            go_wp2
            go_roundw
            case rel => exact ⟨k + 1, by go_num, by omega, HF, by first | rfl | trivial⟩
            case measure => simp [intOf]; omega
      · obtain rfl : k = l.length := by omega
        rw [List.take_of_length_le (Nat.le_refl _)] at HN
        go_wp2
        go_ret
        exact ⟨by rw [HST.out, HN.out]; rfl, K1.out⟩
theorem rs_has (v : Value) (l : List Seg) (n : Nat) (w : World) (h : Rfs w v l) (hl : l.length ≤ 1000000) :
    Calls Tryd.prog 10 #[v, .int .u32 (n : Int)] w fun e w' => e = .returned (.bool (Wk.has l n)) ∧ Kept Nothing w w' := by
  have HS := Lib.hid (rs_stands v l n 3 w h hl (.inr (.inr rfl)))
  rw [← Rk.has_eq] at HS
  go_enter Tryd.func10, Tryd.ntmps10
  go_wp2_with (go_at_call 35; refine (HS.out).mono ?_; rintro e w1 ⟨rfl, k1⟩)
  go_ret
  exact ⟨rfl, k1⟩
theorem rs_loops (v : Value) (l : List Seg) (a b : Nat) (w : World) (h : Rfs w v l) (hl : l.length ≤ 1000000) :
    Calls Tryd.prog 12 #[v, .int .u32 (a : Int), .int .u32 (b : Int)] w fun e w' => e = .returned (.bool (Wk.loops l a b)) ∧ Kept Nothing w w' := by
  have H1 := Lib.hid (rs_stands v l a 2 w h hl (.inr (.inl rfl)))
  have H2 := Lib.hid (fun u (k : Kept Nothing w u) => rs_stands v l b 1 u (h.old k) hl (.inl rfl))
  have HE := Lib.hid (Rk.loops_eq l a b)
  generalize Rk.stands l a 2 = x at *
  generalize Rk.stands l b 1 = y at *
  cases x with
  | true =>
    go_enter Tryd.func12, Tryd.ntmps12
    go_wp2_with (go_at_call 35; refine (H1.out).mono ?_; rintro e w1 ⟨rfl, k1⟩)
    go_ret
    exact ⟨by rw [HE.out]; rfl, k1⟩
  | false =>
    go_enter Tryd.func12, Tryd.ntmps12
    go_wp2_with (first
      | (go_at_call 35; refine (H2.out _ k1).mono ?_; rintro e w2 ⟨rfl, k2⟩)
      | (go_at_call 35; refine (H1.out).mono ?_; rintro e w1 ⟨rfl, k1⟩))
    go_ret
    exact ⟨by rw [HE.out]; rfl, k1.trans k2⟩
end Go.Proofs.YtdeblmolgmadiaaDoor
namespace Go.Proofs.YtdeblmolgmadiaaDoor
open Go.RowKit
attribute [local go_sem] Oper.semAt_some

theorem Wk.sts_seg (k : UInt8) : ∀ (sn : List Nat) (s : Bool × Bool), 0 < sn.length → (sn.map (fun n => (k, n))).foldl Wk.st s = if Wk.confed k then (s.1, s.2 || s.1) else (true, s.2) := by
  intro sn
  induction sn with
  | nil => intro s h; simp at h
  | cons n r ih =>
    intro s _
    rw [List.map_cons, List.foldl_cons]
    by_cases hr : 0 < r.length
    · rw [ih _ hr]
      unfold Wk.st
      by_cases hc : Wk.confed k = true
      · simp [hc]
      · simp [hc]
    · have : r = [] := List.length_eq_zero_iff.1 (by omega)
      subst this
      rfl
theorem Wk.sts_take {l : List Seg} {k : Nat} (hk : k < l.length) (h0 : 0 < (l.getD k (0, [])).2.length) : Wk.sts (Pt.all (l.take (k + 1))) = if Wk.confed (l.getD k (0, [])).1 then ((Wk.sts (Pt.all (l.take k))).1, (Wk.sts (Pt.all (l.take k))).2 || (Wk.sts (Pt.all (l.take k))).1) else (true, (Wk.sts (Pt.all (l.take k))).2) := by
  rw [Pt.all_take hk]
  unfold Wk.sts
  rw [List.foldl_append]
  exact Wk.sts_seg _ _ _ h0
theorem Pt.all_pre (l : List Seg) (k : Nat) : Pt.all (l.take k) <+: Pt.all l := ⟨Pt.all (l.drop k), by rw [← Pt.all_append, List.take_append_drop]⟩
theorem Wk.confed_le {k : UInt8} (h4 : k.toNat ≤ 4) : Wk.confed k = decide (3 ≤ k.toNat) := by
  unfold Wk.confed
  rw [Bool.eq_iff_iff]
  simp
  omega

set_option maxRecDepth 20000 in
set_option maxHeartbeats 2000000 in
theorem rs_ordered (v : Value) (l : List Seg) (w : World) (h : Rfs w v l) (hl : l.length ≤ 1000000) :
    Calls Tryd.prog 14 #[v] w fun e w' => e = .returned (.bool (Wk.ordered l)) ∧ Kept Nothing w w' := by
  obtain ⟨A, c, rfl, hc, hm⟩ := h.form
  have HM := Lib.hid (rf_may _ l w h (by omega))
  have HV := Lib.hid h
  have HST : Hid (Wk.ordered l = (Pt.may l && !(Wk.sts (Pt.all l)).2)) := Lib.hid rfl
  clear h
  cases hmay : Pt.may l with
  | false =>
    rw [hmay] at HM HST
    clear hmay HV
    go_enter Tryd.func14, Tryd.ntmps14
    go_wp2_with (go_at_call 32; refine (HM.out).mono ?_; rintro e w1 ⟨rfl, k1⟩)
    go_ret
    exact ⟨by rw [HST.out]; rfl, k1⟩
  | true =>
    have HSG := Lib.hid (fun s (hs : s ∈ l) => Pt.may_seg4 hmay hs)
    rw [hmay, Bool.true_and] at HST
    rw [hmay] at HM
    clear hmay
    go_enter Tryd.func14, Tryd.ntmps14
    go_wp2_with (go_at_call 32; refine (HM.out).mono ?_; rintro e w1 ⟨rfl, k1⟩)
    have K1 := Lib.hid k1
    clear k1
    go_loopw [3] (fun i wr => ∃ k : Nat, i = .int .i64 (k : Int) ∧ 1 ≤ k ∧ (k ≤ l.length ∨ l.length = 0) ∧ Hid (0 < l.length → Wk.sts (Pt.all (l.take k)) = (!Wk.confed (l.getD (k - 1) (0, [])).1, false)) ∧ w1 = wr) (fun i _ => l.length - (intOf i).toNat)
    case atStart =>
      refine ⟨1, rfl, Nat.le_refl _, by omega, Lib.hid (fun h0 => ?_), rfl⟩
      have hs := HSG.out (l.getD 0 (0, [])) (by rw [getD_get h0]; exact List.getElem_mem _)
      rw [show l.take 1 = l.take (0 + 1) from rfl, Wk.sts_take h0 hs.2.2.1, List.take_zero]
      show (if Wk.confed (l.getD 0 (0, [])).1 = true then (false, false) else (true, false)) = (!Wk.confed (l.getD 0 (0, [])).1, false)
      cases Wk.confed (l.getD 0 (0, [])).1 <;> rfl
    case round =>
      obtain ⟨k, rfl, hk1, hk, HN, rfl⟩ := hrel
      by_cases hlt : k < l.length
      · obtain ⟨b, o, Au, cu, rfl, p0, -, -⟩ := (HV.out.old K1.out).at2 hlt
        obtain ⟨b', o', _, _, e', q0, -, -⟩ := (HV.out.old K1.out).at2 (i := k - 1) (by omega)
        injection e' with e'
        injection e' with e1' e2'
        subst e1' e2'
        have i1 : (0 : Int) ≤ (k : Int) := by omega
        have i2 : (k : Int) < (l.length : Int) := by omega
        have i4 : (0 : Int) ≤ (k : Int) - 1 := by omega
        have i5 : (k : Int) - 1 < (l.length : Int) := by omega
        have e0 : IntKind.i64.wrap ((k : Int) - 1) = (k : Int) - 1 := by rw [IntKind.wrap_i64]; omega
        have e1 : ((k : Int) - 1).toNat = k - 1 := by omega
        have hmem : l.getD k (0, []) ∈ l := by rw [getD_get hlt]; exact List.getElem_mem _
        have hmem2 : l.getD (k - 1) (0, []) ∈ l := by rw [getD_get (by omega)]; exact List.getElem_mem _
        obtain ⟨a1, a4, a5, -⟩ := HSG.out _ hmem
        obtain ⟨b1, b4, -, -⟩ := HSG.out _ hmem2
        have HX := Lib.hid (Wk.sts_take hlt a5)
        rw [HN.out (by omega), Wk.confed_le a4, Wk.confed_le b4] at HX
        have HCK : Hid (Wk.confed (l.getD k (0, [])).1 = decide (3 ≤ (l.getD k (0, [])).1.toNat)) := Lib.hid (Wk.confed_le a4)
        have HBAD : Hid ((Wk.sts (Pt.all (l.take (k + 1)))).2 = true → Wk.ordered l = false) := Lib.hid (fun h => by rw [HST.out, Wk.bad_prefix (Pt.all_pre l (k + 1)) h]; rfl)
        clear hmem hmem2
        have HKK : Hid (k + 1 - 1 = k) := Lib.hid rfl
        generalize (l.getD (k - 1) (0, [])).1.toNat = pk at *
        by_cases c1 : 3 ≤ (l.getD k (0, [])).1.toNat
        · have n1 : (3 : Int) ≤ ((l.getD k (0, [])).1.toNat : Int) := by omega
          by_cases c2 : pk ≤ 2
          · have n2 : (pk : Int) ≤ 2 := by omega
            have HF := Lib.hid (HBAD.out (by rw [HX.out, decide_eq_true c1, decide_eq_false (by omega : ¬ 3 ≤ pk)]; rfl))
            clear HX HCK HBAD c1 c2 HN
            generalize (l.getD k (0, [])).1.toNat = kn at *
            go_wp2
            go_ret
            exact ⟨by rw [HF.out]; rfl, K1.out⟩
          · have n2 : ¬ (pk : Int) ≤ 2 := by omega
            have HF : Hid (Wk.sts (Pt.all (l.take (k + 1))) = (!Wk.confed (l.getD (k + 1 - 1) (0, [])).1, false)) := Lib.hid (by rw [HKK.out, HX.out, HCK.out, decide_eq_true c1, decide_eq_true (by omega : 3 ≤ pk)]; rfl)
            clear HX HCK HBAD c1 c2 HN
            generalize (l.getD k (0, [])).1.toNat = kn at *
            go_wp2
            go_roundw
            case rel => exact ⟨k + 1, by go_num, by omega, by omega, Lib.hid (fun _ => HF.out), by first | rfl | trivial⟩
            case measure => simp [intOf]; omega
        · have n1 : ¬ (3 : Int) ≤ ((l.getD k (0, [])).1.toNat : Int) := by omega
          have HF : Hid (Wk.sts (Pt.all (l.take (k + 1))) = (!Wk.confed (l.getD (k + 1 - 1) (0, [])).1, false)) := Lib.hid (by rw [HKK.out, HX.out, HCK.out, decide_eq_false c1]; rfl)
          clear HX HCK HBAD c1 HN
          generalize (l.getD k (0, [])).1.toNat = kn at *
          go_wp2
          go_roundw
          case rel => exact ⟨k + 1, by go_num, by omega, by omega, Lib.hid (fun _ => HF.out), by first | rfl | trivial⟩
          case measure => simp [intOf]; omega
      · have HF : Hid (Wk.ordered l = true) := Lib.hid (by
          rw [HST.out]
          by_cases h0 : l.length = 0
          · rw [List.length_eq_zero_iff.1 h0]; rfl
          · have h1 := HN.out (by omega)
            rw [List.take_of_length_le (by omega)] at h1
            rw [h1]; rfl)
        have i3 : ¬ (k : Int) < (l.length : Int) := by omega
        go_wp2
        go_ret
        exact ⟨by rw [HF.out]; rfl, K1.out⟩
end Go.Proofs.YtdeblmolgmadiaaDoor
namespace Go.Proofs.YtdeblmolgmadiaaDoor
open Go.RowKit
attribute [local go_sem] Oper.semAt_some

set_option maxRecDepth 20000 in
set_option maxHeartbeats 2000000 in
theorem rs_first (v : Value) (l : List Seg) (w : World) (h : Rfs w v l) (hl : l.length ≤ 1000000) :
    Calls Tryd.prog 8 #[v] w fun e w' => e = .returned (.tuple #[.int .i64 ((Wk.first l).1 : Int), .int .u32 ((Wk.first l).2.1 : Int), .bool (Wk.first l).2.2]) ∧ Kept Nothing w w' := by
  obtain ⟨A, c, rfl, hc, hm⟩ := h.form
  have HM := Lib.hid (rf_may _ l w h (by omega))
  have HV := Lib.hid h
  have HST : Hid (Wk.first l = if Pt.may l then (match l with | [] => (0, 0, false) | s :: _ => (s.1.toNat, s.2.getD 0 0, true)) else (0, 0, false)) := Lib.hid rfl
  clear h
  cases hmay : Pt.may l with
  | false =>
    rw [hmay, if_neg (by decide)] at HST
    rw [hmay] at HM
    clear hmay HV
    rw [HST.out]
    go_enter Tryd.func8, Tryd.ntmps8
    go_wp2_with (go_at_call 32; refine (HM.out).mono ?_; rintro e w1 ⟨rfl, k1⟩)
    refine bodyPost_ret (v := .tuple #[.int .i64 0, .int .u32 0, .bool false]) (by simp [results, Tryd.results8, go_sem]) rfl ⟨rfl, k1⟩
  | true =>
    have HSG := Lib.hid (fun s (hs : s ∈ l) => Pt.may_seg4 hmay hs)
    rw [hmay, if_pos rfl] at HST
    rw [hmay] at HM
    clear hmay
    cases l with
    | nil =>
      rw [HST.out]
      go_enter Tryd.func8, Tryd.ntmps8
      go_wp2_with (go_at_call 32; refine (HM.out).mono ?_; rintro e w1 ⟨rfl, k1⟩)
      refine bodyPost_ret (v := .tuple #[.int .i64 0, .int .u32 0, .bool false]) (by simp [results, Tryd.results8, go_sem]) rfl ⟨rfl, k1⟩
    | cons s r =>
      obtain ⟨sk, sn⟩ := s
      obtain ⟨-, -, a5, -⟩ := HSG.out (sk, sn) (List.mem_cons_self ..)
      simp only at a5
      have hpos : 0 < ((sk, sn) :: r).length := by simp
      have HAT := Lib.hid (fun u (k : Kept Nothing w u) => (HV.out.old k).at2 hpos)
      have hsn0 : (0 : Int) < (sn.length : Int) := by omega
      rw [HST.out]
      clear HST HV HSG
      simp only [List.getD_cons_zero] at HAT
      have hz : ((((sk, sn) :: r).length : Nat) : Int) ≠ 0 := by simp; omega
      have hz1 : ((((sk, sn) :: r).length : Int) == 0) = false := by simp; omega
      have hz2 : (0 : Int) < (((sk, sn) :: r).length : Int) := by omega
      obtain ⟨b, o, Au, cu, rfl, -, -, -⟩ := HAT.out w (Kept.refl _ _)
      generalize ((sk, sn) :: r).length = len at *
      obtain ⟨n0, hn0⟩ : ∃ n0, n0 = sn.getD 0 0 := ⟨_, rfl⟩
      show Calls _ _ _ w fun e w' => e = .returned (.tuple #[.int .i64 (sk.toNat : Int), .int .u32 ((sn.getD 0 0 : Nat) : Int), .bool true]) ∧ Kept Nothing w w'
      rw [← hn0]
      have HN0 := Lib.hid hn0
      clear hn0
      go_enter Tryd.func8, Tryd.ntmps8
      go_upto_region 3 with (go_at_call 32; refine (HM.out).mono ?_; rintro e w1 ⟨rfl, k1⟩)
      obtain ⟨b', o', Au', cu', e', p0, p1, hp⟩ := HAT.out w1 k1
      injection e' with e'
      injection e' with e1' e2'
      subst e1' e2'
      obtain ⟨b3, o3, rfl, hc3⟩ := hp.at (by omega)
      have x0 := hc3 0 a5
      have K1 := Lib.hid k1
      clear hc3 hp k1
      simp only [Nat.zero_mul, Nat.add_zero] at p0 p1 x0
      rw [← HN0.out] at x0
      go_wp2_with fail
      go_region
      go_wp2
      refine bodyPost_ret (v := .tuple #[.int .i64 (sk.toNat : Int), .int .u32 (n0 : Int), .bool true]) (by simp [results, Tryd.results8, go_sem]) rfl ⟨rfl, K1.out.drew⟩

theorem Wk.find_at {l : List Seg} {k : Nat} (hk : k < l.length) (h0 : 0 < (l.getD k (0, [])).2.length) (hn : (Pt.all (l.take k)).find? (fun x => !Wk.confed x.1) = none) :
    (Wk.confed (l.getD k (0, [])).1 = true → (Pt.all (l.take (k + 1))).find? (fun x => !Wk.confed x.1) = none) ∧ (Wk.confed (l.getD k (0, [])).1 = false → (Pt.all l).find? (fun x => !Wk.confed x.1) = some ((l.getD k (0, [])).1, (l.getD k (0, [])).2.getD 0 0)) := by
  have e := Pt.all_take hk
  generalize l.getD k (0, []) = sg at *
  refine ⟨fun hc => ?_, fun hc => ?_⟩
  · rw [e, List.find?_append, hn, Option.none_or, List.find?_eq_none]
    intro x hx
    obtain ⟨n, _, rfl⟩ := List.mem_map.1 hx
    simp [hc]
  · refine Wk.find_prefix (Pt.all_pre l (k + 1)) ?_
    rw [e, List.find?_append, hn, Option.none_or]
    cases h : sg.2 with
    | nil => rw [h] at h0; simp at h0
    | cons n r => simp [hc]
set_option maxRecDepth 20000 in
set_option maxHeartbeats 2000000 in
theorem rs_neighbour (v : Value) (l : List Seg) (w : World) (h : Rfs w v l) (hl : l.length ≤ 1000000) :
    Calls Tryd.prog 18 #[v] w fun e w' => e = .returned (.int .u32 (Wk.neighbour l : Int)) ∧ Kept Nothing w w' := by
  obtain ⟨A, c, rfl, hc, hm⟩ := h.form
  have HM := Lib.hid (rf_may _ l w h (by omega))
  have HV := Lib.hid h
  have HST : Hid (Wk.neighbour l = if Pt.may l then Wk.nbv ((Pt.all l).find? (fun x => !Wk.confed x.1)) else 0) := Lib.hid rfl
  clear h
  cases hmay : Pt.may l with
  | false =>
    rw [hmay, if_neg (by decide)] at HST
    rw [hmay] at HM
    clear hmay HV
    go_enter Tryd.func18, Tryd.ntmps18
    go_wp2_with (go_at_call 32; refine (HM.out).mono ?_; rintro e w1 ⟨rfl, k1⟩)
    go_ret
    exact ⟨by rw [HST.out]; rfl, k1⟩
  | true =>
    have HSG := Lib.hid (fun s (hs : s ∈ l) => Pt.may_seg4 hmay hs)
    rw [hmay, if_pos rfl] at HST
    rw [hmay] at HM
    clear hmay
    go_enter Tryd.func18, Tryd.ntmps18
    go_wp2_with (go_at_call 32; refine (HM.out).mono ?_; rintro e w1 ⟨rfl, k1⟩)
    have K1 := Lib.hid k1
    clear k1
    go_loopw [3] (fun i wr => ∃ k : Nat, i = .int .i64 (k : Int) ∧ k ≤ l.length ∧ Hid ((Pt.all (l.take k)).find? (fun x => !Wk.confed x.1) = none) ∧ w1 = wr) (fun i _ => l.length - (intOf i).toNat)
    case atStart => exact ⟨0, rfl, Nat.zero_le _, Lib.hid (by rw [List.take_zero]; rfl), rfl⟩
    case round =>
      obtain ⟨k, rfl, hk, HN, rfl⟩ := hrel
      by_cases hlt : k < l.length
      · obtain ⟨b, o, Au, cu, rfl, p0, p1, hp⟩ := (HV.out.old K1.out).at2 hlt
        have i1 : (0 : Int) ≤ (k : Int) := by omega
        have i2 : (k : Int) < (l.length : Int) := by omega
        obtain ⟨a1, a4, a5, -⟩ := HSG.out (l.getD k (0, [])) (by rw [getD_get hlt]; exact List.getElem_mem _)
        obtain ⟨f1, f2⟩ := Wk.find_at hlt a5 HN.out
        rw [Wk.confed_le a4] at f1 f2
        have F1 := Lib.hid f1
        have F2 := Lib.hid f2
        obtain ⟨b3, o3, rfl, hc3⟩ := hp.at (by omega)
        have x0 := hc3 0 a5
        clear hc3 hp HN f1 f2
        simp only [Nat.add_zero] at x0
        generalize hsg : l.getD k (0, []) = sg at *
        obtain ⟨sk, sn⟩ := sg
        clear hsg
        simp only at p0 p1 x0 a1 a4 a5
        replace F1 : Hid (decide (3 ≤ sk.toNat) = true → (Pt.all (l.take (k + 1))).find? (fun x => !Wk.confed x.1) = none) := F1
        replace F2 : Hid (decide (3 ≤ sk.toNat) = false → (Pt.all l).find? (fun x => !Wk.confed x.1) = some (sk, sn.getD 0 0)) := F2
        have hsn0 : (0 : Int) < (sn.length : Int) := by omega
        generalize sn.getD 0 0 = m0 at *
        by_cases c1 : sk.toNat = 1
        · have n1 : ((sk.toNat : Int) == 1) = true := by simp; omega
          have HF : Hid (Wk.neighbour l = 0) := Lib.hid (by
            rw [HST.out, F2.out (decide_eq_false (by omega))]
            show (if sk.toNat = 2 then _ else 0) = 0
            rw [if_neg (by omega)])
          clear F1 F2 c1
          go_wp2
          go_ret
          exact ⟨by rw [HF.out]; rfl, K1.out⟩
        · have n1 : ((sk.toNat : Int) == 1) = false := by simp; omega
          by_cases c2 : sk.toNat = 2
          · have n2 : ((sk.toNat : Int) == 2) = true := by simp; omega
            have HF : Hid (Wk.neighbour l = m0) := Lib.hid (by
              rw [HST.out, F2.out (decide_eq_false (by omega))]
              show (if sk.toNat = 2 then _ else 0) = _
              rw [if_pos (by omega)])
            clear F1 F2 c1 c2
            go_wp2
            go_ret
            exact ⟨by rw [HF.out]; rfl, K1.out⟩
          · have n2 : ((sk.toNat : Int) == 2) = false := by simp; omega
            have HF := Lib.hid (F1.out (decide_eq_true (by omega)))
            clear F1 F2 c1 c2
            go_wp2
            go_roundw
            case rel => exact ⟨k + 1, by go_num, by omega, HF, by first | rfl | trivial⟩
            case measure => simp [intOf]; omega
      · obtain rfl : k = l.length := by omega
        rw [List.take_of_length_le (Nat.le_refl _)] at HN
        go_wp2
        go_ret
        exact ⟨by rw [HST.out, HN.out]; rfl, K1.out⟩
theorem Wk.last_at {l : List Seg} (h : 0 < l.length) (h0 : 0 < (l.getD (l.length - 1) (0, [])).2.length) :
    (Pt.all l).getLast? = some ((l.getD (l.length - 1) (0, [])).1, (l.getD (l.length - 1) (0, [])).2.getD ((l.getD (l.length - 1) (0, [])).2.length - 1) 0) := by
  have e := Pt.all_take (l := l) (k := l.length - 1) (by omega)
  rw [show l.length - 1 + 1 = l.length by omega, List.take_of_length_le (Nat.le_refl _)] at e
  rw [e]
  generalize l.getD (l.length - 1) (0, []) = s at *
  rw [List.getLast?_append, List.getLast?_map, List.getLast?_eq_getElem?, List.getElem?_eq_getElem (by omega), getD_get (by omega)]
  rfl
set_option maxRecDepth 20000 in
set_option maxHeartbeats 2000000 in
theorem rs_origin (v : Value) (l : List Seg) (w : World) (h : Rfs w v l) (hl : l.length ≤ 1000000) :
    Calls Tryd.prog 20 #[v] w fun e w' => e = .returned (.int .u32 (Wk.origin l : Int)) ∧ Kept Nothing w w' := by
  obtain ⟨A, c, rfl, hc, hm⟩ := h.form
  have HM := Lib.hid (rf_may _ l w h (by omega))
  have HV := Lib.hid h
  have HST : Hid (Wk.origin l = if Pt.may l then Wk.nbv (Pt.all l).getLast? else 0) := Lib.hid rfl
  clear h
  cases hmay : Pt.may l with
  | false =>
    rw [hmay, if_neg (by decide)] at HST
    rw [hmay] at HM
    clear hmay HV
    go_enter Tryd.func20, Tryd.ntmps20
    go_wp2_with (go_at_call 32; refine (HM.out).mono ?_; rintro e w1 ⟨rfl, k1⟩)
    go_ret
    exact ⟨by rw [HST.out]; rfl, k1⟩
  | true =>
    have HSG := Lib.hid (fun s (hs : s ∈ l) => Pt.may_seg4 hmay hs)
    rw [hmay, if_pos rfl] at HST
    rw [hmay] at HM
    clear hmay
    by_cases h0 : l.length = 0
    · have HF : Hid (Wk.origin l = 0) := Lib.hid (by rw [HST.out, List.length_eq_zero_iff.1 h0]; rfl)
      have hz : ((l.length : Int) == 0) = true := by rw [h0]; rfl
      have hz2 : (l.length : Int) = 0 := by omega
      clear h0 HV HSG
      go_enter Tryd.func20, Tryd.ntmps20
      go_wp2_with (go_at_call 32; refine (HM.out).mono ?_; rintro e w1 ⟨rfl, k1⟩)
      go_ret
      exact ⟨by rw [HF.out]; rfl, k1⟩
    · have hlp : 0 < l.length := by omega
      obtain ⟨a1, a4, a5, a6⟩ := HSG.out (l.getD (l.length - 1) (0, [])) (by rw [getD_get (by omega)]; exact List.getElem_mem _)
      have HLA := Lib.hid (Wk.last_at hlp a5)
      have HAT := Lib.hid (fun u (k : Kept Nothing w u) => (HV.out.old k).at2 (i := l.length - 1) (by omega))
      have hz : ((l.length : Int) == 0) = false := by rw [beq_eq_false_iff_ne]; omega
      have hz2 : ¬ (l.length : Int) = 0 := by omega
      have i4 : (0 : Int) ≤ (l.length : Int) - 1 := by omega
      have i5 : (l.length : Int) - 1 < (l.length : Int) := by omega
      have e0 : IntKind.i64.wrap ((l.length : Int) - 1) = (l.length : Int) - 1 := by rw [IntKind.wrap_i64]; omega
      have e1 : ((l.length : Int) - 1).toNat = l.length - 1 := by omega
      rw [HLA.out] at HST
      generalize l.getD (l.length - 1) (0, []) = sg at *
      obtain ⟨sk, sn⟩ := sg
      simp only at a1 a4 a5 a6 HST HAT
      replace HST : Hid (Wk.origin l = if sk.toNat = 2 then sn.getD (sn.length - 1) 0 else 0) := HST
      have j4 : (0 : Int) ≤ (sn.length : Int) - 1 := by omega
      have j5 : (sn.length : Int) - 1 < (sn.length : Int) := by omega
      have j0 : IntKind.i64.wrap ((sn.length : Int) - 1) = (sn.length : Int) - 1 := by rw [IntKind.wrap_i64]; omega
      have j1 : ((sn.length : Int) - 1).toNat = sn.length - 1 := by omega
      obtain ⟨b, o, Au, cu, rfl, -, -, -⟩ := HAT.out w (Kept.refl _ _)
      clear HLA HSG HV h0
      by_cases c2 : sk.toNat = 2
      · rw [if_pos c2] at HST
        have n2 : ((sk.toNat : Int) != 2) = false := by simp; omega
        have n3 : (sk.toNat : Int) = 2 := by omega
        go_enter Tryd.func20, Tryd.ntmps20
        go_wp2_with (go_at_call 32; refine (HM.out).mono ?_; rintro e w1 ⟨rfl, k1⟩; (obtain ⟨b', o', Au', cu', e', p0, p1, hp⟩ := HAT.out w1 k1); injection e' with e'; injection e' with e1' e2'; subst e1' e2'; (obtain ⟨b3, o3, rfl, hc3⟩ := hp.at (by omega)); (have x0 := hc3 (sn.length - 1) (by omega)); clear hc3 hp; (generalize sn.getD (sn.length - 1) 0 = m0 at *))
        go_ret
        exact ⟨by rw [HST.out]; rfl, k1⟩
      · rw [if_neg c2] at HST
        have n3 : ¬ (sk.toNat : Int) = 2 := by omega
        have n2 : ((sk.toNat : Int) != 2) = true := bne_iff_ne.2 n3
        go_enter Tryd.func20, Tryd.ntmps20
        go_wp2_with (go_at_call 32; refine (HM.out).mono ?_; rintro e w1 ⟨rfl, k1⟩; (obtain ⟨b', o', Au', cu', e', p0, p1, hp⟩ := HAT.out w1 k1); injection e' with e'; injection e' with e1' e2'; subst e1' e2'; clear hp)
        go_ret
        exact ⟨by rw [HST.out]; rfl, k1⟩
end Go.Proofs.YtdeblmolgmadiaaDoor
