
/-
  peer: May, Class, Caps.
-/
import Derived.Test.YtembdobkgpojfaaDoorPEb
import Derived.Test.YtembdobkgpojfaaDoorDa
namespace Go.Proofs.YtembdobkgpojfaaDoor
open Go.RowKit

/-- Our side in memory: its others. -/
def PeO (w : World) (v : Value) (o : Pe.O) : Prop := o.m < 4294967296 ∧ o.c < 4294967296 ∧ As w v o.os
theorem PeO.old {w w' : World} {v : Value} {o : Pe.O} (h : PeO w v o) (k : Kept Nothing w w') : PeO w' v o := ⟨h.1, h.2.1, h.2.2.old k⟩
theorem PeO.form {w : World} {v : Value} {o : Pe.O} (h : PeO w v o) : ∃ A n c, v = .slice A n c := by obtain ⟨A, c, rfl, _⟩ := h.2.2.form; exact ⟨A, _, c, rfl⟩
set_option maxRecDepth 100000 in
set_option maxHeartbeats 4000000 in
theorem pe_may (o : Pe.O) (v : Value) (w : World) (hv : PeO w v o) (hs : Spans w) :
    Calls Tryd.prog 24 #[.agg (o.cl v)] w fun e w' => e = .returned (.bool (Pe.may o)) ∧ Kept Nothing w w' := by
  obtain ⟨hm, hc, hA⟩ := hv
  have hlm : o.os.length ≤ 9223372036854775807 := by obtain ⟨_, _, _, h1, h2⟩ := hA.form; unfold maxLen at h2; omega
  obtain ⟨A, c, rfl, -, -⟩ := hA.form
  have HTm := Lib.hid (fun u (k : Kept Nothing w u) => pe_told o.m hm u (hs.kept k))
  have HTc := Lib.hid (fun u (k : Kept Nothing w u) => pe_told o.c hc u (hs.kept k))
  have HRi := Lib.hid (fun u (k : Kept Nothing w u) => pe_rising A c o.os u (hA.old k))
  have HCo := Lib.hid (fun u (k : Kept Nothing w u) (hp : PeB u w.heap.size o) => pe_contains o A c o.os w.heap.size u (hA.old k) hp (hs.kept k))
  have HM : Hid (Pe.may o = (Pe.told o.m && Pe.told o.c && decide (o.id ≠ 0) && decide (o.id < 3758096384) && (if o.m = o.c then decide (o.os.length = 0) else decide (o.os.length ≤ 16) && Pe.rise o.os && !o.os.any (Pe.wrong o)))) := Lib.hid rfl
  have BX := Blk.fresh w 49 (o.cl (.slice A o.os.length c))
  have KX := Lib.hid ((Kept.refl Nothing w).alloc (.cells (o.cl (.slice A o.os.length c)) 49))
  unfold Pe.O.cl at BX KX ⊢
  have HPB : Hid (PeB (w.alloc (.cells #[.int .u32 (o.m : Int), .int .u32 (o.c : Int), .slice A o.os.length c, .int .u32 (o.id : Int)] 49)) w.heap.size o) := Lib.hid ⟨BX.cell 0, BX.cell 1⟩
  have HBX := Lib.hid BX
  generalize Pe.told o.m = tm at *
  generalize Pe.told o.c = tc at *
  generalize Pe.may o = r at *
  generalize Pe.rise o.os = ri at *
  generalize o.os.any (Pe.wrong o) = wr at *
  generalize o.os = os at *
  clear hA hs BX
  go_enter Tryd.func24, Tryd.ntmps24
  go_upto_region 1 with fail
  change Code.wp _ _ _ _ (w.alloc (.cells #[.int .u32 (o.m : Int), .int .u32 (o.c : Int), .slice A os.length c, .int .u32 (o.id : Int)] 49))
  generalize w.alloc (.cells #[.int .u32 (o.m : Int), .int .u32 (o.c : Int), .slice A os.length c, .int .u32 (o.id : Int)] 49) = W0 at *
  have CB : ∀ u, Kept Nothing W0 u → u.cell? ⟨w.heap.size, 0, none⟩ = some (.int .u32 (o.m : Int)) ∧ u.cell? ⟨w.heap.size, 1, none⟩ = some (.int .u32 (o.c : Int)) ∧ u.cell? ⟨w.heap.size, 2, none⟩ = some (.slice A os.length c) ∧ u.cell? ⟨w.heap.size, 3, none⟩ = some (.int .u32 (o.id : Int)) :=
    fun u k => have h := HBX.out.kept k (fun x => x); ⟨h.cell 0, h.cell 1, h.cell 2, h.cell 3⟩
  have HCB := Lib.hid CB
  obtain ⟨b0, b1, b2, b3⟩ := CB W0 (Kept.refl _ _)
  clear CB HBX
  cases tm with
  | false =>
    obtain rfl : r = false := by rw [HM.out]; rfl
    go_wp2_with (go_at_call 22; refine (HTm.out _ KX.out).mono ?_; rintro e w1 ⟨rfl, hk1⟩)
    go_ret
    exact ⟨rfl, KX.out.trans hk1⟩
  | true =>
    go_wp2_with fail
    refine (HTm.out W0 KX.out).mono ?_
    rintro e w1 ⟨rfl, hk1⟩
    have K1 := Lib.hid (KX.out.trans hk1)
    have H1 := Lib.hid hk1
    obtain ⟨d0, d1, d2, d3⟩ := HCB.out w1 hk1
    clear b0 b1 b2 b3 hk1
    cases tc with
    | false =>
      obtain rfl : r = false := by rw [HM.out]; rfl
      go_wp2_with fail
      refine (HTc.out w1 K1.out).mono ?_
      rintro e w2 ⟨rfl, hk2⟩
      go_wp2
      go_ret
      exact ⟨rfl, K1.out.trans hk2⟩
    | true =>
      go_wp2_with fail
      refine (HTc.out w1 K1.out).mono ?_
      rintro e w2 ⟨rfl, hk2⟩
      have K2 := Lib.hid (K1.out.trans hk2)
      have H2 := Lib.hid (H1.out.trans hk2)
      obtain ⟨f0, f1, f2, f3⟩ := HCB.out w2 H2.out
      clear d0 d1 d2 d3 hk2 K1 H1 HTm HTc
      obtain ⟨y, hy⟩ : ∃ y : Int, (o.id : Int) = y := ⟨_, rfl⟩
      rw [hy] at f3 HCB ⊢
      by_cases i0 : o.id = 0
      · obtain rfl : r = false := by rw [HM.out]; simp [i0]
        have i0i : (y == 0) = true := by simp; omega
        clear i0 HM hy
        go_wp2
        go_ret
        exact ⟨rfl, K2.out⟩
      · have i0i : (y == 0) = false := by simp; omega
        by_cases i1 : 3758096384 ≤ o.id
        · obtain rfl : r = false := by rw [HM.out]; have : ¬ o.id < 3758096384 := by omega
                                       simp [this]
          have i1i : (3758096384 : Int) ≤ y := by omega
          clear i0 i1 HM hy
          go_wp2
          go_ret
          exact ⟨rfl, K2.out⟩
        · have i1i : y < 3758096384 := by omega
          have hM := HM.out
          rw [decide_eq_true (show o.id ≠ 0 from i0), decide_eq_true (show o.id < 3758096384 by omega)] at hM
          simp only [Bool.true_and] at hM
          clear i0 i1 HM hy
          by_cases e0 : o.m = o.c
          · have e0i : ((o.m : Int) == (o.c : Int)) = true := by simp; omega
            rw [if_pos e0] at hM
            have HM := Lib.hid hM
            clear e0 hM
            go_wp2
            go_ret
            refine ⟨ret_bool ?_, K2.out⟩
            rw [HM.out, Bool.eq_iff_iff]
            simp
          · have e0i : ((o.m : Int) == (o.c : Int)) = false := by simp; omega
            rw [if_neg e0] at hM
            have HM := Lib.hid hM
            have HPB2 := Lib.hid (HPB.out.old H2.out)
            clear e0 hM HPB
            by_cases e1 : os.length ≤ 16
            · have e1i : (os.length : Int) ≤ 16 := by omega
              rw [decide_eq_true e1, Bool.true_and] at HM
              clear e1
              go_wp2_with fail
              refine (HRi.out w2 K2.out).mono ?_
              rintro e w3 ⟨rfl, hk3⟩
              have K3 := Lib.hid (K2.out.trans hk3)
              obtain ⟨g0, g1, g2, g3⟩ := HCB.out w3 (H2.out.trans hk3)
              have HPB3 := Lib.hid (HPB2.out.old hk3)
              clear f0 f1 f2 f3 hk3 HRi K2 H2
              cases ri with
              | false =>
                obtain rfl : r = false := by rw [HM.out]; rfl
                go_wp2
                go_ret
                exact ⟨rfl, K3.out⟩
              | true =>
                rw [Bool.true_and] at HM
                go_wp2_with fail
                refine (HCo.out w3 K3.out HPB3.out).mono ?_
                rintro e w4 ⟨rfl, hk4⟩
                have K4 := Lib.hid (K3.out.trans hk4)
                clear g0 g1 g2 g3 hk4
                go_wp2
                go_ret
                exact ⟨ret_bool HM.out.symm, K4.out⟩
            · have e1i : (16 : Int) < (os.length : Int) := by omega
              obtain rfl : r = false := by rw [HM.out]; simp [e1]
              clear e1 HM
              go_wp2
              go_ret
              exact ⟨rfl, K2.out⟩
set_option maxRecDepth 100000 in
set_option maxHeartbeats 4000000 in
theorem pe_class (o : Pe.O) (v : Value) (n : Nat) (hn : n < 4294967296) (w : World) (hv : PeO w v o) (hs : Spans w) :
    Calls Tryd.prog 26 #[.agg (o.cl v), .int .u32 (n : Int)] w fun e w' => e = .returned (.int .i64 (Pe.cls o n : Nat)) ∧ Kept Nothing w w' := by
  obtain ⟨A, c, rfl, -, -⟩ := hv.2.2.form
  have HMa := Lib.hid (fun u (k : Kept Nothing w u) => pe_may o _ u (hv.old k) (hs.kept k))
  have HHa := Lib.hid (fun u (k : Kept Nothing w u) => as_has A c o.os n u (hv.2.2.old k))
  have HTo := Lib.hid (fun u (k : Kept Nothing w u) => pe_told n hn u (hs.kept k))
  have HC : Hid (Pe.cls o n = (if Pe.may o = false then 0 else if n = o.m then 1 else if o.os.any (fun k => decide (k = n)) = true then 2 else if n = o.c ∨ Pe.told n = false then 0 else 3)) := Lib.hid rfl
  have BX := Blk.fresh w 49 (o.cl (.slice A o.os.length c))
  have KX := Lib.hid ((Kept.refl Nothing w).alloc (.cells (o.cl (.slice A o.os.length c)) 49))
  unfold Pe.O.cl at BX KX HMa ⊢
  have HBX := Lib.hid BX
  generalize Pe.told n = tq at *
  generalize Pe.may o = ma at *
  generalize Pe.cls o n = r at *
  generalize o.os.any (fun k => decide (k = n)) = an at *
  generalize o.os = os at *
  clear hv hs BX
  obtain ⟨y, hy⟩ : ∃ y : Int, (o.id : Int) = y := ⟨_, rfl⟩
  rw [hy] at HBX HMa KX ⊢
  clear hy
  obtain ⟨zm, hzm⟩ : ∃ z : Int, (o.m : Int) = z := ⟨_, rfl⟩
  obtain ⟨zc, hzc⟩ : ∃ z : Int, (o.c : Int) = z := ⟨_, rfl⟩
  obtain ⟨zn, hzn⟩ : ∃ z : Int, (n : Int) = z := ⟨_, rfl⟩
  rw [hzm, hzc] at HBX HMa KX ⊢
  rw [hzn] at HHa HTo ⊢
  go_enter Tryd.func26, Tryd.ntmps26
  go_upto_region 1 with fail
  change Code.wp _ _ _ _ (w.alloc (.cells #[.int .u32 zm, .int .u32 zc, .slice A os.length c, .int .u32 y] 49))
  generalize w.alloc (.cells #[.int .u32 zm, .int .u32 zc, .slice A os.length c, .int .u32 y] 49) = W0 at *
  have CB : ∀ u, Kept Nothing W0 u → u.cell? ⟨w.heap.size, 0, none⟩ = some (.int .u32 zm) ∧ u.cell? ⟨w.heap.size, 1, none⟩ = some (.int .u32 zc) ∧ u.cell? ⟨w.heap.size, 2, none⟩ = some (.slice A os.length c) ∧ u.cell? ⟨w.heap.size, 3, none⟩ = some (.int .u32 y) :=
    fun u k => have h := HBX.out.kept k (fun x => x); ⟨h.cell 0, h.cell 1, h.cell 2, h.cell 3⟩
  have HCB := Lib.hid CB
  obtain ⟨b0, b1, b2, b3⟩ := CB W0 (Kept.refl _ _)
  clear CB HBX
  go_wp2_with fail
  refine (HMa.out W0 KX.out).mono ?_
  rintro e w1 ⟨rfl, hk1⟩
  have K1 := Lib.hid (KX.out.trans hk1)
  have H1 := Lib.hid hk1
  obtain ⟨d0, d1, d2, d3⟩ := HCB.out w1 hk1
  clear b0 b1 b2 b3 hk1 HMa
  cases ma with
  | false =>
    obtain rfl : r = 0 := by rw [HC.out]; rfl
    go_wp2
    go_ret
    exact ⟨rfl, K1.out⟩
  | true =>
    rw [if_neg (by decide)] at HC
    by_cases e1 : n = o.m
    · obtain rfl : r = 1 := by rw [HC.out, if_pos e1]
      have e1i : (zn == zm) = true := by simp; omega
      clear e1 HC hzm hzc hzn
      go_wp2
      go_ret
      exact ⟨rfl, K1.out⟩
    · have e1i : (zn == zm) = false := by simp; omega
      rw [if_neg e1] at HC
      go_wp2_with fail
      refine (HHa.out w1 K1.out).mono ?_
      rintro e w2 ⟨rfl, hk2⟩
      have K2 := Lib.hid (K1.out.trans hk2)
      obtain ⟨f0, f1, f2, f3⟩ := HCB.out w2 (H1.out.trans hk2)
      clear d0 d1 d2 d3 hk2 HHa H1 e1
      cases an with
      | true =>
        obtain rfl : r = 2 := by rw [HC.out, if_pos rfl]
        clear hzm hzc hzn HC
        go_wp2
        go_ret
        exact ⟨rfl, K2.out⟩
      | false =>
        rw [if_neg (by decide)] at HC
        by_cases e2 : n = o.c
        · obtain rfl : r = 0 := by rw [HC.out, if_pos (.inl e2)]
          have e2i : (zn == zc) = true := by simp; omega
          clear hzm hzc hzn HC e2
          go_wp2
          go_ret
          exact ⟨rfl, K2.out⟩
        · have e2i : (zn == zc) = false := by simp; omega
          go_wp2_with fail
          refine (HTo.out w2 K2.out).mono ?_
          rintro e w3 ⟨rfl, hk3⟩
          have K3 := Lib.hid (K2.out.trans hk3)
          clear hk3 HTo f0 f1 f2 f3
          cases tq with
          | false =>
            obtain rfl : r = 0 := by rw [HC.out, if_pos (.inr rfl)]
            clear hzm hzc hzn HC e2
            go_wp2
            go_ret
            exact ⟨rfl, K3.out⟩
          | true =>
            obtain rfl : r = 3 := by rw [HC.out, if_neg (by simp [e2])]
            clear hzm hzc hzn HC e2
            go_wp2
            go_ret
            exact ⟨rfl, K3.out⟩
def Pe.caps (o : Pe.O) (k : Int) : List Cp := if k = 1 ∨ k = 2 ∨ k = 3 then oursL (Pe.tells o k) else []
theorem Pe.tells_lt (o : Pe.O) (hm : o.m < 4294967296) (hc : o.c < 4294967296) (k : Int) : Pe.tells o k < 4294967296 := by
  unfold Pe.tells
  repeat' split
  all_goals omega
set_option maxRecDepth 100000 in
set_option maxHeartbeats 4000000 in
theorem pe_caps (o : Pe.O) (v : Value) (k : Int) (w : World) (hv : PeO w v o) (hr : RdC w) :
    Calls Tryd.prog 20 #[.agg (o.cl v), .int .i64 k] w fun e w' => ∃ rv, e = .returned rv ∧ Cps w' rv (Pe.caps o k) ∧ Kept Nothing w w' := by
  obtain ⟨A, n, c, rfl⟩ := hv.form
  have HTe := Lib.hid (fun u => pe_tells o (.slice A n c) ⟨A, n, c, rfl⟩ k u)
  have HOu := Lib.hid (fun u (kk : Kept Nothing w u) => cp_ours (Pe.tells o k) (Pe.tells_lt o hv.1 hv.2.1 k) u (hr.kept kk))
  have HC : Hid (Pe.caps o k = if k = 1 ∨ k = 2 ∨ k = 3 then oursL (Pe.tells o k) else []) := Lib.hid rfl
  have BX := Blk.fresh w 49 (o.cl (.slice A n c))
  have KX := Lib.hid ((Kept.refl Nothing w).alloc (.cells (o.cl (.slice A n c)) 49))
  unfold Pe.O.cl at BX KX HTe ⊢
  clear hv hr
  generalize Pe.tells o k = te at *
  generalize Pe.caps o k = ca at *
  obtain ⟨y, hy⟩ : ∃ y : Int, (o.id : Int) = y := ⟨_, rfl⟩
  obtain ⟨zm, hzm⟩ : ∃ z : Int, (o.m : Int) = z := ⟨_, rfl⟩
  obtain ⟨zc, hzc⟩ : ∃ z : Int, (o.c : Int) = z := ⟨_, rfl⟩
  rw [hy, hzm, hzc] at BX KX HTe ⊢
  clear hy hzm hzc
  have hk : (k = 1 ∨ k = 2 ∨ k = 3) ∨ ((k == 1) = false ∧ (k == 2) = false ∧ (k == 3) = false ∧ Hid (¬ (k = 1 ∨ k = 2 ∨ k = 3))) := by
    by_cases h : k = 1 ∨ k = 2 ∨ k = 3
    · exact .inl h
    · exact .inr ⟨by simp; omega, by simp; omega, by simp; omega, Lib.hid h⟩
  rcases hk with hk | ⟨h1, h2, h3, h4⟩
  · rw [if_pos hk] at HC
    rcases hk with rfl | rfl | rfl
    all_goals
      go_enter Tryd.func20, Tryd.ntmps20
      go_upto_region 1 with fail
      change Code.wp _ _ _ _ (w.alloc (.cells #[.int .u32 zm, .int .u32 zc, .slice A n c, .int .u32 y] 49))
      generalize w.alloc (.cells #[.int .u32 zm, .int .u32 zc, .slice A n c, .int .u32 y] 49) = W0 at *
      have b0 := BX.cell 0
      have b1 := BX.cell 1
      have b2 := BX.cell 2
      have b3 := BX.cell 3
      simp only [List.getElem?_toArray, List.getElem?_cons_zero, List.getElem?_cons_succ] at b0 b1 b2 b3
      clear BX
      go_wp2_with (first
        | (go_at_call 28; refine (HTe.out W0).mono ?_; rintro e w1 ⟨rfl, hk1⟩; (have K1 := Lib.hid (KX.out.trans hk1)); clear hk1)
        | (go_at_call 63; refine (HOu.out w1 K1.out).mono ?_; rintro e w2 ⟨rv, rfl, hcp, hk2⟩; (have H2 := Lib.hid (And.intro hcp (K1.out.trans hk2))); clear hcp hk2))
      go_ret
      exact ⟨_, rfl, by rw [HC.out]; exact H2.out.1, H2.out.2⟩
  · rw [if_neg h4.out] at HC
    obtain rfl := HC.out
    go_enter Tryd.func20, Tryd.ntmps20
    go_wp2
    go_ret
    exact ⟨_, rfl, Cps.nil _, KX.out⟩
end Go.Proofs.YtembdobkgpojfaaDoor
