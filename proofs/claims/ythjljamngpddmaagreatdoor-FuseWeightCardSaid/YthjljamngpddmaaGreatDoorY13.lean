
/-
  fuse: taken, lead (a label, and a goto back to it).
-/
import Derived.Test.YthjljamngpddmaaGreatDoorY12
import Derived.Test.YthjljamngpddmaaGreatDoorY09
import Derived.ScopeJumps
import Derived.WalkMore
namespace Go.Proofs.YthjljamngpddmaaGreatDoor
open Go.RowKit Go.Shelf

theorem confedF_any (k : UInt8) (w : World) : Calls Tryz.prog 68 #[.int .u8 (k.toNat : Int)] w fun e w' => e = .returned (.bool (Wk.confed k)) ∧ w = w' := by
  unfold Wk.confed
  generalize k.toNat = n
  by_cases h3 : n = 3
  · subst h3
    go_enter Tryz.func68, Tryz.ntmps68
    go_wp2
    go_ret
    exact ⟨rfl, rfl⟩
  · have h3b : ((n : Int) == 3) = false := by simp; omega
    by_cases h4 : n = 4
    · subst h4
      go_enter Tryz.func68, Tryz.ntmps68
      go_wp2
      go_ret
      exact ⟨rfl, rfl⟩
    · have h4b : ((n : Int) == 4) = false := by simp; omega
      have e : (decide (n = 3) || decide (n = 4)) = false := by simp [h3, h4]
      rw [e]
      clear e h3 h4
      go_enter Tryz.func68, Tryz.ntmps68
      go_wp2
      go_ret
      exact ⟨rfl, rfl⟩

theorem bare_1 (k : UInt8) (A : Option Addr) (n c : Nat) (w : World) : Calls Tryz.prog 67 #[.agg #[.int .u8 (k.toNat : Int), .slice A n c]] w fun e w' => e = .returned (.bool (Wk.confed k)) ∧ Kept Nothing w w' := by
  have b := Blk.fresh w 72 #[.int .u8 (k.toNat : Int), .slice A n c]
  have c0 := b.cell 0
  have HC := Lib.hid (fun w => confedF_any k w)
  have KK := Lib.hid ((Kept.refl Nothing w).alloc (.cells #[.int .u8 (k.toNat : Int), .slice A n c] 72))
  clear b
  go_enter Tryz.func67, Tryz.ntmps67
  go_wp2_with (go_at_call 68; refine (HC.out _).mono ?_; rintro e w2 ⟨rfl, rfl⟩)
  go_ret
  exact ⟨rfl, KK.out⟩

set_option maxHeartbeats 800000 in
/-- The first confed segment. -/
theorem idx_funcF (v : Value) (l : List Seg) (w : World) (h : Pts w v l) (hl : l.length ≤ 1000000) :
    Calls Tryz.prog 70 #[v, .func (.func 67) #[] #[]] w fun e w' => Kept Nothing w w' ∧ ((e = .returned (.int .i64 (-1)) ∧ ∀ s ∈ l, Wk.confed s.1 = false) ∨ ∃ k : Nat, e = .returned (.int .i64 (k : Int)) ∧ k < l.length ∧ (∀ s ∈ l.take k, Wk.confed s.1 = false) ∧ Wk.confed (l.getD k (0, [])).1 = true) := by
  obtain ⟨A, c, rfl, hc, hm⟩ := h.form
  have HV := Lib.hid h
  have en : ∀ args w, (callFunc 67 args).run Tryz.prog w = .ok (.enter 67 args) w := enters_of Tryz.func67 (by kernel_rfl) rfl
  clear h
  go_enter Tryz.func70, Tryz.ntmps70
  go_upto_region 2 with fail
  go_loopw [8] (fun i wr => ∃ k : Nat, i = .int .i64 (k : Int) ∧ k ≤ l.length ∧ Hid (Kept Nothing w wr) ∧ Hid (∀ s ∈ l.take k, Wk.confed s.1 = false)) (fun i _ => l.length - (intOf i).toNat)
  case atStart => exact ⟨0, rfl, Nat.zero_le _, Lib.hid (Kept.refl _ _), Lib.hid (fun s hs => by simp at hs)⟩
  case round =>
    obtain ⟨k, rfl, hk, KK, HA⟩ := hrel
    by_cases hlt : k < l.length
    · obtain ⟨b, o, Au, cu, rfl, p0w, p1w, hp⟩ := HV.out.at2 hlt
      have p0 := KK.out.cell_some p0w (fun x => x)
      have p1 := KK.out.cell_some p1w (fun x => x)
      have i1 : (0 : Int) ≤ (k : Int) := by omega
      have i2 : (k : Int) < (l.length : Int) := by omega
      have HT : Hid (Wk.confed (l.getD k (0, [])).1 = false → ∀ s ∈ l.take (k + 1), Wk.confed s.1 = false) := Lib.hid (fun e s hs => by
        rw [List.take_succ_eq_append_getElem hlt] at hs
        rcases List.mem_append.1 hs with hs | hs
        · exact HA.out s hs
        · obtain rfl := List.mem_singleton.1 hs
          rwa [getD_get hlt] at e)
      have HS := Lib.hid (fun w => bare_1 (l.getD k (0, [])).1 Au (l.getD k (0, [])).2.length cu w)
      have HE : Hid (Wk.confed (l.getD k (0, [])).1 = Wk.confed (l.getD k (0, [])).1) := Lib.hid rfl
      clear hp p0w p1w
      generalize hcf : Wk.confed (l.getD k (0, [])).1 = cf at *
      have HCF := Lib.hid hcf
      clear hcf
      generalize (l.getD k (0, [])).1.toNat = kn at *
      generalize (l.getD k (0, [])).2.length = nl at *
      cases cf with
      | false =>
        go_wp2_with (go_at_call 67; refine (HS.out _).mono ?_; rintro e w2 ⟨rfl, k2⟩)
        go_roundw
        case rel => exact ⟨k + 1, by go_num, by omega, Lib.hid (KK.out.trans k2), Lib.hid (HT.out (by trivial))⟩
        case measure => simp [intOf]; omega
      | true =>
        go_wp2_with (go_at_call 67; refine (HS.out _).mono ?_; rintro e w2 ⟨rfl, k2⟩)
        go_ret
        exact ⟨KK.out.trans k2, .inr ⟨k, rfl, hlt, HA.out, HCF.out⟩⟩
    · obtain rfl : k = l.length := by omega
      rw [List.take_of_length_le (Nat.le_refl _)] at HA
      go_wp2
      go_ret
      exact ⟨KK.out, .inl ⟨rfl, HA.out⟩⟩

set_option maxRecDepth 20000 in
set_option maxHeartbeats 2000000 in
theorem del_funcF (B : Nat) (v : Value) (xs : List Value) (l : List Seg) (w : World) (ho : w.ownsRow B 72 2 v l.length xs) (hr : Rws w B xs l) (hl : l.length ≤ 1000000) :
    Calls Tryz.prog 38 #[v, .func (.func 67) #[] #[]] w fun e w' => ∃ v', e = .returned v' ∧ w'.ownsRow B 72 2 v' (plains l).length (cutC xs l) ∧ Rws w' B (cutC xs l) (plains l) ∧ Kept (fun k => v.ownBlock = some k) w w' := by
  have HI := Lib.hid (idx_funcF v l w (Pts.of_own ho hr.cells) hl)
  have en : ∀ args w, (callFunc 67 args).run Tryz.prog w = .ok (.enter 67 args) w := enters_of Tryz.func67 (by kernel_rfl) rfl
  obtain ⟨A, c, rfl, hc, hm⟩ := ow_form ho
  have HO := Lib.hid ho
  have HR := Lib.hid hr
  clear ho hr
  go_enter Tryz.func38, Tryz.ntmps38
  go_wp2_with fail
  refine (HI.out).mono ?_
  rintro e w1 ⟨k1, (⟨rfl, hall⟩ | ⟨k, rfl, hk, hpre, hck⟩)⟩
  · go_wp2
    go_ret
    have h1 := cutC_all HR.out hall
    refine ⟨_, rfl, ?_, ?_, k1.mono (fun _ x => x.elim)⟩
    · rw [h1.1, h1.2]; exact ow_kept HO.out k1 (fun _ _ x => x)
    · rw [h1.1, h1.2]; exact HR.out.old k1
  · obtain ⟨g, cg, cur, hv, hge, hcg, hbg, hcz, htk⟩ : ∃ g cg cur, Value.slice A l.length c = .slice (some ⟨g, 0, none⟩) l.length cg ∧ B ≤ g ∧ l.length ≤ cg ∧ Blk w g 72 cur ∧ cur.size = cg * 2 ∧ cur.toList.take (l.length * 2) = xs := by
      rcases HO.out.2 with ⟨_, h0⟩ | ⟨g, cap, cur, e, hb, hh, hn, _, hs, ht⟩
      · omega
      · exact ⟨g, cap, cur, e, hb, hn, hh, hs, ht⟩
    injection hv with hA _ hc2
    subst hA hc2
    have hki : ((k : Int) == -1) = false := by simp
    have hxl := HR.out.len2
    have J0 : Hid (∃ cur1, Blk w1 g 72 cur1 ∧ cur1.size = c * 2 ∧ cur1.toList.take (k * 2) = cutC (xs.take ((k + 1) * 2)) (l.take (k + 1)) ∧ (∀ m, (k + 1) * 2 ≤ m → m < l.length * 2 → cur1[m]? = xs[m]?) ∧ k = (plains (l.take (k + 1))).length ∧ Kept (Only g) w w1) := Lib.hid (by
      obtain ⟨nv, e0, e1, _, _⟩ := HR.out.at k hk
      have h1 := take_two xs k _ _ e0 e1
      have h2 : l.take (k + 1) = l.take k ++ [l.getD k (0, [])] := by rw [List.take_succ_eq_append_getElem hk, getD_get hk]
      have h3 := cutC_all (HR.out.first k) hpre
      refine ⟨cur, hbg.kept k1 (fun x => x), hcz, ?_, ?_, ?_, k1.mono (fun _ x => x.elim)⟩
      · rw [h1, h2, cutC_snoc _ _ _ (HR.out.first k), hck, h3.1]
        simp only [if_true, List.append_nil]
        rw [← htk, List.take_take]
        congr 1
        omega
      · intro m hm1 hm2
        rw [← htk, List.getElem?_take_of_lt hm2, Array.getElem?_toList]
      · rw [h2, plains_snoc, hck, h3.2]
        simp [List.length_take]
        omega)
    have HX := Lib.hid htk
    clear htk hcz hbg hpre hck k1 HI
    go_upto_region 5 with fail
    go_loopw [5, 6] (fun u5 u6 wr => ∃ i j : Nat, u5 = .int .i64 (i : Int) ∧ u6 = .int .i64 (j : Int) ∧ i < j ∧ j ≤ l.length ∧ Hid (∃ cur1, Blk wr g 72 cur1 ∧ cur1.size = c * 2 ∧ cur1.toList.take (i * 2) = cutC (xs.take (j * 2)) (l.take j) ∧ (∀ m, j * 2 ≤ m → m < l.length * 2 → cur1[m]? = xs[m]?) ∧ i = (plains (l.take j)).length ∧ Kept (Only g) w wr)) (fun _ u6 _ => l.length - (intOf u6).toNat)
    case atStart => exact ⟨k, k + 1, rfl, by go_num, by omega, by omega, J0⟩
    case round =>
      clear J0
      obtain ⟨i, j, rfl, rfl, hij, hj, HJ⟩ := hrel
      by_cases hlt : j < l.length
      · obtain ⟨cur1, hb, hs, ht, hrest, hi, hkw⟩ := HJ.out
        obtain ⟨nv, e0, e1, no, -⟩ := HR.out.at j hlt
        obtain ⟨An, cn, rfl, _, _⟩ := ow_form no
        have p0 := hb.cell (j * 2)
        rw [hrest _ (by omega) (by omega), e0] at p0
        have p1 := hb.cell (j * 2 + 1)
        rw [hrest _ (by omega) (by omega), e1] at p1
        have hgz := hb.lt
        have i1 : (0 : Int) ≤ (j : Int) := by omega
        have i2 : (j : Int) < (l.length : Int) := by omega
        have i3 : (0 : Int) ≤ (i : Int) := by omega
        have i4 : (i : Int) < (l.length : Int) := by omega
        have h2 : l.take (j + 1) = l.take j ++ [l.getD j (0, [])] := by rw [List.take_succ_eq_append_getElem hlt, getD_get hlt]
        have HC := Lib.hid (cutC_snoc (by8 (l.getD j (0, [])).1) (.slice An (l.getD j (0, [])).2.length cn) (l.getD j (0, [])) (HR.out.first j))
        have HC1 := Lib.hid (take_two xs j _ _ e0 e1)
        have HP := Lib.hid (plains_snoc (l.take j) (l.getD j (0, [])))
        have HS := Lib.hid (fun w => bare_1 (l.getD j (0, [])).1 An (l.getD j (0, [])).2.length cn w)
        have H2 := Lib.hid h2
        rw [show by8 (l.getD j (0, [])).1 = .int .u8 ((l.getD j (0, [])).1.toNat : Int) from rfl] at p0 HC HC1
        clear e0 e1 no h2
        generalize hsg : l.getD j (0, []) = sg at *
        obtain ⟨sk, sn⟩ := sg
        simp only at p0 p1
        replace HS : Hid (∀ w, Calls Tryz.prog 67 #[.agg #[.int .u8 (sk.toNat : Int), .slice An sn.length cn]] w fun e w' => e = .returned (.bool (Wk.confed sk)) ∧ Kept Nothing w w') := HS
        replace HC : Hid (cutC (xs.take (j * 2) ++ [.int .u8 (sk.toNat : Int), .slice An sn.length cn]) (l.take j ++ [(sk, sn)]) = cutC (xs.take (j * 2)) (l.take j) ++ (if Wk.confed sk then [] else [.int .u8 (sk.toNat : Int), .slice An sn.length cn])) := HC
        replace HP : Hid (plains (l.take j ++ [(sk, sn)]) = plains (l.take j) ++ (if Wk.confed sk then [] else [(sk, sn)])) := HP
        replace HC1 : Hid (xs.take ((j + 1) * 2) = xs.take (j * 2) ++ [.int .u8 (sk.toNat : Int), .slice An sn.length cn]) := HC1
        clear hsg
        have HB := Lib.hid hb
        have HKW := Lib.hid hkw
        have HSZ : Hid (cur1.size = c * 2) := Lib.hid hs
        have HT := Lib.hid ht
        have HRS := Lib.hid hrest
        have HIL := Lib.hid hi
        have KB := Lib.hid ((Kept.refl Nothing wr).alloc (.cells #[.int .u8 (sk.toNat : Int), .slice An sn.length cn] 72))
        have BX := Lib.hid (Blk.fresh wr 72 #[.int .u8 (sk.toNat : Int), .slice An sn.length cn])
        clear hb hs ht hrest hi hkw
        cases hcf : Wk.confed sk with
        | true =>
          rw [hcf] at HS HC HP
          have HN : Hid (∀ w2, Kept Nothing wr w2 → ∃ cur1, Blk w2 g 72 cur1 ∧ cur1.size = c * 2 ∧ cur1.toList.take (i * 2) = cutC (xs.take ((j + 1) * 2)) (l.take (j + 1)) ∧ (∀ m, (j + 1) * 2 ≤ m → m < l.length * 2 → cur1[m]? = xs[m]?) ∧ i = (plains (l.take (j + 1))).length ∧ Kept (Only g) w w2) := Lib.hid (fun w2 k2 =>
            ⟨cur1, HB.out.kept k2 (fun x => x), HSZ.out, by rw [HC1.out, H2.out, HC.out, HT.out]; simp, fun m h1 h2 => HRS.out m (by omega) h2, by rw [H2.out, HP.out]; simpa using HIL.out, HKW.out.trans (k2.mono (fun _ x => x.elim))⟩)
          clear hcf HJ
          go_wp2_with (go_at_call 67; refine (HS.out _).mono ?_; rintro e w2 ⟨rfl, k2⟩)
          go_roundw
          case rel => exact ⟨i, j + 1, rfl, by go_num, by omega, by omega, Lib.hid (HN.out _ (KB.out.trans k2))⟩
          case measure => simp [intOf]; omega
        | false =>
          rw [hcf] at HS HC HP
          clear hcf HJ
          have hsz2 : i * 2 + 1 < cur1.size := by rw [HSZ.out]; omega
          have HN : Hid (∀ w2 a v, Kept Nothing wr w2 → a = .int .u8 (sk.toNat : Int) → v = .slice An sn.length cn → ∃ cur1, Blk ((w2.setCell ⟨g, i * 2, none⟩ a).setCell ⟨g, i * 2 + 1, none⟩ v) g 72 cur1 ∧ cur1.size = c * 2 ∧ cur1.toList.take ((i + 1) * 2) = cutC (xs.take ((j + 1) * 2)) (l.take (j + 1)) ∧ (∀ m, (j + 1) * 2 ≤ m → m < l.length * 2 → cur1[m]? = xs[m]?) ∧ i + 1 = (plains (l.take (j + 1))).length ∧ Kept (Only g) w ((w2.setCell ⟨g, i * 2, none⟩ a).setCell ⟨g, i * 2 + 1, none⟩ v)) := Lib.hid (fun w2 a v k2 ha hv =>
            ⟨(cur1.setIfInBounds (i * 2) a).setIfInBounds (i * 2 + 1) v, ((HB.out.kept k2 (fun x => x)).put _ _).put _ _, by simp [HSZ.out], by rw [take_put2 _ _ _ _ hsz2, HC1.out, H2.out, HC.out, HT.out, ha, hv]; rfl, fun m h1 h2 => by rw [Array.getElem?_setIfInBounds_ne (by omega), Array.getElem?_setIfInBounds_ne (by omega)]; exact HRS.out m (by omega) h2, by rw [H2.out, HP.out]; simp; exact HIL.out, ((HKW.out.trans (k2.mono (fun _ x => x.elim))).trans (Kept.own _ _ _ _)).trans (Kept.own _ _ _ _)⟩)
          go_upto_region 9 with (go_at_call 67; refine (HS.out _).mono ?_; rintro e w2 ⟨rfl, k2⟩; (have K2 := Lib.hid k2); clear k2)
          have hb2 := HB.out.kept (KB.out.trans K2.out) (fun x => x)
          have r0 := (hb2.cell (i * 2)).trans (Array.getElem?_eq_getElem (by omega))
          have r1 := (hb2.cell (i * 2 + 1)).trans (Array.getElem?_eq_getElem (by omega))
          have f0 := hb2.free (i * 2)
          have f1 := hb2.free (i * 2 + 1)
          have y0 := (BX.out.kept K2.out (fun x => x)).cell 0
          have y1 := (BX.out.kept K2.out (fun x => x)).cell 1
          clear hb2 p0 p1
          go_wp2
          go_roundw
          case rel => exact ⟨i + 1, j + 1, by go_num, by go_num, by omega, by omega, Lib.hid (HN.out _ _ _ (KB.out.trans K2.out) rfl rfl)⟩
          case measure => simp [intOf]; omega
      · obtain rfl : j = l.length := by omega
        obtain ⟨cur1, hb, hs, ht, -, hi, hkw⟩ := HJ.out
        rw [List.take_of_length_le (Nat.le_refl _)] at hi ht
        rw [show xs.take (l.length * 2) = xs from List.take_of_length_le (by rw [hxl]; exact Nat.le_refl _)] at ht
        have hsl := slice_loP g l.length c i hij hcg
        have hsh := slice_hiP g l.length c i (by omega)
        obtain ⟨vs, hcl⟩ := run_clear_seg wr g (i * 2) (l.length - i) (c - i) (by omega) (fun t ht => by rw [hb.cell, Array.getElem?_eq_getElem (by omega)]; rfl) (fun t ht => hb.free _)
        obtain ⟨cur2, hb2, hs2, ht2, hk2⟩ := hb.setCells vs (i * 2) wr cur1
        have FIN : Hid ((wr.setCells g (i * 2) vs).ownsRow B 72 2 (.slice (some ⟨g, 0, none⟩) i c) (plains l).length (cutC xs l) ∧ Rws (wr.setCells g (i * 2) vs) B (cutC xs l) (plains l) ∧ Kept (fun k => (Value.slice (some ⟨g, 0, none⟩) l.length c).ownBlock = some k) w (wr.setCells g (i * 2) vs)) := Lib.hid (by
          have kz := hkw.trans hk2
          have hrw := cutC_rws HR.out
          have hlc := hrw.len2
          refine ⟨⟨by rw [hlc], .inr ⟨g, c, cur2, by rw [← hi], hge, hb2, by omega, hm, by rw [hs2, hs], ?_⟩⟩, hrw.kept kz (fun g' cs (e : g' = g) x => ?_), kz.mono (fun k (e : k = g) => by rw [e]; rfl)⟩
          · rw [← hi, ht2, ht]
          · subst e
            obtain ⟨cs', hh⟩ := ow_lt HO.out (g := g') rfl
            rw [hh] at x
            injection x with x
            injection x with _ e2
            exact absurd e2 (by decide))
        clear hb hs ht hi hkw hb2 hs2 ht2 hk2 HJ
        go_wp2
        go_ret
        exact ⟨_, rfl, FIN.out.1, FIN.out.2.1, FIN.out.2.2⟩

theorem cutC_sub : ∀ (xs : List Value) (l : List Seg), (cutC xs l).Sublist xs
  | a :: v :: xs, s :: l => by
    have ih := cutC_sub xs l
    show (if Wk.confed s.1 then cutC xs l else a :: v :: cutC xs l).Sublist _
    cases Wk.confed s.1 with
    | true => exact (ih.cons v).cons a
    | false => exact (ih.cons_cons v).cons_cons a
  | [], _ => by unfold cutC; exact List.nil_sublist _
  | [_], _ => by unfold cutC; exact List.nil_sublist _
  | _ :: _ :: _, [] => by unfold cutC; exact List.nil_sublist _
theorem Dist.cut {xs : List Value} (h : Dist xs) (l : List Seg) : Dist (cutC xs l) := h.sublist (cutC_sub xs l)

set_option maxHeartbeats 800000 in
theorem fuse_bare (v : Value) (l : List Seg) (w : World) (h : Pts w v l) (hl : l.length ≤ 1000000) (hn : ∀ s ∈ l, s.2.length ≤ 1000000) :
    Calls Tryz.prog 35 #[v] w fun e w' => ∃ v' xs, e = .returned v' ∧ w'.ownsRow w.heap.size 72 2 v' (plains l).length xs ∧ Rws w' w.heap.size xs (plains l) ∧ Dist xs ∧ Kept Nothing w w' := by
  obtain ⟨A, c, rfl, -, -⟩ := h.form
  have HC := Lib.hid (path_copyD _ l w h hl hn)
  clear h hn
  go_enter Tryz.func35, Tryz.ntmps35
  go_wp2_with (first
    | (go_at_call 38; refine (del_funcF _ _ _ l _ O2.out R2.out hl).mono ?_; rintro e w3 ⟨v3, rfl, o3, r3, k3⟩)
    | (go_at_call 18; refine (HC.out).mono ?_; rintro e w2 ⟨v2, xs2, rfl, o2, r2, d2, k2⟩; (obtain ⟨A2, c2, rfl, _, _⟩ := ow_form o2); (have O2 := Lib.hid o2); (have R2 := Lib.hid r2); (have D2 := Lib.hid d2); (have K2 := Lib.hid k2); clear o2 r2 d2 k2))
  go_ret
  exact ⟨_, _, rfl, o3, r3, D2.out.cut l, K2.out.trans_new k3 (fun i hi hk => by have := (ow_ge O2.out hk).1; omega)⟩
end Go.Proofs.YthjljamngpddmaaGreatDoor
namespace Go.Proofs.YthjljamngpddmaaGreatDoor
open Go.RowKit Go.Shelf
attribute [local go_sem] Oper.semAt_some

set_option maxHeartbeats 1600000 in
theorem fuse_hasWide (v : Value) (l : List Seg) (w : World) (h : Pts w v l) (hl : l.length ≤ 1000000) (hn : ∀ s ∈ l, s.2.length ≤ 1000000) :
    Calls Tryz.prog 64 #[v] w fun e w' => e = .returned (.bool (Pt.hasW l)) ∧ Kept Nothing w w' := by
  obtain ⟨A, c, rfl, hc, hm⟩ := h.form
  have hmf := run_mkFunc
  refine (callsIn_wide (n := 4)).1 (callsIn_of_wp_marks Tryz.func64 rfl trivial ?_ rfl)
  rw [wpIn_wide]
  simp only [Tryz.ntmps64, List.size_toArray, List.length_cons, List.length_nil, Nat.reduceAdd, Nat.reduceSub, Array.replicate_succ, Array.replicate_zero, List.push_toArray, List.append_toArray, List.nil_append, List.cons_append]
  go_wp2_with fail
  have hb1 := Blk.fresh w 4 #[.bool false]
  have k1 := (Kept.refl Nothing w).alloc (.cells #[.bool false] 4)
  have hz1 : (w.alloc (.cells #[.bool false] 4)).heap.size = w.heap.size + 1 := World.size_alloc _ _
  generalize w.alloc (.cells #[.bool false] 4) = w1 at hb1 k1 hz1 ⊢
  refine wp_rf (gf := 28) (fs := #[.slice A l.length c]) (encs := encA) (xs := Pt.all l) (S := Only w.heap.size) rfl (enters_of Tryz.func28 (by kernel_rfl) rfl) (fun k (e : k = w.heap.size) => by omega)
    (all_seq w _ l _ w1 h k1 (fun k (e : k = w.heap.size) => by omega) (fun k (e : k = w.heap.size) => by omega) hl hn) (fun _ => rfl)
    (fun pre W => Kept Nothing w W ∧ Blk W w.heap.size 4 #[.bool false] ∧ ∀ x ∈ pre, ¬ 65535 < x.2) (fun c pre W => c = .ret ∧ Kept Nothing w W ∧ Blk W w.heap.size 4 #[.bool true] ∧ ∃ x ∈ pre, 65535 < x.2)
    (fun s X Y hs hX hk => ⟨hs.1.trans_new hk (fun i hi x => by omega), hs.2.1.kept hk (by omega), hs.2.2⟩) (fun c s X Y hs hX hk => ⟨hs.1, hs.2.1.trans_new hk (fun i hi x => by omega), hs.2.2.1.kept hk (by omega), hs.2.2.2⟩) ⟨k1, hb1, fun x hx => by cases hx⟩
    (fun x => { tmps := #[.slice A l.length c, undef, .pointer (some ⟨w.heap.size, 0, none⟩), undef, .int .u32 (x.2 : Int), .slice A l.length c, .func (.func 28) #[.slice A l.length c] #[], .int .u8 (x.1.toNat : Int), .int .u32 (x.2 : Int), undef, undef], defers := [] }) ?assign ?body ?done ?stop
  case assign =>
    intro q x W K hK
    simp only [encA, fold_two]
    gi_wp2
    exact hK
  case body =>
    rintro q pre x W ⟨hk, hb, hp⟩ hp2 hz
    have c0 := hb.cell 0
    have f0 := hb.free 0
    have HW := Lib.hid (fun w => pnum_wide x.2 w)
    by_cases hx : 65535 < x.2
    · rw [show decide (65535 < x.2) = true from by simpa using hx] at HW
      gi_wp2_with (refine ⟨trivial, ?_⟩; gi_at_call 71; refine (CallsIn.inRound q (callsIn_wide.2 (HW.out _))).mono ?_; rintro e w' ⟨rfl, rfl⟩)
      refine ⟨Kept.own W w.heap.size 0 _, rfl, hk.setCell (p := ⟨w.heap.size, 0, none⟩) (fun h => absurd h (Nat.lt_irrefl _)) _, hb.put 0 _, x, by simp, hx⟩
    · rw [show decide (65535 < x.2) = false from by simpa using hx] at HW
      gi_wp2_with (refine ⟨trivial, ?_⟩; gi_at_call 71; refine (CallsIn.inRound q (callsIn_wide.2 (HW.out _))).mono ?_; rintro e w' ⟨rfl, rfl⟩)
      refine ⟨Kept.refl _ _, hk, hb, fun y hy => ?_⟩
      rcases List.mem_append.1 hy with hy | hy
      · exact hp y hy
      · obtain rfl := List.mem_singleton.1 hy
        exact hx
  case done =>
    rintro D W hD ⟨hk, hb, hp⟩ hd
    have c0 := hb.cell 0
    have f0 := hb.free 0
    go_wp2
    have e0 := ((hb.put 0 (.bool false)).putObj (D := D) (by have := hb.lt; omega) (.deferred none)).cell 0
    have hd2 : (W.setCell ⟨w.heap.size, 0, none⟩ (.bool false)).heap[D]? = some (.deferred (some [])) := (Below.heap_setCell W ⟨w.heap.size, 0, none⟩ _ D (by show D ≠ w.heap.size; omega)).trans hd
    refine ⟨by simp, .inl ⟨_, _, rfl, run_takeDeferred hd2, ?_⟩⟩
    have hW := Pt.hasW_false hp
    exact ⟨.bool false, by simp [results, Tryz.results64, go_sem, e0], by rw [hW], (hk.setCell (p := ⟨w.heap.size, 0, none⟩) (fun h => absurd h (Nat.lt_irrefl _)) _).trans_new ((Kept.putObj _ D _).mono (fun k (e : k = D) => e)) (fun i hi (e : i = D) => by omega)⟩
  case stop =>
    rintro D c pre W hD hpre ⟨rfl, hk, hb, x, hx, hx2⟩ hd
    have c0 := hb.cell 0
    go_wp2
    have e0 := (hb.putObj (D := D) (by omega) (.deferred none)).cell 0
    refine ⟨by simp, .inl ⟨_, _, rfl, run_takeDeferred hd, ?_⟩⟩
    have hW := Pt.hasW_true hpre hx hx2
    exact ⟨.bool true, by simp [results, Tryz.results64, go_sem, e0], by rw [hW], hk.trans_new ((Kept.putObj W D _).mono (fun k (e : k = D) => e)) (fun i hi (e : i = D) => by omega)⟩

theorem fuse_wt1 (k : UInt8) (A : Option Addr) (s : List Nat) (c : Nat) (w : World) :
    Calls Tryz.prog 69 #[.agg #[.int .u8 (k.toNat : Int), .slice A s.length c]] w fun e w' => e = .returned (.int .i64 (Fz.wt1 (k, s) : Int)) ∧ Kept Nothing w w' := by
  have HE : Hid (Fz.wt1 (k, s) = if k.toNat = 2 then s.length else if k.toNat = 1 then 1 else 0) := Lib.hid rfl
  have HK := Lib.hid ((Kept.refl Nothing w).alloc (.cells #[.int .u8 (k.toNat : Int), .slice A s.length c] 72))
  by_cases h2 : k.toNat = 2
  · have HE2 : Hid (Fz.wt1 (k, s) = s.length) := Lib.hid (by rw [HE.out, if_pos h2])
    generalize k.toNat = kn at *
    subst h2
    clear HE
    go_enter Tryz.func69, Tryz.ntmps69
    go_wp2
    go_ret
    exact ⟨by rw [HE2.out]; rfl, HK.out⟩
  · have b2 : ((k.toNat : Int) == 2) = false := by simp; omega
    by_cases h1 : k.toNat = 1
    · have HE2 : Hid (Fz.wt1 (k, s) = 1) := Lib.hid (by rw [HE.out, if_neg h2, if_pos h1])
      generalize k.toNat = kn at *
      subst h1
      clear HE
      go_enter Tryz.func69, Tryz.ntmps69
      go_wp2
      go_ret
      exact ⟨by rw [HE2.out]; rfl, HK.out⟩
    · have b1 : ((k.toNat : Int) == 1) = false := by simp; omega
      have HE2 : Hid (Fz.wt1 (k, s) = 0) := Lib.hid (by rw [HE.out, if_neg h2, if_neg h1])
      generalize k.toNat = kn at *
      clear HE h1 h2
      go_enter Tryz.func69, Tryz.ntmps69
      go_wp2
      go_ret
      exact ⟨by rw [HE2.out]; rfl, HK.out⟩

theorem Fz.wt_take (l : List Seg) (i : Nat) (h : i < l.length) : Fz.wt (l.take (i + 1)) = Fz.wt (l.take i) + Fz.wt1 (l.getD i (0, [])) := by
  rw [List.take_succ_eq_append_getElem h, Fz.wt_append, getD_get h]
  simp [Fz.wt]
set_option maxHeartbeats 1600000 in
theorem fuse_wt (v : Value) (l : List Seg) (w : World) (h : Pts w v l) (hl : l.length ≤ 1000000) (hn : ∀ s ∈ l, s.2.length ≤ 1000000) :
    Calls Tryz.prog 36 #[v] w fun e w' => e = .returned (.int .i64 (Fz.wt l : Int)) ∧ Kept Nothing w w' := by
  obtain ⟨A, c, rfl, hc, hm⟩ := h.form
  have HV := Lib.hid h
  have HN := Lib.hid hn
  clear h hn
  go_enter Tryz.func36, Tryz.ntmps36
  go_wp2
  go_loopw [3, 8] (fun a i wr => ∃ k : Nat, i = .int .i64 (k : Int) ∧ k ≤ l.length ∧ a = .int .i64 (Fz.wt (l.take k) : Int) ∧ Hid (Kept Nothing w wr)) (fun _ i _ => l.length - (intOf i).toNat)
  case atStart => exact ⟨0, rfl, Nat.zero_le _, rfl, Lib.hid (Kept.refl _ _)⟩
  case round =>
    obtain ⟨k, rfl, hk, rfl, KK⟩ := hrel
    by_cases hlt : k < l.length
    · obtain ⟨b, o, Au, cu, rfl, p0w, p1w, hp⟩ := HV.out.at2 hlt
      have p0 := KK.out.cell_some p0w (fun x => x)
      have p1 := KK.out.cell_some p1w (fun x => x)
      have i1 : (0 : Int) ≤ (k : Int) := by omega
      have i2 : (k : Int) < (l.length : Int) := by omega
      have hb1 : Fz.wt (l.take k) ≤ (l.take k).length * (1000000 + 1) := Fz.wt_le _ _ (fun s hs => HN.out s (List.mem_of_mem_take hs))
      rw [List.length_take] at hb1
      have hb2 : Fz.wt1 (l.getD k (0, [])) ≤ 1000001 := by
        have h1 := Fz.wt1_le (l.getD k (0, []))
        have h2 := HN.out (l.getD k (0, [])) (by rw [getD_get hlt]; exact List.getElem_mem _)
        omega
      have hb3 : Fz.wt (l.take k) ≤ 1000001000000 := by
        refine Nat.le_trans hb1 (Nat.le_trans (Nat.mul_le_mul_right _ (Nat.le_trans (Nat.min_le_left _ _) (Nat.le_trans hk hl))) (by omega))
      have HT := Lib.hid (Fz.wt_take l k hlt)
      have HW := Lib.hid (fun w => fuse_wt1 (l.getD k (0, [])).1 Au (l.getD k (0, [])).2 cu w)
      clear p0w p1w hp hb1
      generalize Fz.wt (l.take k) = acc at *
      generalize hsg : l.getD k (0, []) = sg at *
      obtain ⟨sk, sn⟩ := sg
      simp only at p0 p1
      replace HW : Hid (∀ w, Calls Tryz.prog 69 #[.agg #[.int .u8 (sk.toNat : Int), .slice Au sn.length cu]] w fun e w' => e = .returned (.int .i64 (Fz.wt1 (sk, sn) : Int)) ∧ Kept Nothing w w') := HW
      clear hsg
      generalize Fz.wt1 (sk, sn) = one at *
      have KA := Lib.hid ((Kept.refl Nothing wr).alloc (.cells #[.int .u8 (sk.toNat : Int), .slice Au sn.length cu] 72))
      go_wp2_with (go_at_call 69; refine (HW.out _).mono ?_; rintro e w2 ⟨rfl, k2⟩)
      go_roundw
      case rel => exact ⟨k + 1, by go_num, by omega, by rw [HT.out]; go_num, Lib.hid ((KK.out.trans KA.out).trans k2)⟩
      case measure => simp [intOf]; omega
    · obtain rfl : k = l.length := by omega
      rw [List.take_of_length_le (Nat.le_refl _)]
      go_wp2
      go_ret
      exact ⟨rfl, KK.out⟩
end Go.Proofs.YthjljamngpddmaaGreatDoor
namespace Go.Proofs.YthjljamngpddmaaGreatDoor
open Go.RowKit Go.Shelf

theorem slice_hiA (A : Option Addr) (n c k : Nat) (hk : k ≤ c) (w : World) :
    (Instr.slice 70 (.slice A n c) none (some (.int .i64 (k : Int))) none).run Tryz.prog w = .ok (.slice A k c) w := by
  have hz := Tryz.sizeOf54
  have he : Tryz.prog.elem 70 = 54 := by kernel_rfl
  rw [run_slice_h w 70 _ n c (by kernel_rfl) .i64 k (by omega) (by omega), he, hz]
  cases A with
  | none => simp [sliced]
  | some a => simp [sliced, Addr.add]

set_option maxHeartbeats 800000 in
theorem fuse_taken (k : UInt8) (A : Option Addr) (s : List Nat) (c n : Nat) (w : World) (h : As w (.slice A s.length c) s) (hl : s.length ≤ 1000000) :
    Calls Tryz.prog 87 #[.agg #[.int .u8 (k.toNat : Int), .slice A s.length c], .int .i64 (n : Int)] w fun e w' => ∃ v', e = .returned (.agg #[.int .u8 (k.toNat : Int), v']) ∧ w'.ownsRow w.heap.size 54 1 v' (Fz.takn (k, s) n).2.length (ass (Fz.takn (k, s) n).2) ∧ Kept Nothing w w' := by
  have HE : Hid ((Fz.takn (k, s) n).2 = if k.toNat = 2 then s.take n else s) := Lib.hid (by unfold Fz.takn; split <;> rfl)
  have hc : s.length ≤ c := by
    obtain ⟨A', c', hv, h1, h2⟩ := h.form
    injection hv with _ _ hv
    omega
  have HS := Lib.hid (fun (m : Nat) (hm : m ≤ s.length) u (hu : Kept Nothing w u) => as_clone _ (s.take m) u ((h.old hu).pre hm) (by rw [List.length_take]; omega))
  obtain ⟨m, hm⟩ : ∃ m, m = if k.toNat = 2 then min s.length n else s.length := ⟨_, rfl⟩
  have hms : m ≤ s.length := by rw [hm]; split <;> omega
  have HM : Hid ((Fz.takn (k, s) n).2 = s.take m) := Lib.hid (by
    rw [HE.out, hm]
    split
    · by_cases h1 : s.length ≤ n
      · rw [Nat.min_eq_left h1, List.take_of_length_le h1, List.take_of_length_le (Nat.le_refl _)]
      · rw [Nat.min_eq_right (by omega)]
    · rw [List.take_of_length_le (Nat.le_refl _)])
  have hlm : (s.take m).length = m := by rw [List.length_take]; omega
  have hs1 := slice_hiA A s.length c m (by omega)
  replace HS := Lib.hid (HS.out m hms)
  rw [HM.out, hlm]
  clear h HE HM
  generalize k.toNat = kn at *
  have k0 := ((Kept.refl Nothing w).alloc (.cells #[.int .u8 (kn : Int), .slice A s.length c] 72)).alloc (.cells #[.int .u8 0, .slice none 0 0] 72)
  have b1 := (Blk.fresh w 72 #[.int .u8 (kn : Int), .slice A s.length c]).alloc (.cells #[.int .u8 0, .slice none 0 0] 72)
  have b2 := Blk.fresh (w.alloc (.cells #[.int .u8 (kn : Int), .slice A s.length c] 72)) 72 #[.int .u8 0, .slice none 0 0]
  rw [World.size_alloc] at b2
  go_enter Tryz.func87, Tryz.ntmps87
  go_upto_region 1 with fail
  obtain ⟨w0, hw0⟩ : ∃ w0, (w.alloc (.cells #[.int .u8 (kn : Int), .slice A s.length c] 72)).alloc (.cells #[.int .u8 0, .slice none 0 0] 72) = w0 := ⟨_, rfl⟩
  rw [hw0] at k0 b1 b2 ⊢
  have c0 := b1.cell 0
  have c1 := b1.cell 1
  have HK := Lib.hid k0
  have HB := Lib.hid b2
  have hz : w.heap.size + 1 < w0.heap.size := b2.lt
  clear k0 b1 b2 hw0
  have hmi : (if (s.length : Int) ≤ (n : Int) then (s.length : Int) else (n : Int)) = ((min s.length n : Nat) : Int) := by split <;> omega
  have hmi2 : min (s.length : Int) (n : Int) = ((min s.length n : Nat) : Int) := by omega
  have hmi3 : (if (n : Int) < (s.length : Int) then (n : Int) else (s.length : Int)) = ((min s.length n : Nat) : Int) := by split <;> omega
  by_cases hk2 : kn = 2
  · rw [if_pos hk2] at hm
    rw [← hm] at hmi hmi2 hmi3
    clear hm
    subst hk2
    go_upto_region 4 with fail
    go_region_law (first
      | (go_simp; go_at_call 56; refine (HS.out _ (by exact HK.out.drew)).mono ?_; rintro e w8 ⟨v8, rfl, ho8, hk8⟩; (have b8 := HB.out.kept (((Kept.refl Nothing _).drew).trans hk8) (fun x => x)); (have c8' := hk8.cell_some (p := ⟨w.heap.size, 0, none⟩) c0 (fun x => x)); (have r0 := b8.cell 0); (have r1 := b8.cell 1); (have f0 := b8.free 0); (have f1 := b8.free 1); (have B8 := Lib.hid b8); (have HV8 := Lib.hid ho8); (have HK8 := Lib.hid hk8); (rw [hlm] at ho8); (obtain ⟨A8, c8, rfl, _, _⟩ := ow_form ho8); clear ho8 hk8 b8))
    all_goals
      rw [hlm] at HV8
      have e0 : ((w8.setCell ⟨w.heap.size + 1, 0, none⟩ (.int .u8 2)).setCell ⟨w.heap.size + 1, 1, none⟩ (.slice A8 m c8)).cell? ⟨w.heap.size + 1, 0, none⟩ = some (.int .u8 2) := ((B8.out.put 0 _).put 1 _).cell 0
      have e1 : ((w8.setCell ⟨w.heap.size + 1, 0, none⟩ (.int .u8 2)).setCell ⟨w.heap.size + 1, 1, none⟩ (.slice A8 m c8)).cell? ⟨w.heap.size + 1, 1, none⟩ = some (.slice A8 m c8) := ((B8.out.put 0 _).put 1 _).cell 1
      go_wp2
      refine bodyPost_ret (v := .agg #[.int .u8 2, .slice A8 m c8]) (by simp [results, Tryz.results87, go_sem, e0, e1]) rfl ⟨_, rfl, ?_, ?_⟩
      · refine own_weakA (ow_kept HV8.out ((Kept.own w8 (w.heap.size + 1) 0 (.int .u8 2)).trans (Kept.own _ (w.heap.size + 1) 1 (.slice A8 m c8))) (ow_far HV8.out B8.out (by decide))) (HK.out.drew).size
      · exact (((HK.out.drew).trans HK8.out).setCell (p := ⟨w.heap.size + 1, 0, none⟩) (fun h => absurd h (by simp)) _).setCell (p := ⟨w.heap.size + 1, 1, none⟩) (fun h => absurd h (by simp)) _
  · rw [if_neg hk2] at hm
    subst hm
    have b2 : ((kn : Int) == 2) = false := by simp; omega
    go_upto_region 4 with fail
    go_region_law (first
      | (go_simp; go_at_call 56; refine (HS.out _ (by exact HK.out.drew)).mono ?_; rintro e w8 ⟨v8, rfl, ho8, hk8⟩; (have b8 := HB.out.kept (((Kept.refl Nothing _).drew).trans hk8) (fun x => x)); (have c8' := hk8.cell_some (p := ⟨w.heap.size, 0, none⟩) c0 (fun x => x)); (have r0 := b8.cell 0); (have r1 := b8.cell 1); (have f0 := b8.free 0); (have f1 := b8.free 1); (have B8 := Lib.hid b8); (have HV8 := Lib.hid ho8); (have HK8 := Lib.hid hk8); (rw [hlm] at ho8); (obtain ⟨A8, c8, rfl, _, _⟩ := ow_form ho8); clear ho8 hk8 b8))
    all_goals
      rw [hlm] at HV8
      have e0 : ((w8.setCell ⟨w.heap.size + 1, 0, none⟩ (.int .u8 (kn : Int))).setCell ⟨w.heap.size + 1, 1, none⟩ (.slice A8 s.length c8)).cell? ⟨w.heap.size + 1, 0, none⟩ = some (.int .u8 (kn : Int)) := ((B8.out.put 0 _).put 1 _).cell 0
      have e1 : ((w8.setCell ⟨w.heap.size + 1, 0, none⟩ (.int .u8 (kn : Int))).setCell ⟨w.heap.size + 1, 1, none⟩ (.slice A8 s.length c8)).cell? ⟨w.heap.size + 1, 1, none⟩ = some (.slice A8 s.length c8) := ((B8.out.put 0 _).put 1 _).cell 1
      go_wp2
      refine bodyPost_ret (v := .agg #[.int .u8 (kn : Int), .slice A8 s.length c8]) (by simp [results, Tryz.results87, go_sem, e0, e1]) rfl ⟨_, rfl, ?_, ?_⟩
      · refine own_weakA (ow_kept HV8.out ((Kept.own w8 (w.heap.size + 1) 0 (.int .u8 (kn : Int))).trans (Kept.own _ (w.heap.size + 1) 1 (.slice A8 s.length c8))) (ow_far HV8.out B8.out (by decide))) (HK.out.drew).size
      · exact (((HK.out.drew).trans HK8.out).setCell (p := ⟨w.heap.size + 1, 0, none⟩) (fun h => absurd h (by simp)) _).setCell (p := ⟨w.heap.size + 1, 1, none⟩) (fun h => absurd h (by simp)) _
end Go.Proofs.YthjljamngpddmaaGreatDoor
