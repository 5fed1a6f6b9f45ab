
/-
  attrs: right.
-/
import Derived.Test.YteofbpdogmajoaaGreatDoorZp
import Derived.Test.YteofbpdogmajoaaGreatDoorZm
import Derived.Test.YteofbpdogmajoaaGreatDoorZg
namespace Go.Proofs.YteofbpdogmajoaaGreatDoor
open Go.RowKit Go.Shelf

theorem confedF_any (k : UInt8) (w : World) : Calls Tryz.prog 124 #[.int .u8 (k.toNat : Int)] w fun e w' => e = .returned (.bool (Wk.confed k)) ∧ w = w' := by
  unfold Wk.confed
  generalize k.toNat = n
  by_cases h3 : n = 3
  · subst h3
    go_enter Tryz.func124, Tryz.ntmps124
    go_wp2
    go_ret
    exact ⟨rfl, rfl⟩
  · have h3b : ((n : Int) == 3) = false := by simp; omega
    by_cases h4 : n = 4
    · subst h4
      go_enter Tryz.func124, Tryz.ntmps124
      go_wp2
      go_ret
      exact ⟨rfl, rfl⟩
    · have h4b : ((n : Int) == 4) = false := by simp; omega
      have e : (decide (n = 3) || decide (n = 4)) = false := by simp [h3, h4]
      rw [e]
      clear e h3 h4
      go_enter Tryz.func124, Tryz.ntmps124
      go_wp2
      go_ret
      exact ⟨rfl, rfl⟩

theorem bare_1 (k : UInt8) (A : Option Addr) (n c : Nat) (w : World) : Calls Tryz.prog 123 #[.agg #[.int .u8 (k.toNat : Int), .slice A n c]] w fun e w' => e = .returned (.bool (Wk.confed k)) ∧ Kept Nothing w w' := by
  have b := Blk.fresh w 71 #[.int .u8 (k.toNat : Int), .slice A n c]
  have c0 := b.cell 0
  have HC := Lib.hid (fun w => confedF_any k w)
  have KK := Lib.hid ((Kept.refl Nothing w).alloc (.cells #[.int .u8 (k.toNat : Int), .slice A n c] 71))
  clear b
  go_enter Tryz.func123, Tryz.ntmps123
  go_wp2_with (go_at_call 124; refine (HC.out _).mono ?_; rintro e w2 ⟨rfl, rfl⟩)
  go_ret
  exact ⟨rfl, KK.out⟩

set_option maxHeartbeats 800000 in
/-- The first confed segment. -/
theorem idx_funcF (v : Value) (l : List Seg) (w : World) (h : Pts w v l) (hl : l.length ≤ 1000000) :
    Calls Tryz.prog 140 #[v, .func (.func 123) #[] #[]] w fun e w' => Kept Nothing w w' ∧ ((e = .returned (.int .i64 (-1)) ∧ ∀ s ∈ l, Wk.confed s.1 = false) ∨ ∃ k : Nat, e = .returned (.int .i64 (k : Int)) ∧ k < l.length ∧ (∀ s ∈ l.take k, Wk.confed s.1 = false) ∧ Wk.confed (l.getD k (0, [])).1 = true) := by
  obtain ⟨A, c, rfl, hc, hm⟩ := h.form
  have HV := Lib.hid h
  have en : ∀ args w, (callFunc 123 args).run Tryz.prog w = .ok (.enter 123 args) w := enters_of Tryz.func123 (by kernel_rfl) rfl
  clear h
  go_enter Tryz.func140, Tryz.ntmps140
  go_upto_region 2 with fail
  go_loopw [8] (fun i wr => ∃ k : Nat, i = .int .i64 (k : Int) ∧ k ≤ l.length ∧ Hid (Kept Nothing w wr) ∧ Hid (∀ s ∈ l.take k, Wk.confed s.1 = false)) (fun i _ => l.length - (intOf i).toNat)
  case atStart => exact ⟨0, rfl, Nat.zero_le _, Lib.hid (Kept.refl _ _), Lib.hid (fun s hs => by simp at hs)⟩
  case round =>
    obtain ⟨k, rfl, hk, KK, HA⟩ := hrel
    by_cases hlt : k < l.length
    · obtain ⟨b, o, Au, cu, rfl, p0w, p1w, hp⟩ := HV.out.at2 hlt
      have p0 := KK.out.cell_some p0w (fun x => x)
      have p1 := KK.out.cell_some p1w (fun x => x)
      have i1 : (0 : Int) ≤ (k : Int) := by omega
      have i2 : (k : Int) < (l.length : Int) := by omega
      have HT : Hid (Wk.confed (l.getD k (0, [])).1 = false → ∀ s ∈ l.take (k + 1), Wk.confed s.1 = false) := Lib.hid (fun e s hs => by
        rw [List.take_succ_eq_append_getElem hlt] at hs
        rcases List.mem_append.1 hs with hs | hs
        · exact HA.out s hs
        · obtain rfl := List.mem_singleton.1 hs
          rwa [getD_get hlt] at e)
      have HS := Lib.hid (fun w => bare_1 (l.getD k (0, [])).1 Au (l.getD k (0, [])).2.length cu w)
      have HE : Hid (Wk.confed (l.getD k (0, [])).1 = Wk.confed (l.getD k (0, [])).1) := Lib.hid rfl
      clear hp p0w p1w
      generalize hcf : Wk.confed (l.getD k (0, [])).1 = cf at *
      have HCF := Lib.hid hcf
      clear hcf
      generalize (l.getD k (0, [])).1.toNat = kn at *
      generalize (l.getD k (0, [])).2.length = nl at *
      cases cf with
      | false =>
        go_wp2_with (go_at_call 123; refine (HS.out _).mono ?_; rintro e w2 ⟨rfl, k2⟩)
        go_roundw
        case rel => exact ⟨k + 1, by go_num, by omega, Lib.hid (KK.out.trans k2), Lib.hid (HT.out (by trivial))⟩
        case measure => simp [intOf]; omega
      | true =>
        go_wp2_with (go_at_call 123; refine (HS.out _).mono ?_; rintro e w2 ⟨rfl, k2⟩)
        go_ret
        exact ⟨KK.out.trans k2, .inr ⟨k, rfl, hlt, HA.out, HCF.out⟩⟩
    · obtain rfl : k = l.length := by omega
      rw [List.take_of_length_le (Nat.le_refl _)] at HA
      go_wp2
      go_ret
      exact ⟨KK.out, .inl ⟨rfl, HA.out⟩⟩

set_option maxRecDepth 20000 in
set_option maxHeartbeats 2000000 in
theorem del_funcF (B : Nat) (v : Value) (xs : List Value) (l : List Seg) (w : World) (ho : w.ownsRow B 71 2 v l.length xs) (hr : Rws w B xs l) (hl : l.length ≤ 1000000) :
    Calls Tryz.prog 96 #[v, .func (.func 123) #[] #[]] w fun e w' => ∃ v', e = .returned v' ∧ w'.ownsRow B 71 2 v' (plains l).length (cutC xs l) ∧ Rws w' B (cutC xs l) (plains l) ∧ Kept (fun k => v.ownBlock = some k) w w' := by
  have HI := Lib.hid (idx_funcF v l w (Pts.of_own ho hr.cells) hl)
  have en : ∀ args w, (callFunc 123 args).run Tryz.prog w = .ok (.enter 123 args) w := enters_of Tryz.func123 (by kernel_rfl) rfl
  obtain ⟨A, c, rfl, hc, hm⟩ := ow_form ho
  have HO := Lib.hid ho
  have HR := Lib.hid hr
  clear ho hr
  go_enter Tryz.func96, Tryz.ntmps96
  go_wp2_with fail
  refine (HI.out).mono ?_
  rintro e w1 ⟨k1, (⟨rfl, hall⟩ | ⟨k, rfl, hk, hpre, hck⟩)⟩
  · go_wp2
    go_ret
    have h1 := cutC_all HR.out hall
    refine ⟨_, rfl, ?_, ?_, k1.mono (fun _ x => x.elim)⟩
    · rw [h1.1, h1.2]; exact ow_kept HO.out k1 (fun _ _ x => x)
    · rw [h1.1, h1.2]; exact HR.out.old k1
  · obtain ⟨g, cg, cur, hv, hge, hcg, hbg, hcz, htk⟩ : ∃ g cg cur, Value.slice A l.length c = .slice (some ⟨g, 0, none⟩) l.length cg ∧ B ≤ g ∧ l.length ≤ cg ∧ Blk w g 71 cur ∧ cur.size = cg * 2 ∧ cur.toList.take (l.length * 2) = xs := by
      rcases HO.out.2 with ⟨_, h0⟩ | ⟨g, cap, cur, e, hb, hh, hn, _, hs, ht⟩
      · omega
      · exact ⟨g, cap, cur, e, hb, hn, hh, hs, ht⟩
    injection hv with hA _ hc2
    subst hA hc2
    have hki : ((k : Int) == -1) = false := by simp
    have hxl := HR.out.len2
    have J0 : Hid (∃ cur1, Blk w1 g 71 cur1 ∧ cur1.size = c * 2 ∧ cur1.toList.take (k * 2) = cutC (xs.take ((k + 1) * 2)) (l.take (k + 1)) ∧ (∀ m, (k + 1) * 2 ≤ m → m < l.length * 2 → cur1[m]? = xs[m]?) ∧ k = (plains (l.take (k + 1))).length ∧ Kept (Only g) w w1) := Lib.hid (by
      obtain ⟨nv, e0, e1, _, _⟩ := HR.out.at k hk
      have h1 := take_two xs k _ _ e0 e1
      have h2 : l.take (k + 1) = l.take k ++ [l.getD k (0, [])] := by rw [List.take_succ_eq_append_getElem hk, getD_get hk]
      have h3 := cutC_all (HR.out.first k) hpre
      refine ⟨cur, hbg.kept k1 (fun x => x), hcz, ?_, ?_, ?_, k1.mono (fun _ x => x.elim)⟩
      · rw [h1, h2, cutC_snoc _ _ _ (HR.out.first k), hck, h3.1]
        simp only [if_true, List.append_nil]
        rw [← htk, List.take_take]
        congr 1
        omega
      · intro m hm1 hm2
        rw [← htk, List.getElem?_take_of_lt hm2, Array.getElem?_toList]
      · rw [h2, plains_snoc, hck, h3.2]
        simp [List.length_take]
        omega)
    have HX := Lib.hid htk
    clear htk hcz hbg hpre hck k1 HI
    go_upto_region 5 with fail
    go_loopw [5, 6] (fun u5 u6 wr => ∃ i j : Nat, u5 = .int .i64 (i : Int) ∧ u6 = .int .i64 (j : Int) ∧ i < j ∧ j ≤ l.length ∧ Hid (∃ cur1, Blk wr g 71 cur1 ∧ cur1.size = c * 2 ∧ cur1.toList.take (i * 2) = cutC (xs.take (j * 2)) (l.take j) ∧ (∀ m, j * 2 ≤ m → m < l.length * 2 → cur1[m]? = xs[m]?) ∧ i = (plains (l.take j)).length ∧ Kept (Only g) w wr)) (fun _ u6 _ => l.length - (intOf u6).toNat)
    case atStart => exact ⟨k, k + 1, rfl, by go_num, by omega, by omega, J0⟩
    case round =>
      clear J0
      obtain ⟨i, j, rfl, rfl, hij, hj, HJ⟩ := hrel
      by_cases hlt : j < l.length
      · obtain ⟨cur1, hb, hs, ht, hrest, hi, hkw⟩ := HJ.out
        obtain ⟨nv, e0, e1, no, -⟩ := HR.out.at j hlt
        obtain ⟨An, cn, rfl, _, _⟩ := ow_form no
        have p0 := hb.cell (j * 2)
        rw [hrest _ (by omega) (by omega), e0] at p0
        have p1 := hb.cell (j * 2 + 1)
        rw [hrest _ (by omega) (by omega), e1] at p1
        have hgz := hb.lt
        have i1 : (0 : Int) ≤ (j : Int) := by omega
        have i2 : (j : Int) < (l.length : Int) := by omega
        have i3 : (0 : Int) ≤ (i : Int) := by omega
        have i4 : (i : Int) < (l.length : Int) := by omega
        have h2 : l.take (j + 1) = l.take j ++ [l.getD j (0, [])] := by rw [List.take_succ_eq_append_getElem hlt, getD_get hlt]
        have HC := Lib.hid (cutC_snoc (by8 (l.getD j (0, [])).1) (.slice An (l.getD j (0, [])).2.length cn) (l.getD j (0, [])) (HR.out.first j))
        have HC1 := Lib.hid (take_two xs j _ _ e0 e1)
        have HP := Lib.hid (plains_snoc (l.take j) (l.getD j (0, [])))
        have HS := Lib.hid (fun w => bare_1 (l.getD j (0, [])).1 An (l.getD j (0, [])).2.length cn w)
        have H2 := Lib.hid h2
        rw [show by8 (l.getD j (0, [])).1 = .int .u8 ((l.getD j (0, [])).1.toNat : Int) from rfl] at p0 HC HC1
        clear e0 e1 no h2
        generalize hsg : l.getD j (0, []) = sg at *
        obtain ⟨sk, sn⟩ := sg
        simp only at p0 p1
        replace HS : Hid (∀ w, Calls Tryz.prog 123 #[.agg #[.int .u8 (sk.toNat : Int), .slice An sn.length cn]] w fun e w' => e = .returned (.bool (Wk.confed sk)) ∧ Kept Nothing w w') := HS
        replace HC : Hid (cutC (xs.take (j * 2) ++ [.int .u8 (sk.toNat : Int), .slice An sn.length cn]) (l.take j ++ [(sk, sn)]) = cutC (xs.take (j * 2)) (l.take j) ++ (if Wk.confed sk then [] else [.int .u8 (sk.toNat : Int), .slice An sn.length cn])) := HC
        replace HP : Hid (plains (l.take j ++ [(sk, sn)]) = plains (l.take j) ++ (if Wk.confed sk then [] else [(sk, sn)])) := HP
        replace HC1 : Hid (xs.take ((j + 1) * 2) = xs.take (j * 2) ++ [.int .u8 (sk.toNat : Int), .slice An sn.length cn]) := HC1
        clear hsg
        have HB := Lib.hid hb
        have HKW := Lib.hid hkw
        have HSZ : Hid (cur1.size = c * 2) := Lib.hid hs
        have HT := Lib.hid ht
        have HRS := Lib.hid hrest
        have HIL := Lib.hid hi
        have KB := Lib.hid ((Kept.refl Nothing wr).alloc (.cells #[.int .u8 (sk.toNat : Int), .slice An sn.length cn] 71))
        have BX := Lib.hid (Blk.fresh wr 71 #[.int .u8 (sk.toNat : Int), .slice An sn.length cn])
        clear hb hs ht hrest hi hkw
        cases hcf : Wk.confed sk with
        | true =>
          rw [hcf] at HS HC HP
          have HN : Hid (∀ w2, Kept Nothing wr w2 → ∃ cur1, Blk w2 g 71 cur1 ∧ cur1.size = c * 2 ∧ cur1.toList.take (i * 2) = cutC (xs.take ((j + 1) * 2)) (l.take (j + 1)) ∧ (∀ m, (j + 1) * 2 ≤ m → m < l.length * 2 → cur1[m]? = xs[m]?) ∧ i = (plains (l.take (j + 1))).length ∧ Kept (Only g) w w2) := Lib.hid (fun w2 k2 =>
            ⟨cur1, HB.out.kept k2 (fun x => x), HSZ.out, by rw [HC1.out, H2.out, HC.out, HT.out]; simp, fun m h1 h2 => HRS.out m (by omega) h2, by rw [H2.out, HP.out]; simpa using HIL.out, HKW.out.trans (k2.mono (fun _ x => x.elim))⟩)
          clear hcf HJ
          go_wp2_with (go_at_call 123; refine (HS.out _).mono ?_; rintro e w2 ⟨rfl, k2⟩)
          go_roundw
          case rel => exact ⟨i, j + 1, rfl, by go_num, by omega, by omega, Lib.hid (HN.out _ (KB.out.trans k2))⟩
          case measure => simp [intOf]; omega
        | false =>
          rw [hcf] at HS HC HP
          clear hcf HJ
          have hsz2 : i * 2 + 1 < cur1.size := by rw [HSZ.out]; omega
          have HN : Hid (∀ w2 a v, Kept Nothing wr w2 → a = .int .u8 (sk.toNat : Int) → v = .slice An sn.length cn → ∃ cur1, Blk ((w2.setCell ⟨g, i * 2, none⟩ a).setCell ⟨g, i * 2 + 1, none⟩ v) g 71 cur1 ∧ cur1.size = c * 2 ∧ cur1.toList.take ((i + 1) * 2) = cutC (xs.take ((j + 1) * 2)) (l.take (j + 1)) ∧ (∀ m, (j + 1) * 2 ≤ m → m < l.length * 2 → cur1[m]? = xs[m]?) ∧ i + 1 = (plains (l.take (j + 1))).length ∧ Kept (Only g) w ((w2.setCell ⟨g, i * 2, none⟩ a).setCell ⟨g, i * 2 + 1, none⟩ v)) := Lib.hid (fun w2 a v k2 ha hv =>
            ⟨(cur1.setIfInBounds (i * 2) a).setIfInBounds (i * 2 + 1) v, ((HB.out.kept k2 (fun x => x)).put _ _).put _ _, by simp [HSZ.out], by rw [take_put2 _ _ _ _ hsz2, HC1.out, H2.out, HC.out, HT.out, ha, hv]; rfl, fun m h1 h2 => by rw [Array.getElem?_setIfInBounds_ne (by omega), Array.getElem?_setIfInBounds_ne (by omega)]; exact HRS.out m (by omega) h2, by rw [H2.out, HP.out]; simp; exact HIL.out, ((HKW.out.trans (k2.mono (fun _ x => x.elim))).trans (Kept.own _ _ _ _)).trans (Kept.own _ _ _ _)⟩)
          go_upto_region 9 with (go_at_call 123; refine (HS.out _).mono ?_; rintro e w2 ⟨rfl, k2⟩; (have K2 := Lib.hid k2); clear k2)
          have hb2 := HB.out.kept (KB.out.trans K2.out) (fun x => x)
          have r0 := (hb2.cell (i * 2)).trans (Array.getElem?_eq_getElem (by omega))
          have r1 := (hb2.cell (i * 2 + 1)).trans (Array.getElem?_eq_getElem (by omega))
          have f0 := hb2.free (i * 2)
          have f1 := hb2.free (i * 2 + 1)
          have y0 := (BX.out.kept K2.out (fun x => x)).cell 0
          have y1 := (BX.out.kept K2.out (fun x => x)).cell 1
          clear hb2 p0 p1
          go_wp2
          go_roundw
          case rel => exact ⟨i + 1, j + 1, by go_num, by go_num, by omega, by omega, Lib.hid (HN.out _ _ _ (KB.out.trans K2.out) rfl rfl)⟩
          case measure => simp [intOf]; omega
      · obtain rfl : j = l.length := by omega
        obtain ⟨cur1, hb, hs, ht, -, hi, hkw⟩ := HJ.out
        rw [List.take_of_length_le (Nat.le_refl _)] at hi ht
        rw [show xs.take (l.length * 2) = xs from List.take_of_length_le (by rw [hxl]; exact Nat.le_refl _)] at ht
        have hsl := slice_loP g l.length c i hij hcg
        have hsh := slice_hiP g l.length c i (by omega)
        obtain ⟨vs, hcl⟩ := run_clear_seg wr g (i * 2) (l.length - i) (c - i) (by omega) (fun t ht => by rw [hb.cell, Array.getElem?_eq_getElem (by omega)]; rfl) (fun t ht => hb.free _)
        obtain ⟨cur2, hb2, hs2, ht2, hk2⟩ := hb.setCells vs (i * 2) wr cur1
        have FIN : Hid ((wr.setCells g (i * 2) vs).ownsRow B 71 2 (.slice (some ⟨g, 0, none⟩) i c) (plains l).length (cutC xs l) ∧ Rws (wr.setCells g (i * 2) vs) B (cutC xs l) (plains l) ∧ Kept (fun k => (Value.slice (some ⟨g, 0, none⟩) l.length c).ownBlock = some k) w (wr.setCells g (i * 2) vs)) := Lib.hid (by
          have kz := hkw.trans hk2
          have hrw := cutC_rws HR.out
          have hlc := hrw.len2
          refine ⟨⟨by rw [hlc], .inr ⟨g, c, cur2, by rw [← hi], hge, hb2, by omega, hm, by rw [hs2, hs], ?_⟩⟩, hrw.kept kz (fun g' cs (e : g' = g) x => ?_), kz.mono (fun k (e : k = g) => by rw [e]; rfl)⟩
          · rw [← hi, ht2, ht]
          · subst e
            obtain ⟨cs', hh⟩ := ow_lt HO.out (g := g') rfl
            rw [hh] at x
            injection x with x
            injection x with _ e2
            exact absurd e2 (by decide))
        clear hb hs ht hi hkw hb2 hs2 ht2 hk2 HJ
        go_wp2
        go_ret
        exact ⟨_, rfl, FIN.out.1, FIN.out.2.1, FIN.out.2.2⟩

theorem cutC_sub : ∀ (xs : List Value) (l : List Seg), (cutC xs l).Sublist xs
  | a :: v :: xs, s :: l => by
    have ih := cutC_sub xs l
    show (if Wk.confed s.1 then cutC xs l else a :: v :: cutC xs l).Sublist _
    cases Wk.confed s.1 with
    | true => exact (ih.cons v).cons a
    | false => exact (ih.cons_cons v).cons_cons a
  | [], _ => by unfold cutC; exact List.nil_sublist _
  | [_], _ => by unfold cutC; exact List.nil_sublist _
  | _ :: _ :: _, [] => by unfold cutC; exact List.nil_sublist _
theorem Dist.cut {xs : List Value} (h : Dist xs) (l : List Seg) : Dist (cutC xs l) := h.sublist (cutC_sub xs l)

set_option maxHeartbeats 800000 in
theorem fuse_bare (v : Value) (l : List Seg) (w : World) (h : Pts w v l) (hl : l.length ≤ 1000000) (hn : ∀ s ∈ l, s.2.length ≤ 1000000) :
    Calls Tryz.prog 84 #[v] w fun e w' => ∃ v' xs, e = .returned v' ∧ w'.ownsRow w.heap.size 71 2 v' (plains l).length xs ∧ Rws w' w.heap.size xs (plains l) ∧ Dist xs ∧ Kept Nothing w w' := by
  obtain ⟨A, c, rfl, -, -⟩ := h.form
  have HC := Lib.hid (path_copyD _ l w h hl hn)
  clear h hn
  go_enter Tryz.func84, Tryz.ntmps84
  go_wp2_with (first
    | (go_at_call 96; refine (del_funcF _ _ _ l _ O2.out R2.out hl).mono ?_; rintro e w3 ⟨v3, rfl, o3, r3, k3⟩)
    | (go_at_call 97; refine (HC.out).mono ?_; rintro e w2 ⟨v2, xs2, rfl, o2, r2, d2, k2⟩; (obtain ⟨A2, c2, rfl, _, _⟩ := ow_form o2); (have O2 := Lib.hid o2); (have R2 := Lib.hid r2); (have D2 := Lib.hid d2); (have K2 := Lib.hid k2); clear o2 r2 d2 k2))
  go_ret
  exact ⟨_, _, rfl, o3, r3, D2.out.cut l, K2.out.trans_new k3 (fun i hi hk => by have := (ow_ge O2.out hk).1; omega)⟩
end Go.Proofs.YteofbpdogmajoaaGreatDoor
namespace Go.Proofs.YteofbpdogmajoaaGreatDoor
open Go.RowKit

namespace Ax
/-- Whether what attributes say of a known type, which they have, is as it must be. -/
def right (a : At) (t : UInt8) : Bool :=
  if t.toNat = 1 then decide (a.origin.toNat ≤ 2) else if t.toNat = 2 then Pt.may a.path else if t.toNat = 3 then host a.nh
  else if t.toNat = 8 then decide (0 < a.comms.length) && decide (a.comms.length ≤ 16383)
  else if t.toNat = 17 then decide (0 < (plains a.path4).length) && (decide ((plains a.path4).length = a.path4.length) && Pt.may a.path4) else true
end Ax

set_option maxHeartbeats 4000000 in
theorem at_right (a : At) (pv cv qv ov : Value) (t : UInt8) (w : World) (h : Atp w a pv cv qv ov) (hl : a.path.length ≤ 1000000) (hq : a.path4.length ≤ 1000000) (hqn : ∀ s ∈ a.path4, s.2.length ≤ 1000000) :
    Calls Tryz.prog 44 #[.agg (Ax.agg a pv cv qv ov), .int .u8 (t.toNat : Int)] w fun e w' => e = .returned (.bool (Ax.right a t)) ∧ Kept Nothing w w' := by
  have k1 := (Kept.refl Nothing w).alloc (.cells (Ax.agg a pv cv qv ov) 33)
  have hb := Blk.fresh w 33 (Ax.agg a pv cv qv ov)
  have HB := Lib.hid hb
  have HK := Lib.hid k1
  have HH := Lib.hid h
  have HPM := Lib.hid (fun u (k : Kept Nothing w u) => path_may pv a.path u (h.1.old k) (by omega))
  have HQM := Lib.hid (fun u (k : Kept Nothing w u) => path_may qv a.path4 u (h.2.2.1.old k) (by omega))
  have HQB := Lib.hid (fun u (k : Kept Nothing w u) => fuse_bare qv a.path4 u (h.2.2.1.old k) hq hqn)
  have HHO := Lib.hid (host_any a.nh)
  have c1 := hb.cell 1
  have c2 := hb.cell 2
  have c3 := hb.cell 3
  have c8 := hb.cell 8
  have c9 := hb.cell 9
  have HE : Hid (Ax.right a t = if t.toNat = 1 then decide (a.origin.toNat ≤ 2) else if t.toNat = 2 then Pt.may a.path else if t.toNat = 3 then Ax.host a.nh
    else if t.toNat = 8 then decide (0 < a.comms.length) && decide (a.comms.length ≤ 16383)
    else if t.toNat = 17 then decide (0 < (plains a.path4).length) && (decide ((plains a.path4).length = a.path4.length) && Pt.may a.path4) else true) := Lib.hid rfl
  obtain ⟨Ac, cc, rfl, _, _⟩ := (show ∃ A c, cv = .slice A a.comms.length c ∧ a.comms.length ≤ c ∧ c ≤ maxLen from by
    obtain ⟨_, A, c, hv, hc, hm, _⟩ := h.2.1
    exact ⟨A, c, hv, hc, hm⟩)
  obtain ⟨Aq, cq, rfl, _, _⟩ := h.2.2.1.form
  unfold Ax.agg at *
  clear k1 hb h
  by_cases h1 : t.toNat = 1
  · have HR : Hid (Ax.right a t = decide ((a.origin.toNat : Int) ≤ 2)) := Lib.hid (by
      rw [HE.out, if_pos h1, Bool.eq_iff_iff, decide_eq_true_eq, decide_eq_true_eq]; omega)
    rw [HR.out, h1]
    clear h1 HE HR
    go_enter Tryz.func44, Tryz.ntmps44
    go_wp2
    go_ret
    exact ⟨rfl, HK.out⟩
  by_cases h2 : t.toNat = 2
  · have HR : Hid (Ax.right a t = Pt.may a.path) := Lib.hid (by rw [HE.out, if_neg h1, if_pos h2])
    rw [HR.out, h2]
    clear h1 h2 HE HR
    go_enter Tryz.func44, Tryz.ntmps44
    go_wp2_with (go_at_call 64; refine (HPM.out _ HK.out).mono ?_; rintro e w1 ⟨rfl, k1⟩)
    go_ret
    exact ⟨rfl, HK.out.trans k1⟩
  by_cases h3 : t.toNat = 3
  · have HR : Hid (Ax.right a t = Ax.host a.nh) := Lib.hid (by rw [HE.out, if_neg h1, if_neg h2, if_pos h3])
    rw [HR.out, h3]
    clear h1 h2 h3 HE HR
    go_enter Tryz.func44, Tryz.ntmps44
    go_wp2_with (go_at_call 100; refine (HHO.out _).mono ?_; rintro e w1 ⟨rfl, rfl⟩)
    go_ret
    exact ⟨rfl, HK.out⟩
  by_cases h8 : t.toNat = 8
  · have HR : Hid (Ax.right a t = (decide (0 < a.comms.length) && decide (a.comms.length ≤ 16383))) := Lib.hid (by rw [HE.out, if_neg h1, if_neg h2, if_neg h3, if_pos h8])
    rw [HR.out, h8]
    clear h1 h2 h3 h8 HE HR HPM HQM HQB HHO
    generalize a.comms.length = n at *
    by_cases hn : 0 < n
    · have i1 : (0 : Int) < (n : Int) := by omega
      rw [decide_eq_true hn, Bool.true_and]
      by_cases hm : n ≤ 16383
      · have i2 : (n : Int) ≤ 16383 := by omega
        rw [decide_eq_true hm]
        clear hn hm
        go_enter Tryz.func44, Tryz.ntmps44
        go_wp2
        go_ret
        exact ⟨rfl, HK.out⟩
      · have i2 : ¬ (n : Int) ≤ 16383 := by omega
        rw [decide_eq_false hm]
        clear hn hm
        go_enter Tryz.func44, Tryz.ntmps44
        go_wp2
        go_ret
        exact ⟨rfl, HK.out⟩
    · have i1 : ¬ (0 : Int) < (n : Int) := by omega
      rw [decide_eq_false hn, Bool.false_and]
      clear hn
      go_enter Tryz.func44, Tryz.ntmps44
      go_wp2
      go_ret
      exact ⟨rfl, HK.out⟩
  by_cases h17 : t.toNat = 17
  · have HR : Hid (Ax.right a t = (decide (0 < (plains a.path4).length) && (decide ((plains a.path4).length = a.path4.length) && Pt.may a.path4))) := Lib.hid (by rw [HE.out, if_neg h1, if_neg h2, if_neg h3, if_neg h8, if_pos h17])
    rw [HR.out, h17]
    clear h1 h2 h3 h8 h17 HE HR HPM HHO hl hq hqn HH
    generalize (plains a.path4).length = n at *
    generalize Pt.may a.path4 = my at *
    generalize a.path4.length = m at *
    by_cases hn : 0 < n
    · have i1 : (0 : Int) < (n : Int) := by omega
      rw [decide_eq_true hn, Bool.true_and]
      by_cases hm : n = m
      · have i2 : ((n : Int) == (m : Int)) = true := by rw [beq_iff_eq]; omega
        rw [decide_eq_true hm, Bool.true_and]
        clear hn hm
        go_enter Tryz.func44, Tryz.ntmps44
        go_wp2_with (first
          | (go_at_call 64; refine (HQM.out _ (HK.out.trans k1)).mono ?_; rintro e w2 ⟨rfl, k2⟩)
          | (go_at_call 84; refine (HQB.out _ HK.out).mono ?_; rintro e w1 ⟨v1, xs1, rfl, o1, -, -, k1⟩; (obtain ⟨A1, cc1, rfl, -, -⟩ := ow_form o1); (have d9 := (HB.out.kept k1 (fun x => x)).cell 9); clear o1))
        go_ret
        exact ⟨rfl, (HK.out.trans k1).trans k2⟩
      · have i2 : ((n : Int) == (m : Int)) = false := by rw [beq_eq_false_iff_ne]; omega
        rw [decide_eq_false hm, Bool.false_and]
        clear hn hm
        go_enter Tryz.func44, Tryz.ntmps44
        go_wp2_with (first
          | (go_at_call 64; refine (HQM.out _ (HK.out.trans k1)).mono ?_; rintro e w2 ⟨rfl, k2⟩)
          | (go_at_call 84; refine (HQB.out _ HK.out).mono ?_; rintro e w1 ⟨v1, xs1, rfl, o1, -, -, k1⟩; (obtain ⟨A1, cc1, rfl, -, -⟩ := ow_form o1); (have d9 := (HB.out.kept k1 (fun x => x)).cell 9); clear o1))
        go_ret
        exact ⟨rfl, HK.out.trans k1⟩
    · have i1 : ¬ (0 : Int) < (n : Int) := by omega
      rw [decide_eq_false hn, Bool.false_and]
      clear hn
      go_enter Tryz.func44, Tryz.ntmps44
      go_wp2_with (first
        | (go_at_call 64; refine (HQM.out _ (HK.out.trans k1)).mono ?_; rintro e w2 ⟨rfl, k2⟩)
        | (go_at_call 84; refine (HQB.out _ HK.out).mono ?_; rintro e w1 ⟨v1, xs1, rfl, o1, -, -, k1⟩; (obtain ⟨A1, cc1, rfl, -, -⟩ := ow_form o1); (have d9 := (HB.out.kept k1 (fun x => x)).cell 9); clear o1))
      go_ret
      exact ⟨rfl, HK.out.trans k1⟩
  have HR : Hid (Ax.right a t = true) := Lib.hid (by rw [HE.out, if_neg h1, if_neg h2, if_neg h3, if_neg h8, if_neg h17])
  have e1 : (((t.toNat : Int)) == 1) = false := by rw [beq_eq_false_iff_ne]; omega
  have e2 : (((t.toNat : Int)) == 2) = false := by rw [beq_eq_false_iff_ne]; omega
  have e3 : (((t.toNat : Int)) == 3) = false := by rw [beq_eq_false_iff_ne]; omega
  have e8 : (((t.toNat : Int)) == 8) = false := by rw [beq_eq_false_iff_ne]; omega
  have e17 : (((t.toNat : Int)) == 17) = false := by rw [beq_eq_false_iff_ne]; omega
  rw [HR.out]
  clear h1 h2 h3 h8 h17 HE HR
  go_enter Tryz.func44, Tryz.ntmps44
  go_wp2
  go_ret
  exact ⟨rfl, HK.out⟩
end Go.Proofs.YteofbpdogmajoaaGreatDoor
