
/-
  A region that draws its order, whatever its operations make of memory: one fact an operation, shown once, whatever has come up ahead of it.
-/
import Derived.Test.YthjljamngpddmaaGreatDoorY25
import Derived.Test.YthjljamngpddmaaGreatDoorY13
import Derived.Test.YthjljamngpddmaaGreatDoorY18
import Derived.Test.YthjljamngpddmaaGreatDoorY03
import Derived.Test.YthjljamngpddmaaGreatDoorY10
import Derived.RangeFuncBox
import Derived.Test.YthjljamngpddmaaGreatDoorY01
import Derived.RegionTactic
namespace Go.Proofs.YthjljamngpddmaaGreatDoor
open Go.RowKit Go.Shelf

theorem conf_1 (k : UInt8) (A : Option Addr) (n c : Nat) (w : World) : Calls Tryz.prog 39 #[.agg #[.int .u8 (k.toNat : Int), .slice A n c]] w fun e w' => e = .returned (.bool (Fz.pln k)) ∧ Kept Nothing w w' := by
  have KK := Lib.hid ((Kept.refl Nothing w).alloc (.cells #[.int .u8 (k.toNat : Int), .slice A n c] 72))
  have HE : Hid (Fz.pln k = (decide (k.toNat = 1) || decide (k.toNat = 2))) := Lib.hid rfl
  by_cases h1 : k.toNat = 1
  · have b1 : ((k.toNat : Int) == 1) = true := by simp; omega
    have HE2 : Hid (Fz.pln k = true) := Lib.hid (by rw [HE.out]; simp [h1])
    clear HE h1
    go_enter Tryz.func39, Tryz.ntmps39
    go_wp2
    go_ret
    exact ⟨by rw [HE2.out]; rfl, KK.out⟩
  · have b1 : ((k.toNat : Int) == 1) = false := by simp; omega
    by_cases h2 : k.toNat = 2
    · have b2 : ((k.toNat : Int) == 2) = true := by simp; omega
      have HE2 : Hid (Fz.pln k = true) := Lib.hid (by rw [HE.out]; simp [h2])
      clear HE h1 h2
      go_enter Tryz.func39, Tryz.ntmps39
      go_wp2
      go_ret
      exact ⟨by rw [HE2.out]; rfl, KK.out⟩
    · have b2 : ((k.toNat : Int) == 2) = false := by simp; omega
      have HE2 : Hid (Fz.pln k = false) := Lib.hid (by rw [HE.out]; simp [h1, h2])
      clear HE h1 h2
      go_enter Tryz.func39, Tryz.ntmps39
      go_wp2
      go_ret
      exact ⟨by rw [HE2.out]; rfl, KK.out⟩

/-- The cells of the segments that are not confed. -/
def cutP : List Value → List Seg → List Value
  | a :: v :: xs, s :: l => if Fz.pln s.1 then cutP xs l else a :: v :: cutP xs l
  | _, _ => []
theorem confs_snoc (l : List Seg) (s : Seg) : Fz.confs (l ++ [s]) = Fz.confs l ++ (if Fz.pln s.1 then [] else [s]) := by
  unfold Fz.confs
  rw [List.filter_append]
  cases h : Fz.pln s.1 <;> simp [h]
theorem confs_len (l : List Seg) : (Fz.confs l).length ≤ l.length := List.length_filter_le _ _
theorem cutP_snoc {w : World} {B : Nat} (a v : Value) (s : Seg) : ∀ {xs : List Value} {l : List Seg}, Rws w B xs l → cutP (xs ++ [a, v]) (l ++ [s]) = cutP xs l ++ (if Fz.pln s.1 then [] else [a, v])
  | [], [], _ => by
    show (if Fz.pln s.1 then cutP [] [] else a :: v :: cutP [] []) = _
    cases Fz.pln s.1 <;> simp [cutP]
  | b :: u :: xs, t :: l, ⟨_, _, _, h⟩ => by
    have ih := cutP_snoc a v s h
    show (if Fz.pln t.1 then cutP (xs ++ [a, v]) (l ++ [s]) else b :: u :: cutP (xs ++ [a, v]) (l ++ [s])) = (if Fz.pln t.1 then cutP xs l else b :: u :: cutP xs l) ++ _
    rw [ih]
    cases Fz.pln t.1 <;> simp
  | [], _ :: _, h => h.elim
  | [_], _, h => by unfold Rws at h; exact h.elim
  | _ :: _ :: _, [], h => by unfold Rws at h; exact h.elim
theorem cutP_rws {w : World} {B : Nat} : ∀ {xs : List Value} {l : List Seg}, Rws w B xs l → Rws w B (cutP xs l) (Fz.confs l)
  | [], [], _ => trivial
  | b :: u :: xs, t :: l, ⟨h1, h2, h3, h⟩ => by
    have ih := cutP_rws h
    show Rws w B (if Fz.pln t.1 then cutP xs l else b :: u :: cutP xs l) (Fz.confs (t :: l))
    unfold Fz.confs at ih ⊢
    cases hc : Fz.pln t.1 with
    | true => simpa [hc] using ih
    | false =>
      rw [List.filter_cons_of_pos (by simp [hc])]
      exact ⟨h1, h2, h3, ih⟩
  | [], _ :: _, h => h.elim
  | [_], _, h => by unfold Rws at h; exact h.elim
  | _ :: _ :: _, [], h => by unfold Rws at h; exact h.elim
theorem cutP_all {w : World} {B : Nat} : ∀ {xs : List Value} {l : List Seg}, Rws w B xs l → (∀ s ∈ l, Fz.pln s.1 = false) → cutP xs l = xs ∧ Fz.confs l = l
  | [], [], _, _ => ⟨rfl, rfl⟩
  | b :: u :: xs, t :: l, ⟨_, _, _, h⟩, hc => by
    have ih := cutP_all h (fun s hs => hc s (List.mem_cons_of_mem _ hs))
    have h0 := hc t (List.mem_cons_self ..)
    refine ⟨?_, ?_⟩
    · show (if Fz.pln t.1 then cutP xs l else b :: u :: cutP xs l) = _
      rw [h0, ih.1]; rfl
    · unfold Fz.confs at ih ⊢
      rw [List.filter_cons_of_pos (by simp [h0]), ih.2]
  | [], _ :: _, h, _ => h.elim
  | [_], _, h, _ => by unfold Rws at h; exact h.elim
  | _ :: _ :: _, [], h, _ => by unfold Rws at h; exact h.elim
set_option maxHeartbeats 800000 in
/-- The first confed segment. -/
theorem idx_funcP (v : Value) (l : List Seg) (w : World) (h : Pts w v l) (hl : l.length ≤ 1000000) :
    Calls Tryz.prog 70 #[v, .func (.func 39) #[] #[]] w fun e w' => Kept Nothing w w' ∧ ((e = .returned (.int .i64 (-1)) ∧ ∀ s ∈ l, Fz.pln s.1 = false) ∨ ∃ k : Nat, e = .returned (.int .i64 (k : Int)) ∧ k < l.length ∧ (∀ s ∈ l.take k, Fz.pln s.1 = false) ∧ Fz.pln (l.getD k (0, [])).1 = true) := by
  obtain ⟨A, c, rfl, hc, hm⟩ := h.form
  have HV := Lib.hid h
  have en : ∀ args w, (callFunc 39 args).run Tryz.prog w = .ok (.enter 39 args) w := enters_of Tryz.func39 (by kernel_rfl) rfl
  clear h
  go_enter Tryz.func70, Tryz.ntmps70
  go_upto_region 2 with fail
  go_loopw [8] (fun i wr => ∃ k : Nat, i = .int .i64 (k : Int) ∧ k ≤ l.length ∧ Hid (Kept Nothing w wr) ∧ Hid (∀ s ∈ l.take k, Fz.pln s.1 = false)) (fun i _ => l.length - (intOf i).toNat)
  case atStart => exact ⟨0, rfl, Nat.zero_le _, Lib.hid (Kept.refl _ _), Lib.hid (fun s hs => by simp at hs)⟩
  case round =>
    obtain ⟨k, rfl, hk, KK, HA⟩ := hrel
    by_cases hlt : k < l.length
    · obtain ⟨b, o, Au, cu, rfl, p0w, p1w, hp⟩ := HV.out.at2 hlt
      have p0 := KK.out.cell_some p0w (fun x => x)
      have p1 := KK.out.cell_some p1w (fun x => x)
      have i1 : (0 : Int) ≤ (k : Int) := by omega
      have i2 : (k : Int) < (l.length : Int) := by omega
      have HT : Hid (Fz.pln (l.getD k (0, [])).1 = false → ∀ s ∈ l.take (k + 1), Fz.pln s.1 = false) := Lib.hid (fun e s hs => by
        rw [List.take_succ_eq_append_getElem hlt] at hs
        rcases List.mem_append.1 hs with hs | hs
        · exact HA.out s hs
        · obtain rfl := List.mem_singleton.1 hs
          rwa [getD_get hlt] at e)
      have HS := Lib.hid (fun w => conf_1 (l.getD k (0, [])).1 Au (l.getD k (0, [])).2.length cu w)
      have HE : Hid (Fz.pln (l.getD k (0, [])).1 = Fz.pln (l.getD k (0, [])).1) := Lib.hid rfl
      clear hp p0w p1w
      generalize hcf : Fz.pln (l.getD k (0, [])).1 = cf at *
      have HCF := Lib.hid hcf
      clear hcf
      generalize (l.getD k (0, [])).1.toNat = kn at *
      generalize (l.getD k (0, [])).2.length = nl at *
      cases cf with
      | false =>
        go_wp2_with (go_at_call 39; refine (HS.out _).mono ?_; rintro e w2 ⟨rfl, k2⟩)
        go_roundw
        case rel => exact ⟨k + 1, by go_num, by omega, Lib.hid (KK.out.trans k2), Lib.hid (HT.out (by trivial))⟩
        case measure => simp [intOf]; omega
      | true =>
        go_wp2_with (go_at_call 39; refine (HS.out _).mono ?_; rintro e w2 ⟨rfl, k2⟩)
        go_ret
        exact ⟨KK.out.trans k2, .inr ⟨k, rfl, hlt, HA.out, HCF.out⟩⟩
    · obtain rfl : k = l.length := by omega
      rw [List.take_of_length_le (Nat.le_refl _)] at HA
      go_wp2
      go_ret
      exact ⟨KK.out, .inl ⟨rfl, HA.out⟩⟩

set_option maxRecDepth 20000 in
set_option maxHeartbeats 2000000 in
theorem del_funcP (B : Nat) (v : Value) (xs : List Value) (l : List Seg) (w : World) (ho : w.ownsRow B 72 2 v l.length xs) (hr : Rws w B xs l) (hl : l.length ≤ 1000000) :
    Calls Tryz.prog 38 #[v, .func (.func 39) #[] #[]] w fun e w' => ∃ v', e = .returned v' ∧ w'.ownsRow B 72 2 v' (Fz.confs l).length (cutP xs l) ∧ Rws w' B (cutP xs l) (Fz.confs l) ∧ Kept (fun k => v.ownBlock = some k) w w' := by
  have HI := Lib.hid (idx_funcP v l w (Pts.of_own ho hr.cells) hl)
  have en : ∀ args w, (callFunc 39 args).run Tryz.prog w = .ok (.enter 39 args) w := enters_of Tryz.func39 (by kernel_rfl) rfl
  obtain ⟨A, c, rfl, hc, hm⟩ := ow_form ho
  have HO := Lib.hid ho
  have HR := Lib.hid hr
  clear ho hr
  go_enter Tryz.func38, Tryz.ntmps38
  go_wp2_with fail
  refine (HI.out).mono ?_
  rintro e w1 ⟨k1, (⟨rfl, hall⟩ | ⟨k, rfl, hk, hpre, hck⟩)⟩
  · go_wp2
    go_ret
    have h1 := cutP_all HR.out hall
    refine ⟨_, rfl, ?_, ?_, k1.mono (fun _ x => x.elim)⟩
    · rw [h1.1, h1.2]; exact ow_kept HO.out k1 (fun _ _ x => x)
    · rw [h1.1, h1.2]; exact HR.out.old k1
  · obtain ⟨g, cg, cur, hv, hge, hcg, hbg, hcz, htk⟩ : ∃ g cg cur, Value.slice A l.length c = .slice (some ⟨g, 0, none⟩) l.length cg ∧ B ≤ g ∧ l.length ≤ cg ∧ Blk w g 72 cur ∧ cur.size = cg * 2 ∧ cur.toList.take (l.length * 2) = xs := by
      rcases HO.out.2 with ⟨_, h0⟩ | ⟨g, cap, cur, e, hb, hh, hn, _, hs, ht⟩
      · omega
      · exact ⟨g, cap, cur, e, hb, hn, hh, hs, ht⟩
    injection hv with hA _ hc2
    subst hA hc2
    have hki : ((k : Int) == -1) = false := by simp
    have hxl := HR.out.len2
    have J0 : Hid (∃ cur1, Blk w1 g 72 cur1 ∧ cur1.size = c * 2 ∧ cur1.toList.take (k * 2) = cutP (xs.take ((k + 1) * 2)) (l.take (k + 1)) ∧ (∀ m, (k + 1) * 2 ≤ m → m < l.length * 2 → cur1[m]? = xs[m]?) ∧ k = (Fz.confs (l.take (k + 1))).length ∧ Kept (Only g) w w1) := Lib.hid (by
      obtain ⟨nv, e0, e1, _, _⟩ := HR.out.at k hk
      have h1 := take_two xs k _ _ e0 e1
      have h2 : l.take (k + 1) = l.take k ++ [l.getD k (0, [])] := by rw [List.take_succ_eq_append_getElem hk, getD_get hk]
      have h3 := cutP_all (HR.out.first k) hpre
      refine ⟨cur, hbg.kept k1 (fun x => x), hcz, ?_, ?_, ?_, k1.mono (fun _ x => x.elim)⟩
      · rw [h1, h2, cutP_snoc _ _ _ (HR.out.first k), hck, h3.1]
        simp only [if_true, List.append_nil]
        rw [← htk, List.take_take]
        congr 1
        omega
      · intro m hm1 hm2
        rw [← htk, List.getElem?_take_of_lt hm2, Array.getElem?_toList]
      · rw [h2, confs_snoc, hck, h3.2]
        simp [List.length_take]
        omega)
    have HX := Lib.hid htk
    clear htk hcz hbg hpre hck k1 HI
    go_upto_region 5 with fail
    go_loopw [5, 6] (fun u5 u6 wr => ∃ i j : Nat, u5 = .int .i64 (i : Int) ∧ u6 = .int .i64 (j : Int) ∧ i < j ∧ j ≤ l.length ∧ Hid (∃ cur1, Blk wr g 72 cur1 ∧ cur1.size = c * 2 ∧ cur1.toList.take (i * 2) = cutP (xs.take (j * 2)) (l.take j) ∧ (∀ m, j * 2 ≤ m → m < l.length * 2 → cur1[m]? = xs[m]?) ∧ i = (Fz.confs (l.take j)).length ∧ Kept (Only g) w wr)) (fun _ u6 _ => l.length - (intOf u6).toNat)
    case atStart => exact ⟨k, k + 1, rfl, by go_num, by omega, by omega, J0⟩
    case round =>
      clear J0
      obtain ⟨i, j, rfl, rfl, hij, hj, HJ⟩ := hrel
      by_cases hlt : j < l.length
      · obtain ⟨cur1, hb, hs, ht, hrest, hi, hkw⟩ := HJ.out
        obtain ⟨nv, e0, e1, no, -⟩ := HR.out.at j hlt
        obtain ⟨An, cn, rfl, _, _⟩ := ow_form no
        have p0 := hb.cell (j * 2)
        rw [hrest _ (by omega) (by omega), e0] at p0
        have p1 := hb.cell (j * 2 + 1)
        rw [hrest _ (by omega) (by omega), e1] at p1
        have hgz := hb.lt
        have i1 : (0 : Int) ≤ (j : Int) := by omega
        have i2 : (j : Int) < (l.length : Int) := by omega
        have i3 : (0 : Int) ≤ (i : Int) := by omega
        have i4 : (i : Int) < (l.length : Int) := by omega
        have h2 : l.take (j + 1) = l.take j ++ [l.getD j (0, [])] := by rw [List.take_succ_eq_append_getElem hlt, getD_get hlt]
        have HC := Lib.hid (cutP_snoc (by8 (l.getD j (0, [])).1) (.slice An (l.getD j (0, [])).2.length cn) (l.getD j (0, [])) (HR.out.first j))
        have HC1 := Lib.hid (take_two xs j _ _ e0 e1)
        have HP := Lib.hid (confs_snoc (l.take j) (l.getD j (0, [])))
        have HS := Lib.hid (fun w => conf_1 (l.getD j (0, [])).1 An (l.getD j (0, [])).2.length cn w)
        have H2 := Lib.hid h2
        rw [show by8 (l.getD j (0, [])).1 = .int .u8 ((l.getD j (0, [])).1.toNat : Int) from rfl] at p0 HC HC1
        clear e0 e1 no h2
        generalize hsg : l.getD j (0, []) = sg at *
        obtain ⟨sk, sn⟩ := sg
        simp only at p0 p1
        replace HS : Hid (∀ w, Calls Tryz.prog 39 #[.agg #[.int .u8 (sk.toNat : Int), .slice An sn.length cn]] w fun e w' => e = .returned (.bool (Fz.pln sk)) ∧ Kept Nothing w w') := HS
        replace HC : Hid (cutP (xs.take (j * 2) ++ [.int .u8 (sk.toNat : Int), .slice An sn.length cn]) (l.take j ++ [(sk, sn)]) = cutP (xs.take (j * 2)) (l.take j) ++ (if Fz.pln sk then [] else [.int .u8 (sk.toNat : Int), .slice An sn.length cn])) := HC
        replace HP : Hid (Fz.confs (l.take j ++ [(sk, sn)]) = Fz.confs (l.take j) ++ (if Fz.pln sk then [] else [(sk, sn)])) := HP
        replace HC1 : Hid (xs.take ((j + 1) * 2) = xs.take (j * 2) ++ [.int .u8 (sk.toNat : Int), .slice An sn.length cn]) := HC1
        clear hsg
        have HB := Lib.hid hb
        have HKW := Lib.hid hkw
        have HSZ : Hid (cur1.size = c * 2) := Lib.hid hs
        have HT := Lib.hid ht
        have HRS := Lib.hid hrest
        have HIL := Lib.hid hi
        have KB := Lib.hid ((Kept.refl Nothing wr).alloc (.cells #[.int .u8 (sk.toNat : Int), .slice An sn.length cn] 72))
        have BX := Lib.hid (Blk.fresh wr 72 #[.int .u8 (sk.toNat : Int), .slice An sn.length cn])
        clear hb hs ht hrest hi hkw
        cases hcf : Fz.pln sk with
        | true =>
          rw [hcf] at HS HC HP
          have HN : Hid (∀ w2, Kept Nothing wr w2 → ∃ cur1, Blk w2 g 72 cur1 ∧ cur1.size = c * 2 ∧ cur1.toList.take (i * 2) = cutP (xs.take ((j + 1) * 2)) (l.take (j + 1)) ∧ (∀ m, (j + 1) * 2 ≤ m → m < l.length * 2 → cur1[m]? = xs[m]?) ∧ i = (Fz.confs (l.take (j + 1))).length ∧ Kept (Only g) w w2) := Lib.hid (fun w2 k2 =>
            ⟨cur1, HB.out.kept k2 (fun x => x), HSZ.out, by rw [HC1.out, H2.out, HC.out, HT.out]; simp, fun m h1 h2 => HRS.out m (by omega) h2, by rw [H2.out, HP.out]; simpa using HIL.out, HKW.out.trans (k2.mono (fun _ x => x.elim))⟩)
          clear hcf HJ
          go_wp2_with (go_at_call 39; refine (HS.out _).mono ?_; rintro e w2 ⟨rfl, k2⟩)
          go_roundw
          case rel => exact ⟨i, j + 1, rfl, by go_num, by omega, by omega, Lib.hid (HN.out _ (KB.out.trans k2))⟩
          case measure => simp [intOf]; omega
        | false =>
          rw [hcf] at HS HC HP
          clear hcf HJ
          have hsz2 : i * 2 + 1 < cur1.size := by rw [HSZ.out]; omega
          have HN : Hid (∀ w2 a v, Kept Nothing wr w2 → a = .int .u8 (sk.toNat : Int) → v = .slice An sn.length cn → ∃ cur1, Blk ((w2.setCell ⟨g, i * 2, none⟩ a).setCell ⟨g, i * 2 + 1, none⟩ v) g 72 cur1 ∧ cur1.size = c * 2 ∧ cur1.toList.take ((i + 1) * 2) = cutP (xs.take ((j + 1) * 2)) (l.take (j + 1)) ∧ (∀ m, (j + 1) * 2 ≤ m → m < l.length * 2 → cur1[m]? = xs[m]?) ∧ i + 1 = (Fz.confs (l.take (j + 1))).length ∧ Kept (Only g) w ((w2.setCell ⟨g, i * 2, none⟩ a).setCell ⟨g, i * 2 + 1, none⟩ v)) := Lib.hid (fun w2 a v k2 ha hv =>
            ⟨(cur1.setIfInBounds (i * 2) a).setIfInBounds (i * 2 + 1) v, ((HB.out.kept k2 (fun x => x)).put _ _).put _ _, by simp [HSZ.out], by rw [take_put2 _ _ _ _ hsz2, HC1.out, H2.out, HC.out, HT.out, ha, hv]; rfl, fun m h1 h2 => by rw [Array.getElem?_setIfInBounds_ne (by omega), Array.getElem?_setIfInBounds_ne (by omega)]; exact HRS.out m (by omega) h2, by rw [H2.out, HP.out]; simp; exact HIL.out, ((HKW.out.trans (k2.mono (fun _ x => x.elim))).trans (Kept.own _ _ _ _)).trans (Kept.own _ _ _ _)⟩)
          go_upto_region 9 with (go_at_call 39; refine (HS.out _).mono ?_; rintro e w2 ⟨rfl, k2⟩; (have K2 := Lib.hid k2); clear k2)
          have hb2 := HB.out.kept (KB.out.trans K2.out) (fun x => x)
          have r0 := (hb2.cell (i * 2)).trans (Array.getElem?_eq_getElem (by omega))
          have r1 := (hb2.cell (i * 2 + 1)).trans (Array.getElem?_eq_getElem (by omega))
          have f0 := hb2.free (i * 2)
          have f1 := hb2.free (i * 2 + 1)
          have y0 := (BX.out.kept K2.out (fun x => x)).cell 0
          have y1 := (BX.out.kept K2.out (fun x => x)).cell 1
          clear hb2 p0 p1
          go_wp2
          go_roundw
          case rel => exact ⟨i + 1, j + 1, by go_num, by go_num, by omega, by omega, Lib.hid (HN.out _ _ _ (KB.out.trans K2.out) rfl rfl)⟩
          case measure => simp [intOf]; omega
      · obtain rfl : j = l.length := by omega
        obtain ⟨cur1, hb, hs, ht, -, hi, hkw⟩ := HJ.out
        rw [List.take_of_length_le (Nat.le_refl _)] at hi ht
        rw [show xs.take (l.length * 2) = xs from List.take_of_length_le (by rw [hxl]; exact Nat.le_refl _)] at ht
        have hsl := slice_loP g l.length c i hij hcg
        have hsh := slice_hiP g l.length c i (by omega)
        obtain ⟨vs, hcl⟩ := run_clear_seg wr g (i * 2) (l.length - i) (c - i) (by omega) (fun t ht => by rw [hb.cell, Array.getElem?_eq_getElem (by omega)]; rfl) (fun t ht => hb.free _)
        obtain ⟨cur2, hb2, hs2, ht2, hk2⟩ := hb.setCells vs (i * 2) wr cur1
        have FIN : Hid ((wr.setCells g (i * 2) vs).ownsRow B 72 2 (.slice (some ⟨g, 0, none⟩) i c) (Fz.confs l).length (cutP xs l) ∧ Rws (wr.setCells g (i * 2) vs) B (cutP xs l) (Fz.confs l) ∧ Kept (fun k => (Value.slice (some ⟨g, 0, none⟩) l.length c).ownBlock = some k) w (wr.setCells g (i * 2) vs)) := Lib.hid (by
          have kz := hkw.trans hk2
          have hrw := cutP_rws HR.out
          have hlc := hrw.len2
          refine ⟨⟨by rw [hlc], .inr ⟨g, c, cur2, by rw [← hi], hge, hb2, by omega, hm, by rw [hs2, hs], ?_⟩⟩, hrw.kept kz (fun g' cs (e : g' = g) x => ?_), kz.mono (fun k (e : k = g) => by rw [e]; rfl)⟩
          · rw [← hi, ht2, ht]
          · subst e
            obtain ⟨cs', hh⟩ := ow_lt HO.out (g := g') rfl
            rw [hh] at x
            injection x with x
            injection x with _ e2
            exact absurd e2 (by decide))
        clear hb hs ht hi hkw hb2 hs2 ht2 hk2 HJ
        go_wp2
        go_ret
        exact ⟨_, rfl, FIN.out.1, FIN.out.2.1, FIN.out.2.2⟩


set_option maxHeartbeats 800000 in
theorem confeds_any (v : Value) (l : List Seg) (w : World) (h : Pts w v l) (hl : l.length ≤ 1000000) (hn : ∀ s ∈ l, s.2.length ≤ 1000000) :
    Calls Tryz.prog 37 #[v] w fun e w' => ∃ v', e = .returned v' ∧ Pts w' v' (Fz.confs l) ∧ Kept Nothing w w' := by
  obtain ⟨A, c, rfl, -, -⟩ := h.form
  have HC := Lib.hid (path_copyD _ l w h hl hn)
  clear h hn
  go_enter Tryz.func37, Tryz.ntmps37
  go_wp2_with (first
    | (go_at_call 38; refine (del_funcP _ _ _ l _ O2.out R2.out hl).mono ?_; rintro e w3 ⟨v3, rfl, o3, r3, k3⟩)
    | (go_at_call 18; refine (HC.out).mono ?_; rintro e w2 ⟨v2, xs2, rfl, o2, r2, -, k2⟩; (obtain ⟨A2, c2, rfl, _, _⟩ := ow_form o2); (have O2 := Lib.hid o2); (have R2 := Lib.hid r2); (have K2 := Lib.hid k2); clear o2 r2 k2))
  go_ret
  exact ⟨_, rfl, Pts.of_own o3 r3.cells, K2.out.trans_new k3 (fun i hi hk => by have := (ow_ge O2.out hk).1; omega)⟩
end Go.Proofs.YthjljamngpddmaaGreatDoor
namespace Go.Proofs.YthjljamngpddmaaGreatDoor
open Go.RowKit Go.Shelf

theorem wp_rfN1 {P : Program} {α : Type} {g : Operand} {p1 p2 q2 : Tmp} {assign body : Code} {K : Act → World → Prop} {Q : Exit → Act → World → Prop} {b : Nat} {a : Act} {w : World} {gf : Nat} {fs : Array Value}
    (hg : a.eval g = .func (.func gf) fs #[]) (eg : ∀ args w, (callFunc gf args).run P w = .ok (.enter gf args) w) {u v : α → Value} {xs : List α} {S : Nat → Prop} {B : Nat} (hS : ∀ k, S k → k < w.heap.size)
    (hseq : SeqAllN P gf fs (fun x => #[u x, v x]) xs S B w)
    (I : List α → World → Prop) (hI : ∀ s A A', I s A → Kept (fun k => k = w.heap.size ∨ k = w.heap.size + 1) A A' → I s A') (h0 : I [] w)
    (hassign : ∀ (l : Nat) (x : α) (W : World) (K : Act → World → Prop), K { tmps := ((a.tmps.setIfInBounds p1 (u x)).setIfInBounds p2 (v x)).setIfInBounds q2 (v x), defers := [] } W →
      assign.wpIn (Fence.wide.inRound l) 2 P (Exit.then K (fun _ _ _ => False)) { tmps := (a.tmps.setIfInBounds p1 (u x)).setIfInBounds p2 (v x), defers := [] } W)
    (hbody : ∀ (l : Nat) (pre : List α) (x : α) (W : World), I pre W → pre ++ [x] <+: xs → w.heap.size + 2 ≤ W.heap.size →
      body.wpIn (Fence.wide.inRound l) 2 P (RfPostN S B I (fun _ _ _ => False) (pre ++ [x]) W) { tmps := ((a.tmps.setIfInBounds p1 (u x)).setIfInBounds p2 (v x)).setIfInBounds q2 (v x), defers := [] } W)
    (hpost : ∀ (D : Nat) (W : World), w.heap.size ≤ D → I xs W → W.heap[D]? = some (.deferred (some [])) → K { a with defers := { target := .collected D, args := #[] } :: a.defers } W) :
    (Code.rangeFunc g #[p1, p2] assign body).wp P (Exit.inBlock b (Exit.then K Q)) a w := by
  refine wp_rfN (encs := fun x => #[u x, v x]) hg eg hS hseq (fun _ => rfl) I (fun _ _ _ => False) hI (fun c s A A' h _ => h.elim) h0 (fun x => { tmps := ((a.tmps.setIfInBounds p1 (u x)).setIfInBounds p2 (v x)).setIfInBounds q2 (v x), defers := [] }) ?_ hbody ?_ ?_
  · intro l x W K hK
    rw [fold_two]
    exact hassign l x W K hK
  · intro D W hD hi hd
    exact hpost D W hD hi hd
  · rintro D c pre W hD hp h hd
    exact h.elim

theorem slice_hiP2 (A : Option Addr) (n c k : Nat) (hk : k ≤ c) (w : World) :
    (Instr.slice 23 (.slice A n c) none (some (.int .i64 (k : Int))) none).run Tryz.prog w = .ok (.slice A k c) w := by
  have hz := Tryz.sizeOf72
  have he : Tryz.prog.elem 23 = 72 := by kernel_rfl
  rw [run_slice_h w 23 _ n c (by kernel_rfl) .i64 k (by omega) (by omega), he, hz]
  cases A with
  | none => simp [sliced]
  | some a => simp [sliced, Addr.add]
theorem brF_pln {l : List Seg} : ∀ s ∈ plains (brF l), Fz.pln s.1 = true := fun s hs => by
  have h := List.mem_filter.1 hs
  have h2 := brF_num h.1
  have h3 : Wk.confed s.1 = false := by simpa using h.2
  unfold Wk.confed at h3
  simp at h3
  unfold Fz.pln
  simp
  omega
end Go.Proofs.YthjljamngpddmaaGreatDoor
namespace Go.Proofs.YthjljamngpddmaaGreatDoor
open Go.RowKit

section
variable {P : Program} {Q : Exit → Act → World → Prop} {md : Region.Mode}

def falses (a : Array Bool) : Nat := (a.toList.filter (fun b => !b)).length
theorem falses_set {a : Array Bool} {i : Nat} (h : a.getD i true = false) : falses (a.setIfInBounds i true) + 1 = falses a := by
  obtain ⟨l⟩ := a
  unfold falses
  have h' : l[i]? = some false := by
    have : (l[i]?).getD true = false := by simpa [Array.getD_eq_getD_getElem?] using h
    cases hl : l[i]? with
    | none => rw [hl] at this; simp at this
    | some b => rw [hl] at this; simp at this; rw [this]
  clear h
  have e : ((⟨l⟩ : Array Bool).setIfInBounds i true).toList = l.set i true := by simp
  rw [e]
  show ((l.set i true).filter _).length + 1 = (l.filter _).length
  induction l generalizing i with
  | nil => simp at h'
  | cons b r ih =>
    cases i with
    | zero => simp at h'; subst h'; simp
    | succ i =>
      have := ih (i := i) (by simpa using h')
      cases b <;> simp_all

theorem wpAny_inv {ops : Array Oper} (I : Array Bool → Act → World → Prop)
    (step : ∀ listed a w, I listed a w → ∀ i ∈ Region.ready md ops listed, wpOp P ops Q i (I (listed.setIfInBounds i true)) a w)
    (fin : ∀ listed a w, I listed a w → Region.ready md ops listed = [] → Q .normal a w) :
    ∀ (fuel : Nat) (listed : Array Bool) (a : Act) (w : World), falses listed ≤ fuel → I listed a w → wpAny P md ops Q fuel listed a w
  | 0, listed, a, w, hf, hi => by
    have hr : Region.ready md ops listed = [] := by
      cases hc : Region.ready md ops listed with
      | nil => rfl
      | cons x xs =>
        have hx : x ∈ Region.ready md ops listed := by rw [hc]; exact List.mem_cons_self ..
        have := falses_set (mem_ready.1 hx).1
        omega
    exact ⟨hr, fin listed a w hi hr⟩
  | fuel + 1, listed, a, w, hf, hi =>
    ⟨fun hr => fin listed a w hi hr, fun i hx => wpOp_mono (fun a' w' h' => wpAny_inv I step fin fuel _ a' w' (by have := falses_set (mem_ready.1 hx).1; omega) h') (step listed a w hi i hx)⟩

/-- The frame behind those operations that are listed. -/
def putSome (listed : Nat → Bool) : List Oper → Nat → (Nat → Value) → Act → Act
  | [], _, _, a => a
  | o :: l, k, vals, a => putSome listed l (k + 1) vals (if listed k then a.put o.dst (vals k) else a)
/-- .. behind all. -/
def putAll : List Oper → Nat → (Nat → Value) → Act → Act
  | [], _, _, a => a
  | o :: l, k, vals, a => putAll l (k + 1) vals (a.put o.dst (vals k))

theorem putSome_all {listed : Nat → Bool} : ∀ (l : List Oper) (k : Nat) (vals : Nat → Value) (a : Act), (∀ j, j < l.length → listed (k + j) = true) → putSome listed l k vals a = putAll l k vals a
  | [], _, _, _, _ => rfl
  | o :: l, k, vals, a, h => by
    unfold putSome putAll
    rw [if_pos (by simpa using h 0 (by simp))]
    exact putSome_all l (k + 1) vals _ (fun j hj => by have := h (j + 1) (by simpa using hj); rwa [Nat.add_assoc, Nat.add_comm 1 j])
theorem putSome_none {listed : Nat → Bool} : ∀ (l : List Oper) (k : Nat) (vals : Nat → Value) (a : Act), (∀ j, j < l.length → listed (k + j) = false) → putSome listed l k vals a = a
  | [], _, _, _, _ => rfl
  | o :: l, k, vals, a, h => by
    unfold putSome
    rw [if_neg (by have := h 0 (by simp); simpa using this)]
    exact putSome_none l (k + 1) vals a (fun j hj => by have := h (j + 1) (by simpa using hj); rwa [Nat.add_assoc, Nat.add_comm 1 j])

def dsts (l : List Oper) : List Nat := l.filterMap (·.dst)

theorem putSome_put {listed : Nat → Bool} {vals : Nat → Value} {d : Nat} {v : Value} : ∀ (l : List Oper) (k : Nat) (a : Act), d ∉ dsts l → putSome listed l k vals (a.put (some d) v) = (putSome listed l k vals a).put (some d) v
  | [], _, _, _ => rfl
  | o :: l, k, a, h => by
    have h1 : o.dst ≠ some d := fun e => h (by unfold dsts; rw [List.filterMap_cons, e]; exact List.mem_cons_self ..)
    have h2 : d ∉ dsts l := fun e => h (by
      unfold dsts at e ⊢
      rw [List.filterMap_cons]
      split
      · exact e
      · exact List.mem_cons_of_mem _ e)
    unfold putSome
    split
    · rw [Act.put_comm a v (vals k) (fun d' hd' => by injection hd' with hd'; subst hd'; exact h1)]
      exact putSome_put l (k + 1) _ h2
    · exact putSome_put l (k + 1) _ h2

theorem putSome_congr {f g : Nat → Bool} {u v : Nat → Value} : ∀ (l : List Oper) (k : Nat) (a : Act), (∀ j, k ≤ j → f j = g j ∧ u j = v j) → putSome f l k u a = putSome g l k v a
  | [], _, _, _ => rfl
  | o :: l, k, a, h => by
    unfold putSome
    rw [(h k (Nat.le_refl _)).1, (h k (Nat.le_refl _)).2]
    exact putSome_congr l (k + 1) _ (fun j hj => h j (by omega))

/-- One more. -/
theorem putSome_step {listed : Nat → Bool} {vals : Nat → Value} {v : Value} : ∀ (l : List Oper) (k i : Nat) (o : Oper) (a : Act), l[i]? = some o → listed (k + i) = false → (dsts l).Nodup →
    (putSome listed l k vals a).put o.dst v = putSome (fun j => if j = k + i then true else listed j) l k (fun j => if j = k + i then v else vals j) a
  | [], _, _, _, _, h, _, _ => by simp at h
  | x :: l, k, 0, o, a, h, hf, hn => by
    obtain rfl : x = o := by simpa using h
    unfold putSome
    simp only [Nat.add_zero] at hf ⊢
    rw [hf]
    simp only [if_true, Bool.false_eq_true, if_false]
    rw [putSome_congr l (k + 1) (a.put x.dst v) (f := fun j => if j = k then true else listed j) (g := listed) (u := fun j => if j = k then v else vals j) (v := vals) (fun j hj => by
      have : j ≠ k := by omega
      simp [this])]
    cases hd : x.dst with
    | none => rfl
    | some d =>
      refine (putSome_put l (k + 1) a ?_).symm
      unfold dsts at hn
      rw [List.filterMap_cons, hd] at hn
      exact (List.nodup_cons.1 hn).1
  | x :: l, k, i + 1, o, a, h, hf, hn => by
    unfold putSome
    have hk : k ≠ k + (i + 1) := by omega
    simp only [hk, if_false]
    have hn' : (dsts l).Nodup := by
      unfold dsts at hn ⊢
      rw [List.filterMap_cons] at hn
      split at hn
      · exact hn
      · exact (List.nodup_cons.1 hn).2
    have := putSome_step (vals := vals) (v := v) l (k + 1) i o (if listed k then a.put x.dst (vals k) else a) (by simpa using h) (by rw [show k + 1 + i = k + (i + 1) by omega]; exact hf) hn'
    rw [this]
    rw [show k + 1 + i = k + (i + 1) by omega]

theorem put_getD (a : Act) (d t : Nat) (v : Value) (h : d ≠ t) : (a.put (some d) v).tmps.getD t undef = a.tmps.getD t undef := by
  simp [Act.put, Array.getElem?_setIfInBounds_ne h]
theorem put_getD_none (a : Act) (t : Nat) (v : Value) : (a.put none v).tmps.getD t undef = a.tmps.getD t undef := rfl
theorem put_size (a : Act) (d : Option Tmp) (v : Value) : (a.put d v).tmps.size = a.tmps.size := by
  cases d <;> simp [Act.put]
theorem put_defs (a : Act) (d : Option Tmp) (v : Value) : (a.put d v).defers = a.defers := by
  cases d <;> rfl

/-- A slot that the region does not write. -/
theorem putSome_far {listed : Nat → Bool} {vals : Nat → Value} {t : Nat} : ∀ (l : List Oper) (k : Nat) (a : Act), t ∉ dsts l → (putSome listed l k vals a).tmps.getD t undef = a.tmps.getD t undef
  | [], _, _, _ => rfl
  | o :: l, k, a, h => by
    have h1 : o.dst ≠ some t := fun e => h (by unfold dsts; rw [List.filterMap_cons, e]; exact List.mem_cons_self ..)
    have h2 : t ∉ dsts l := fun e => h (by
      unfold dsts at e ⊢
      rw [List.filterMap_cons]
      split
      · exact e
      · exact List.mem_cons_of_mem _ e)
    unfold putSome
    rw [putSome_far l (k + 1) _ h2]
    split
    · cases hd : o.dst with
      | none => rfl
      | some d => exact put_getD a d t _ (fun e => h1 (by rw [hd, e]))
    · rfl
theorem putSome_size {listed : Nat → Bool} {vals : Nat → Value} : ∀ (l : List Oper) (k : Nat) (a : Act), (putSome listed l k vals a).tmps.size = a.tmps.size ∧ (putSome listed l k vals a).defers = a.defers
  | [], _, _ => ⟨rfl, rfl⟩
  | o :: l, k, a => by
    unfold putSome
    rw [(putSome_size l (k + 1) _).1, (putSome_size l (k + 1) _).2]
    split
    · exact ⟨put_size .., put_defs ..⟩
    · exact ⟨rfl, rfl⟩
/-- A slot that it has written. -/
theorem putSome_at {listed : Nat → Bool} {vals : Nat → Value} {t : Nat} : ∀ (l : List Oper) (k i : Nat) (o : Oper) (a : Act), l[i]? = some o → o.dst = some t → listed (k + i) = true → (dsts l).Nodup → t < a.tmps.size → (putSome listed l k vals a).tmps.getD t undef = vals (k + i)
  | [], _, _, _, _, h, _, _, _, _ => by simp at h
  | x :: l, k, 0, o, a, h, hd, hl, hn, hs => by
    obtain rfl : x = o := by simpa using h
    unfold putSome
    simp only [Nat.add_zero] at hl ⊢
    rw [hl, if_pos rfl, hd]
    have : t ∉ dsts l := by
      unfold dsts at hn
      rw [List.filterMap_cons, hd] at hn
      exact (List.nodup_cons.1 hn).1
    rw [putSome_far l (k + 1) _ this]
    simp [Act.put, hs]
  | x :: l, k, i + 1, o, a, h, hd, hl, hn, hs => by
    unfold putSome
    have hn' : (dsts l).Nodup := by
      unfold dsts at hn ⊢
      rw [List.filterMap_cons] at hn
      split at hn
      · exact hn
      · exact (List.nodup_cons.1 hn).2
    have := putSome_at (listed := listed) (vals := vals) l (k + 1) i o (if listed k then a.put x.dst (vals k) else a) (by simpa using h) hd (by rw [show k + 1 + i = k + (i + 1) by omega]; exact hl) hn' (by
      split
      · rw [put_size]; exact hs
      · exact hs)
    rw [this, show k + 1 + i = k + (i + 1) by omega]

/-- What a step may use of the operations that have come up: each one's fact on its own value. -/
def Known {Γ : Type} (φ : Nat → Γ → Value → World → Prop) (l : List Oper) (listed : Array Bool) (G : Γ) (w : World) (a : Act) : Prop :=
  ∀ (k : Nat) (o : Oper) (d : Nat), l[k]? = some o → o.dst = some d → listed.getD k false = true → φ k G (a.tmps.getD d undef) w

/-- What each operation owes. -/
def Owes {Γ : Type} (P : Program) (Q : Exit → Act → World → Prop) (l : List Oper) (a0 : Act) (B : Γ → World → Prop) (J : Array Bool → Γ → Prop) (φ : Nat → Γ → Value → World → Prop) (R : Γ → World → Γ → World → Prop) (i : Nat) (o : Oper) : Prop :=
  ∀ (listed : Array Bool) (G : Γ) (w : World) (a : Act), listed.size = l.length → listed.getD i true = false → (∀ e ∈ o.after, Region.binds .any e = true → listed.getD e.on false = true) → J listed G → B G w → Known φ l listed G w a →
    (∀ t, t ∉ dsts l → a.tmps.getD t undef = a0.tmps.getD t undef) →
    o.wp P a w (fun a' w' => ∃ v G', a' = a.put o.dst v ∧ R G w G' w' ∧ B G' w' ∧ J (listed.setIfInBounds i true) G' ∧ φ i G' v w') Q

def OwesAll {Γ : Type} (P : Program) (Q : Exit → Act → World → Prop) (l : List Oper) (a0 : Act) (B : Γ → World → Prop) (J : Array Bool → Γ → Prop) (φ : Nat → Γ → Value → World → Prop) (R : Γ → World → Γ → World → Prop) (k : Nat) (r : List Oper) : Prop :=
  ∀ (i : Nat) (o : Oper), r[i]? = some o → Owes P Q l a0 B J φ R (k + i) o
theorem OwesAll.nil {Γ : Type} {l : List Oper} {a0 : Act} {B : Γ → World → Prop} {J : Array Bool → Γ → Prop} {φ : Nat → Γ → Value → World → Prop} {R : Γ → World → Γ → World → Prop} {k : Nat} : OwesAll P Q l a0 B J φ R k [] := fun i o h => by simp at h
theorem OwesAll.cons {Γ : Type} {l : List Oper} {a0 : Act} {B : Γ → World → Prop} {J : Array Bool → Γ → Prop} {φ : Nat → Γ → Value → World → Prop} {R : Γ → World → Γ → World → Prop} {k : Nat} {x : Oper} {r : List Oper}
    (h : Owes P Q l a0 B J φ R k x) (t : OwesAll P Q l a0 B J φ R (k + 1) r) : OwesAll P Q l a0 B J φ R k (x :: r) := fun i o hi => by
  cases i with
  | zero => obtain rfl : x = o := by simpa using hi
            exact h
  | succ i => have := t i o (by simpa using hi); rwa [show k + 1 + i = k + (i + 1) by omega] at this

theorem wp_region_facts {Γ : Type} {id : Nat} {l : List Oper} {a0 : Act} {w0 : World} (B : Γ → World → Prop) (J : Array Bool → Γ → Prop) (φ : Nat → Γ → Value → World → Prop) (R : Γ → World → Γ → World → Prop)
    (hm : P.follows .mixedOrders = true) (hn : (dsts l).Nodup) (hz : ∀ d ∈ dsts l, d < a0.tmps.size) (hg : (l.all fun o => o.guard.isNone) = true)
    (hd : ∀ listed : Array Bool, listed.size = l.length → Region.ready .any l.toArray listed = [] → ∀ j, j < l.length → listed.getD j false = true)
    (stab : ∀ k G w G' w' v, R G w G' w' → φ k G v w → φ k G' v w')
    (start : ∃ G, J (Array.replicate l.length false) G ∧ B G w0.drew)
    (owes : OwesAll P Q l a0 B J φ R 0 l)
    (fin : ∀ (vals : Nat → Value) G w, B G w → J (Array.replicate l.length true) G → (∀ (k : Nat) (o : Oper) (d : Nat), l[k]? = some o → o.dst = some d → φ k G (vals k) w) → Q .normal (putAll l 0 vals a0) w) :
    (Code.region id l.toArray true).wp P Q a0 w0 := by
  refine wp_region_any hm ?_
  change wpAny P .any l.toArray Q _ _ a0 w0.drew
  let I : Array Bool → Act → World → Prop := fun listed a w => listed.size = l.length ∧ ∃ (vals : Nat → Value) (G : Γ), a = putSome (fun j => listed.getD j false) l 0 vals a0 ∧ J listed G ∧ B G w ∧ Known φ l listed G w a
  refine wpAny_inv I ?_ ?_ _ _ _ _ ?_ ?_
  · rintro listed a w ⟨hsz, vals, G, ha, hJ, hB, hK⟩ i hi
    obtain ⟨hun, o, ho, haf⟩ := mem_ready.1 hi
    have ho' : l[i]? = some o := by simpa using ho
    have hgo : o.guard = none := by
      have := List.all_eq_true.1 hg o (List.mem_of_getElem? ho')
      simpa using this
    unfold wpOp
    simp only [ho]
    rw [if_pos (by simp [Region.wanted, hgo])]
    left
    have hall := owes i o ho'
    rw [Nat.zero_add] at hall
    have hilt : i < listed.size := by rw [hsz]; exact (List.getElem?_eq_some_iff.1 ho').1
    have hunF : listed.getD i false = false := by
      rw [Array.getD_eq_getD_getElem?] at hun ⊢
      rw [Array.getElem?_eq_getElem hilt] at hun ⊢
      exact hun
    refine Oper.wp_mono ?_ (hall listed G w a hsz hun haf hJ hB hK (fun t ht => by rw [ha]; exact putSome_far l 0 a0 ht))
    rintro a' w' ⟨v, G', rfl, hR, hB', hJ', hφ⟩
    have hst := putSome_step (listed := fun j => listed.getD j false) (vals := vals) (v := v) l 0 i o a0 ho' (by simpa using hunF) hn
    rw [Nat.zero_add] at hst
    have hfun : (fun j => (listed.setIfInBounds i true).getD j false) = (fun j => if j = i then true else listed.getD j false) := by
      funext j
      by_cases hj : j = i
      · subst hj
        simp [hilt]
      · rw [if_neg hj, getD_set_ne false (fun e => hj e.symm)]
    have hput : a.put o.dst v = putSome (fun j => (listed.setIfInBounds i true).getD j false) l 0 (fun j => if j = i then v else vals j) a0 := by
      rw [ha, hst, hfun]
    refine ⟨by simpa using hsz, _, G', hput, hJ', hB', ?_⟩
    intro k o' d hk hd' hl
    rw [hput]
    have hat := putSome_at (listed := fun j => (listed.setIfInBounds i true).getD j false) (vals := fun j => if j = i then v else vals j) (t := d) l 0 k o' a0 hk hd' (by simpa using hl) hn (hz d (by unfold dsts; exact List.mem_filterMap.2 ⟨o', List.mem_of_getElem? hk, hd'⟩))
    rw [hat, Nat.zero_add]
    by_cases hki : k = i
    · subst hki
      simpa using hφ
    · simp only [hki, if_false]
      have hlk : listed.getD k false = true := by rwa [getD_set_ne false (fun e => hki e.symm)] at hl
      have hold := hK k o' d hk hd' hlk
      rw [ha, putSome_at (listed := fun j => listed.getD j false) (vals := vals) (t := d) l 0 k o' a0 hk hd' (by simpa using hlk) hn (hz d (by unfold dsts; exact List.mem_filterMap.2 ⟨o', List.mem_of_getElem? hk, hd'⟩)), Nat.zero_add] at hold
      exact stab _ _ _ _ _ _ hR hold
  · rintro listed a w ⟨hsz, vals, G, ha, hJ, hB, hK⟩ hr
    have hall := hd listed hsz hr
    have hlist : listed = Array.replicate l.length true := by
      apply Array.ext
      · simpa using hsz
      · intro j h1 h2
        have := hall j (by omega)
        rw [Array.getD_eq_getD_getElem?, Array.getElem?_eq_getElem h1] at this
        simpa using this
    have hpa : a = putAll l 0 vals a0 := by rw [ha]; exact putSome_all l 0 vals a0 (fun j hj => by simpa using hall j hj)
    rw [hpa]
    refine fin vals G w hB (by rw [← hlist]; exact hJ) ?_
    intro k o' d hk hd'
    have hlk : listed.getD k false = true := hall k (List.getElem?_eq_some_iff.1 hk).1
    have hold := hK k o' d hk hd' hlk
    rw [ha, putSome_at (listed := fun j => listed.getD j false) (vals := vals) (t := d) l 0 k o' a0 hk hd' (by simpa using hlk) hn (hz d (by unfold dsts; exact List.mem_filterMap.2 ⟨o', List.mem_of_getElem? hk, hd'⟩)), Nat.zero_add] at hold
    exact hold
  · unfold falses
    refine Nat.le_trans (List.length_filter_le _ _) ?_
    simp
  · obtain ⟨G, hJ, hB⟩ := start
    refine ⟨by simp, fun _ => undef, G, ?_, by simpa using hJ, hB, ?_⟩
    · exact (putSome_none l 0 _ a0 (fun j hj => by simp [hj])).symm
    · intro k o d hk _ hl
      have : k < l.length := (List.getElem?_eq_some_iff.1 hk).1
      simp [this] at hl

/-- Each operation comes up at last: where each waits for earlier ones alone. -/
theorem ready_nil {l : List Oper} (hB : (l.zipIdx.all fun x => x.1.after.all fun e => decide (e.on < x.2)) = true) : ∀ listed : Array Bool, listed.size = l.length → Region.ready .any l.toArray listed = [] → ∀ j, j < l.length → listed.getD j false = true := by
  intro listed hsz hr j
  induction j using Nat.strongRecOn with
  | _ j ih =>
    intro hj
    cases hc : listed.getD j false with
    | true => rfl
    | false =>
      exfalso
      have hjl : j < listed.size := by omega
      have : j ∈ Region.ready .any l.toArray listed := mem_ready.2 ⟨by
          rw [Array.getD_eq_getD_getElem?] at hc ⊢
          rw [Array.getElem?_eq_getElem hjl] at hc ⊢
          exact hc, l[j], by simp [hj], fun e he _ => by
            have h1 := List.all_eq_true.1 hB (l[j], j) (by rw [List.mem_zipIdx_iff_getElem?]; simp [hj])
            have h2 := (Array.all_eq_true_iff_forall_mem.1 h1) e he
            have h3 : e.on < j := by simpa using h2
            exact ih e.on h3 (by omega)⟩
      rw [hr] at this
      cases this
end
end Go.Proofs.YthjljamngpddmaaGreatDoor
