
/-
  Prefixes: masks and the calls Of, May, Has, Contains, Bit, Compare, each in whatever memory.
-/
import Derived.Test.YthjljamngpddmaaGreatDoorY02
import Derived.Lib.SliceRun
import Derived.BigQuiet
import Derived.Deep.RegionLaw
import Derived.Deep.DeepCutAuto
import Derived.Deep.CutBlock
import Derived.Outline
import Derived.Test.YthjljamngpddmaaGreatDoorY01
import Derived.RegionTactic
import Derived.Laws.StructEq
import Derived.Laws.BitsAllLaws
import Derived.Deep.RegionHeld3
import Derived.WalkLawsBesides
import Derived.WalkSpells
namespace Go.Proofs.YthjljamngpddmaaGreatDoor
open Go.RowKit

theorem as_info : (Tryz.prog.info? 54).map (fun i => (i.zero, i.size, i.bytes)) = some (some (.int .u32 0), 1, 4) := by kernel_rfl
theorem sg_info : (Tryz.prog.info? 72).map (fun i => (i.zero, i.size, i.bytes)) = some (some (.agg #[.int .u8 0, .slice none 0 0]), 2, 32) := by kernel_rfl

theorem as_clone (v : Value) (l : List Nat) (w : World) (h : As w v l) (hl : l.length ≤ 1099511627776) :
    Calls Tryz.prog 56 #[v] w fun r w' => ∃ v', r = .returned v' ∧ w'.ownsRow w.heap.size 54 1 v' l.length (ass l) ∧ Kept Nothing w w' := by
  obtain ⟨i0, hi, hz0, hz1, hz2⟩ := info_parts as_info
  have hq := fun (u : World) (a : Option Addr) (n c : Nat) => Lib.run_eql_slice_nil (P := Tryz.prog) u 70 54 a n c 0 0 Tryz.underlying70
  obtain ⟨A, c, rfl, hc, hm⟩ := h.form
  have HS := Lib.hid (h.src)
  cases A with
  | none =>
    obtain rfl : l = [] := List.eq_nil_of_length_eq_zero (HS.out.2.1 rfl)
    clear h hc hm
    go_enter Tryz.func56, Tryz.ntmps56
    go_wp2
    go_ret
    exact ⟨_, rfl, World.ownsRow_nil _ _ _ _, Kept.refl _ _⟩
  | some ad =>
    clear h hc hm
    have HL : Hid (0 + l.length ≤ maxLen ∧ (0 + l.length) * 4 ≤ 140737488355328) := ⟨by unfold maxLen; omega, by omega⟩
    go_enter Tryz.func56, Tryz.ntmps56
    go_wp2_with (at_builtin; refine wpList_app _ rfl _ _ 70 rfl w.heap.size 54 i0 (.int .u32 0) 1 4 Tryz.underlying70 hi hz0 hz1 hz2 rfl (by decide) (.slice (some ⟨w.heap.size, 0, none⟩) 0 0) 0 [] rfl (World.ownsRow_made w #[] 0 (Nat.le_refl _) (by simp [maxLen]) rfl) (some ad) l.length c (ass l) rfl (HS.out.kept ((Kept.refl _ w).alloc _)) HL.out.1 HL.out.2 (by simp) ?_; intro v' w' hown hg _)
    go_ret
    refine ⟨v', rfl, ?_, ((Kept.refl _ w).alloc _).grown hg (fun k hk hlt => ?_)⟩
    · simpa using hown
    · simp only [Value.ownBlock, Option.some.injEq] at hk
      omega

theorem seg_may (k : Nat) (A : Option Addr) (n c : Nat) (w : World) :
    Calls Tryz.prog 47 #[.agg #[.int .u8 (k : Int), .slice A n c]] w fun e w' => e = .returned (.bool (decide (1 ≤ k) && decide (k ≤ 4) && decide (0 < n) && decide (n ≤ 255))) ∧ Kept Nothing w w' := by
  go_enter Tryz.func47, Tryz.ntmps47
  go_wp2
  all_goals go_ret
  all_goals exact ⟨ret_bool (by rw [Bool.eq_iff_iff]; simp; try omega), (Kept.refl _ w).alloc _⟩

/-- The i-th segment in memory. -/
theorem Pts.at2 {w : World} {A : Option Addr} {n c : Nat} {l : List Seg} (h : Pts w (.slice A n c) l) {i : Nat} (hi : i < n) :
    ∃ b o Au cu, A = some ⟨b, o, none⟩ ∧ w.cell? ⟨b, o + i * 2, none⟩ = some (.int .u8 ((l.getD i (0, [])).1.toNat : Int)) ∧ w.cell? ⟨b, o + i * 2 + 1, none⟩ = some (.slice Au (l.getD i (0, [])).2.length cu) ∧ As w (.slice Au (l.getD i (0, [])).2.length cu) (l.getD i (0, [])).2 := by
  obtain ⟨A', c', hv, _⟩ := h.form
  injection hv with _ e2 _
  obtain ⟨b, o, rfl, hc⟩ := h.at (by omega)
  have hl : i < l.length := by omega
  obtain ⟨h1, u, h2, h3⟩ := hc i hl
  have hd : l.getD i (0, []) = l[i] := by rw [List.getD_eq_getElem?_getD, List.getElem?_eq_getElem hl]; rfl
  rw [hd]
  obtain ⟨Au, cu, rfl, _, _⟩ := h3.form
  exact ⟨b, o, Au, cu, rfl, h1, h2, h3⟩

set_option maxHeartbeats 800000 in
theorem path_may (v : Value) (l : List Seg) (w : World) (h : Pts w v l) (hl : l.length ≤ 1099511627776) :
    Calls Tryz.prog 14 #[v] w fun e w' => e = .returned (.bool (Pt.may l)) ∧ Kept Nothing w w' := by
  obtain ⟨A, c, rfl, hc, hm⟩ := h.form
  have HV := Lib.hid h
  clear h
  go_enter Tryz.func14, Tryz.ntmps14
  go_wp2
  go_loopw [7] (fun i wr => ∃ k : Nat, i = .int .i64 (k : Int) ∧ k ≤ l.length ∧ Hid (∀ j, j < k → Pt.may1 (l.getD j (0, [])) = true) ∧ Kept Nothing w wr) (fun i _ => l.length - (intOf i).toNat)
  case atStart => exact ⟨0, rfl, Nat.zero_le _, Lib.hid (fun j hj => absurd hj (Nat.not_lt_zero _)), Kept.refl _ _⟩
  case round =>
    obtain ⟨k, rfl, hk, HM, hkk⟩ := hrel
    have KK := Lib.hid hkk
    clear hkk
    by_cases hlt : k < l.length
    · obtain ⟨b, o, Au, cu, rfl, p0, p1, -⟩ := (HV.out.old KK.out).at2 hlt
      have i1 : (0 : Int) ≤ (k : Int) := by omega
      have i2 : (k : Int) < (l.length : Int) := by omega
      have EM : Hid (Pt.may1 (l.getD k (0, [])) = (decide (1 ≤ (l.getD k (0, [])).1.toNat) && decide ((l.getD k (0, [])).1.toNat ≤ 4) && decide (0 < (l.getD k (0, [])).2.length) && decide ((l.getD k (0, [])).2.length ≤ 255))) := Lib.hid rfl
      have EA : Hid (Pt.may1 (l.getD k (0, [])) = false → Pt.may l = false) := Lib.hid (fun e => by
        unfold Pt.may
        rw [Bool.and_eq_false_iff]
        left
        rw [List.all_eq_false]
        refine ⟨l.getD k (0, []), ?_, by rw [e]; simp⟩
        rw [List.getD_eq_getElem?_getD, List.getElem?_eq_getElem hlt]
        exact List.getElem_mem _)
      have EN : Hid (Pt.may1 (l.getD k (0, [])) = true → ∀ j, j < k + 1 → Pt.may1 (l.getD j (0, [])) = true) := Lib.hid (fun e j hj => by
        by_cases hjk : j = k
        · subst hjk; exact e
        · exact HM.out j (by omega))
      have HS := Lib.hid (fun w => seg_may (l.getD k (0, [])).1.toNat Au (l.getD k (0, [])).2.length cu w)
      rw [← EM.out] at HS
      clear EM HM
      generalize Pt.may1 (l.getD k (0, [])) = mb at *
      generalize (l.getD k (0, [])).1.toNat = kn at *
      generalize (l.getD k (0, [])).2.length = nn at *
      cases hb : mb with
      | true =>
        have HN := Lib.hid (EN.out hb)
        rw [hb] at HS
        clear hb EN EA
        go_wp2_with (go_at_call 47; refine (HS.out _).mono ?_; rintro e w2 ⟨rfl, k2⟩)
        go_roundw
        case rel => exact ⟨k + 1, by go_num, by omega, HN, (KK.out.alloc _).trans k2⟩
        case measure => simp [intOf]; omega
      | false =>
        have HN := Lib.hid (EA.out hb)
        rw [hb] at HS
        clear hb EN EA
        go_wp2_with (go_at_call 47; refine (HS.out _).mono ?_; rintro e w2 ⟨rfl, k2⟩)
        go_ret
        exact ⟨by rw [HN.out]; rfl, (KK.out.alloc _).trans k2⟩
    · obtain rfl : k = l.length := by omega
      have hall : l.all Pt.may1 = true := by
        rw [List.all_eq_true]
        intro s hs
        obtain ⟨i, hi, rfl⟩ := List.getElem_of_mem hs
        have := HM.out i hi
        rwa [List.getD_eq_getElem?_getD, List.getElem?_eq_getElem hi] at this
      have HE : Hid (Pt.may l = decide (l.length ≤ 32)) := Lib.hid (by unfold Pt.may; rw [hall]; rfl)
      clear hall HM
      go_wp2
      go_ret
      exact ⟨by rw [HE.out]; exact ret_bool (by rw [Bool.eq_iff_iff]; simp; try omega), KK.out⟩

set_option maxHeartbeats 800000 in
theorem as_equal (a b : Value) (l m : List Nat) (w : World) (ha : As w a l) (hb : As w b m) :
    Calls Tryz.prog 40 #[a, b] w fun e w' => e = .returned (.bool (l == m)) ∧ Kept Nothing w w' := by
  obtain ⟨A, c, rfl, _, hm1⟩ := ha.form
  obtain ⟨B, d, rfl, _, hm2⟩ := hb.form
  unfold maxLen at hm1 hm2
  have HA := Lib.hid ha
  have HB := Lib.hid hb
  clear ha hb
  by_cases hlen : l.length = m.length
  · have hli : (l.length : Int) = (m.length : Int) := by omega
    have HLE := Lib.hid hlen
    rw [← hlen]
    rw [← hlen] at HB
    clear hlen hli
    go_enter Tryz.func40, Tryz.ntmps40
    go_wp2
    go_loopw [13] (fun i wr => ∃ k : Nat, i = .int .i64 (k : Int) ∧ k ≤ l.length ∧ Hid (l.take k = m.take k) ∧ Kept Nothing w wr) (fun i _ => l.length - (intOf i).toNat)
    case atStart => exact ⟨0, rfl, Nat.zero_le _, Lib.hid (by simp), Kept.refl _ _⟩
    case round =>
      obtain ⟨k, rfl, hk, HM, hkk⟩ := hrel
      have KK := Lib.hid hkk
      clear hkk
      by_cases hlt : k < l.length
      · obtain ⟨b1, o1, rfl, hc1⟩ := HA.out.at (by omega)
        obtain ⟨b2, o2, rfl, hc2⟩ := HB.out.at (by omega)
        have c1 := KK.out.cell_some (hc1 k hlt) (fun x => x)
        have c2 := KK.out.cell_some (hc2 k hlt) (fun x => x)
        have i1 : (0 : Int) ≤ (k : Int) := by omega
        have i2 : (k : Int) < (l.length : Int) := by omega
        have EN : Hid (l.getD k 0 = m.getD k 0 → l.take (k + 1) = m.take (k + 1)) := Lib.hid (fun e => by
          have h1 : l.take (k + 1) = l.take k ++ [l.getD k 0] := by
            rw [List.take_succ_eq_append_getElem hlt, List.getD_eq_getElem?_getD, List.getElem?_eq_getElem hlt]; rfl
          have hlt2 : k < m.length := by have := HLE.out; omega
          have h2 : m.take (k + 1) = m.take k ++ [m.getD k 0] := by
            rw [List.take_succ_eq_append_getElem hlt2, List.getD_eq_getElem?_getD, List.getElem?_eq_getElem hlt2]; rfl
          rw [h1, h2, HM.out, e])
        have EF : Hid (l.getD k 0 ≠ m.getD k 0 → (l == m) = false) := Lib.hid (fun e => by
          rw [beq_eq_false_iff_ne]
          intro x
          exact e (by rw [x]))
        generalize l.getD k 0 = x at *
        generalize m.getD k 0 = y at *
        clear hc1 hc2 HM
        by_cases hxy : x = y
        · have HN := Lib.hid (EN.out hxy)
          subst hxy
          clear EN EF
          go_wp2
          go_quiet (fail)
          go_wp2
          go_roundw
          case rel => exact ⟨k + 1, by go_num, by omega, HN, KK.out.drewN _⟩
          case measure => simp [intOf]; omega
        · have HN := Lib.hid (EF.out hxy)
          have hne : ((x : Int) == (y : Int)) = false := by simp; omega
          clear EN EF hxy
          go_wp2
          go_quiet (fail)
          go_wp2
          go_ret
          exact ⟨by rw [HN.out]; rfl, KK.out.drewN _⟩
      · obtain rfl : k = l.length := by omega
        have HE : Hid ((l == m) = true) := Lib.hid (by
          have h1 := HM.out
          rw [List.take_of_length_le (Nat.le_refl _), List.take_of_length_le (by have := HLE.out; omega)] at h1
          rw [h1]; simp)
        clear HM
        go_wp2
        go_ret
        exact ⟨by rw [HE.out]; rfl, KK.out⟩
  · have hne : ((l.length : Int) == (m.length : Int)) = false := by simp; omega
    have HN : Hid ((l == m) = false) := Lib.hid (by
      rw [beq_eq_false_iff_ne]
      intro x
      exact hlen (by rw [x]))
    clear hlen
    go_enter Tryz.func40, Tryz.ntmps40
    go_wp2
    go_ret
    exact ⟨by rw [HN.out]; rfl, Kept.refl _ _⟩

theorem seg_same (x y : Nat) (u v : Value) (l m : List Nat) (w : World) (hu : As w u l) (hv : As w v m) :
    Calls Tryz.prog 49 #[.agg #[.int .u8 (x : Int), u], .agg #[.int .u8 (y : Int), v]] w fun e w' => e = .returned (.bool (decide (x = y) && (l == m))) ∧ Kept Nothing w w' := by
  obtain ⟨A, c, rfl, _, _⟩ := hu.form
  obtain ⟨B, d, rfl, _, _⟩ := hv.form
  have kk := ((Kept.refl Nothing w).alloc (.cells #[.int .u8 (x : Int), .slice A l.length c] 72)).alloc (.cells #[.int .u8 (y : Int), .slice B m.length d] 72)
  have HC := Lib.hid (as_equal _ _ l m _ (hu.old kk) (hv.old kk))
  have KK := Lib.hid kk
  clear hu hv kk
  by_cases hxy : x = y
  · subst hxy
    have hd : decide (x = x) = true := by simp
    rw [hd, Bool.true_and]
    clear hd
    go_enter Tryz.func49, Tryz.ntmps49
    go_wp2_with (go_at_call 40; refine (HC.out).mono ?_; rintro e w2 ⟨rfl, k2⟩)
    go_ret
    exact ⟨rfl, KK.out.trans k2⟩
  · have hd : decide (x = y) = false := by simp [hxy]
    have hne : ((x : Int) == (y : Int)) = false := by simp; omega
    rw [hd, Bool.false_and]
    clear hd hxy
    go_enter Tryz.func49, Tryz.ntmps49
    go_wp2_with (fail)
    go_ret
    exact ⟨rfl, KK.out⟩
end Go.Proofs.YthjljamngpddmaaGreatDoor
namespace Go.Proofs.YthjljamngpddmaaGreatDoor
open Go.RowKit

theorem take_next {α : Type} {l m : List α} {k : Nat} (h : l.take k = m.take k) (h1 : k < l.length) (h2 : k < m.length) (e : l[k] = m[k]) : l.take (k + 1) = m.take (k + 1) := by
  rw [List.take_succ_eq_append_getElem h1, List.take_succ_eq_append_getElem h2, h, e]
theorem getD_get {α : Type} {l : List α} {k : Nat} (h : k < l.length) (d : α) : l.getD k d = l[k] := by
  rw [List.getD_eq_getElem?_getD, List.getElem?_eq_getElem h]; rfl

set_option maxHeartbeats 1600000 in
theorem eq_func (a b : Value) (l m : List Seg) (w : World) (ha : Pts w a l) (hb : Pts w b m) :
    Calls Tryz.prog 48 #[a, b, .func (.func 49) #[] #[]] w fun e w' => e = .returned (.bool (decide (l = m))) ∧ Kept Nothing w w' := by
  obtain ⟨A, c, rfl, hc1, hm1⟩ := ha.form
  obtain ⟨B, d, rfl, hc2, hm2⟩ := hb.form
  unfold maxLen at hm1 hm2
  have HA := Lib.hid ha
  have HB := Lib.hid hb
  clear ha hb
  by_cases hlen : l.length = m.length
  · have HLE := Lib.hid hlen
    rw [← hlen]
    rw [← hlen] at HB
    clear hlen
    go_enter Tryz.func48, Tryz.ntmps48
    go_wp2
    go_loopw [17] (fun i wr => ∃ k : Nat, i = .int .i64 (k : Int) ∧ k ≤ l.length ∧ Hid (l.take k = m.take k) ∧ Kept Nothing w wr) (fun i _ => l.length - (intOf i).toNat)
    case atStart => exact ⟨0, rfl, Nat.zero_le _, Lib.hid (by simp), Kept.refl _ _⟩
    case round =>
      obtain ⟨k, rfl, hk, HM, hkk⟩ := hrel
      have KK := Lib.hid hkk
      clear hkk
      by_cases hlt : k < l.length
      · have hlt2 : k < m.length := by have := HLE.out; omega
        obtain ⟨b1, o1, A1, d1, rfl, p0, p1, hp⟩ := (HA.out.old KK.out).at2 hlt
        obtain ⟨b2, o2, A2, d2, rfl, q0, q1, hq⟩ := (HB.out.old KK.out).at2 hlt
        have i1 : (0 : Int) ≤ (k : Int) := by omega
        have i2 : (k : Int) < (l.length : Int) := by omega
        have hls : b1 < wr.heap.size := World.block_lt_of_cell? _ _ p0
        have hms : b2 < wr.heap.size := World.block_lt_of_cell? _ _ q0
        have ES : Hid (decide (l[k] = m[k]) = (decide ((l.getD k (0, [])).1.toNat = (m.getD k (0, [])).1.toNat) && ((l.getD k (0, [])).2 == (m.getD k (0, [])).2))) := Lib.hid (by
          rw [getD_get hlt, getD_get hlt2, Bool.eq_iff_iff]
          simp only [decide_eq_true_eq, Bool.and_eq_true, beq_iff_eq]
          constructor
          · intro e; rw [e]; exact ⟨rfl, rfl⟩
          · rintro ⟨e1, e2⟩
            exact Prod.ext (UInt8.toNat_inj.1 e1) e2)
        have EN : Hid (decide (l[k] = m[k]) = true → l.take (k + 1) = m.take (k + 1)) := Lib.hid (fun e => take_next HM.out hlt hlt2 (by simpa using e))
        have EF : Hid (decide (l[k] = m[k]) = false → decide (l = m) = false) := Lib.hid (fun e => by
          have : ¬ l[k] = m[k] := by simpa using e
          simp only [decide_eq_false_iff_not]
          intro x
          subst x
          exact this rfl)
        have HS := Lib.hid (fun w' (k' : Kept Nothing wr w') => seg_same (l.getD k (0, [])).1.toNat (m.getD k (0, [])).1.toNat _ _ (l.getD k (0, [])).2 (m.getD k (0, [])).2 w' (hp.old k') (hq.old k'))
        rw [← ES.out] at HS
        have kk := ((Kept.refl Nothing wr).alloc (.cells #[.int .u8 ((l.getD k (0, [])).1.toNat : Int), .slice A1 (l.getD k (0, [])).2.length d1] 72)).alloc (.cells #[.int .u8 ((m.getD k (0, [])).1.toNat : Int), .slice A2 (m.getD k (0, [])).2.length d2] 72)
        have KA := Lib.hid kk
        clear ES HM hp hq kk
        generalize decide (l[k] = m[k]) = mb at *
        generalize (l.getD k (0, [])).1.toNat = kn at *
        generalize (l.getD k (0, [])).2.length = nn at *
        generalize (m.getD k (0, [])).1.toNat = km at *
        generalize (m.getD k (0, [])).2.length = nm at *
        cases hbb : mb with
        | true =>
          have HN := Lib.hid (EN.out hbb)
          rw [hbb] at HS
          clear hbb EN EF
          go_wp2_with (refine (HS.out _ KA.out).mono ?_; rintro e w2 ⟨rfl, k2⟩)
          go_roundw
          case rel => exact ⟨k + 1, by go_num, by omega, HN, (KK.out.trans KA.out).trans k2⟩
          case measure => simp [intOf]; omega
        | false =>
          have HN := Lib.hid (EF.out hbb)
          rw [hbb] at HS
          clear hbb EN EF
          go_wp2_with (refine (HS.out _ KA.out).mono ?_; rintro e w2 ⟨rfl, k2⟩)
          go_ret
          exact ⟨by rw [HN.out]; rfl, (KK.out.trans KA.out).trans k2⟩
      · obtain rfl : k = l.length := by omega
        have HE : Hid (decide (l = m) = true) := Lib.hid (by
          have h1 := HM.out
          rw [List.take_of_length_le (Nat.le_refl _), List.take_of_length_le (by have := HLE.out; omega)] at h1
          simp [h1])
        clear HM
        go_wp2
        go_ret
        exact ⟨by rw [HE.out]; rfl, KK.out⟩
  · have hne : ((l.length : Int) == (m.length : Int)) = false := by simp; omega
    have HN : Hid (decide (l = m) = false) := Lib.hid (by
      simp only [decide_eq_false_iff_not]
      intro x
      exact hlen (by rw [x]))
    clear hlen
    go_enter Tryz.func48, Tryz.ntmps48
    go_wp2
    go_ret
    exact ⟨by rw [HN.out]; rfl, Kept.refl _ _⟩
theorem path_same (a b : Value) (l m : List Seg) (w : World) (ha : Pts w a l) (hb : Pts w b m) :
    Calls Tryz.prog 16 #[a, b] w fun e w' => e = .returned (.bool (decide (l = m))) ∧ Kept Nothing w w' := by
  have HE := Lib.hid (eq_func a b l m w ha hb)
  go_enter Tryz.func16, Tryz.ntmps16
  go_wp2_with (refine (HE.out).mono ?_; rintro e w2 ⟨rfl, k2⟩)
  go_ret
  exact ⟨rfl, k2⟩
end Go.Proofs.YthjljamngpddmaaGreatDoor
namespace Go.Proofs.YthjljamngpddmaaGreatDoor
open Go.RowKit

theorem own_weakA {w : World} {B B' : Nat} {e : TypeId} {size n : Nat} {v : Value} {xs : List Value} (h : w.ownsRow B e size v n xs) (hb : B' ≤ B) : w.ownsRow B' e size v n xs := by
  obtain ⟨h1, h2⟩ := h
  refine ⟨h1, ?_⟩
  rcases h2 with h | ⟨g, cap, cur, e, hg, r⟩
  · exact .inl h
  · exact .inr ⟨g, cap, cur, e, Nat.le_trans hb hg, r⟩
theorem ow_ge {w : World} {base : Nat} {e : TypeId} {size n : Nat} {v : Value} {xs : List Value} (h : w.ownsRow base e size v n xs) {g : Nat} (hg : v.ownBlock = some g) : base ≤ g ∧ g < w.heap.size := by
  obtain ⟨cs, hh⟩ := ow_lt h hg
  refine ⟨?_, (Array.getElem?_eq_some_iff.1 hh).1⟩
  rcases h.2 with ⟨rfl, _⟩ | ⟨g', cap, cur, rfl, hb, _⟩
  · simp [Value.ownBlock] at hg
  · have : g' = g := by simpa [Value.ownBlock] using hg
    omega

set_option maxHeartbeats 800000 in
theorem seg_copied (k : Nat) (A : Option Addr) (n c : Nat) (l : List Nat) (w : World) (h : As w (.slice A n c) l) (hl : l.length ≤ 1099511627776) :
    Calls Tryz.prog 50 #[.agg #[.int .u8 (k : Int), .slice A n c]] w fun e w' => ∃ v', e = .returned (.agg #[.int .u8 (k : Int), v']) ∧ w'.ownsRow w.heap.size 54 1 v' l.length (ass l) ∧ Kept Nothing w w' := by
  have HS := Lib.hid (fun u (hu : Kept Nothing w u) => as_clone _ l u (h.old hu) hl)
  obtain ⟨A', c', hv, _⟩ := h.form
  obtain rfl : n = l.length := by injection hv
  clear h hv
  have k0 := ((Kept.refl Nothing w).alloc (.cells #[.int .u8 (k : Int), .slice A l.length c] 72)).alloc (.cells #[.int .u8 0, .slice none 0 0] 72)
  have b1 := (Blk.fresh w 72 #[.int .u8 (k : Int), .slice A l.length c]).alloc (.cells #[.int .u8 0, .slice none 0 0] 72)
  have b2 := Blk.fresh (w.alloc (.cells #[.int .u8 (k : Int), .slice A l.length c] 72)) 72 #[.int .u8 0, .slice none 0 0]
  rw [World.size_alloc] at b2
  go_enter Tryz.func50, Tryz.ntmps50
  go_upto_region 1 with fail
  obtain ⟨w0, hw0⟩ : ∃ w0, (w.alloc (.cells #[.int .u8 (k : Int), .slice A l.length c] 72)).alloc (.cells #[.int .u8 0, .slice none 0 0] 72) = w0 := ⟨_, rfl⟩
  rw [hw0] at k0 b1 b2 ⊢
  have c0 := b1.cell 0
  have c1 := b1.cell 1
  have HK := Lib.hid k0
  have HB := Lib.hid b2
  have hz : w.heap.size + 1 < w0.heap.size := b2.lt
  clear k0 b1 b2 hw0
  go_region_law (first
    | (go_simp; go_at_call 56; refine (HS.out _ (by exact HK.out.drew)).mono ?_; rintro e w8 ⟨v8, rfl, ho8, hk8⟩; (have b8 := HB.out.kept (((Kept.refl Nothing _).drew).trans hk8) (fun x => x)); (have c8' : w8.cell? ⟨w.heap.size, 0, none⟩ = some (.int .u8 (k : Int)) := hk8.cell_some (p := ⟨w.heap.size, 0, none⟩) c0 (fun x => x)); (have r0 := b8.cell 0); (have r1 := b8.cell 1); (have f0 := b8.free 0); (have f1 := b8.free 1); (have B8 := Lib.hid b8); (have HV8 := Lib.hid ho8); (have HK8 := Lib.hid hk8); (obtain ⟨A8, c8, rfl, _, _⟩ := ow_form ho8); clear ho8 hk8 b8))
  all_goals
    have e0 : ((w8.setCell ⟨w.heap.size + 1, 0, none⟩ (.int .u8 (k : Int))).setCell ⟨w.heap.size + 1, 1, none⟩ (.slice A8 l.length c8)).cell? ⟨w.heap.size + 1, 0, none⟩ = some (.int .u8 (k : Int)) := ((B8.out.put 0 _).put 1 _).cell 0
    have e1 : ((w8.setCell ⟨w.heap.size + 1, 0, none⟩ (.int .u8 (k : Int))).setCell ⟨w.heap.size + 1, 1, none⟩ (.slice A8 l.length c8)).cell? ⟨w.heap.size + 1, 1, none⟩ = some (.slice A8 l.length c8) := ((B8.out.put 0 _).put 1 _).cell 1
    go_wp2
    refine bodyPost_ret (v := .agg #[.int .u8 (k : Int), .slice A8 l.length c8]) (by simp [results, Tryz.results50, go_sem, e0, e1]) rfl ⟨_, rfl, ?_, ?_⟩
    · refine own_weakA (ow_kept HV8.out ((Kept.own w8 (w.heap.size + 1) 0 (.int .u8 (k : Int))).trans (Kept.own _ (w.heap.size + 1) 1 (.slice A8 l.length c8))) (ow_far HV8.out B8.out (by decide))) (HK.out.drew).size
    · exact (((HK.out.drew).trans HK8.out).setCell (p := ⟨w.heap.size + 1, 0, none⟩) (fun h => absurd h (by simp)) _).setCell (p := ⟨w.heap.size + 1, 1, none⟩) (fun h => absurd h (by simp)) _

/-- The cells of a path's copy: each its kind, and a row of its own. -/
def Rws (w : World) (B : Nat) : List Value → List Seg → Prop
  | [], [] => True
  | a :: v :: xs, c :: l => a = by8 c.1 ∧ w.ownsRow B 54 1 v c.2.length (ass c.2) ∧ (∀ n ∈ c.2, n < 4294967296) ∧ Rws w B xs l
  | _, _ => False
theorem Rws.kept {w w' : World} {B : Nat} {S : Nat → Prop} (k : Kept S w w') (hs : ∀ g cs, S g → w.heap[g]? ≠ some (.cells cs 54 (0, 0))) : ∀ {xs : List Value} {l : List Seg}, Rws w B xs l → Rws w' B xs l
  | [], [], _ => trivial
  | _ :: _ :: _, _ :: _, ⟨h1, h2, h3, h4⟩ => ⟨h1, ow_kept h2 k (fun g hg x => by obtain ⟨cs, hh⟩ := ow_lt h2 hg; exact hs g cs x hh), h3, Rws.kept k hs h4⟩
  | [], _ :: _, h => h.elim
  | [_], _, h => by unfold Rws at h; exact h.elim
  | _ :: _ :: _, [], h => by unfold Rws at h; exact h.elim
theorem Rws.old {w w' : World} {B : Nat} (k : Kept Nothing w w') {xs : List Value} {l : List Seg} (h : Rws w B xs l) : Rws w' B xs l := h.kept k (fun _ _ x => x.elim)
theorem Rws.snoc {w : World} {B : Nat} {c : Seg} {v : Value} (hv : w.ownsRow B 54 1 v c.2.length (ass c.2)) (hn : ∀ n ∈ c.2, n < 4294967296) : ∀ {xs : List Value} {l : List Seg}, Rws w B xs l → Rws w B (xs ++ [by8 c.1, v]) (l ++ [c])
  | [], [], _ => ⟨rfl, hv, hn, trivial⟩
  | _ :: _ :: _, _ :: _, ⟨h1, h2, h3, h4⟩ => ⟨h1, h2, h3, Rws.snoc hv hn h4⟩
  | [], _ :: _, h => h.elim
  | [_], _, h => by unfold Rws at h; exact h.elim
  | _ :: _ :: _, [], h => by unfold Rws at h; exact h.elim
theorem Rws.cells {w : World} {B : Nat} : ∀ {xs : List Value} {l : List Seg}, Rws w B xs l → PCells (As w) xs l
  | [], [], _ => trivial
  | _ :: _ :: _, _ :: _, ⟨h1, h2, h3, h4⟩ => ⟨h1, As.of_own h2 h3, Rws.cells h4⟩
  | [], _ :: _, h => h.elim
  | [_], _, h => by unfold Rws at h; exact h.elim
  | _ :: _ :: _, [], h => by unfold Rws at h; exact h.elim
theorem Rws.lt {w : World} {B : Nat} : ∀ {xs : List Value} {l : List Seg}, Rws w B xs l → ∀ u ∈ xs, ∀ g, u.ownBlock = some g → g < w.heap.size
  | [], [], _ => fun u hu => by cases hu
  | a :: v :: xs, _ :: _, ⟨h1, h2, h3, h4⟩ => fun u hu g hg => by
    subst h1
    rcases List.mem_cons.1 hu with rfl | hu
    · simp [by8, Value.ownBlock] at hg
    · rcases List.mem_cons.1 hu with rfl | hu
      · exact (ow_ge h2 hg).2
      · exact Rws.lt h4 u hu g hg
  | [], _ :: _, h => h.elim
  | [_], _, h => by unfold Rws at h; exact h.elim
  | _ :: _ :: _, [], h => by unfold Rws at h; exact h.elim
/-- A path of the call's own: its row, its numbers' rows. -/
def Pown (w : World) (B : Nat) (v : Value) (l : List Seg) : Prop := ∃ xs, w.ownsRow B 72 2 v l.length xs ∧ Rws w B xs l
theorem Pown.pts {w : World} {B : Nat} {v : Value} {l : List Seg} (h : Pown w B v l) : Pts w v l := by
  obtain ⟨xs, h1, h2⟩ := h
  exact Pts.of_own h1 h2.cells
theorem Pown.old {w w' : World} {B : Nat} {v : Value} {l : List Seg} (h : Pown w B v l) (k : Kept Nothing w w') : Pown w' B v l := by
  obtain ⟨xs, h1, h2⟩ := h
  exact ⟨xs, ow_kept h1 k (fun _ _ x => x), h2.old k⟩
theorem Pown.nil (w : World) (B : Nat) : Pown w B (.slice none 0 0) [] := ⟨[], World.ownsRow_nil _ _ _ _, trivial⟩
/-- A segment put behind. -/
theorem Rws.push {u1 w9 : World} {B : Nat} {q v8 : Value} {l : List Seg} {c : Seg} {n : Nat} {xs : List Value} (oq : u1.ownsRow B 72 2 q n xs) (hr : Rws u1 B xs l) (o8 : u1.ownsRow B 54 1 v8 c.2.length (ass c.2)) (hn : ∀ n ∈ c.2, n < 4294967296) (hg : u1.grownBy w9 q.ownBlock) : Rws w9 B (xs ++ [by8 c.1, v8]) (l ++ [c]) := by
  have kg : Kept (fun k => q.ownBlock = some k) u1 w9 := (Kept.refl _ u1).grown hg (fun _ hk _ => hk)
  have hs : ∀ g cs, q.ownBlock = some g → u1.heap[g]? ≠ some (.cells cs 54 (0, 0)) := fun g cs x e => by
    obtain ⟨cs', hh⟩ := ow_lt oq x
    rw [hh] at e
    injection e with e
    injection e with _ e2
    exact absurd e2 (by decide)
  exact (hr.kept kg hs).snoc (ow_kept o8 kg (fun g hg' x => by obtain ⟨cs, hh⟩ := ow_lt o8 hg'; exact hs g cs x hh)) hn
theorem Kept.own_grown {w u1 w9 : World} {B : Nat} {e : TypeId} {size n : Nat} {q : Value} {xs : List Value} (k : Kept Nothing w u1) (oq : u1.ownsRow B e size q n xs) (hB : w.heap.size ≤ B) (hg : u1.grownBy w9 q.ownBlock) : Kept Nothing w w9 :=
  k.grown hg (fun k hk hlt => by have := (ow_ge oq hk).1; omega)

/-- The rows of a path's cells lie in blocks of their own. -/
def Dist (xs : List Value) : Prop := xs.Pairwise fun u v => ∀ g, u.ownBlock = some g → v.ownBlock ≠ some g
theorem Dist.push {w : World} {B : Nat} {xs : List Value} {l : List Seg} (h : Dist xs) (hr : Rws w B xs l) {k v : Value} (hk : k.ownBlock = none) (hv : ∀ g, v.ownBlock = some g → w.heap.size ≤ g) : Dist (xs ++ [k, v]) := by
  refine List.pairwise_append.2 ⟨h, ?_, ?_⟩
  · refine List.pairwise_cons.2 ⟨fun b _ g hg => ?_, List.pairwise_singleton _ _⟩
    rw [hk] at hg; cases hg
  · intro u hu b hb g hg e
    have hlt := hr.lt u hu g hg
    rcases List.mem_cons.1 hb with rfl | hb
    · rw [hk] at e; cases e
    · obtain rfl := List.mem_singleton.1 hb
      have := hv g e
      omega

set_option maxHeartbeats 1600000 in
theorem path_copyD (v : Value) (l : List Seg) (w : World) (h : Pts w v l) (hl : l.length ≤ 1000000) (hn : ∀ s ∈ l, s.2.length ≤ 1000000) :
    Calls Tryz.prog 18 #[v] w fun e w' => ∃ v' xs, e = .returned v' ∧ w'.ownsRow w.heap.size 72 2 v' l.length xs ∧ Rws w' w.heap.size xs l ∧ Dist xs ∧ Kept Nothing w w' := by
  obtain ⟨A, c, rfl, hc, hm⟩ := h.form
  obtain ⟨i0, hi, hz0, hz1, hz2⟩ := info_parts sg_info
  have HV := Lib.hid h
  have HN := Lib.hid hn
  clear h hn
  go_enter Tryz.func18, Tryz.ntmps18
  go_wp2
  go_loopw [3, 8] (fun q i wr => ∃ k : Nat, i = .int .i64 (k : Int) ∧ k ≤ l.length ∧ Hid (∃ xs, wr.ownsRow w.heap.size 72 2 q (l.take k).length xs ∧ Rws wr w.heap.size xs (l.take k) ∧ Dist xs) ∧ Kept Nothing w wr) (fun _ i _ => l.length - (intOf i).toNat)
  case atStart => exact ⟨0, rfl, Nat.zero_le _, Lib.hid ⟨[], World.ownsRow_nil _ _ _ _, trivial, List.Pairwise.nil⟩, Kept.refl _ _⟩
  case round =>
    obtain ⟨k, rfl, hk, HP, hkk⟩ := hrel
    have KK := Lib.hid hkk
    clear hkk
    by_cases hlt : k < l.length
    · obtain ⟨b, o, Au, cu, rfl, p0, p1, hp⟩ := (HV.out.old KK.out).at2 hlt
      have i1 : (0 : Int) ≤ (k : Int) := by omega
      have i2 : (k : Int) < (l.length : Int) := by omega
      have hls : b < wr.heap.size := World.block_lt_of_cell? _ _ p0
      have ET : Hid (l.take (k + 1) = l.take k ++ [l.getD k (0, [])]) := Lib.hid (by rw [List.take_succ_eq_append_getElem hlt, getD_get hlt])
      have hmem : l.getD k (0, []) ∈ l := by rw [getD_get hlt]; exact List.getElem_mem _
      have HS := Lib.hid (fun w' (k' : Kept Nothing wr w') => seg_copied (l.getD k (0, [])).1.toNat _ _ _ (l.getD k (0, [])).2 w' (hp.old k') (by have := HN.out _ hmem; omega))
      have HF := Lib.hid hp.1
      have hlk : (l.take k).length = k := by rw [List.length_take]; omega
      obtain ⟨xs, oq, hr, hdi⟩ := HP.out
      have HDI := Lib.hid hdi
      clear hdi
      rw [hlk] at oq
      have OQ := Lib.hid oq
      have HR := Lib.hid hr
      obtain ⟨Aq, cq, rfl, _, _⟩ := ow_form oq
      clear hp hmem HP oq hr
      generalize hsg : l.getD k (0, []) = sg at *
      obtain ⟨sk, sn⟩ := sg
      clear hsg
      simp only at p0 p1
      replace HS := Lib.hid (show ∀ w', Kept Nothing wr w' → _ from HS.out)
      have HLK := Lib.hid hlk
      clear hlk
      have KA := Lib.hid ((Kept.refl Nothing wr).alloc (.cells #[.int .u8 (sk.toNat : Int), .slice Au sn.length cu] 72))
      have HL5 : Hid (k + 1 ≤ maxLen ∧ (k + 1) * 32 ≤ 140737488355328) := Lib.hid (by unfold maxLen; omega)
      go_wp2_with (first
        | (go_at_call 50; refine (HS.out _ KA.out).mono ?_; rintro e w2 ⟨v2, rfl, o2, k2⟩; (obtain ⟨A2, c2, rfl, _, _⟩ := ow_form o2); (have O2 := Lib.hid o2); (have K2 := Lib.hid ((KA.out.trans k2).alloc (.cells #[.int .u8 (sk.toNat : Int), .slice A2 sn.length c2] 72))); (have K3 := Lib.hid k2); clear o2 k2)
        | (at_builtin; refine wpList_app _ rfl _ _ 23 rfl w.heap.size 72 i0 (.agg #[.int .u8 0, .slice none 0 0]) 2 32 Tryz.underlying23 hi hz0 hz1 hz2 rfl (by decide) (.slice Aq k cq) k xs rfl (ow_kept OQ.out K2.out (fun _ _ x => x)) (some ⟨w2.heap.size, 0, none⟩) 1 1 [.int .u8 (sk.toNat : Int), .slice A2 sn.length c2] rfl (src_new w2 _ #[.int .u8 (sk.toNat : Int), .slice A2 sn.length c2] 2 1 rfl (by simp [Value.oneCell'])) HL5.out.1 HL5.out.2 (by have := (KK.out.trans K2.out).size; exact this) ?_; intro v7 w7 hown7 hg7 _))
      go_roundw
      case rel =>
        have oq2 := ow_kept OQ.out K2.out (fun _ _ x => x)
        have hP : ∃ xs, w7.ownsRow w.heap.size 72 2 v7 (l.take (k + 1)).length xs ∧ Rws w7 w.heap.size xs (l.take (k + 1)) ∧ Dist xs := by
          rw [ET.out]
          refine ⟨xs ++ [by8 sk, .slice A2 sn.length c2], ?_, ?_, HDI.out.push (HR.out.old KA.out) rfl (fun g hg => (ow_ge O2.out hg).1)⟩
          · rw [List.length_append, HLK.out]; exact hown7
          · exact Rws.push (c := (sk, sn)) oq2 (HR.out.old K2.out) (ow_kept (own_weakA O2.out (by have := (KK.out.trans KA.out).size; exact this)) ((Kept.refl Nothing w2).alloc _) (fun _ _ x => x)) HF.out hg7
        exact ⟨k + 1, by go_num, by omega, Lib.hid hP, (KK.out.trans K2.out).own_grown oq2 (Nat.le_refl _) hg7⟩
      case measure => simp [intOf]; omega
    · obtain rfl : k = l.length := by omega
      rw [List.take_of_length_le (Nat.le_refl _)] at HP
      go_wp2
      go_ret
      obtain ⟨xs, h1, h2, h3⟩ := HP.out
      exact ⟨_, xs, rfl, h1, h2, h3, KK.out⟩

set_option maxHeartbeats 1600000 in
theorem path_copy (v : Value) (l : List Seg) (w : World) (h : Pts w v l) (hl : l.length ≤ 1000000) (hn : ∀ s ∈ l, s.2.length ≤ 1000000) :
    Calls Tryz.prog 18 #[v] w fun e w' => ∃ v', e = .returned v' ∧ Pown w' w.heap.size v' l ∧ Kept Nothing w w' := by
  obtain ⟨A, c, rfl, hc, hm⟩ := h.form
  obtain ⟨i0, hi, hz0, hz1, hz2⟩ := info_parts sg_info
  have HV := Lib.hid h
  have HN := Lib.hid hn
  clear h hn
  go_enter Tryz.func18, Tryz.ntmps18
  go_wp2
  go_loopw [3, 8] (fun q i wr => ∃ k : Nat, i = .int .i64 (k : Int) ∧ k ≤ l.length ∧ Hid (Pown wr w.heap.size q (l.take k)) ∧ Kept Nothing w wr) (fun _ i _ => l.length - (intOf i).toNat)
  case atStart => exact ⟨0, rfl, Nat.zero_le _, Lib.hid (Pown.nil _ _), Kept.refl _ _⟩
  case round =>
    obtain ⟨k, rfl, hk, HP, hkk⟩ := hrel
    have KK := Lib.hid hkk
    clear hkk
    by_cases hlt : k < l.length
    · obtain ⟨b, o, Au, cu, rfl, p0, p1, hp⟩ := (HV.out.old KK.out).at2 hlt
      have i1 : (0 : Int) ≤ (k : Int) := by omega
      have i2 : (k : Int) < (l.length : Int) := by omega
      have hls : b < wr.heap.size := World.block_lt_of_cell? _ _ p0
      have ET : Hid (l.take (k + 1) = l.take k ++ [l.getD k (0, [])]) := Lib.hid (by rw [List.take_succ_eq_append_getElem hlt, getD_get hlt])
      have hmem : l.getD k (0, []) ∈ l := by rw [getD_get hlt]; exact List.getElem_mem _
      have HS := Lib.hid (fun w' (k' : Kept Nothing wr w') => seg_copied (l.getD k (0, [])).1.toNat _ _ _ (l.getD k (0, [])).2 w' (hp.old k') (by have := HN.out _ hmem; omega))
      have HF := Lib.hid hp.1
      have hlk : (l.take k).length = k := by rw [List.length_take]; omega
      obtain ⟨xs, oq, hr⟩ := HP.out
      rw [hlk] at oq
      have OQ := Lib.hid oq
      have HR := Lib.hid hr
      obtain ⟨Aq, cq, rfl, _, _⟩ := ow_form oq
      clear hp hmem HP oq hr
      generalize hsg : l.getD k (0, []) = sg at *
      obtain ⟨sk, sn⟩ := sg
      clear hsg
      simp only at p0 p1
      replace HS := Lib.hid (show ∀ w', Kept Nothing wr w' → _ from HS.out)
      have HLK := Lib.hid hlk
      clear hlk
      have KA := Lib.hid ((Kept.refl Nothing wr).alloc (.cells #[.int .u8 (sk.toNat : Int), .slice Au sn.length cu] 72))
      have HL5 : Hid (k + 1 ≤ maxLen ∧ (k + 1) * 32 ≤ 140737488355328) := Lib.hid (by unfold maxLen; omega)
      go_wp2_with (first
        | (go_at_call 50; refine (HS.out _ KA.out).mono ?_; rintro e w2 ⟨v2, rfl, o2, k2⟩; (obtain ⟨A2, c2, rfl, _, _⟩ := ow_form o2); (have O2 := Lib.hid o2); (have K2 := Lib.hid ((KA.out.trans k2).alloc (.cells #[.int .u8 (sk.toNat : Int), .slice A2 sn.length c2] 72))); (have K3 := Lib.hid k2); clear o2 k2)
        | (at_builtin; refine wpList_app _ rfl _ _ 23 rfl w.heap.size 72 i0 (.agg #[.int .u8 0, .slice none 0 0]) 2 32 Tryz.underlying23 hi hz0 hz1 hz2 rfl (by decide) (.slice Aq k cq) k xs rfl (ow_kept OQ.out K2.out (fun _ _ x => x)) (some ⟨w2.heap.size, 0, none⟩) 1 1 [.int .u8 (sk.toNat : Int), .slice A2 sn.length c2] rfl (src_new w2 _ #[.int .u8 (sk.toNat : Int), .slice A2 sn.length c2] 2 1 rfl (by simp [Value.oneCell'])) HL5.out.1 HL5.out.2 (by have := (KK.out.trans K2.out).size; exact this) ?_; intro v7 w7 hown7 hg7 _))
      go_roundw
      case rel =>
        have oq2 := ow_kept OQ.out K2.out (fun _ _ x => x)
        have hP : Pown w7 w.heap.size v7 (l.take (k + 1)) := by
          rw [ET.out]
          refine ⟨xs ++ [by8 sk, .slice A2 sn.length c2], ?_, ?_⟩
          · rw [List.length_append, HLK.out]; exact hown7
          · exact Rws.push (c := (sk, sn)) oq2 (HR.out.old K2.out) (ow_kept (own_weakA O2.out (by have := (KK.out.trans KA.out).size; exact this)) ((Kept.refl Nothing w2).alloc _) (fun _ _ x => x)) HF.out hg7
        exact ⟨k + 1, by go_num, by omega, Lib.hid hP, (KK.out.trans K2.out).own_grown oq2 (Nat.le_refl _) hg7⟩
      case measure => simp [intOf]; omega
    · obtain rfl : k = l.length := by omega
      rw [List.take_of_length_le (Nat.le_refl _)] at HP
      go_wp2
      go_ret
      exact ⟨_, rfl, HP.out, KK.out⟩
end Go.Proofs.YthjljamngpddmaaGreatDoor
namespace Go.Proofs.YthjljamngpddmaaGreatDoor
open Go.RowKit

/-- A world that grew out of another: what was there is as it was. -/
structure Up (o : World) where
  w : World
  kept : Kept Nothing o w
instance (o : World) : Nonempty (Up o) := ⟨⟨o, Kept.refl _ _⟩⟩

theorem wp_region_up {P : Program} {id : Nat} {Q : Exit → Act → World → Prop} {a : Act} {w : World} {l : List Oper} (hm : P.follows .mixedOrders = true) (hB : Region.lexB .any l.toArray = true)
    (h : wpQuiet P l.toArray (fun w' => ∃ g : Up w, w' = g.w) (fun a' => ∀ w', (∃ g : Up w, w' = g.w) → Q .normal a' w') l a) : (Code.region id l.toArray true).wp P Q a w :=
  wp_region_quiet (C := fun w' => ∃ g : Up w, w' = g.w) hm hB ⟨⟨_, (Kept.refl Nothing w).drew⟩, rfl⟩ (by simpa using h)

theorem up_call {P : Program} {f : FuncId} {args : Array Value} {w : World} {g : Up w} {v : Value}
    (h : Calls P f args g.w fun e w' => e = .returned v ∧ Kept Nothing g.w w') : Calls P f args g.w fun e w'' => e = .returned v ∧ ∃ m : Up w, w'' = m.w :=
  h.mono fun _ w' ⟨he, hk⟩ => ⟨he, ⟨w', g.kept.trans hk⟩, rfl⟩
theorem up_same {P : Program} {f : FuncId} {args : Array Value} {w : World} {g : Up w} {v : Value}
    (h : Calls P f args g.w fun e w' => e = .returned v ∧ g.w = w') : Calls P f args g.w fun e w'' => e = .returned v ∧ ∃ m : Up w, w'' = m.w :=
  h.mono fun _ _ ⟨he, hk⟩ => ⟨he, g, hk.symm⟩
theorem up_cell {w : World} {a : Addr} {v : Value} (h : w.cell? a = some v) (g : Up w) : g.w.cell? a = some v := g.kept.cell_some h (fun x => x)
theorem up_size {w : World} (g : Up w) : w.heap.size ≤ g.w.heap.size := g.kept.size
theorem grows {w w' : World} (h : Below w.heap.size w w') : Kept Nothing w w' := ⟨h.os, h.tape, h.output, h.size, fun k hk _ => h.block k hk⟩
end Go.Proofs.YthjljamngpddmaaGreatDoor
namespace Go.Proofs.YthjljamngpddmaaGreatDoor
open Go.RowKit

end Go.Proofs.YthjljamngpddmaaGreatDoor
namespace Go.Proofs.YthjljamngpddmaaGreatDoor
open Go.RowKit

/-- The first b bits of x, the others 0. -/
def low (x b : Nat) : Nat := x / 2 ^ (32 - b) * 2 ^ (32 - b)
/-- Brought to 0 to 32. -/
def cl (b : Int) : Nat := if b < 0 then 0 else if 32 < b then 32 else b.toNat
theorem cl_le (b : Int) : cl b ≤ 32 := by unfold cl; split; omega; split; omega; omega
theorem low_le (x b : Nat) : low x b ≤ x := Nat.div_mul_le_self _ _

theorem and_high (x k : Nat) (hx : x < 4294967296) (hk : k ≤ 32) : x &&& (4294967296 - 2 ^ k) = x / 2 ^ k * 2 ^ k := by
  have hm : 4294967296 - 2 ^ k = (2 ^ (32 - k) - 1) * 2 ^ k := by
    rw [Nat.sub_mul, Nat.one_mul, ← Nat.pow_add, Nat.sub_add_cancel hk]
  rw [hm]
  apply Nat.eq_of_testBit_eq
  intro i
  rw [Nat.testBit_and, Nat.testBit_mul_two_pow, Nat.testBit_mul_two_pow, Nat.testBit_two_pow_sub_one, Nat.testBit_div_two_pow]
  by_cases hi : k ≤ i
  · by_cases h32 : i < 32
    · have h3 : i - k < 32 - k := by omega
      simp [hi, h3]
    · have hz : x.testBit i = false := Nat.testBit_lt_two_pow (Nat.lt_of_lt_of_le hx (by
        have : (2:Nat) ^ 32 ≤ 2 ^ i := Nat.pow_le_pow_right (by omega) (by omega)
        omega))
      simp [hi, hz]
  · simp [hi]

def msk (b : Nat) : Nat := 4294967296 - 2 ^ (32 - b)
theorem msk_eq : ∀ k : Fin 33, (4294967295 * 2 ^ k.val % 4294967296 : Int) = ((4294967296 - 2 ^ k.val : Nat) : Int) := by decide
theorem msk_and (x b : Nat) (hx : x < 4294967296) (hb : b ≤ 32) : bits .and .u32 (x : Int) (msk b : Int) = ((low x b : Nat) : Int) := by
  have hm : msk b < 4294967296 := by
    have : 0 < (2 : Nat) ^ (32 - b) := Nat.pow_pos (by omega)
    unfold msk; omega
  rw [u32_and_nat x (msk b) hx hm]
  unfold msk low
  rw [and_high x (32 - b) hx (by omega)]

def may (x : Nat) (b : Int) : Bool := decide ((x : Int) = (low x (cl b) : Nat)) && decide (b = (cl b : Nat))
def has (x : Nat) (b : Int) (y : Nat) : Bool := decide ((x : Int) = (low y (cl b) : Nat)) && decide (b = (cl b : Nat))
def contains (x : Nat) (b : Int) (y : Nat) (c : Int) : Bool := may y c && decide (b ≤ c) && has x b y
def bitAt (x : Nat) (k : Int) : Bool := decide (0 ≤ k) && decide (k < 32) && decide (x / 2 ^ (31 - k.toNat) % 2 = 1)
def cmpI (x y : Int) : Int := if x < y then -1 else if y < x then 1 else 0
def cmpP (x : Int) (b : Int) (y : Int) (c : Int) : Int := if cmpI x y = 0 then cmpI b c else cmpI x y
end Go.Proofs.YthjljamngpddmaaGreatDoor
