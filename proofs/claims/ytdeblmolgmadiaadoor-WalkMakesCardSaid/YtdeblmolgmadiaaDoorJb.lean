
/-
  Paths: May, Same, Copy, in whatever memory.
-/
import Derived.Test.YtdeblmolgmadiaaDoorJa
import Derived.Lib.SliceRun
import Derived.BigQuiet
import Derived.Deep.RegionLaw
import Derived.Test.YtdeblmolgmadiaaDoorRp
namespace Go.Proofs.YtdeblmolgmadiaaDoor
open Go.RowKit

theorem as_info : (Tryd.prog.info? 25).map (fun i => (i.zero, i.size, i.bytes)) = some (some (.int .u32 0), 1, 4) := by kernel_rfl
theorem sg_info : (Tryd.prog.info? 61).map (fun i => (i.zero, i.size, i.bytes)) = some (some (.agg #[.int .u8 0, .slice none 0 0]), 2, 32) := by kernel_rfl

theorem as_clone (v : Value) (l : List Nat) (w : World) (h : As w v l) (hl : l.length ≤ 1099511627776) :
    Calls Tryd.prog 59 #[v] w fun r w' => ∃ v', r = .returned v' ∧ w'.ownsRow w.heap.size 25 1 v' l.length (ass l) ∧ Kept Nothing w w' := by
  obtain ⟨i0, hi, hz0, hz1, hz2⟩ := info_parts as_info
  have hq := fun (u : World) (a : Option Addr) (n c : Nat) => Lib.run_eql_slice_nil (P := Tryd.prog) u 59 25 a n c 0 0 Tryd.underlying59
  obtain ⟨A, c, rfl, hc, hm⟩ := h.form
  have HS := Lib.hid (h.src)
  cases A with
  | none =>
    obtain rfl : l = [] := List.eq_nil_of_length_eq_zero (HS.out.2.1 rfl)
    clear h hc hm
    go_enter Tryd.func59, Tryd.ntmps59
    go_wp2
    go_ret
    exact ⟨_, rfl, World.ownsRow_nil _ _ _ _, Kept.refl _ _⟩
  | some ad =>
    clear h hc hm
    have HL : Hid (0 + l.length ≤ maxLen ∧ (0 + l.length) * 4 ≤ 140737488355328) := ⟨by unfold maxLen; omega, by omega⟩
    go_enter Tryd.func59, Tryd.ntmps59
    go_wp2_with (at_builtin; refine wpList_app _ rfl _ _ 59 rfl w.heap.size 25 i0 (.int .u32 0) 1 4 Tryd.underlying59 hi hz0 hz1 hz2 rfl (by decide) (.slice (some ⟨w.heap.size, 0, none⟩) 0 0) 0 [] rfl (World.ownsRow_made w #[] 0 (Nat.le_refl _) (by simp [maxLen]) rfl) (some ad) l.length c (ass l) rfl (HS.out.kept ((Kept.refl _ w).alloc _)) HL.out.1 HL.out.2 (by simp) ?_; intro v' w' hown hg _)
    go_ret
    refine ⟨v', rfl, ?_, ((Kept.refl _ w).alloc _).grown hg (fun k hk hlt => ?_)⟩
    · simpa using hown
    · simp only [Value.ownBlock, Option.some.injEq] at hk
      omega

theorem seg_may (k : Nat) (A : Option Addr) (n c : Nat) (w : World) :
    Calls Tryd.prog 50 #[.agg #[.int .u8 (k : Int), .slice A n c]] w fun e w' => e = .returned (.bool (decide (1 ≤ k) && decide (k ≤ 4) && decide (0 < n) && decide (n ≤ 255))) ∧ Kept Nothing w w' := by
  go_enter Tryd.func50, Tryd.ntmps50
  go_wp2
  all_goals go_ret
  all_goals exact ⟨ret_bool (by rw [Bool.eq_iff_iff]; simp; try omega), (Kept.refl _ w).alloc _⟩

/-- The i-th segment in memory. -/
theorem Pts.at2 {w : World} {A : Option Addr} {n c : Nat} {l : List Seg} (h : Pts w (.slice A n c) l) {i : Nat} (hi : i < n) :
    ∃ b o Au cu, A = some ⟨b, o, none⟩ ∧ w.cell? ⟨b, o + i * 2, none⟩ = some (.int .u8 ((l.getD i (0, [])).1.toNat : Int)) ∧ w.cell? ⟨b, o + i * 2 + 1, none⟩ = some (.slice Au (l.getD i (0, [])).2.length cu) ∧ As w (.slice Au (l.getD i (0, [])).2.length cu) (l.getD i (0, [])).2 := by
  obtain ⟨A', c', hv, _⟩ := h.form
  injection hv with _ e2 _
  obtain ⟨b, o, rfl, hc⟩ := h.at (by omega)
  have hl : i < l.length := by omega
  obtain ⟨h1, u, h2, h3⟩ := hc i hl
  have hd : l.getD i (0, []) = l[i] := by rw [List.getD_eq_getElem?_getD, List.getElem?_eq_getElem hl]; rfl
  rw [hd]
  obtain ⟨Au, cu, rfl, _, _⟩ := h3.form
  exact ⟨b, o, Au, cu, rfl, h1, h2, h3⟩

set_option maxHeartbeats 800000 in
theorem path_may (v : Value) (l : List Seg) (w : World) (h : Pts w v l) (hl : l.length ≤ 1099511627776) :
    Calls Tryd.prog 31 #[v] w fun e w' => e = .returned (.bool (Pt.may l)) ∧ Kept Nothing w w' := by
  obtain ⟨A, c, rfl, hc, hm⟩ := h.form
  have HV := Lib.hid h
  clear h
  go_enter Tryd.func31, Tryd.ntmps31
  go_wp2
  go_loopw [7] (fun i wr => ∃ k : Nat, i = .int .i64 (k : Int) ∧ k ≤ l.length ∧ Hid (∀ j, j < k → Pt.may1 (l.getD j (0, [])) = true) ∧ Kept Nothing w wr) (fun i _ => l.length - (intOf i).toNat)
  case atStart => exact ⟨0, rfl, Nat.zero_le _, Lib.hid (fun j hj => absurd hj (Nat.not_lt_zero _)), Kept.refl _ _⟩
  case round =>
    obtain ⟨k, rfl, hk, HM, hkk⟩ := hrel
    have KK := Lib.hid hkk
    clear hkk
    by_cases hlt : k < l.length
    · obtain ⟨b, o, Au, cu, rfl, p0, p1, -⟩ := (HV.out.old KK.out).at2 hlt
      have i1 : (0 : Int) ≤ (k : Int) := by omega
      have i2 : (k : Int) < (l.length : Int) := by omega
      have EM : Hid (Pt.may1 (l.getD k (0, [])) = (decide (1 ≤ (l.getD k (0, [])).1.toNat) && decide ((l.getD k (0, [])).1.toNat ≤ 4) && decide (0 < (l.getD k (0, [])).2.length) && decide ((l.getD k (0, [])).2.length ≤ 255))) := Lib.hid rfl
      have EA : Hid (Pt.may1 (l.getD k (0, [])) = false → Pt.may l = false) := Lib.hid (fun e => by
        unfold Pt.may
        rw [Bool.and_eq_false_iff]
        left
        rw [List.all_eq_false]
        refine ⟨l.getD k (0, []), ?_, by rw [e]; simp⟩
        rw [List.getD_eq_getElem?_getD, List.getElem?_eq_getElem hlt]
        exact List.getElem_mem _)
      have EN : Hid (Pt.may1 (l.getD k (0, [])) = true → ∀ j, j < k + 1 → Pt.may1 (l.getD j (0, [])) = true) := Lib.hid (fun e j hj => by
        by_cases hjk : j = k
        · subst hjk; exact e
        · exact HM.out j (by omega))
      have HS := Lib.hid (fun w => seg_may (l.getD k (0, [])).1.toNat Au (l.getD k (0, [])).2.length cu w)
      rw [← EM.out] at HS
      clear EM HM
      generalize Pt.may1 (l.getD k (0, [])) = mb at *
      generalize (l.getD k (0, [])).1.toNat = kn at *
      generalize (l.getD k (0, [])).2.length = nn at *
      cases hb : mb with
      | true =>
        have HN := Lib.hid (EN.out hb)
        rw [hb] at HS
        clear hb EN EA
        go_wp2_with (go_at_call 50; refine (HS.out _).mono ?_; rintro e w2 ⟨rfl, k2⟩)
        go_roundw
        case rel => exact ⟨k + 1, by go_num, by omega, HN, (KK.out.alloc _).trans k2⟩
        case measure => simp [intOf]; omega
      | false =>
        have HN := Lib.hid (EA.out hb)
        rw [hb] at HS
        clear hb EN EA
        go_wp2_with (go_at_call 50; refine (HS.out _).mono ?_; rintro e w2 ⟨rfl, k2⟩)
        go_ret
        exact ⟨by rw [HN.out]; rfl, (KK.out.alloc _).trans k2⟩
    · obtain rfl : k = l.length := by omega
      have hall : l.all Pt.may1 = true := by
        rw [List.all_eq_true]
        intro s hs
        obtain ⟨i, hi, rfl⟩ := List.getElem_of_mem hs
        have := HM.out i hi
        rwa [List.getD_eq_getElem?_getD, List.getElem?_eq_getElem hi] at this
      have HE : Hid (Pt.may l = decide (l.length ≤ 32)) := Lib.hid (by unfold Pt.may; rw [hall]; rfl)
      clear hall HM
      go_wp2
      go_ret
      exact ⟨by rw [HE.out]; exact ret_bool (by rw [Bool.eq_iff_iff]; simp; try omega), KK.out⟩

end Go.Proofs.YtdeblmolgmadiaaDoor
