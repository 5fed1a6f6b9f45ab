
/-
  The document's own paths in memory (package consulateref07): May, Count, Same.
-/
import Derived.Test.YteofbpdogmajoaaGreatDoorZo
namespace Go.Proofs.YteofbpdogmajoaaGreatDoor
open Go.RowKit
attribute [local go_sem] Oper.semAt_some

/-- A slice of the document's segments. -/
def Rfs (w : World) (v : Value) (l : List Seg) : Prop :=
  ∃ A c, v = .slice A l.length c ∧ l.length ≤ c ∧ c ≤ maxLen ∧ (0 < l.length → ∃ b o, A = some ⟨b, o, none⟩ ∧ ∀ i (h : i < l.length), w.cell? ⟨b, o + i * 2, none⟩ = some (.int .i64 (l[i].1.toNat : Int)) ∧ ∃ u, w.cell? ⟨b, o + i * 2 + 1, none⟩ = some u ∧ As w u l[i].2)
theorem Rfs.old {w w' : World} {v : Value} {l : List Seg} (h : Rfs w v l) (k : Kept Nothing w w') : Rfs w' v l := by
  obtain ⟨A, c, hv, hc, hm, hr⟩ := h
  refine ⟨A, c, hv, hc, hm, fun h0 => ?_⟩
  obtain ⟨b, o, hA, hi⟩ := hr h0
  refine ⟨b, o, hA, fun i hl => ⟨k.cell_some (hi i hl).1 (fun x => x), ?_⟩⟩
  obtain ⟨u, h1, h2⟩ := (hi i hl).2
  exact ⟨u, k.cell_some h1 (fun x => x), h2.old k⟩
theorem Rfs.form {w : World} {v : Value} {l : List Seg} (h : Rfs w v l) : ∃ A c, v = .slice A l.length c ∧ l.length ≤ c ∧ c ≤ maxLen := by
  obtain ⟨A, c, hv, hc, hm, _⟩ := h; exact ⟨A, c, hv, hc, hm⟩
theorem Rfs.at {w : World} {A : Option Addr} {n c : Nat} {l : List Seg} (h : Rfs w (.slice A n c) l) (h0 : 0 < n) :
    ∃ b o, A = some ⟨b, o, none⟩ ∧ ∀ i (h : i < l.length), w.cell? ⟨b, o + i * 2, none⟩ = some (.int .i64 (l[i].1.toNat : Int)) ∧ ∃ u, w.cell? ⟨b, o + i * 2 + 1, none⟩ = some u ∧ As w u l[i].2 := by
  obtain ⟨A', c', hv, _, _, hr⟩ := h
  injection hv with h1 h2 h3
  subst h1 h2
  exact hr h0
theorem Rfs.at2 {w : World} {A : Option Addr} {n c : Nat} {l : List Seg} (h : Rfs w (.slice A n c) l) {i : Nat} (hi : i < n) :
    ∃ b o Au cu, A = some ⟨b, o, none⟩ ∧ w.cell? ⟨b, o + i * 2, none⟩ = some (.int .i64 ((l.getD i (0, [])).1.toNat : Int)) ∧ w.cell? ⟨b, o + i * 2 + 1, none⟩ = some (.slice Au (l.getD i (0, [])).2.length cu) ∧ As w (.slice Au (l.getD i (0, [])).2.length cu) (l.getD i (0, [])).2 := by
  obtain ⟨A', c', hv, _⟩ := h.form
  injection hv with _ e2 _
  obtain ⟨b, o, rfl, hc⟩ := h.at (by omega)
  have hl : i < l.length := by omega
  obtain ⟨h1, u, h2, h3⟩ := hc i hl
  have hd : l.getD i (0, []) = l[i] := by rw [List.getD_eq_getElem?_getD, List.getElem?_eq_getElem hl]; rfl
  rw [hd]
  obtain ⟨Au, cu, rfl, _, _⟩ := h3.form
  exact ⟨b, o, Au, cu, rfl, h1, h2, h3⟩

set_option maxHeartbeats 1600000 in
theorem rf_may (v : Value) (l : List Seg) (w : World) (h : Rfs w v l) (hl : l.length ≤ 1099511627776) :
    Calls Tryz.prog 138 #[v] w fun e w' => e = .returned (.bool (Pt.may l)) ∧ Kept Nothing w w' := by
  obtain ⟨A, c, rfl, hc, hm⟩ := h.form
  have HV := Lib.hid h
  clear h
  go_enter Tryz.func138, Tryz.ntmps138
  go_wp2
  go_loopw [3] (fun i wr => ∃ k : Nat, i = .int .i64 (k : Int) ∧ k ≤ l.length ∧ Hid (∀ j, j < k → Pt.may1 (l.getD j (0, [])) = true) ∧ wr = w) (fun i _ => l.length - (intOf i).toNat)
  case atStart => exact ⟨0, rfl, Nat.zero_le _, Lib.hid (fun j hj => absurd hj (Nat.not_lt_zero _)), rfl⟩
  case round =>
    obtain ⟨k, rfl, hk, HM, rfl⟩ := hrel
    by_cases hlt : k < l.length
    · obtain ⟨b, o, Au, cu, rfl, p0, p1, -⟩ := HV.out.at2 hlt
      have i1 : (0 : Int) ≤ (k : Int) := by omega
      have i2 : (k : Int) < (l.length : Int) := by omega
      have EM : Hid (Pt.may1 (l.getD k (0, [])) = (decide (1 ≤ (l.getD k (0, [])).1.toNat) && decide ((l.getD k (0, [])).1.toNat ≤ 4) && decide (0 < (l.getD k (0, [])).2.length) && decide ((l.getD k (0, [])).2.length ≤ 255))) := Lib.hid rfl
      have EA : Hid (Pt.may1 (l.getD k (0, [])) = false → Pt.may l = false) := Lib.hid (fun e => by
        unfold Pt.may
        rw [Bool.and_eq_false_iff]
        left
        rw [List.all_eq_false]
        refine ⟨l.getD k (0, []), ?_, by rw [e]; simp⟩
        rw [List.getD_eq_getElem?_getD, List.getElem?_eq_getElem hlt]
        exact List.getElem_mem _)
      have EN : Hid (Pt.may1 (l.getD k (0, [])) = true → ∀ j, j < k + 1 → Pt.may1 (l.getD j (0, [])) = true) := Lib.hid (fun e j hj => by
        by_cases hjk : j = k
        · subst hjk; exact e
        · exact HM.out j (by omega))
      clear HM
      generalize Pt.may1 (l.getD k (0, [])) = mb at *
      generalize (l.getD k (0, [])).1.toNat = kn at *
      generalize (l.getD k (0, [])).2.length = nn at *
      by_cases hb : 1 ≤ kn ∧ kn ≤ 4 ∧ 0 < nn ∧ nn ≤ 255
      · have HN := Lib.hid (EN.out (by rw [EM.out]; simp; omega))
        have j1 : ¬ (kn : Int) < 1 := by omega
        have j2 : ¬ (4 : Int) < (kn : Int) := by omega
        have j3 : ¬ (nn : Int) < 1 := by omega
        have j4 : ¬ (255 : Int) < (nn : Int) := by omega
        clear hb EN EA EM
        go_wp2
        go_roundw
        case rel => exact ⟨k + 1, by go_num, by omega, HN, by first | rfl | trivial⟩
        case measure => simp [intOf]; omega
      · have HN := Lib.hid (EA.out (by rw [EM.out]; simp; omega))
        clear EN EA EM
        by_cases c1 : kn < 1
        · have j1 : (kn : Int) < 1 := by omega
          clear hb
          go_wp2
          go_ret
          exact ⟨by rw [HN.out]; rfl, Kept.refl _ _⟩
        · have j1 : ¬ (kn : Int) < 1 := by omega
          by_cases c2 : 4 < kn
          · have j2 : (4 : Int) < (kn : Int) := by omega
            clear hb c1
            go_wp2
            go_ret
            exact ⟨by rw [HN.out]; rfl, Kept.refl _ _⟩
          · have j2 : ¬ (4 : Int) < (kn : Int) := by omega
            by_cases c3 : nn < 1
            · have j3 : (nn : Int) < 1 := by omega
              clear hb c1 c2
              go_wp2
              go_ret
              exact ⟨by rw [HN.out]; rfl, Kept.refl _ _⟩
            · have j3 : ¬ (nn : Int) < 1 := by omega
              have j4 : (255 : Int) < (nn : Int) := by omega
              clear hb c1 c2 c3
              go_wp2
              go_ret
              exact ⟨by rw [HN.out]; rfl, Kept.refl _ _⟩
    · obtain rfl : k = l.length := by omega
      have hall : l.all Pt.may1 = true := by
        rw [List.all_eq_true]
        intro s hs
        obtain ⟨i, hi, rfl⟩ := List.getElem_of_mem hs
        have := HM.out i hi
        rwa [List.getD_eq_getElem?_getD, List.getElem?_eq_getElem hi] at this
      have HE : Hid (Pt.may l = decide (l.length ≤ 32)) := Lib.hid (by unfold Pt.may; rw [hall]; rfl)
      clear hall HM
      go_wp2
      go_ret
      exact ⟨by rw [HE.out]; exact ret_bool (by rw [Bool.eq_iff_iff]; simp; try omega), Kept.refl _ _⟩

theorem cnt_take_succ (l : List Seg) (k : Nat) (hk : k < l.length) : Pt.cnt (l.take (k + 1)) = Pt.cnt (l.take k) + (l.getD k (0, [])).2.length := by
  rw [List.take_succ_eq_append_getElem hk, getD_get hk]
  unfold Pt.cnt
  rw [List.map_append, List.sum_append]
  simp
end Go.Proofs.YteofbpdogmajoaaGreatDoor
