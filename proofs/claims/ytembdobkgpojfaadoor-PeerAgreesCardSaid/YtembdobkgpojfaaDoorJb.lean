
/-
  Paths: May, Same, Copy, in whatever memory.
-/
import Derived.Test.YtembdobkgpojfaaDoorJa
import Derived.Lib.SliceRun
import Derived.BigQuiet
import Derived.Deep.RegionLaw
import Derived.Test.YtembdobkgpojfaaDoorRp
namespace Go.Proofs.YtembdobkgpojfaaDoor
open Go.RowKit

theorem as_info : (Tryd.prog.info? 45).map (fun i => (i.zero, i.size, i.bytes)) = some (some (.int .u32 0), 1, 4) := by kernel_rfl
theorem as_clone (v : Value) (l : List Nat) (w : World) (h : As w v l) (hl : l.length ≤ 1099511627776) :
    Calls Tryd.prog 39 #[v] w fun r w' => ∃ v', r = .returned v' ∧ w'.ownsRow w.heap.size 45 1 v' l.length (ass l) ∧ Kept Nothing w w' := by
  obtain ⟨i0, hi, hz0, hz1, hz2⟩ := info_parts as_info
  have hq := fun (u : World) (a : Option Addr) (n c : Nat) => Lib.run_eql_slice_nil (P := Tryd.prog) u 46 45 a n c 0 0 Tryd.underlying46
  obtain ⟨A, c, rfl, hc, hm⟩ := h.form
  have HS := Lib.hid (h.src)
  cases A with
  | none =>
    obtain rfl : l = [] := List.eq_nil_of_length_eq_zero (HS.out.2.1 rfl)
    clear h hc hm
    go_enter Tryd.func39, Tryd.ntmps39
    go_wp2
    go_ret
    exact ⟨_, rfl, World.ownsRow_nil _ _ _ _, Kept.refl _ _⟩
  | some ad =>
    clear h hc hm
    have HL : Hid (0 + l.length ≤ maxLen ∧ (0 + l.length) * 4 ≤ 140737488355328) := ⟨by unfold maxLen; omega, by omega⟩
    go_enter Tryd.func39, Tryd.ntmps39
    go_wp2_with (at_builtin; refine wpList_app _ rfl _ _ 46 rfl w.heap.size 45 i0 (.int .u32 0) 1 4 Tryd.underlying46 hi hz0 hz1 hz2 rfl (by decide) (.slice (some ⟨w.heap.size, 0, none⟩) 0 0) 0 [] rfl (World.ownsRow_made w #[] 0 (Nat.le_refl _) (by simp [maxLen]) rfl) (some ad) l.length c (ass l) rfl (HS.out.kept ((Kept.refl _ w).alloc _)) HL.out.1 HL.out.2 (by simp) ?_; intro v' w' hown hg _)
    go_ret
    refine ⟨v', rfl, ?_, ((Kept.refl _ w).alloc _).grown hg (fun k hk hlt => ?_)⟩
    · simpa using hown
    · simp only [Value.ownBlock, Option.some.injEq] at hk
      omega

/-- The i-th segment in memory. -/
theorem Pts.at2 {w : World} {A : Option Addr} {n c : Nat} {l : List Seg} (h : Pts w (.slice A n c) l) {i : Nat} (hi : i < n) :
    ∃ b o Au cu, A = some ⟨b, o, none⟩ ∧ w.cell? ⟨b, o + i * 2, none⟩ = some (.int .u8 ((l.getD i (0, [])).1.toNat : Int)) ∧ w.cell? ⟨b, o + i * 2 + 1, none⟩ = some (.slice Au (l.getD i (0, [])).2.length cu) ∧ As w (.slice Au (l.getD i (0, [])).2.length cu) (l.getD i (0, [])).2 := by
  obtain ⟨A', c', hv, _⟩ := h.form
  injection hv with _ e2 _
  obtain ⟨b, o, rfl, hc⟩ := h.at (by omega)
  have hl : i < l.length := by omega
  obtain ⟨h1, u, h2, h3⟩ := hc i hl
  have hd : l.getD i (0, []) = l[i] := by rw [List.getD_eq_getElem?_getD, List.getElem?_eq_getElem hl]; rfl
  rw [hd]
  obtain ⟨Au, cu, rfl, _, _⟩ := h3.form
  exact ⟨b, o, Au, cu, rfl, h1, h2, h3⟩

set_option maxHeartbeats 800000 in
theorem as_equal (a b : Value) (l m : List Nat) (w : World) (ha : As w a l) (hb : As w b m) :
    Calls Tryd.prog 41 #[a, b] w fun e w' => e = .returned (.bool (l == m)) ∧ Kept Nothing w w' := by
  obtain ⟨A, c, rfl, _, hm1⟩ := ha.form
  obtain ⟨B, d, rfl, _, hm2⟩ := hb.form
  unfold maxLen at hm1 hm2
  have HA := Lib.hid ha
  have HB := Lib.hid hb
  clear ha hb
  by_cases hlen : l.length = m.length
  · have hli : (l.length : Int) = (m.length : Int) := by omega
    have HLE := Lib.hid hlen
    rw [← hlen]
    rw [← hlen] at HB
    clear hlen hli
    go_enter Tryd.func41, Tryd.ntmps41
    go_wp2
    go_loopw [13] (fun i wr => ∃ k : Nat, i = .int .i64 (k : Int) ∧ k ≤ l.length ∧ Hid (l.take k = m.take k) ∧ Kept Nothing w wr) (fun i _ => l.length - (intOf i).toNat)
    case atStart => exact ⟨0, rfl, Nat.zero_le _, Lib.hid (by simp), Kept.refl _ _⟩
    case round =>
      obtain ⟨k, rfl, hk, HM, hkk⟩ := hrel
      have KK := Lib.hid hkk
      clear hkk
      by_cases hlt : k < l.length
      · obtain ⟨b1, o1, rfl, hc1⟩ := HA.out.at (by omega)
        obtain ⟨b2, o2, rfl, hc2⟩ := HB.out.at (by omega)
        have c1 := KK.out.cell_some (hc1 k hlt) (fun x => x)
        have c2 := KK.out.cell_some (hc2 k hlt) (fun x => x)
        have i1 : (0 : Int) ≤ (k : Int) := by omega
        have i2 : (k : Int) < (l.length : Int) := by omega
        have EN : Hid (l.getD k 0 = m.getD k 0 → l.take (k + 1) = m.take (k + 1)) := Lib.hid (fun e => by
          have h1 : l.take (k + 1) = l.take k ++ [l.getD k 0] := by
            rw [List.take_succ_eq_append_getElem hlt, List.getD_eq_getElem?_getD, List.getElem?_eq_getElem hlt]; rfl
          have hlt2 : k < m.length := by have := HLE.out; omega
          have h2 : m.take (k + 1) = m.take k ++ [m.getD k 0] := by
            rw [List.take_succ_eq_append_getElem hlt2, List.getD_eq_getElem?_getD, List.getElem?_eq_getElem hlt2]; rfl
          rw [h1, h2, HM.out, e])
        have EF : Hid (l.getD k 0 ≠ m.getD k 0 → (l == m) = false) := Lib.hid (fun e => by
          rw [beq_eq_false_iff_ne]
          intro x
          exact e (by rw [x]))
        generalize l.getD k 0 = x at *
        generalize m.getD k 0 = y at *
        clear hc1 hc2 HM
        by_cases hxy : x = y
        · have HN := Lib.hid (EN.out hxy)
          subst hxy
          clear EN EF
          go_wp2
          go_quiet (fail)
          go_wp2
          go_roundw
          case rel => exact ⟨k + 1, by go_num, by omega, HN, KK.out.drewN _⟩
          case measure => simp [intOf]; omega
        · have HN := Lib.hid (EF.out hxy)
          have hne : ((x : Int) == (y : Int)) = false := by simp; omega
          clear EN EF hxy
          go_wp2
          go_quiet (fail)
          go_wp2
          go_ret
          exact ⟨by rw [HN.out]; rfl, KK.out.drewN _⟩
      · obtain rfl : k = l.length := by omega
        have HE : Hid ((l == m) = true) := Lib.hid (by
          have h1 := HM.out
          rw [List.take_of_length_le (Nat.le_refl _), List.take_of_length_le (by have := HLE.out; omega)] at h1
          rw [h1]; simp)
        clear HM
        go_wp2
        go_ret
        exact ⟨by rw [HE.out]; rfl, KK.out⟩
  · have hne : ((l.length : Int) == (m.length : Int)) = false := by simp; omega
    have HN : Hid ((l == m) = false) := Lib.hid (by
      rw [beq_eq_false_iff_ne]
      intro x
      exact hlen (by rw [x]))
    clear hlen
    go_enter Tryd.func41, Tryd.ntmps41
    go_wp2
    go_ret
    exact ⟨by rw [HN.out]; rfl, Kept.refl _ _⟩

end Go.Proofs.YtembdobkgpojfaaDoor
