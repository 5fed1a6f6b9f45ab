
/-
  attrs: mayOthers.
-/
import Derived.Test.YteofbpdogmajoaaGreatDoorZu
import Derived.Test.YteofbpdogmajoaaGreatDoorZv
import Derived.BigQuiet
import Derived.Test.YteofbpdogmajoaaGreatDoorZyt
namespace Go.Proofs.YteofbpdogmajoaaGreatDoor
open Go.RowKit
attribute [local go_sem] Oper.semAt_some

namespace Ax
def mayOs (l : List Ot) : Bool := l.all mayO && decide (l.Pairwise fun x y => x.t.toNat < y.t.toNat)
theorem mayOs_next {l : List Ot} {k : Nat} (hk : k < l.length) (h : mayOs (l.take k) = true) : mayOs (l.take (k + 1)) = (mayO l[k] && decide (0 < k → (l.getD (k - 1) ⟨0, 0, []⟩).t.toNat < l[k].t.toNat)) := by
  unfold mayOs at h ⊢
  obtain ⟨h1, h2⟩ := Bool.and_eq_true_iff.1 h
  have h2 := of_decide_eq_true h2
  rw [List.take_succ_eq_append_getElem hk, List.all_append, h1, Bool.true_and]
  simp only [List.all_cons, List.all_nil, Bool.and_true]
  congr 1
  rw [Bool.eq_iff_iff, decide_eq_true_eq, decide_eq_true_eq, List.pairwise_append]
  constructor
  · rintro ⟨_, _, h3⟩ h0
    have hm : l[k - 1] ∈ l.take k := by
      rw [show l[k - 1] = (l.take k)[k - 1]'(by rw [List.length_take]; omega) by rw [List.getElem_take]]
      exact List.getElem_mem _
    have := h3 _ hm _ (List.mem_singleton.2 rfl)
    rw [List.getD_eq_getElem?_getD, List.getElem?_eq_getElem (by omega : k - 1 < l.length)]
    exact this
  · intro h3
    refine ⟨h2, List.pairwise_singleton _ _, fun x hx y hy => ?_⟩
    obtain rfl := List.mem_singleton.1 hy
    obtain ⟨i, hi, rfl⟩ := List.getElem_of_mem hx
    rw [List.length_take] at hi
    have h4 := h3 (by omega)
    rw [List.getD_eq_getElem?_getD, List.getElem?_eq_getElem (by omega : k - 1 < l.length)] at h4
    simp only [Option.getD_some] at h4
    rw [List.getElem_take]
    by_cases e : i = k - 1
    · subst e; exact h4
    · have := List.pairwise_iff_getElem.1 h2 i (k - 1) (by rw [List.length_take]; omega) (by rw [List.length_take]; omega) (by omega)
      rw [List.getElem_take, List.getElem_take] at this
      omega
theorem mayOs_pre {l : List Ot} {k : Nat} (h : mayOs (l.take k) = false) : mayOs l = false := by
  cases hh : mayOs l with
  | false => rfl
  | true =>
    unfold mayOs at h hh
    obtain ⟨h1, h2⟩ := Bool.and_eq_true_iff.1 hh
    have h2 := of_decide_eq_true h2
    rw [← List.take_append_drop k l, List.all_append] at h1
    rw [(Bool.and_eq_true_iff.1 h1).1, decide_eq_true (h2.sublist (List.take_sublist k l))] at h
    cases h
end Ax
theorem nlt_s (m : Nat) : decide ((0 : Int) < (m : Int) + 1) = true := decide_eq_true (by omega)

attribute [local go_sem] nlt_s
set_option maxHeartbeats 2000000 in
theorem may_others (v : Value) (l : List Ot) (w : World) (h : Ots w v l) (ht : Wtd w) :
    Calls Tryz.prog 46 #[v] w fun e w' => e = .returned (.bool (Ax.mayOs l)) ∧ Kept Nothing w w' := by
  obtain ⟨A, c, rfl, hc, hm⟩ := h.form
  unfold maxLen at hm
  have HV := Lib.hid h
  have HT := Lib.hid ht
  clear h ht
  go_enter Tryz.func46, Tryz.ntmps46
  go_wp2
  go_loopw [7] (fun i wr => ∃ k : Nat, i = .int .i64 (k : Int) ∧ k ≤ l.length ∧ Hid (Ax.mayOs (l.take k) = true) ∧ Kept Nothing w wr) (fun i _ => l.length - (intOf i).toNat)
  case atStart => exact ⟨0, rfl, Nat.zero_le _, Lib.hid rfl, Kept.refl _ _⟩
  case round =>
    obtain ⟨k, rfl, hk, HM, hkk⟩ := hrel
    have KK := Lib.hid hkk
    clear hkk
    by_cases hlt : k < l.length
    · obtain ⟨b, o, f, t, x, Ax1, cx, rfl, E1, p0, p1, p2, hp⟩ := (HV.out.old KK.out).get hlt rfl
      have i1 : (0 : Int) ≤ (k : Int) := by omega
      have i2 : (k : Int) < (l.length : Int) := by omega
      have hls : b < wr.heap.size := World.block_lt_of_cell? _ _ p0
      have HNX : Hid (Ax.mayOs (l.take (k + 1)) = (Ax.mayO ⟨f, t, x⟩ && decide (0 < k → (l.getD (k - 1) ⟨0, 0, []⟩).t.toNat < t.toNat))) := Lib.hid (by rw [Ax.mayOs_next hlt HM.out, E1])
      have ka := (Kept.refl Nothing wr).alloc (.cells #[.int .u8 (f.toNat : Int), .int .u8 (t.toNat : Int), .slice Ax1 x.length cx] 73)
      have bo := Blk.fresh wr 73 #[.int .u8 (f.toNat : Int), .int .u8 (t.toNat : Int), .slice Ax1 x.length cx]
      have KA := Lib.hid (KK.out.trans ka)
      have BO := Lib.hid bo
      have HMAY := Lib.hid (fun u (kq : Kept Nothing wr u) => ot_may f t (.slice Ax1 x.length cx) x u (hp.old kq) (HT.out.kept (KK.out.trans kq)))
      have q0 := bo.cell 0
      have q1 := bo.cell 1
      have q2 := bo.cell 2
      clear hp bo ka E1
      have HR2 := Lib.hid (show ∃ tp : Nat, (0 < k → (l.getD (k - 1) ⟨0, 0, []⟩).t.toNat = tp ∧ wr.cell? ⟨b, o + (k - 1) * 3 + 1, none⟩ = some (.int .u8 (tp : Int))) from by
        refine ⟨(l.getD (k - 1) ⟨0, 0, []⟩).t.toNat, fun h0 => ⟨rfl, ?_⟩⟩
        obtain ⟨b', o', f', t', x', A', c', e', E', -, p1', -, -⟩ := (HV.out.old KK.out).get (i := k - 1) (by omega) rfl
        injection e' with e'
        injection e' with e1 e2 _
        subst e1 e2
        rw [List.getD_eq_getElem?_getD, List.getElem?_eq_getElem (by omega : k - 1 < l.length), E']
        exact p1')
      obtain ⟨tp, htp⟩ := HR2.out
      generalize hmm : Ax.mayO ⟨f, t, x⟩ = my at *
      have ka := (Kept.refl Nothing wr).alloc (.cells #[.int .u8 (f.toNat : Int), .int .u8 (t.toNat : Int), .slice Ax1 x.length cx] 73)
      have U0 := up_cell (v := .int .u8 (f.toNat : Int)) q0
      have U1 := up_cell (v := .int .u8 (t.toNat : Int)) q1
      have U2 := up_cell (v := .slice Ax1 x.length cx) q2
      have UP : 0 < k → ∀ g : Up (wr.alloc (.cells #[.int .u8 (f.toNat : Int), .int .u8 (t.toNat : Int), .slice Ax1 x.length cx] 73)), g.w.cell? ⟨b, o + (k - 1) * 3 + 1, none⟩ = some (.int .u8 (tp : Int)) := fun h0 => up_cell (ka.cell_some (htp h0).2 (fun x => x))
      have KA2 := Lib.hid ka
      clear ka q0 q1 q2
      cases my with
      | false =>
        go_upto_region 4 with fail
        refine wp_region_up (by kernel_rfl) (by kernel_rfl) ?_
        repeat (go_big_quiet_step ((go_at_call 101; exact up_call (HMAY.out _ (KA2.out.trans (Up.kept _))))))
        refine wpQuiet_nil ?_
        rintro _ ⟨⟨w6, k6⟩, rfl⟩
        have HL : Hid (Ax.mayOs l = false) := Lib.hid (Ax.mayOs_pre (k := k + 1) (by rw [HNX.out]; rfl))
        go_wp2
        go_ret
        exact ⟨by rw [HL.out]; rfl, KA.out.trans k6⟩
      | true =>
        by_cases hk0 : k = 0
        · subst hk0
          simp only [Nat.zero_mul, Nat.add_zero] at p0 p1 p2
          have HN2 : Hid (Ax.mayOs (l.take 1) = true) := Lib.hid (by rw [HNX.out]; simp)
          clear UP htp HR2
          go_upto_region 4 with fail
          refine wp_region_up (by kernel_rfl) (by kernel_rfl) ?_
          repeat (go_big_quiet_step ((go_at_call 101; exact up_call (HMAY.out _ (KA2.out.trans (Up.kept _))))))
          refine wpQuiet_nil ?_
          rintro _ ⟨⟨w6, k6⟩, rfl⟩
          have K6 := Lib.hid (KA.out.trans k6)
          clear k6
          go_wp2
          go_roundw
          case rel => exact ⟨1, by go_num, by omega, HN2, K6.out⟩
          case measure => simp [intOf]; omega
        · obtain ⟨m, rfl⟩ : ∃ m, k = m + 1 := ⟨k - 1, by omega⟩
          have U3 := UP (by omega)
          obtain ⟨ht1, -⟩ := htp (by omega)
          rw [Nat.add_sub_cancel] at U3 ht1
          have hN3 : Hid (Ax.mayOs (l.take (m + 1 + 1)) = decide (tp < t.toNat)) := Lib.hid (by
            rw [HNX.out, Bool.true_and, Nat.add_sub_cancel, ht1]
            rw [Bool.eq_iff_iff, decide_eq_true_eq, decide_eq_true_eq]
            exact ⟨fun h => h (by omega), fun h _ => h⟩)
          clear UP htp HR2 hk0 ht1 HNX
          have j1 : (0 : Int) ≤ (m : Int) := by omega
          have j2 : (m : Int) < (l.length : Int) := by omega
          have j3 : (0 : Int) < (m : Int) + 1 := by omega
          have j4 : (m : Int) + 1 - 1 = (m : Int) := by omega
          by_cases hlt2 : tp < t.toNat
          · have l1 : ¬ ((t.toNat : Int) ≤ (tp : Int)) := by omega
            have HN4 : Hid (Ax.mayOs (l.take (m + 1 + 1)) = true) := Lib.hid (by rw [hN3.out]; exact decide_eq_true hlt2)
            clear hlt2 hN3
            go_upto_region 4 with fail
            refine wp_region_up (by kernel_rfl) (by kernel_rfl) ?_
            repeat (go_big_quiet_step ((go_at_call 101; exact up_call (HMAY.out _ (KA2.out.trans (Up.kept _))))))
            refine wpQuiet_nil ?_
            rintro _ ⟨⟨w6, k6⟩, rfl⟩
            have K6 := Lib.hid (KA.out.trans k6)
            clear k6
            go_wp2
            go_roundw
            case rel => exact ⟨m + 1 + 1, by go_num, by omega, HN4, K6.out⟩
            case measure => simp [intOf]; omega
          · have l1 : (t.toNat : Int) ≤ (tp : Int) := by omega
            have HL : Hid (Ax.mayOs l = false) := Lib.hid (Ax.mayOs_pre (k := m + 1 + 1) (by rw [hN3.out]; exact decide_eq_false hlt2))
            clear hlt2 hN3
            go_upto_region 4 with fail
            refine wp_region_up (by kernel_rfl) (by kernel_rfl) ?_
            repeat (go_big_quiet_step ((go_at_call 101; exact up_call (HMAY.out _ (KA2.out.trans (Up.kept _))))))
            refine wpQuiet_nil ?_
            rintro _ ⟨⟨w6, k6⟩, rfl⟩
            have K6 := Lib.hid (KA.out.trans k6)
            clear k6
            go_wp2
            go_ret
            exact ⟨by rw [HL.out]; rfl, K6.out⟩
    · have HL : Hid (Ax.mayOs l = true) := Lib.hid (by have := HM.out; rwa [List.take_of_length_le (by omega)] at this)
      go_wp2
      go_ret
      exact ⟨by rw [HL.out]; rfl, KK.out⟩
end Go.Proofs.YteofbpdogmajoaaGreatDoor
