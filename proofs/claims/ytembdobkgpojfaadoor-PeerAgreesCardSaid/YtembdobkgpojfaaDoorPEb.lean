
/-
  peer: whether our side may be; the class of a number.
-/
import Derived.Test.YtembdobkgpojfaaDoorPEa
namespace Go.Proofs.YtembdobkgpojfaaDoor
open Go.RowKit

namespace Pe
theorem rise_iff : ∀ l : List Nat, rise l = true ↔ ∀ j, j + 1 < l.length → l.getD j 0 < l.getD (j + 1) 0
  | [] => by simp [rise]
  | [a] => by simp [rise]
  | a :: b :: l => by
    have ih := rise_iff (b :: l)
    unfold rise
    rw [Bool.and_eq_true, ih, decide_eq_true_eq]
    constructor
    · rintro ⟨h1, h2⟩ j hj
      cases j with
      | zero => simpa using h1
      | succ j => have := h2 j (by simpa using hj); simpa using this
    · intro h
      refine ⟨by simpa using h 0 (by simp), fun j hj => ?_⟩
      have := h (j + 1) (by simpa using hj)
      simpa using this
end Pe
theorem As.cell_at {W w : World} {A : Option Addr} {n c : Nat} {l : List Nat} (h : As W (.slice A n c) l) (k : Kept Nothing W w) (h0 : 0 < n) : ∃ b o, A = some ⟨b, o, none⟩ ∧ ∀ i, i < n → w.cell? ⟨b, o + i, none⟩ = some (.int .u32 ((l.getD i 0 : Nat) : Int)) := (h.old k).at h0
set_option maxHeartbeats 1000000 in
theorem pe_rising (A : Option Addr) (c : Nat) (l : List Nat) (w : World) (hv : As w (.slice A l.length c) l) :
    Calls Tryd.prog 66 #[.slice A l.length c] w fun e w' => e = .returned (.bool (Pe.rise l)) ∧ Kept Nothing w w' := by
  have hm : l.length ≤ 9223372036854775807 := by obtain ⟨_, _, _, h1, h2⟩ := hv.form; unfold maxLen at h2; omega
  have HV := Lib.hid hv
  have HR := Lib.hid (Pe.rise_iff l)
  clear hv
  go_enter Tryd.func66, Tryd.ntmps66
  go_wp2
  go_loopw [3] (fun i wr => ∃ m k : Nat, k = m + 1 ∧ i = .int .i64 (k : Int) ∧ (k ≤ l.length ∨ k = 1) ∧ Hid (∀ j, j < m → l.getD j 0 < l.getD (j + 1) 0) ∧ Kept Nothing w wr) (fun i _ => l.length + 1 - (intOf i).toNat)
  case atStart => exact ⟨0, 1, rfl, rfl, .inr rfl, Lib.hid (fun j hj => absurd hj (Nat.not_lt_zero _)), Kept.refl _ _⟩
  case round =>
    obtain ⟨m, k, hkm, rfl, hkl, HM, hkw⟩ := hrel
    by_cases hlt : k < l.length
    · have hlt' : (k : Int) < (l.length : Int) := by omega
      obtain ⟨b, o, rfl, hc⟩ := HV.out.cell_at hkw (by omega)
      have c1 := hc k hlt
      have c0 := hc m (by omega)
      have hw : wrap64 ((k : Int) - 1) = (m : Int) := by unfold wrap64; omega
      have hml : m < l.length := by omega
      have hml' : (m : Int) < (l.length : Int) := by omega
      have HK := Lib.hid hkw
      have hk1 : k ≤ l.length := by omega
      have hw2 : IntKind.i64.wrap ((k : Int) - 1) = (m : Int) := by simp only [IntKind.wrap, IntKind.bits, IntKind.signed]; simp; omega
      have hk0 : (0 : Int) ≤ (k : Int) := by omega
      have hm0 : (0 : Int) ≤ (m : Int) := by omega
      have hsp : l.getD k 0 ≤ l.getD m 0 ∧ Hid (Pe.rise l = false) ∨ l.getD m 0 < l.getD k 0 ∧ Hid (∀ j, j < m + 1 → l.getD j 0 < l.getD (j + 1) 0) := by
        by_cases h : l.getD k 0 ≤ l.getD m 0
        · refine .inl ⟨h, Lib.hid ?_⟩
          cases hr : Pe.rise l with
          | false => rfl
          | true => have := HR.out.1 hr m (by omega); rw [hkm] at h; omega
        · refine .inr ⟨by omega, Lib.hid (fun j hj => ?_)⟩
          by_cases e : j = m
          · subst e; rw [← hkm]; omega
          · exact HM.out j (by omega)
      have HKM := Lib.hid hkm
      clear hc hkw HM HR hkm hkl
      generalize l.getD k 0 = x at *
      generalize l.getD m 0 = y at *
      rcases hsp with ⟨h1, h2⟩ | ⟨h1, h2⟩
      · have h1i : (x : Int) ≤ (y : Int) := by omega
        clear h1
        go_wp2
        go_region_law (fail)
        all_goals
          go_wp2
          go_ret
          exact ⟨by rw [h2.out]; rfl, HK.out.drew⟩
      · have h1i : (y : Int) < (x : Int) := by omega
        clear h1
        go_wp2
        go_region_law (fail)
        all_goals
          go_wp2
          go_roundw
          case rel => exact ⟨m + 1, k + 1, by rw [HKM.out], by go_num, .inl hlt, h2, HK.out.drew⟩
          case measure => simp [intOf]; omega
    · have hlt' : (l.length : Int) ≤ (k : Int) := by omega
      have HP : Hid (Pe.rise l = true) := Lib.hid (HR.out.2 (fun j hj => HM.out j (by omega)))
      clear hkm hkl
      go_wp2
      go_ret
      exact ⟨by rw [HP.out]; rfl, hkw⟩
/-- Our side's box, as a closure has it. -/
def PeB (w : World) (p : Nat) (o : Pe.O) : Prop := w.cell? ⟨p, 0, none⟩ = some (.int .u32 (o.m : Int)) ∧ w.cell? ⟨p, 1, none⟩ = some (.int .u32 (o.c : Int))
theorem PeB.old {w w' : World} {p : Nat} {o : Pe.O} (h : PeB w p o) (k : Kept Nothing w w') : PeB w' p o := ⟨k.cell_some h.1 (fun x => x), k.cell_some h.2 (fun x => x)⟩
set_option maxHeartbeats 1000000 in
theorem pe_wrong (o : Pe.O) (n : Nat) (hn : n < 4294967296) (p : Nat) (w : World) (hp : PeB w p o) (hs : Spans w) :
    Calls Tryd.prog 65 #[.int .u32 (n : Int), .pointer (some ⟨p, 0, none⟩)] w fun e w' => e = .returned (.bool (Pe.wrong o n)) ∧ Kept Nothing w w' := by
  have HT := Lib.hid (pe_told n hn w hs)
  have HP := Lib.hid hp
  have HW : Hid (Pe.wrong o n = (!Pe.told n || decide (n = o.m) || decide (n = o.c))) := Lib.hid rfl
  generalize Pe.told n = t at *
  generalize Pe.wrong o n = r at *
  clear hp hs
  cases t with
  | false =>
    obtain rfl : r = true := by rw [HW.out]; rfl
    go_enter Tryd.func65, Tryd.ntmps65
    go_wp2_with (go_at_call 22; refine (HT.out).mono ?_; rintro e w1 ⟨rfl, hk1⟩)
    go_ret
    exact ⟨rfl, hk1⟩
  | true =>
    go_enter Tryd.func65, Tryd.ntmps65
    go_wp2_with (go_at_call 22; refine (HT.out).mono ?_; rintro e w1 ⟨rfl, hk1⟩; (obtain ⟨p0, p1⟩ := HP.out.old hk1))
    all_goals
      go_ret
      refine ⟨ret_bool ?_, hk1⟩
      rw [HW.out, Bool.eq_iff_iff]
      simp
      try omega
theorem nat_drop {l : List Nat} {k : Nat} (h : k < l.length) : l.drop k = l.getD k 0 :: l.drop (k + 1) := by
  rw [List.drop_eq_getElem_cons h, List.getD_eq_getElem?_getD, List.getElem?_eq_getElem h]; rfl
theorem getD_memN {l : List Nat} {k : Nat} (h : k < l.length) : l.getD k 0 ∈ l := by
  rw [List.getD_eq_getElem?_getD, List.getElem?_eq_getElem h]; exact List.getElem_mem _
set_option maxHeartbeats 1000000 in
theorem pe_index (o : Pe.O) (A : Option Addr) (c : Nat) (l : List Nat) (p : Nat) (w : World) (hv : As w (.slice A l.length c) l) (hp : PeB w p o) (hs : Spans w) :
    Calls Tryd.prog 74 #[.slice A l.length c, .func (.func 65) #[] #[.pointer (some ⟨p, 0, none⟩)]] w fun e w' => ∃ z : Int, e = .returned (.int .i64 z) ∧ decide (0 ≤ z) = l.any (Pe.wrong o) ∧ Kept Nothing w w' := by
  have hm : l.length ≤ 9223372036854775807 := by obtain ⟨_, _, _, h1, h2⟩ := hv.form; unfold maxLen at h2; omega
  have HV := Lib.hid hv
  have HP := Lib.hid (And.intro hp hs)
  clear hv hp hs
  go_enter Tryd.func74, Tryd.ntmps74
  go_wp2
  go_loopw [8] (fun i wr => ∃ k : Nat, k ≤ l.length ∧ i = .int .i64 (k : Int) ∧ Kept Nothing w wr ∧ Hid ((l.drop k).any (Pe.wrong o) = l.any (Pe.wrong o))) (fun i _ => l.length - (intOf i).toNat)
  case atStart => exact ⟨0, Nat.zero_le _, rfl, Kept.refl _ _, Lib.hid rfl⟩
  case round =>
    obtain ⟨k, hk, rfl, hkw, HR⟩ := hrel
    by_cases hlt : k < l.length
    · obtain ⟨b, of, rfl, hc⟩ := HV.out.cell_at hkw (by omega)
      have c0 := hc k hlt
      have HK := Lib.hid hkw
      have hR := HR.out
      rw [nat_drop hlt, List.any_cons] at hR
      have HW := Lib.hid (pe_wrong o (l.getD k 0) (HV.out.1 _ (getD_memN hlt)) p wr (HP.out.1.old hkw) (HP.out.2.kept hkw))
      generalize l.getD k 0 = x at *
      clear hc hkw
      cases hlong : Pe.wrong o x with
      | true =>
        rw [hlong] at hR HW
        rw [Bool.true_or] at hR
        have HR2 := Lib.hid hR
        clear hlong HR hR
        go_wp2_with (go_at_call 65; with_reducible refine (HW.out).mono ?_; rintro e w1 ⟨rfl, hk1⟩)
        go_ret
        exact ⟨_, rfl, by rw [← HR2.out]; simp, HK.out.trans hk1⟩
      | false =>
        rw [hlong] at hR HW
        rw [Bool.false_or] at hR
        have HR2 := Lib.hid hR
        clear hlong HR hR
        go_wp2_with (go_at_call 65; with_reducible refine (HW.out).mono ?_; rintro e w1 ⟨rfl, hk1⟩)
        go_roundw
        case rel => exact ⟨k + 1, by omega, by go_num, HK.out.trans hk1, HR2⟩
        case measure => simp [intOf]; omega
    · have hR := HR.out
      rw [List.drop_eq_nil_of_le (by omega)] at hR
      have HR2 := Lib.hid hR
      clear HR hR
      go_wp2
      go_ret
      exact ⟨_, rfl, by rw [← HR2.out]; rfl, hkw⟩
theorem pe_contains (o : Pe.O) (A : Option Addr) (c : Nat) (l : List Nat) (p : Nat) (w : World) (hv : As w (.slice A l.length c) l) (hp : PeB w p o) (hs : Spans w) :
    Calls Tryd.prog 67 #[.slice A l.length c, .func (.func 65) #[] #[.pointer (some ⟨p, 0, none⟩)]] w fun e w' => e = .returned (.bool (l.any (Pe.wrong o))) ∧ Kept Nothing w w' := by
  have HC := Lib.hid (pe_index o A c l p w hv hp hs)
  clear hv hp hs
  go_enter Tryd.func67, Tryd.ntmps67
  go_wp2_with fail
  refine HC.out.mono ?_
  rintro e w' ⟨z, rfl, hz, hk⟩
  have HZ := Lib.hid hz
  clear hz
  go_wp2
  go_ret
  exact ⟨ret_bool HZ.out, hk⟩
set_option maxHeartbeats 1000000 in
theorem as_index (A : Option Addr) (c : Nat) (l : List Nat) (x : Nat) (w : World) (hv : As w (.slice A l.length c) l) :
    Calls Tryd.prog 75 #[.slice A l.length c, .int .u32 (x : Int)] w fun e w' => ∃ z : Int, e = .returned (.int .i64 z) ∧ decide (0 ≤ z) = l.any (fun k => decide (k = x)) ∧ Kept Nothing w w' := by
  have hm : l.length ≤ 9223372036854775807 := by obtain ⟨_, _, _, h1, h2⟩ := hv.form; unfold maxLen at h2; omega
  have HV := Lib.hid hv
  clear hv
  go_enter Tryd.func75, Tryd.ntmps75
  go_wp2
  go_loopw [8] (fun i wr => ∃ k : Nat, k ≤ l.length ∧ i = .int .i64 (k : Int) ∧ Kept Nothing w wr ∧ Hid ((l.drop k).any (fun k => decide (k = x)) = l.any (fun k => decide (k = x)))) (fun i _ => l.length - (intOf i).toNat)
  case atStart => exact ⟨0, Nat.zero_le _, rfl, Kept.refl _ _, Lib.hid rfl⟩
  case round =>
    obtain ⟨k, hk, rfl, hkw, HR⟩ := hrel
    by_cases hlt : k < l.length
    · obtain ⟨b, of, rfl, hc⟩ := HV.out.cell_at hkw (by omega)
      have c0 := hc k hlt
      have hR := HR.out
      rw [nat_drop hlt, List.any_cons] at hR
      generalize l.getD k 0 = y at *
      clear hc
      by_cases he : y = x
      · have hei : ((x : Int) == (y : Int)) = true := by simp; omega
        rw [decide_eq_true he, Bool.true_or] at hR
        have HR2 := Lib.hid hR
        clear he HR hR
        go_wp2
        go_ret
        exact ⟨_, rfl, by rw [← HR2.out]; simp, hkw⟩
      · have hei : ((x : Int) == (y : Int)) = false := by simp; omega
        rw [decide_eq_false he, Bool.false_or] at hR
        have HR2 := Lib.hid hR
        clear he HR hR
        go_wp2
        go_roundw
        case rel => exact ⟨k + 1, by omega, by go_num, hkw, HR2⟩
        case measure => simp [intOf]; omega
    · have hR := HR.out
      rw [List.drop_eq_nil_of_le (by omega)] at hR
      have HR2 := Lib.hid hR
      clear HR hR
      go_wp2
      go_ret
      exact ⟨_, rfl, by rw [← HR2.out]; rfl, hkw⟩
theorem as_has (A : Option Addr) (c : Nat) (l : List Nat) (x : Nat) (w : World) (hv : As w (.slice A l.length c) l) :
    Calls Tryd.prog 42 #[.slice A l.length c, .int .u32 (x : Int)] w fun e w' => e = .returned (.bool (l.any (fun k => decide (k = x)))) ∧ Kept Nothing w w' := by
  have HC := Lib.hid (as_index A c l x w hv)
  clear hv
  go_enter Tryd.func42, Tryd.ntmps42
  go_wp2_with fail
  refine HC.out.mono ?_
  rintro e w' ⟨z, rfl, hz, hk⟩
  have HZ := Lib.hid hz
  clear hz
  go_wp2
  go_ret
  exact ⟨ret_bool HZ.out, hk⟩
end Go.Proofs.YtembdobkgpojfaaDoor
