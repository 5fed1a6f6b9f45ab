
/-
  The law PrefixReads.
-/
import Derived.Test.YtfjhpeijlhlaeaaDoorSf
import Derived.Test.YtfjhpeijlhlaeaaDoorPl
import Derived.Test.YtfjhpeijlhlaeaaDoorPi
namespace Go.Proofs.YtfjhpeijlhlaeaaDoor
open Go.RowKit

theorem Pfs.of_own2 {w : World} {base : Nat} {v : Value} {l : List (Nat × Nat)} (h : w.ownsRow base 27 2 v l.length (pcs l)) (hx : ∀ x ∈ l, x.1 < 4294967296) : Pfs w v (ups l) := by
  obtain ⟨A, c, rfl, hn, hm⟩ := ow_form h
  refine ⟨A, c, by rw [ups_len], by rw [ups_len]; exact hn, hm, fun x hx' => ?_, fun h0 => ?_⟩
  · obtain ⟨y, hy, rfl⟩ := List.mem_map.1 hx'
    exact hx y hy
  · rw [ups_len] at h0
    obtain ⟨g, c', hv, _, hcell⟩ := own_at h h0
    injection hv with hA
    refine ⟨g, 0, hA, fun i hi => ?_⟩
    rw [ups_len] at hi
    have hp := pcs_at l i hi
    have hl := pcs_len l
    have e : (ups l)[i]'(by rw [ups_len]; exact hi) = (l[i].1, (l[i].2 : Int)) := by simp [ups]
    rw [e, Nat.zero_add, hcell _ (by omega), hcell _ (by omega)]
    exact hp
theorem readL_fit (b : List UInt8) (hb : b.length ≤ 200) : (∀ p ∈ (readL b).1, p.1 < 4294967296) ∧ (readL b).1.length ≤ 200 := by
  rcases hq : readL b with ⟨ns, e⟩
  have hnil := readP_nil b.length b
  have herr := read_err b
  have hq' := hq
  unfold readL at hq'
  rw [hq'] at hnil
  rw [hq] at herr
  simp only at hnil herr ⊢
  by_cases h0 : e = 0
  · subst h0
    obtain ⟨_, i2, _, i4⟩ := read_inv _ ns hq
    exact ⟨fun p hp => i2 (p.1, (p.2 : Int)) (List.mem_map.2 ⟨p, hp, rfl⟩), by omega⟩
  · rw [hnil h0]
    exact ⟨fun p hp => absurd hp (List.not_mem_nil), Nat.zero_le _⟩
theorem ext60 (s : ByteArray) (k : Nat) : s.extract 0 k = ⟨(s.data.toList.take k).toArray⟩ := by
  have : s = ⟨s.data.toList.toArray⟩ := by cases s; rfl
  conv => lhs; rw [this]
  exact ext_lo _ k
theorem parse_lt (l : List UInt8) : (parse l).1.1 < 4294967296 := by
  have := parseIP_lt (cutAt 47 l).1
  unfold parse
  repeat' split
  all_goals first | exact this | decide

set_option maxRecDepth 100000 in
set_option maxHeartbeats 4000000 in
theorem preads_law (s : ByteArray) (v : Value) (lb : List UInt8) (hs : s.size ≤ 9223372036854775807) (w : World) (hr : Rdy w) (h1 : By w v lb) :
    Calls Tryd.prog 4 #[.string s, v] w fun e w' => e = .returned (.bool true) ∧ Kept Nothing w w' := by
  have HT := Lib.hid tells_any
  have HLO := Lib.hid lof_any
  have he := eq_ref
  obtain ⟨A, c, rfl, hc, hm⟩ := h1.form
  have HB1 := Lib.hid (h1.pre (m := (min (lb.length : Int) 200).toNat) (by omega))
  have hbl : (lb.take (min (lb.length : Int) 200).toNat).length ≤ 200 := by rw [List.length_take]; omega
  have hmc : (min (lb.length : Int) 200).toNat ≤ c := by omega
  obtain ⟨l, hl⟩ : ∃ l, s.data.toList.take (min (s.size : Int) 60).toNat = l := ⟨_, rfl⟩
  have hll : l.length ≤ 60 := by rw [← hl]; simp; omega
  have HE := ext60 s (min (s.size : Int) 60).toNat
  rw [hl] at HE
  have HP := parseIP_any l (by omega)
  have HQ := parse_any l (by omega)
  have HP2 := rparseIP_any ⟨l.toArray⟩ (by show l.toArray.size ≤ _; simp; omega)
  have HQ2 := rparse_any ⟨l.toArray⟩ (by show l.toArray.size ≤ _; simp; omega)
  have el : (ByteArray.mk l.toArray).data.toList = l := rfl
  rw [el, rparseIP_eq] at HP2
  rw [el, rparse_eq] at HQ2
  unfold ptup at HQ HQ2
  clear hl el
  generalize lb.take (min (lb.length : Int) 200).toNat = bt at HB1 hbl
  have HR := Lib.hid (fun v w hv => read_any v bt (by omega) w hv)
  have HR2 := Lib.hid (fun v w hv => rread_any v bt (by omega) w hv)
  obtain ⟨hqx, hql⟩ := readL_fit bt hbl
  generalize (readL bt).1 = qs at HR HR2 hqx hql
  generalize (readL bt).2 = e3 at HR HR2
  generalize (parseIP l).1 = x1 at HP HP2
  generalize (parseIP l).2 = e1 at HP HP2
  generalize (parse l).1.1 = x2 at HQ HQ2
  generalize (parse l).1.2 = b2 at HQ HQ2
  generalize (parse l).2 = e2 at HQ HQ2
  have HP := Lib.hid HP
  have HQ := Lib.hid HQ
  have HP2 := Lib.hid HP2
  have HQ2 := Lib.hid HQ2
  have HQX := Lib.hid hqx
  have hqu : (ups qs).length ≤ 100000 := by rw [ups_len]; omega
  have HQU := Lib.hid hqu
  have hkm : ((min (lb.length : Int) 200).toNat : Int) = min (lb.length : Int) 200 := by omega
  have hkm2 : ((min (s.size : Int) 60).toNat : Int) = min (s.size : Int) 60 := by omega
  have hsl := slice_hi A lb.length c (min (lb.length : Int) 200).toNat hmc
  rw [hkm] at hsl
  clear hqx hqu h1
  go_enter Tryd.func4, Tryd.ntmps4
  go_wp2
  refine wp_region_up (by kernel_rfl) (by kernel_rfl) ?_
  repeat (go_big_quiet_step (fail))
  refine wpQuiet_nil ?_
  rintro w0 ⟨⟨_, k0⟩, rfl⟩
  go_wp2_with (first
    | (go_at_call 29; (with_reducible refine (HP.out _).mono ?_); rintro e w1 ⟨rfl, hk1⟩; have k1 := k0.trans hk1)
    | (go_at_call 30; (with_reducible refine (HP2.out _).mono ?_); rintro e w2 ⟨rfl, rfl⟩)
    | (go_at_call 31; (with_reducible refine (HQ.out _).mono ?_); rintro e w3 ⟨rfl, hk3⟩; have k3 := Lib.hid ((k1.trans hk3).alloc (.cells #[.int .u32 (x2 : Nat), .int .i64 (b2 : Nat)] 25)); have B3 := Lib.hid (Blk.fresh w3 25 #[.int .u32 (x2 : Nat), .int .i64 (b2 : Nat)]))
    | (go_at_call 32; (with_reducible refine (HQ2.out _).mono ?_); rintro e w4 ⟨rfl, hk4⟩; have k4 := Lib.hid ((k3.out.trans hk4).alloc (.cells #[.int .u32 (x2 : Nat), .int .i64 (b2 : Nat)] 27)); have B4 := Lib.hid (Blk.fresh w4 27 #[.int .u32 (x2 : Nat), .int .i64 (b2 : Nat)]); have C3 := Lib.hid ((B3.out.kept hk4 (fun x => x)).alloc (.cells #[.int .u32 (x2 : Nat), .int .i64 (b2 : Nat)] 27)))
    | (go_at_call 33; refine (HR.out _ _ (HB1.out.old k4.out)).mono ?_; rintro e w5 ⟨r5, rfl, ho5, hk5⟩; have P5 := Lib.hid (Pfs.of_own ho5 HQX.out); clear ho5; have k5 := Lib.hid (k4.out.trans hk5); have D3 := Lib.hid (C3.out.kept hk5 (fun x => x)); have D4 := Lib.hid (B4.out.kept hk5 (fun x => x)))
    | (go_at_call 34; refine (HR2.out _ _ (HB1.out.old k5.out)).mono ?_; rintro e w6 ⟨r6, rfl, ho6, hk6⟩; have P6 := Lib.hid (Pfs.of_own2 ho6 HQX.out); clear ho6; have Q5 := Lib.hid (P5.out.old hk6); have k6 := Lib.hid (k5.out.trans hk6); have E3 := Lib.hid (D3.out.kept hk6 (fun x => x)); have E4 := Lib.hid (D4.out.kept hk6 (fun x => x))))
  have d30 := up_cell (v := .int .u32 (x2 : Int)) (E3.out.cell 0)
  have d31 := up_cell (v := .int .i64 (b2 : Int)) (E3.out.cell 1)
  have d40 := up_cell (v := .int .u32 (x2 : Int)) (E4.out.cell 0)
  have d41 := up_cell (v := .int .i64 (b2 : Int)) (E4.out.cell 1)
  have K := k6
  clear HP HQ HP2 HQ2 HR HR2 B3 B4 C3 D3 D4 E3 E4 P5 k3 k4 k5 k6 HB1 hsl
  refine wp_region_up (by kernel_rfl) (by kernel_rfl) ?_
  repeat (go_big_quiet_step ((first
    | (go_at_call 10; (with_reducible exact up_call (HLO.out _ _ _)))
    | (go_at_call 35; exact up_call (like_any _ _ (ups qs) _ HQU.out (Q5.out.old (Up.kept _)) (P6.out.old (Up.kept _))))
    | (go_at_call 28; exact up_call (HT.out _ ((hr.kept K.out).kept (Up.kept _)))))))
  refine wpQuiet_nil ?_
  rintro w7 ⟨⟨_, k7⟩, rfl⟩
  clear d30 d31 d40 d41
  go_wp2
  go_ret
  exact ⟨rfl, K.out.trans k7⟩
end Go.Proofs.YtfjhpeijlhlaeaaDoor
