/-
  The law PrefixTexts.
-/
import Derived.Test.YtahifknebccpbaaDoorPt
namespace Go.Proofs.YtahifknebccpbaaDoor
open Go.RowKit

theorem or_swap (x : Nat) (hx : x < 4294967296) : bits .or .u32 ((x : Int) * 65536 % 4294967296) ((x : Int) / 65536) = ((x % 65536 * 65536 + x / 65536 : Nat) : Int) := by
  have e1 : (x : Int) * 65536 % 4294967296 = ((x % 65536 * 65536 : Nat) : Int) := by omega
  have e2 : (x : Int) / 65536 = ((x / 65536 : Nat) : Int) := by omega
  rw [e1, e2, u32_or_nat _ _ (by omega) (by omega), nat_join 16 _ _ (by omega) (by omega)]
theorem and_low (x : Nat) (hx : x < 4294967296) : bits .and .u32 (x : Int) 65535 = ((x % 65536 : Nat) : Int) := by
  rw [show (65535 : Int) = ((65535 : Nat) : Int) from rfl, u32_and_nat _ _ hx (by omega), show (65535 : Nat) = 2 ^ 16 - 1 from rfl, Nat.and_two_pow_sub_one_eq_mod]
theorem take60 (s : ByteArray) (k : Nat) : s.extract 0 k = ⟨(s.data.toList.take k).toArray⟩ := by
  have : s = ⟨s.data.toList.toArray⟩ := by cases s; rfl
  conv => lhs; rw [this]
  exact ext_lo _ k

set_option maxRecDepth 100000 in
set_option maxHeartbeats 4000000 in
theorem texts_law (x : Nat) (s : ByteArray) (hx : x < 4294967296) (hs : s.size ≤ 9223372036854775807) (w : World) (hr : Rdy w) :
    Calls Tryd.prog 8 #[.int .u32 (x : Int), .string s] w fun e w' => e = .returned (.bool true) ∧ Kept Nothing w w' := by
  have HT := Lib.hid tells_any
  have HS := Lib.hid (show (ipText (x % 65536 * 65536 + x / 65536) == ipText x) = ((x : Int) / 65536 == bits .and .u32 (x : Int) 65535) by
    rw [and_low x hx, Bool.eq_iff_iff]
    simp only [beq_iff_eq]
    constructor
    · intro h
      have := ipText_inj _ _ (by omega) hx h
      omega
    · intro h
      congr 1
      omega)
  have H1 := Lib.hid (ipText_any x hx)
  have P1 : ∀ w, Calls Tryd.prog 29 #[.string ⟨(ipText x).toArray⟩] w fun e w' => e = .returned (.tuple #[.int .u32 (x : Nat), .int .i64 0]) ∧ Kept Nothing w w' := fun w => by
    have := parseIP_any (ipText x) (Nat.le_trans (ipText_len x) (by omega)) w
    rwa [ipText_eq, parseIP_text x hx, ← ipText_eq] at this
  have P1 := Lib.hid P1
  have HY := Lib.hid (or_swap x hx)
  have H2 := Lib.hid (ipText_any (x % 65536 * 65536 + x / 65536) (by omega))
  obtain ⟨l, hl⟩ : ∃ l, s.data.toList.take (min (s.size : Int) 60).toNat = l := ⟨_, rfl⟩
  have hll : l.length ≤ 60 := by rw [← hl]; simp; omega
  have HE := take60 s (min (s.size : Int) 60).toNat
  rw [hl] at HE
  clear hl
  have HP := parseIP_any l (by omega)
  have HQ := parse_any l (by omega)
  have hv2 := parseIP_lt l
  have he := eq_pfx
  have hg := guard_pfx
  by_cases hz : (parseIP l).2 = 0
  · have hinv := parseIP_inv l hz
    have HI := ipText_any (parseIP l).1 hv2
    rw [ipText_eq, hinv] at HI
    rw [hz] at HP
    generalize (parseIP l).1 = v2 at HP HI
    have HP := Lib.hid HP
    have HI := Lib.hid HI
    clear hinv hz
    by_cases hy : (parse l).2 = 0
    · obtain ⟨hinv, hm, hlt⟩ := parse_inv l hy
      have HX := text_any (parse l).1.1 ((parse l).1.2 : Nat) hlt
      rw [text_eq, hinv] at HX
      unfold ptup at HQ
      rw [hy] at HQ
      generalize (parse l).1.1 = v3 at HQ HX
      generalize (parse l).1.2 = b3 at HQ HX
      have HQ := Lib.hid HQ
      have HX := Lib.hid HX
      clear hinv hm hlt hy
      go_enter Tryd.func8, Tryd.ntmps8
      go_wp2_with (first
        | (go_at_call 22; (with_reducible refine (H1.out _ hr).mono ?_); rintro e w1 ⟨rfl, hk1⟩)
        | (go_at_call 29; (with_reducible refine (P1.out _).mono ?_); rintro e w2 ⟨rfl, hk2⟩; have k2 := hk1.trans hk2)
        | (go_at_call 29; (with_reducible refine (HP.out _).mono ?_); rintro e w3 ⟨rfl, hk3⟩; have k3 := k2.trans hk3)
        | (go_at_call 31; (with_reducible refine (HQ.out _).mono ?_); rintro e w4 ⟨rfl, hk4⟩; have k4 := (k3.trans hk4).alloc (.cells #[.int .u32 (v3 : Nat), .int .i64 (b3 : Nat)] 25); have B4 := Blk.fresh w4 25 #[.int .u32 (v3 : Nat), .int .i64 (b3 : Nat)])
        | (go_at_call 22; rw [HY.out]; refine (H2.out _ (hr.kept k4)).mono ?_; rintro e w5 ⟨rfl, hk5⟩; have k5 := k4.trans hk5; have B5 := B4.kept hk5 (fun x => x); have c0 : w5.cell? ⟨w4.heap.size, 0, none⟩ = some (.int .u32 (v3 : Nat)) := B5.cell 0; have c1 : w5.cell? ⟨w4.heap.size, 1, none⟩ = some (.int .i64 (b3 : Nat)) := B5.cell 1)
        | (go_at_call 22; (with_reducible refine (HI.out _ (hr.kept k5)).mono ?_); rintro e w6 ⟨rfl, hk6⟩; have k6 := k5.trans hk6; have B6 := B5.kept hk6 (fun x => x); have c2 : w6.cell? ⟨w4.heap.size, 0, none⟩ = some (.int .u32 (v3 : Nat)) := B6.cell 0; have c3 : w6.cell? ⟨w4.heap.size, 1, none⟩ = some (.int .i64 (b3 : Nat)) := B6.cell 1)
        | (go_at_call 13; (with_reducible refine (HX.out _ (hr.kept k6)).mono ?_); rintro e w7 ⟨rfl, hk7⟩; have k7 := k6.trans hk7)
        | (go_at_call 13; (with_reducible refine (HX.out _ (hr.kept k5)).mono ?_); rintro e w7 ⟨rfl, hk7⟩; have k7 := k5.trans hk7)
        | (go_at_call 28; (with_reducible refine (HT.out _ (hr.kept k7)).mono ?_); rintro e w8 ⟨rfl, hk8⟩; have k8 := k7.trans hk8)
        | (go_at_call 28; (with_reducible refine (HT.out _ (hr.kept k6)).mono ?_); rintro e w8 ⟨rfl, hk8⟩; have k8 := k6.trans hk8)
        | (go_at_call 28; (with_reducible refine (HT.out _ (hr.kept k5)).mono ?_); rintro e w8 ⟨rfl, hk8⟩; have k8 := k5.trans hk8))
      all_goals first
        | (exfalso; exact absurd HS.out (by assumption))
        | (go_ret; exact ⟨rfl, k8⟩)
    · have hzero := parse_zero l hy
      unfold ptup at HQ
      rw [hzero] at HQ
      generalize (parse l).2 = e3 at HQ hy
      have hy1 : (e3 == 0) = false := by simpa using hy
      have hy2 : (e3 != 0) = true := by simpa using hy
      have HQ : ∀ w, Calls Tryd.prog 31 #[.string ⟨l.toArray⟩] w fun e w' => e = .returned (.tuple #[.agg #[.int .u32 0, .int .i64 0], .int .i64 e3]) ∧ Kept Nothing w w' := HQ
      have HQ := Lib.hid HQ
      clear hzero hy
      go_enter Tryd.func8, Tryd.ntmps8
      go_wp2_with (first
        | (go_at_call 22; (with_reducible refine (H1.out _ hr).mono ?_); rintro e w1 ⟨rfl, hk1⟩)
        | (go_at_call 29; (with_reducible refine (P1.out _).mono ?_); rintro e w2 ⟨rfl, hk2⟩; have k2 := hk1.trans hk2)
        | (go_at_call 29; (with_reducible refine (HP.out _).mono ?_); rintro e w3 ⟨rfl, hk3⟩; have k3 := k2.trans hk3)
        | (go_at_call 31; (with_reducible refine (HQ.out _).mono ?_); rintro e w4 ⟨rfl, hk4⟩; have k4 := (k3.trans hk4).alloc (.cells #[.int .u32 0, .int .i64 0] 25); have B4 := Blk.fresh w4 25 #[.int .u32 0, .int .i64 0])
        | (go_at_call 22; rw [HY.out]; refine (H2.out _ (hr.kept k4)).mono ?_; rintro e w5 ⟨rfl, hk5⟩; have k5 := k4.trans hk5; have B5 := B4.kept hk5 (fun x => x); have c0 : w5.cell? ⟨w4.heap.size, 0, none⟩ = some (.int .u32 0) := B5.cell 0; have c1 : w5.cell? ⟨w4.heap.size, 1, none⟩ = some (.int .i64 0) := B5.cell 1)
        | (go_at_call 22; (with_reducible refine (HI.out _ (hr.kept k5)).mono ?_); rintro e w6 ⟨rfl, hk6⟩; have k6 := k5.trans hk6; have B6 := B5.kept hk6 (fun x => x); have c2 : w6.cell? ⟨w4.heap.size, 0, none⟩ = some (.int .u32 0) := B6.cell 0; have c3 : w6.cell? ⟨w4.heap.size, 1, none⟩ = some (.int .i64 0) := B6.cell 1)
        | (go_at_call 13; (with_reducible refine (HX.out _ (hr.kept k6)).mono ?_); rintro e w7 ⟨rfl, hk7⟩; have k7 := k6.trans hk7)
        | (go_at_call 13; (with_reducible refine (HX.out _ (hr.kept k5)).mono ?_); rintro e w7 ⟨rfl, hk7⟩; have k7 := k5.trans hk7)
        | (go_at_call 28; (with_reducible refine (HT.out _ (hr.kept k7)).mono ?_); rintro e w8 ⟨rfl, hk8⟩; have k8 := k7.trans hk8)
        | (go_at_call 28; (with_reducible refine (HT.out _ (hr.kept k6)).mono ?_); rintro e w8 ⟨rfl, hk8⟩; have k8 := k6.trans hk8)
        | (go_at_call 28; (with_reducible refine (HT.out _ (hr.kept k5)).mono ?_); rintro e w8 ⟨rfl, hk8⟩; have k8 := k5.trans hk8))
      all_goals first
        | (exfalso; exact absurd HS.out (by assumption))
        | (go_ret; exact ⟨rfl, k8⟩)
  · have hzero := parseIP_zero l hz
    rw [hzero] at HP
    generalize (parseIP l).2 = e2 at HP hz
    have hz1 : (e2 == 0) = false := by simpa using hz
    have hz2 : (e2 != 0) = true := by simpa using hz
    have HP : ∀ w, Calls Tryd.prog 29 #[.string ⟨l.toArray⟩] w fun e w' => e = .returned (.tuple #[.int .u32 0, .int .i64 e2]) ∧ Kept Nothing w w' := HP
    have HP := Lib.hid HP
    clear hzero hz
    by_cases hy : (parse l).2 = 0
    · obtain ⟨hinv, hm, hlt⟩ := parse_inv l hy
      have HX := text_any (parse l).1.1 ((parse l).1.2 : Nat) hlt
      rw [text_eq, hinv] at HX
      unfold ptup at HQ
      rw [hy] at HQ
      generalize (parse l).1.1 = v3 at HQ HX
      generalize (parse l).1.2 = b3 at HQ HX
      have HQ := Lib.hid HQ
      have HX := Lib.hid HX
      clear hinv hm hlt hy
      go_enter Tryd.func8, Tryd.ntmps8
      go_wp2_with (first
        | (go_at_call 22; (with_reducible refine (H1.out _ hr).mono ?_); rintro e w1 ⟨rfl, hk1⟩)
        | (go_at_call 29; (with_reducible refine (P1.out _).mono ?_); rintro e w2 ⟨rfl, hk2⟩; have k2 := hk1.trans hk2)
        | (go_at_call 29; (with_reducible refine (HP.out _).mono ?_); rintro e w3 ⟨rfl, hk3⟩; have k3 := k2.trans hk3)
        | (go_at_call 31; (with_reducible refine (HQ.out _).mono ?_); rintro e w4 ⟨rfl, hk4⟩; have k4 := (k3.trans hk4).alloc (.cells #[.int .u32 (v3 : Nat), .int .i64 (b3 : Nat)] 25); have B4 := Blk.fresh w4 25 #[.int .u32 (v3 : Nat), .int .i64 (b3 : Nat)])
        | (go_at_call 22; rw [HY.out]; refine (H2.out _ (hr.kept k4)).mono ?_; rintro e w5 ⟨rfl, hk5⟩; have k5 := k4.trans hk5; have B5 := B4.kept hk5 (fun x => x); have c0 : w5.cell? ⟨w4.heap.size, 0, none⟩ = some (.int .u32 (v3 : Nat)) := B5.cell 0; have c1 : w5.cell? ⟨w4.heap.size, 1, none⟩ = some (.int .i64 (b3 : Nat)) := B5.cell 1)
        | (go_at_call 22; (with_reducible refine (HI.out _ (hr.kept k5)).mono ?_); rintro e w6 ⟨rfl, hk6⟩; have k6 := k5.trans hk6; have B6 := B5.kept hk6 (fun x => x); have c2 : w6.cell? ⟨w4.heap.size, 0, none⟩ = some (.int .u32 (v3 : Nat)) := B6.cell 0; have c3 : w6.cell? ⟨w4.heap.size, 1, none⟩ = some (.int .i64 (b3 : Nat)) := B6.cell 1)
        | (go_at_call 13; (with_reducible refine (HX.out _ (hr.kept k6)).mono ?_); rintro e w7 ⟨rfl, hk7⟩; have k7 := k6.trans hk7)
        | (go_at_call 13; (with_reducible refine (HX.out _ (hr.kept k5)).mono ?_); rintro e w7 ⟨rfl, hk7⟩; have k7 := k5.trans hk7)
        | (go_at_call 28; (with_reducible refine (HT.out _ (hr.kept k7)).mono ?_); rintro e w8 ⟨rfl, hk8⟩; have k8 := k7.trans hk8)
        | (go_at_call 28; (with_reducible refine (HT.out _ (hr.kept k6)).mono ?_); rintro e w8 ⟨rfl, hk8⟩; have k8 := k6.trans hk8)
        | (go_at_call 28; (with_reducible refine (HT.out _ (hr.kept k5)).mono ?_); rintro e w8 ⟨rfl, hk8⟩; have k8 := k5.trans hk8))
      all_goals first
        | (exfalso; exact absurd HS.out (by assumption))
        | (go_ret; exact ⟨rfl, k8⟩)
    · have hzero := parse_zero l hy
      unfold ptup at HQ
      rw [hzero] at HQ
      generalize (parse l).2 = e3 at HQ hy
      have hy1 : (e3 == 0) = false := by simpa using hy
      have hy2 : (e3 != 0) = true := by simpa using hy
      have HQ : ∀ w, Calls Tryd.prog 31 #[.string ⟨l.toArray⟩] w fun e w' => e = .returned (.tuple #[.agg #[.int .u32 0, .int .i64 0], .int .i64 e3]) ∧ Kept Nothing w w' := HQ
      have HQ := Lib.hid HQ
      clear hzero hy
      go_enter Tryd.func8, Tryd.ntmps8
      go_wp2_with (first
        | (go_at_call 22; (with_reducible refine (H1.out _ hr).mono ?_); rintro e w1 ⟨rfl, hk1⟩)
        | (go_at_call 29; (with_reducible refine (P1.out _).mono ?_); rintro e w2 ⟨rfl, hk2⟩; have k2 := hk1.trans hk2)
        | (go_at_call 29; (with_reducible refine (HP.out _).mono ?_); rintro e w3 ⟨rfl, hk3⟩; have k3 := k2.trans hk3)
        | (go_at_call 31; (with_reducible refine (HQ.out _).mono ?_); rintro e w4 ⟨rfl, hk4⟩; have k4 := (k3.trans hk4).alloc (.cells #[.int .u32 0, .int .i64 0] 25); have B4 := Blk.fresh w4 25 #[.int .u32 0, .int .i64 0])
        | (go_at_call 22; rw [HY.out]; refine (H2.out _ (hr.kept k4)).mono ?_; rintro e w5 ⟨rfl, hk5⟩; have k5 := k4.trans hk5; have B5 := B4.kept hk5 (fun x => x); have c0 : w5.cell? ⟨w4.heap.size, 0, none⟩ = some (.int .u32 0) := B5.cell 0; have c1 : w5.cell? ⟨w4.heap.size, 1, none⟩ = some (.int .i64 0) := B5.cell 1)
        | (go_at_call 22; (with_reducible refine (HI.out _ (hr.kept k5)).mono ?_); rintro e w6 ⟨rfl, hk6⟩; have k6 := k5.trans hk6; have B6 := B5.kept hk6 (fun x => x); have c2 : w6.cell? ⟨w4.heap.size, 0, none⟩ = some (.int .u32 0) := B6.cell 0; have c3 : w6.cell? ⟨w4.heap.size, 1, none⟩ = some (.int .i64 0) := B6.cell 1)
        | (go_at_call 13; (with_reducible refine (HX.out _ (hr.kept k6)).mono ?_); rintro e w7 ⟨rfl, hk7⟩; have k7 := k6.trans hk7)
        | (go_at_call 13; (with_reducible refine (HX.out _ (hr.kept k5)).mono ?_); rintro e w7 ⟨rfl, hk7⟩; have k7 := k5.trans hk7)
        | (go_at_call 28; (with_reducible refine (HT.out _ (hr.kept k7)).mono ?_); rintro e w8 ⟨rfl, hk8⟩; have k8 := k7.trans hk8)
        | (go_at_call 28; (with_reducible refine (HT.out _ (hr.kept k6)).mono ?_); rintro e w8 ⟨rfl, hk8⟩; have k8 := k6.trans hk8)
        | (go_at_call 28; (with_reducible refine (HT.out _ (hr.kept k5)).mono ?_); rintro e w8 ⟨rfl, hk8⟩; have k8 := k5.trans hk8))
      all_goals first
        | (exfalso; exact absurd HS.out (by assumption))
        | (go_ret; exact ⟨rfl, k8⟩)
end Go.Proofs.YtahifknebccpbaaDoor
