
/-
  The law's wakes.
-/
import Derived.Test.YthjljamngpddmaaGreatDoorY17
namespace Go.Proofs.YthjljamngpddmaaGreatDoor
open Go.RowKit Go.Shelf

theorem idxR0 (a b c d e f g h i j k l : Value) (w : World) : (Instr.index 109 (.agg #[a, b, c, d, e, f, g, h, i, j, k, l]) (.int .i64 0)).run Tryz.prog w = .ok (.agg #[a, b, c]) w := by
  unfold Instr.index
  simp [go_sem, run_underlying Tryz.underlying109, Tryz.sizeOf75]
theorem idxR1 (a b c d e f g h i j k l : Value) (w : World) : (Instr.index 109 (.agg #[a, b, c, d, e, f, g, h, i, j, k, l]) (.int .i64 1)).run Tryz.prog w = .ok (.agg #[d, e, f]) w := by
  unfold Instr.index
  simp [go_sem, run_underlying Tryz.underlying109, Tryz.sizeOf75]
theorem idxR2 (a b c d e f g h i j k l : Value) (w : World) : (Instr.index 109 (.agg #[a, b, c, d, e, f, g, h, i, j, k, l]) (.int .i64 2)).run Tryz.prog w = .ok (.agg #[g, h, i]) w := by
  unfold Instr.index
  simp [go_sem, run_underlying Tryz.underlying109, Tryz.sizeOf75]
theorem idxR3 (a b c d e f g h i j k l : Value) (w : World) : (Instr.index 109 (.agg #[a, b, c, d, e, f, g, h, i, j, k, l]) (.int .i64 3)).run Tryz.prog w = .ok (.agg #[j, k, l]) w := by
  unfold Instr.index
  simp [go_sem, run_underlying Tryz.underlying109, Tryz.sizeOf75]

set_option maxRecDepth 100000 in
set_option maxHeartbeats 4000000 in
theorem wakes9 (w : World) (hr : Rdy2 w) (hs : Bkt w) :
    Calls Tryz.prog 32 #[] w fun e w' => e = .returned (.bool true) ∧ Kept Nothing w w' := by
  have HB : ∀ k, k < 4 → Asc (Fz.wk k).1 ∧ Asc (Fz.wk k).2.1 ∧ (Fz.wk k).1.length ≤ 90000 ∧ (Fz.wk k).2.1.length ≤ 90000 ∧ (Fz.wp k).1.length ≤ 1000000 ∧ (Fz.wp k).2.length ≤ 1000000 ∧ (∀ s ∈ (Fz.wp k).1, s.2.length ≤ 1000000) ∧ (∀ s ∈ (Fz.wp k).2, s.2.length ≤ 1000000) ∧ (∀ s ∈ plains (Fz.wp k).2, s.2 ≠ []) ∧ (Fz.wf k).length ≤ 1000000 := fun k hk => by
    obtain rfl | rfl | rfl | rfl : k = 0 ∨ k = 1 ∨ k = 2 ∨ k = 3 := by omega
    all_goals exact ⟨asc_of rfl, asc_of rfl, by decide, by decide, by decide, by decide, by decide, by decide, by decide, by decide⟩
  have HC := Lib.hid (fun k (hk : k < 4) => row_calls w hr hs _ _ _ _ _ _ (HB k hk).1 (HB k hk).2.1 (HB k hk).2.2.1 (HB k hk).2.2.2.1 (Fz.wk_parse k hk).1 (Fz.wk_parse k hk).2 (HB k hk).2.2.2.2.1 (HB k hk).2.2.2.2.2.1 (HB k hk).2.2.2.2.2.2.1 (HB k hk).2.2.2.2.2.2.2.1 (HB k hk).2.2.2.2.2.2.2.2.1 (Fz.wk_fuse k hk) (Fz.wk_text k hk) (HB k hk).2.2.2.2.2.2.2.2.2)
  clear hr hs HB
  have hi0 := idxR0
  have hi1 := idxR1
  have hi2 := idxR2
  have hi3 := idxR3
  go_enter Tryz.func32, Tryz.ntmps32
  go_wp2
  go_loopw [8] (fun i wr => ∃ k : Nat, i = .int .i64 (k : Int) ∧ k ≤ 4 ∧ Hid (Kept Nothing w wr)) (fun i _ => 4 - (intOf i).toNat)
  case atStart => exact ⟨0, rfl, Nat.zero_le _, Lib.hid (Kept.refl _ _)⟩
  case round =>
    obtain ⟨k, rfl, hk, KK⟩ := hrel
    by_cases h4 : k = 4
    · subst h4
      clear HC
      go_wp2
      go_ret
      exact ⟨rfl, KK.out⟩
    · have hc := HC.out k (by omega)
      obtain rfl | rfl | rfl | rfl : k = 0 ∨ k = 1 ∨ k = 2 ∨ k = 3 := by omega
      · clear HC
        have C1 : Hid (∀ u, Kept Nothing w u → Calls Tryz.prog 41 #[.string ⟨#[53, 32, 49, 48, 32, 50, 51, 52, 53, 54]⟩] u fun e w' => ∃ rv, e = .returned rv ∧ Pts w' rv (Fz.wp 0).1 ∧ Kept Nothing u w') := Lib.hid hc.1
        have C2 : Hid (∀ u, Kept Nothing w u → Calls Tryz.prog 41 #[.string ⟨#[49, 48, 32, 55, 48, 48, 48, 48]⟩] u fun e w' => ∃ rv, e = .returned rv ∧ Pts w' rv (Fz.wp 0).2 ∧ Kept Nothing u w') := Lib.hid hc.2.1
        have C3 := Lib.hid hc.2.2.1
        have C4 : Hid (∀ x u, Kept Nothing w u → Pts u x (Fz.wf 0) → Calls Tryz.prog 21 #[x] u fun e w' => e = .returned (.string ⟨#[53, 32, 49, 48, 32, 55, 48, 48, 48, 48]⟩) ∧ Kept Nothing u w') := Lib.hid hc.2.2.2
        clear hc
        go_upto_region 4 with fail
        have b0 := Blk.fresh wr 75 #[.string ⟨#[53, 32, 49, 48, 32, 50, 51, 52, 53, 54]⟩, .string ⟨#[49, 48, 32, 55, 48, 48, 48, 48]⟩, .string ⟨#[53, 32, 49, 48, 32, 55, 48, 48, 48, 48]⟩]
        have k0 := (Kept.refl Nothing wr).alloc (.cells #[.string ⟨#[53, 32, 49, 48, 32, 50, 51, 52, 53, 54]⟩, .string ⟨#[49, 48, 32, 55, 48, 48, 48, 48]⟩, .string ⟨#[53, 32, 49, 48, 32, 55, 48, 48, 48, 48]⟩] 75)
        obtain ⟨w1, hw1⟩ : ∃ w1, wr.alloc (.cells #[.string ⟨#[53, 32, 49, 48, 32, 50, 51, 52, 53, 54]⟩, .string ⟨#[49, 48, 32, 55, 48, 48, 48, 48]⟩, .string ⟨#[53, 32, 49, 48, 32, 55, 48, 48, 48, 48]⟩] 75) = w1 := ⟨_, rfl⟩
        rw [hw1] at b0 k0 ⊢
        have c0 := b0.cell 0
        have c1 := b0.cell 1
        have c2 := b0.cell 2
        have B0 := Lib.hid b0
        have K0 := Lib.hid (KK.out.trans k0)
        generalize wr.heap.size = bn at *
        clear b0 k0 hw1
        go_region_law (first
          | (go_simp; go_at_call 21; refine (C4.out _ _ K4.out P4.out).mono ?_; rintro e w5 ⟨rfl, k5⟩; (have d2 := (B4.out.kept k5 (fun x => x)).cell 2); (have K5 := Lib.hid (K4.out.trans k5)); clear k5)
          | (go_simp; go_at_call 33; refine (C3.out _ _ _ (P2.out.old M3.out) P3.out).mono ?_; rintro e w4 ⟨v4, rfl, p4, k4⟩; (obtain ⟨A4, cc4, rfl, _, _⟩ := p4.form); (have B4 := Lib.hid (B3.out.kept k4 (fun x => x))); (have g2 := B4.out.cell 2); (have P4 := Lib.hid p4); (have K4 := Lib.hid (K3.out.trans k4)); clear p4 k4)
          | (go_simp; go_at_call 41; refine (C2.out _ K2.out).mono ?_; rintro e w3 ⟨v3, rfl, p3, k3⟩; (obtain ⟨A3, cc3, rfl, _, _⟩ := p3.form); (have B3 := Lib.hid (B2.out.kept k3 (fun x => x))); (have h2 := B3.out.cell 2); (have P3 := Lib.hid p3); (have K3 := Lib.hid (K2.out.trans k3)); (have M3 := Lib.hid k3); clear p3 k3)
          | (go_simp; go_at_call 41; refine (C1.out _ (by exact K0.out.drew)).mono ?_; rintro e w2 ⟨v2, rfl, p2, k2⟩; (obtain ⟨A2, cc2, rfl, _, _⟩ := p2.form); (have B2 := Lib.hid (B0.out.kept (((Kept.refl Nothing w1).drew).trans k2) (fun x => x))); (have i1 := B2.out.cell 1); (have i2 := B2.out.cell 2); (have P2 := Lib.hid p2); (have K2 := Lib.hid (K0.out.drew.trans k2)); clear p2 k2))
        all_goals
          go_wp2
          go_roundw
          case rel => exact ⟨0 + 1, by go_num, by omega, Lib.hid K5.out⟩
          case measure => simp [intOf]
      · clear HC
        have C1 : Hid (∀ u, Kept Nothing w u → Calls Tryz.prog 41 #[.string ⟨#[50, 51, 52, 53, 54]⟩] u fun e w' => ∃ rv, e = .returned rv ∧ Pts w' rv (Fz.wp 1).1 ∧ Kept Nothing u w') := Lib.hid hc.1
        have C2 : Hid (∀ u, Kept Nothing w u → Calls Tryz.prog 41 #[.string ⟨#[49, 48, 32, 55, 48, 48, 48, 48]⟩] u fun e w' => ∃ rv, e = .returned rv ∧ Pts w' rv (Fz.wp 1).2 ∧ Kept Nothing u w') := Lib.hid hc.2.1
        have C3 := Lib.hid hc.2.2.1
        have C4 : Hid (∀ x u, Kept Nothing w u → Pts u x (Fz.wf 1) → Calls Tryz.prog 21 #[x] u fun e w' => e = .returned (.string ⟨#[50, 51, 52, 53, 54]⟩) ∧ Kept Nothing u w') := Lib.hid hc.2.2.2
        clear hc
        go_upto_region 4 with fail
        have b0 := Blk.fresh wr 75 #[.string ⟨#[50, 51, 52, 53, 54]⟩, .string ⟨#[49, 48, 32, 55, 48, 48, 48, 48]⟩, .string ⟨#[50, 51, 52, 53, 54]⟩]
        have k0 := (Kept.refl Nothing wr).alloc (.cells #[.string ⟨#[50, 51, 52, 53, 54]⟩, .string ⟨#[49, 48, 32, 55, 48, 48, 48, 48]⟩, .string ⟨#[50, 51, 52, 53, 54]⟩] 75)
        obtain ⟨w1, hw1⟩ : ∃ w1, wr.alloc (.cells #[.string ⟨#[50, 51, 52, 53, 54]⟩, .string ⟨#[49, 48, 32, 55, 48, 48, 48, 48]⟩, .string ⟨#[50, 51, 52, 53, 54]⟩] 75) = w1 := ⟨_, rfl⟩
        rw [hw1] at b0 k0 ⊢
        have c0 := b0.cell 0
        have c1 := b0.cell 1
        have c2 := b0.cell 2
        have B0 := Lib.hid b0
        have K0 := Lib.hid (KK.out.trans k0)
        generalize wr.heap.size = bn at *
        clear b0 k0 hw1
        go_region_law (first
          | (go_simp; go_at_call 21; refine (C4.out _ _ K4.out P4.out).mono ?_; rintro e w5 ⟨rfl, k5⟩; (have d2 := (B4.out.kept k5 (fun x => x)).cell 2); (have K5 := Lib.hid (K4.out.trans k5)); clear k5)
          | (go_simp; go_at_call 33; refine (C3.out _ _ _ (P2.out.old M3.out) P3.out).mono ?_; rintro e w4 ⟨v4, rfl, p4, k4⟩; (obtain ⟨A4, cc4, rfl, _, _⟩ := p4.form); (have B4 := Lib.hid (B3.out.kept k4 (fun x => x))); (have g2 := B4.out.cell 2); (have P4 := Lib.hid p4); (have K4 := Lib.hid (K3.out.trans k4)); clear p4 k4)
          | (go_simp; go_at_call 41; refine (C2.out _ K2.out).mono ?_; rintro e w3 ⟨v3, rfl, p3, k3⟩; (obtain ⟨A3, cc3, rfl, _, _⟩ := p3.form); (have B3 := Lib.hid (B2.out.kept k3 (fun x => x))); (have h2 := B3.out.cell 2); (have P3 := Lib.hid p3); (have K3 := Lib.hid (K2.out.trans k3)); (have M3 := Lib.hid k3); clear p3 k3)
          | (go_simp; go_at_call 41; refine (C1.out _ (by exact K0.out.drew)).mono ?_; rintro e w2 ⟨v2, rfl, p2, k2⟩; (obtain ⟨A2, cc2, rfl, _, _⟩ := p2.form); (have B2 := Lib.hid (B0.out.kept (((Kept.refl Nothing w1).drew).trans k2) (fun x => x))); (have i1 := B2.out.cell 1); (have i2 := B2.out.cell 2); (have P2 := Lib.hid p2); (have K2 := Lib.hid (K0.out.drew.trans k2)); clear p2 k2))
        all_goals
          go_wp2
          go_roundw
          case rel => exact ⟨1 + 1, by go_num, by omega, Lib.hid K5.out⟩
          case measure => simp [intOf]
      · clear HC
        have C1 : Hid (∀ u, Kept Nothing w u → Calls Tryz.prog 41 #[.string ⟨#[40, 55, 41, 32, 53, 32, 50, 51, 52, 53, 54]⟩] u fun e w' => ∃ rv, e = .returned rv ∧ Pts w' rv (Fz.wp 2).1 ∧ Kept Nothing u w') := Lib.hid hc.1
        have C2 : Hid (∀ u, Kept Nothing w u → Calls Tryz.prog 41 #[.string ⟨#[55, 48, 48, 48, 48]⟩] u fun e w' => ∃ rv, e = .returned rv ∧ Pts w' rv (Fz.wp 2).2 ∧ Kept Nothing u w') := Lib.hid hc.2.1
        have C3 := Lib.hid hc.2.2.1
        have C4 : Hid (∀ x u, Kept Nothing w u → Pts u x (Fz.wf 2) → Calls Tryz.prog 21 #[x] u fun e w' => e = .returned (.string ⟨#[40, 55, 41, 32, 53, 32, 55, 48, 48, 48, 48]⟩) ∧ Kept Nothing u w') := Lib.hid hc.2.2.2
        clear hc
        go_upto_region 4 with fail
        have b0 := Blk.fresh wr 75 #[.string ⟨#[40, 55, 41, 32, 53, 32, 50, 51, 52, 53, 54]⟩, .string ⟨#[55, 48, 48, 48, 48]⟩, .string ⟨#[40, 55, 41, 32, 53, 32, 55, 48, 48, 48, 48]⟩]
        have k0 := (Kept.refl Nothing wr).alloc (.cells #[.string ⟨#[40, 55, 41, 32, 53, 32, 50, 51, 52, 53, 54]⟩, .string ⟨#[55, 48, 48, 48, 48]⟩, .string ⟨#[40, 55, 41, 32, 53, 32, 55, 48, 48, 48, 48]⟩] 75)
        obtain ⟨w1, hw1⟩ : ∃ w1, wr.alloc (.cells #[.string ⟨#[40, 55, 41, 32, 53, 32, 50, 51, 52, 53, 54]⟩, .string ⟨#[55, 48, 48, 48, 48]⟩, .string ⟨#[40, 55, 41, 32, 53, 32, 55, 48, 48, 48, 48]⟩] 75) = w1 := ⟨_, rfl⟩
        rw [hw1] at b0 k0 ⊢
        have c0 := b0.cell 0
        have c1 := b0.cell 1
        have c2 := b0.cell 2
        have B0 := Lib.hid b0
        have K0 := Lib.hid (KK.out.trans k0)
        generalize wr.heap.size = bn at *
        clear b0 k0 hw1
        go_region_law (first
          | (go_simp; go_at_call 21; refine (C4.out _ _ K4.out P4.out).mono ?_; rintro e w5 ⟨rfl, k5⟩; (have d2 := (B4.out.kept k5 (fun x => x)).cell 2); (have K5 := Lib.hid (K4.out.trans k5)); clear k5)
          | (go_simp; go_at_call 33; refine (C3.out _ _ _ (P2.out.old M3.out) P3.out).mono ?_; rintro e w4 ⟨v4, rfl, p4, k4⟩; (obtain ⟨A4, cc4, rfl, _, _⟩ := p4.form); (have B4 := Lib.hid (B3.out.kept k4 (fun x => x))); (have g2 := B4.out.cell 2); (have P4 := Lib.hid p4); (have K4 := Lib.hid (K3.out.trans k4)); clear p4 k4)
          | (go_simp; go_at_call 41; refine (C2.out _ K2.out).mono ?_; rintro e w3 ⟨v3, rfl, p3, k3⟩; (obtain ⟨A3, cc3, rfl, _, _⟩ := p3.form); (have B3 := Lib.hid (B2.out.kept k3 (fun x => x))); (have h2 := B3.out.cell 2); (have P3 := Lib.hid p3); (have K3 := Lib.hid (K2.out.trans k3)); (have M3 := Lib.hid k3); clear p3 k3)
          | (go_simp; go_at_call 41; refine (C1.out _ (by exact K0.out.drew)).mono ?_; rintro e w2 ⟨v2, rfl, p2, k2⟩; (obtain ⟨A2, cc2, rfl, _, _⟩ := p2.form); (have B2 := Lib.hid (B0.out.kept (((Kept.refl Nothing w1).drew).trans k2) (fun x => x))); (have i1 := B2.out.cell 1); (have i2 := B2.out.cell 2); (have P2 := Lib.hid p2); (have K2 := Lib.hid (K0.out.drew.trans k2)); clear p2 k2))
        all_goals
          go_wp2
          go_roundw
          case rel => exact ⟨2 + 1, by go_num, by omega, Lib.hid K5.out⟩
          case measure => simp [intOf]
      · clear HC
        have C1 : Hid (∀ u, Kept Nothing w u → Calls Tryz.prog 41 #[.string ⟨#[53, 32, 123, 49, 44, 50, 125, 32, 50, 51, 52, 53, 54]⟩] u fun e w' => ∃ rv, e = .returned rv ∧ Pts w' rv (Fz.wp 3).1 ∧ Kept Nothing u w') := Lib.hid hc.1
        have C2 : Hid (∀ u, Kept Nothing w u → Calls Tryz.prog 41 #[.string ⟨#[123, 49, 44, 50, 125, 32, 55, 48, 48, 48, 48]⟩] u fun e w' => ∃ rv, e = .returned rv ∧ Pts w' rv (Fz.wp 3).2 ∧ Kept Nothing u w') := Lib.hid hc.2.1
        have C3 := Lib.hid hc.2.2.1
        have C4 : Hid (∀ x u, Kept Nothing w u → Pts u x (Fz.wf 3) → Calls Tryz.prog 21 #[x] u fun e w' => e = .returned (.string ⟨#[53, 32, 123, 49, 44, 50, 125, 32, 55, 48, 48, 48, 48]⟩) ∧ Kept Nothing u w') := Lib.hid hc.2.2.2
        clear hc
        go_upto_region 4 with fail
        have b0 := Blk.fresh wr 75 #[.string ⟨#[53, 32, 123, 49, 44, 50, 125, 32, 50, 51, 52, 53, 54]⟩, .string ⟨#[123, 49, 44, 50, 125, 32, 55, 48, 48, 48, 48]⟩, .string ⟨#[53, 32, 123, 49, 44, 50, 125, 32, 55, 48, 48, 48, 48]⟩]
        have k0 := (Kept.refl Nothing wr).alloc (.cells #[.string ⟨#[53, 32, 123, 49, 44, 50, 125, 32, 50, 51, 52, 53, 54]⟩, .string ⟨#[123, 49, 44, 50, 125, 32, 55, 48, 48, 48, 48]⟩, .string ⟨#[53, 32, 123, 49, 44, 50, 125, 32, 55, 48, 48, 48, 48]⟩] 75)
        obtain ⟨w1, hw1⟩ : ∃ w1, wr.alloc (.cells #[.string ⟨#[53, 32, 123, 49, 44, 50, 125, 32, 50, 51, 52, 53, 54]⟩, .string ⟨#[123, 49, 44, 50, 125, 32, 55, 48, 48, 48, 48]⟩, .string ⟨#[53, 32, 123, 49, 44, 50, 125, 32, 55, 48, 48, 48, 48]⟩] 75) = w1 := ⟨_, rfl⟩
        rw [hw1] at b0 k0 ⊢
        have c0 := b0.cell 0
        have c1 := b0.cell 1
        have c2 := b0.cell 2
        have B0 := Lib.hid b0
        have K0 := Lib.hid (KK.out.trans k0)
        generalize wr.heap.size = bn at *
        clear b0 k0 hw1
        go_region_law (first
          | (go_simp; go_at_call 21; refine (C4.out _ _ K4.out P4.out).mono ?_; rintro e w5 ⟨rfl, k5⟩; (have d2 := (B4.out.kept k5 (fun x => x)).cell 2); (have K5 := Lib.hid (K4.out.trans k5)); clear k5)
          | (go_simp; go_at_call 33; refine (C3.out _ _ _ (P2.out.old M3.out) P3.out).mono ?_; rintro e w4 ⟨v4, rfl, p4, k4⟩; (obtain ⟨A4, cc4, rfl, _, _⟩ := p4.form); (have B4 := Lib.hid (B3.out.kept k4 (fun x => x))); (have g2 := B4.out.cell 2); (have P4 := Lib.hid p4); (have K4 := Lib.hid (K3.out.trans k4)); clear p4 k4)
          | (go_simp; go_at_call 41; refine (C2.out _ K2.out).mono ?_; rintro e w3 ⟨v3, rfl, p3, k3⟩; (obtain ⟨A3, cc3, rfl, _, _⟩ := p3.form); (have B3 := Lib.hid (B2.out.kept k3 (fun x => x))); (have h2 := B3.out.cell 2); (have P3 := Lib.hid p3); (have K3 := Lib.hid (K2.out.trans k3)); (have M3 := Lib.hid k3); clear p3 k3)
          | (go_simp; go_at_call 41; refine (C1.out _ (by exact K0.out.drew)).mono ?_; rintro e w2 ⟨v2, rfl, p2, k2⟩; (obtain ⟨A2, cc2, rfl, _, _⟩ := p2.form); (have B2 := Lib.hid (B0.out.kept (((Kept.refl Nothing w1).drew).trans k2) (fun x => x))); (have i1 := B2.out.cell 1); (have i2 := B2.out.cell 2); (have P2 := Lib.hid p2); (have K2 := Lib.hid (K0.out.drew.trans k2)); clear p2 k2))
        all_goals
          go_wp2
          go_roundw
          case rel => exact ⟨3 + 1, by go_num, by omega, Lib.hid K5.out⟩
          case measure => simp [intOf]
end Go.Proofs.YthjljamngpddmaaGreatDoor
