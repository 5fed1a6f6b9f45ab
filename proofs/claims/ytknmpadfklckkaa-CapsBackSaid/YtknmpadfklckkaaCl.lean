
/-
  The law CapsBack: it returns true, whatever it is given, and leaves what was there as it was.
-/
import Derived.Test.YtknmpadfklckkaaCj
import Derived.Test.YtknmpadfklckkaaCk
import Derived.Deep.DeepCutAuto
import Derived.Deep.CutBlock
import Derived.Outline
namespace Go.Proofs.Ytknmpadfklckkaa
open Go.RowKit

theorem Cp.bytes_err {l : List Cp} (h : (Cp.bytes l).2 ≠ 0) : (Cp.bytes l).1 = [] ∧ ((Cp.bytes l).2 = 1 ∨ (Cp.bytes l).2 = 3) := by
  unfold Cp.bytes at h ⊢
  split at h
  · next hc => rw [if_pos hc]; exact ⟨rfl, .inl rfl⟩
  · next hc =>
    rw [if_neg hc]
    split at h
    · exact absurd rfl h
    · next hc2 =>
      rw [if_neg hc2]
      split at h
      · next hc3 => rw [if_pos hc3]; exact ⟨rfl, .inr rfl⟩
      · exact absurd rfl h
/-- What Bytes lays: nothing, or one parameter. -/
theorem Cp.bytes_form {l : List Cp} (h : (Cp.bytes l).2 = 0) : (l = [] ∧ (Cp.bytes l).1 = []) ∨ (l ≠ [] ∧ ∃ F : List UInt8, F.length ≤ 253 ∧ (Cp.bytes l).1 = 2 :: UInt8.ofNat F.length :: F) := by
  obtain ⟨_, ⟨h1, h2⟩ | ⟨h1, h2, h3⟩⟩ := Cp.bytes_ok h
  · exact .inl ⟨h1, by rw [h2]⟩
  · exact .inr ⟨h1, _, h2, by rw [h3]⟩
/-- A parameter that is cut. -/
theorem Cp.out_cut (F : List UInt8) (hF : F.length ≤ 253) (k : Nat) (h0 : 0 < k) (hk : k < F.length + 2) : Cp.out [] ((2 :: UInt8.ofNat F.length :: F).take k) = ([], 2, 0) := by
  obtain ⟨j, rfl⟩ : ∃ j, k = j + 1 := ⟨k - 1, by omega⟩
  rw [List.take_succ_cons]
  rcases j with _ | j
  · rw [List.take_zero, Cp.out_one]; rfl
  · rw [List.take_succ_cons, Cp.out_short]
    · rfl
    · rw [List.length_take, UInt8.toNat_ofNat']; omega
theorem fewL_small (l : List Cp) : (fewL l).length ≤ 20 := by unfold fewL; rw [List.length_map, List.length_take]; omega

theorem cp_of_nil (A : Option Addr) (c : Nat) (w : World) :
    Calls Try.prog 9 #[.slice A 0 c] w fun e w' => e = .returned (.slice none 0 0) ∧ w = w' := by
  go_enter Try.func9, Try.ntmps9
  go_wp2
  go_loopw [3, 8] (fun lv i wr => lv = .slice none 0 0 ∧ i = .int .i64 0 ∧ w = wr) (fun _ _ _ => 0)
  case atStart => exact ⟨rfl, rfl, rfl⟩
  case round =>
    obtain ⟨rfl, rfl, rfl⟩ := hrel
    go_wp2
    go_ret
    exact ⟨rfl, rfl⟩
theorem cp_same_nil (w : World) :
    Calls Try.prog 8 #[.slice none 0 0, .slice none 0 0] w fun e w' => e = .returned (.bool true) ∧ w = w' := by
  go_enter Try.func8, Try.ntmps8
  go_wp2
  go_loopw [13] (fun i wr => i = .int .i64 0 ∧ w = wr) (fun _ _ => 0)
  case atStart => exact ⟨rfl, rfl⟩
  case round =>
    obtain ⟨rfl, rfl⟩ := hrel
    go_wp2
    go_ret
    exact ⟨rfl, rfl⟩

theorem qof_nil (A : Option Addr) (c : Nat) (w : World) (m : Nat) : Calls Try.prog 9 #[.slice A 0 c] (w.drewN m) fun e w'' => e = .returned (.slice none 0 0) ∧ ∃ m, w'' = w.drewN m :=
  (cp_of_nil A c _).mono fun _ _ ⟨h1, h2⟩ => ⟨h1, m, h2.symm⟩
theorem qsame_nil (w : World) (m : Nat) : Calls Try.prog 8 #[.slice none 0 0, .slice none 0 0] (w.drewN m) fun e w'' => e = .returned (.bool true) ∧ ∃ m, w'' = w.drewN m :=
  (cp_same_nil _).mono fun _ _ ⟨h1, h2⟩ => ⟨h1, m, h2.symm⟩
theorem caps_none (A : Option Addr) (n c : Nat) (w : World) : (Instr.slice 24 (.slice A n c) none (some (.int .i64 0)) none).run Try.prog w = .ok (.slice A 0 c) w := by
  have hz : (sizeOf 49).run Try.prog w = .ok 2 w := Try.sizeOf49 w
  have he : Try.prog.elem 24 = 49 := by kernel_rfl
  rw [run_slice_h w 24 A n c (by kernel_rfl) .i64 0 (by omega) (by omega), he, hz]
  cases A <;> simp [sliced, Addr.add]
/-- Behind both stores into a fault's block. -/
theorem two_stores {W w : World} {g : Nat} {a b : Value} (x y : Value) (hk : Kept Nothing W w) (hg : W.heap.size ≤ g) (hb : Blk w g 26 #[a, b]) :
    Kept Nothing W ((w.setCell ⟨g, 0, none⟩ x).setCell ⟨g, 1, none⟩ y) ∧ Blk ((w.setCell ⟨g, 0, none⟩ x).setCell ⟨g, 1, none⟩ y) g 26 #[x, y] ∧ Kept (Only g) w ((w.setCell ⟨g, 0, none⟩ x).setCell ⟨g, 1, none⟩ y) :=
  ⟨(hk.setCell (p := ⟨g, 0, none⟩) (fun h => absurd h (Nat.not_lt.2 hg)) x).setCell (p := ⟨g, 1, none⟩) (fun h => absurd h (Nat.not_lt.2 hg)) y, (hb.put 0 x).put 1 y, (Kept.own w g 0 x).trans (Kept.own _ g 1 y)⟩
theorem tmod_nat (a b : Nat) : (a : Int).tmod (b : Int) = ((a % b : Nat) : Int) := by
  rw [Int.ofNat_tmod]

set_option maxRecDepth 20000 in
set_option maxHeartbeats 4000000 in
theorem back_law (v0 v1 : Value) (l : List Cp) (b : List UInt8) (ct : Nat) (W : World) (h0 : Cps W v0 l) (h1 : By W v1 b) (hct : ct < 256) :
    Calls Try.prog 4 #[v0, v1, .int .u8 (ct : Int)] W fun e w' => e = .returned (.bool true) ∧ Kept Nothing W w' := by
  obtain ⟨A, c, rfl, hc, hm⟩ := h1.form
  unfold maxLen at hm
  have H1 := Lib.hid h1
  have HF := Lib.hid (cp_few v0 l W h0)
  clear h0 h1
  go_enter Try.func4, Try.ntmps4
  go_wp2_with fail
  refine HF.out.mono ?_
  rintro e w1 ⟨fv, rfl, hp1, hk1⟩
  have hfl := fewL_small l
  have P1 := Lib.hid hp1
  have K1 := Lib.hid hk1
  obtain ⟨A0, c0, rfl, _, _⟩ := hp1.form
  clear hp1 hk1 HF
  generalize fewL l = fl at *
  go_wp2_with fail
  refine (cp_bytes _ fl _ P1.out (by omega)).mono ?_
  rintro e w2 ⟨xv, rfl, hb2, hk2⟩
  have P2 := Lib.hid (P1.out.old hk2)
  have K2 := Lib.hid (K1.out.trans hk2)
  have X2 := Lib.hid hb2
  obtain ⟨Ax, cx, rfl, hcx, hmx⟩ := hb2.form
  have HBF : Hid ((Cp.bytes fl).2 = 0 → (fl = [] ∧ (Cp.bytes fl).1 = []) ∨ (fl ≠ [] ∧ ∃ F : List UInt8, F.length ≤ 253 ∧ (Cp.bytes fl).1 = 2 :: UInt8.ofNat F.length :: F)) := Lib.hid Cp.bytes_form
  have HBB : Hid ((Cp.bytes fl).2 = 0 → Cp.out [] (Cp.bytes fl).1 = (fl, 0, 0)) := Lib.hid Cp.bytes_back
  have HBE : Hid ((Cp.bytes fl).2 ≠ 0 → (Cp.bytes fl).1 = [] ∧ ((Cp.bytes fl).2 = 1 ∨ (Cp.bytes fl).2 = 3)) := Lib.hid Cp.bytes_err
  unfold maxLen at hmx
  clear hb2 hk2 P1 K1
  generalize hX : Cp.bytes fl = X at *
  obtain ⟨x, e⟩ := X
  simp only at X2 HBF HBB HBE hcx
  clear hX
  go_upto_if 28 with fail
  go_cut [] (fun wx => Kept Nothing W wx)
  case first =>
    by_cases he : e = 0
    · subst he
      have hback := HBB.out rfl
      have HX := Lib.hid (HBF.out rfl)
      have hxl : x.length ≤ 255 := by
        rcases HX.out with ⟨_, h⟩ | ⟨_, F, h1, h2⟩
        · rw [h]; simp
        · rw [h2]; simp; omega
      clear HBB HBE HBF
      go_wp2_with fail
      refine (read_at _ x (fl, 0, 0) hback _ X2.out.by (by omega)).mono ?_
      rintro e w3 ⟨A3, c3, rfl, hp3, hk3⟩
      have kf := (Kept.refl Nothing w3).alloc (.cells #[.int .u8 0, .int .u8 0] 26)
      have F3 := Lib.hid (Blk.fresh w3 26 #[.int .u8 0, .int .u8 0])
      have P3 := Lib.hid ((P2.out.old hk3).old kf)
      have M3 := Lib.hid (hp3.old kf)
      have X3 := Lib.hid ((X2.out.kept hk3 (NoBytes.nothing _)).kept kf (NoBytes.nothing _))
      have K3 := Lib.hid ((K2.out.trans hk3).trans kf)
      have hsz : W.heap.size ≤ w3.heap.size := (K2.out.trans hk3).size
      clear hp3 hk3 kf P2 X2 K2 hback
      go_wp2_with fail
      refine (cp_of _ fl _ M3.out (by omega)).mono ?_
      rintro e w4 ⟨rv4, rfl, hp4, hk4⟩
      have P4 := Lib.hid (P3.out.old hk4)
      have M4 := Lib.hid hp4
      have X4 := Lib.hid (X3.out.kept hk4 (NoBytes.nothing _))
      have K4 := Lib.hid (K3.out.trans hk4)
      have F4 := Lib.hid (F3.out.kept hk4 (fun x => x))
      obtain ⟨A4, c4, rfl, _, _⟩ := hp4.form
      clear hp4 hk4 P3 M3 X3 K3 F3
      go_wp2_with fail
      refine (cp_of _ fl _ P4.out (by omega)).mono ?_
      rintro e w5 ⟨rv5, rfl, hp5, hk5⟩
      have P5 := Lib.hid (P4.out.old hk5)
      have S5 := Lib.hid (cp_same _ _ fl _ (M4.out.old hk5) hp5 (by omega))
      have X5 := Lib.hid (X4.out.kept hk5 (NoBytes.nothing _))
      have K5 := Lib.hid (K4.out.trans hk5)
      have F5 := Lib.hid (F4.out.kept hk5 (fun x => x))
      obtain ⟨A5, c5, rfl, _, _⟩ := hp5.form
      clear hp5 hk5 P4 M4 X4 K4 F4
      go_wp2_with fail
      refine S5.out.mono ?_
      rintro e w6 ⟨rfl, hk6⟩
      have X6 := Lib.hid (X5.out.kept hk6 (NoBytes.nothing _))
      have K6 := Lib.hid (K5.out.trans hk6)
      have F6 := Lib.hid (F5.out.kept hk6 (fun x => x))
      clear hk6 P5 S5 X5 K5 F5
      have h255 : ¬ ((255 : Int) < (x.length : Int)) := by omega
      rcases HX.out with ⟨hf0, hx0⟩ | ⟨hf0, F, hF, hxe⟩
      · subst hf0 hx0
        clear HX hxl h255
        go_wp2
        go_meet
        exact K6.out
      · have hxn : x.length = F.length + 2 := by rw [hxe]; rfl
        have hz1 : ((x.length : Int) == 0) = false := by rw [hxn]; simp; omega
        have hz2 : ((fl.length : Int) == 0) = false := by
          have : fl.length ≠ 0 := fun e => hf0 (List.eq_nil_of_length_eq_zero e)
          simpa using hf0
        have hpos : (0 : Int) < (x.length : Int) := by omega
        have HXE := Lib.hid hxe
        have HXN := Lib.hid hxn
        have hk : ct % x.length < x.length := Nat.mod_lt _ (by omega)
        have hrem := tmod_nat ct x.length
        have hsl := slice_to Ax x.length cx (ct % x.length) (by omega)
        have HB6 := Lib.hid (X6.out.by.pre (m := ct % x.length) (by omega))
        have hflp : ¬ ((fl.length : Int) < 0) := by omega
        have d0 := F6.out.cell 0
        have d1 := F6.out.cell 1
        have e0 := F6.out.free 0
        have e1 := F6.out.free 1
        generalize ct % x.length = k at *
        clear HX hxe hxn hf0
        by_cases hk0 : k = 0
        · subst hk0
          have hnil : x.take 0 = [] := List.take_zero
          rw [hnil] at HB6
          clear hnil
          have hcn := caps_none A0 fl.length c0
          go_wp2_with fail
          refine (read_at _ [] ([], 0, 0) (Cp.out_nil []) _ HB6.out (by decide)).mono ?_
          rintro e w7 ⟨A7, c7, rfl, hp7, hk7⟩
          have F7 := F6.out.kept hk7 (fun x => x)
          have e0 := F7.free 0
          have e1 := F7.free 1
          have d0 := F7.cell 0
          have d1 := F7.cell 1
          have T7 := Lib.hid (two_stores (.int .u8 0) (.int .u8 0) (K6.out.trans hk7) hsz F7)
          clear hp7 hk7 F7 F6 K6 HB6
          go_wp2
          obtain ⟨t1, t2, -⟩ := T7.out
          have T8 := Lib.hid t1
          have d0 := t2.cell 0
          have d1 := t2.cell 1
          clear T7 t1 t2
          generalize (w7.setCell ⟨w3.heap.size, 0, none⟩ (.int .u8 0)).setCell ⟨w3.heap.size, 1, none⟩ (.int .u8 0) = w8 at *
          replace d0 : w8.cell? ⟨w3.heap.size, 0, none⟩ = some (.int .u8 0) := d0
          replace d1 : w8.cell? ⟨w3.heap.size, 1, none⟩ = some (.int .u8 0) := d1
          go_loopw [12] (fun i wr => i = .int .i64 0 ∧ w8 = wr) (fun _ _ => 0)
          case atStart => exact ⟨rfl, rfl⟩
          case round =>
            obtain ⟨rfl, rfl⟩ := hrel
            go_wp2
            go_quiet ((first | (go_at_call 9; exact qof_nil _ _ _ _) | (go_at_call 8; exact qsame_nil _ _)))
            go_wp2
            go_meet
            exact T8.out.drewN _
        · have HR7 := Lib.hid (Cp.out_cut F hF k (by omega) (by have := HXN.out; omega))
          rw [← HXE.out] at HR7
          go_wp2_with fail
          refine (read_at _ (x.take k) ([], 2, 0) HR7.out _ HB6.out (by rw [List.length_take]; omega)).mono ?_
          rintro e w7 ⟨A7, c7, rfl, hp7, hk7⟩
          have F7 := F6.out.kept hk7 (fun x => x)
          have e0 := F7.free 0
          have e1 := F7.free 1
          have d0 := F7.cell 0
          have d1 := F7.cell 1
          have T7 := Lib.hid (two_stores (.int .u8 2) (.int .u8 0) (K6.out.trans hk7) hsz F7)
          have X7 := Lib.hid (X6.out.kept hk7 (NoBytes.nothing _))
          have HNB := Lib.hid (NoBytes.of_blk F7 (by decide))
          have k0i : (0 : Int) < (k : Int) := by omega
          have k1i : ((0 : Int) == (k : Int)) = false := by simp; omega
          have k2i : (k : Int) < 2 + (F.length : Int) := by have := HXN.out; omega
          have k3i : (1 : Int) < (x.length : Int) := by omega
          clear hp7 hk7 F7 F6 K6 HB6 HR7
          go_wp2
          obtain ⟨t1, t2, t3⟩ := T7.out
          have T8 := Lib.hid t1
          have d0 := t2.cell 0
          have d1 := t2.cell 1
          have X8 := X7.out.kept t3 HNB.out
          obtain ⟨bk, o, rfl, hc1⟩ := X8.cell (i := 1) (by omega)
          rw [show x.getD 1 0 = UInt8.ofNat F.length by rw [HXE.out]; rfl, byNat F.length (by omega)] at hc1
          have HC1 := Lib.hid hc1
          clear T7 t1 t2 t3 X8 hc1 X7 HNB
          generalize (w7.setCell ⟨w3.heap.size, 0, none⟩ (.int .u8 2)).setCell ⟨w3.heap.size, 1, none⟩ (.int .u8 0) = w8 at *
          replace d0 : w8.cell? ⟨w3.heap.size, 0, none⟩ = some (.int .u8 2) := d0
          replace d1 : w8.cell? ⟨w3.heap.size, 1, none⟩ = some (.int .u8 0) := d1
          have hc1 := HC1.out
          go_loopw [12] (fun i wr => i = .int .i64 0 ∧ w8 = wr) (fun _ _ => 0)
          case atStart => exact ⟨rfl, rfl⟩
          case round =>
            obtain ⟨rfl, rfl⟩ := hrel
            go_wp2
            go_quiet (fail)
            go_wp2
            go_meet
            exact T8.out.drewN _
    · obtain ⟨hx0, he13⟩ := HBE.out he
      subst hx0
      clear HBB HBF HBE
      rcases he13 with rfl | rfl
      all_goals
        go_wp2
        all_goals
          go_meet
          exact K2.out
  case rest =>
    have hkw : Kept Nothing W wc := hcut
    clear hcut P2 X2 K2 HBF HBB HBE
    have hmin : (if (300 : Int) < (b.length : Int) then (300 : Int) else (b.length : Int)) = ((min b.length 300 : Nat) : Int) := by split <;> omega
    have hsl := slice_to A b.length c (min b.length 300) (by omega)
    have hp := H1.out.pre (m := min b.length 300) (by omega)
    have hlen : (b.take (min b.length 300)).length = min b.length 300 := by rw [List.length_take]; omega
    have hml : min b.length 300 ≤ 300 := by omega
    have hmc : min b.length 300 ≤ c := by omega
    generalize b.take (min b.length 300) = d at *
    generalize min b.length 300 = m at *
    subst hlen
    have HD := Lib.hid hp
    have HSM := Lib.hid (Cp.out_small d [])
    have HK := Lib.hid hkw
    clear hp hkw
    go_wp2_with fail
    refine (cp_read _ d _ (HD.out.old HK.out) (by omega)).mono ?_
    rintro e w3 ⟨rv3, rfl, hp3, hk3⟩
    have kf := (Kept.refl Nothing w3).alloc (.cells #[.int .u8 ((Cp.out [] d).2.1 : Nat), .int .u8 ((Cp.out [] d).2.2 : Nat)] 26)
    have F3 := Blk.fresh w3 26 #[.int .u8 ((Cp.out [] d).2.1 : Nat), .int .u8 ((Cp.out [] d).2.2 : Nat)]
    have K3 := Lib.hid ((HK.out.trans hk3).trans kf)
    have P3 := Lib.hid (hp3.old kf)
    obtain ⟨A3, c3, rfl, _, _⟩ := hp3.form
    have hs1 := HSM.out.1
    have HN0 := Lib.hid (Cp.out_none d [])
    have HNF := Lib.hid (Cp.out_fault d [])
    have HNL := Lib.hid (fun y => Cp.out_len d [] y)
    clear hp3 hk3 kf HSM
    generalize Cp.out [] d = R at *
    obtain ⟨y, cd, sb⟩ := R
    simp only at F3 K3 P3 hs1 HN0 HNF HNL
    obtain ⟨d0, d1⟩ := cells2 F3
    have W3 := Lib.hid (cp_wakes (w3.alloc (.cells #[.int .u8 (cd : Nat), .int .u8 (sb : Nat)] 26)))
    clear F3
    by_cases hcd : cd = 0
    · subst hcd
      obtain rfl : sb = 0 := HN0.out rfl
      obtain ⟨m, hy, hy253, hyl⟩ := HNL.out y rfl
      rw [List.nil_append] at hy
      subst hy
      have HYL := Lib.hid hyl
      have HY253 := Lib.hid hy253
      have HB := Lib.hid (cp_bytes (.slice A3 y.length c3) y _ P3.out (by simp at hs1; omega))
      simp at hs1
      have hbe := Cp.bytes_err (l := y)
      have hbo := Cp.bytes_ok (l := y)
      have hbb := Cp.bytes_back (l := y)
      have hbf := Cp.bytes_fits (l := y) hy253
      have HD3 : Hid ((Cp.bytes y).2 = 3 → 255 < d.length) := Lib.hid (fun h3 => by
        by_cases hle : (Cp.forms y).length ≤ 253
        · have := (hbf (fun _ => hle)).1; omega
        · have hyn : y ≠ [] := fun e => by subst e; exact hle (Nat.zero_le _)
          have := hyl hyn; omega)
      have HD1 : Hid ((Cp.bytes y).2 ≠ 1) := Lib.hid (fun h3 => by
        have : y.any (fun c => decide (253 < c.2.length)) = true := by
          unfold Cp.bytes at h3
          split at h3
          · assumption
          · split at h3
            · cases h3
            · split at h3 <;> cases h3
        obtain ⟨q, hq, hq2⟩ := List.any_eq_true.1 this
        have := hy253 q hq
        simp at hq2
        omega)
      have HDL : Hid ((Cp.bytes y).2 = 0 → (Cp.bytes y).1.length ≤ d.length ∧ (Cp.bytes y).1.length ≤ 255) := Lib.hid (fun h0 => by
        obtain ⟨_, ⟨h1, h2⟩ | ⟨h1, h2, h3⟩⟩ := hbo h0
        · rw [h2]; simp
        · have h4 := hyl h1
          have h5 : (Cp.bytes y).1.length = (Cp.forms y).length + 2 := by rw [h3]; rfl
          omega)
      have HBB := Lib.hid hbb
      have HBE := Lib.hid hbe
      clear HN0 HNF HNL W3 hyl hy253 hbe hbo hbb hbf
      generalize Cp.bytes y = Z at *
      obtain ⟨z, e⟩ := Z
      simp only at HBB HBE HD3 HD1 HDL HB
      go_wp2_with fail
      refine HB.out.mono ?_
      rintro e' w4 ⟨zv, rfl, hz4, hk4⟩
      have K4 := Lib.hid (K3.out.trans hk4)
      have P4 := Lib.hid (P3.out.old hk4)
      have Z4 := Lib.hid hz4
      obtain ⟨A4, c4, rfl, _, _⟩ := hz4.form
      clear hz4 hk4 K3 P3 HB
      by_cases he : e = 0
      · subst he
        have hback := HBB.out rfl
        obtain ⟨hzl, hz255⟩ := HDL.out rfl
        clear HBB HBE HD3 HD1 HDL
        go_wp2_with fail
        refine (read_at _ z (y, 0, 0) hback _ Z4.out.by (by omega)).mono ?_
        rintro e w5 ⟨A5, c5, rfl, hp5, hk5⟩
        have kf5 := (Kept.refl Nothing w5).alloc (.cells #[.int .u8 0, .int .u8 0] 26)
        have P5 := Lib.hid ((P4.out.old hk5).old kf5)
        have M5 := Lib.hid (hp5.old kf5)
        have K5 := Lib.hid ((K4.out.trans hk5).trans kf5)
        clear hp5 hk5 kf5 P4 K4 Z4 hback
        go_wp2_with fail
        refine (cp_of _ y _ M5.out (by omega)).mono ?_
        rintro e w6 ⟨rv6, rfl, hp6, hk6⟩
        have P6 := Lib.hid (P5.out.old hk6)
        have M6 := Lib.hid hp6
        have K6 := Lib.hid (K5.out.trans hk6)
        obtain ⟨A6, c6, rfl, _, _⟩ := hp6.form
        clear hp6 hk6 P5 M5 K5
        go_wp2_with fail
        refine (cp_of _ y _ P6.out (by omega)).mono ?_
        rintro e w7 ⟨rv7, rfl, hp7, hk7⟩
        have S7 := Lib.hid (cp_same _ _ y _ (M6.out.old hk7) hp7 (by omega))
        have K7 := Lib.hid (K6.out.trans hk7)
        obtain ⟨A7, c7, rfl, _, _⟩ := hp7.form
        clear hp7 hk7 P6 M6 K6
        go_wp2_with fail
        refine S7.out.mono ?_
        rintro e w8 ⟨rfl, hk8⟩
        have K8 := Lib.hid (K7.out.trans hk8)
        have W8 := Lib.hid (cp_wakes w8)
        have hzli : (z.length : Int) ≤ (d.length : Int) := by omega
        clear hk8 S7 K7
        go_wp2_with (go_at_call 11; refine (W8.out).mono ?_; rintro e w9 ⟨rfl, hk9⟩)
        go_ret
        exact ⟨rfl, K8.out.trans hk9⟩
      · obtain ⟨_, he13⟩ := HBE.out he
        rcases he13 with rfl | rfl
        · exact absurd rfl HD1.out
        · have h255 := HD3.out rfl
          have h255i : (255 : Int) < (d.length : Int) := by omega
          have W4 := Lib.hid (cp_wakes w4)
          clear HBB HBE HD3 HD1 HDL
          go_wp2_with (go_at_call 11; refine (W4.out).mono ?_; rintro e w9 ⟨rfl, hk9⟩)
          go_ret
          exact ⟨rfl, K4.out.trans hk9⟩
    · obtain ⟨hy, rfl, hsb⟩ := HNF.out hcd
      subst hy
      clear HN0 HNF HNL
      rcases hsb with rfl | rfl
      all_goals
        go_wp2_with (go_at_call 11; refine (W3.out).mono ?_; rintro e w6 ⟨rfl, hk6⟩)
        go_ret
        exact ⟨rfl, K3.out.trans hk6⟩
end Go.Proofs.Ytknmpadfklckkaa
