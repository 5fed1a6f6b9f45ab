
/-
  The law CapsOurs: it returns true, whatever it is given, and leaves what was there as it was.
-/
import Derived.Test.YtknmpadfklckkaaDoorDb
import Derived.Test.YtknmpadfklckkaaDoorCh
import Derived.Test.YtknmpadfklckkaaDoorCg
namespace Go.Proofs.YtknmpadfklckkaaDoor
open Go.RowKit

theorem fewL_small (l : List Cp) : (fewL l).length ≤ 20 := by unfold fewL; rw [List.length_map, List.length_take]; omega
theorem RS.num_be4 (n : Nat) (h : n < 4294967296) (m : List Cp) : Cp.number (oursL n ++ m) = (n, true) := by
  show Cp.number ((1, [0, 1, 0, 1]) :: (2, []) :: (65, be4 n) :: m) = _
  rw [Cp.number_miss (by rintro ⟨_, h⟩; exact absurd h (by decide)), Cp.number_miss (by rintro ⟨h, _⟩; exact absurd h (by decide)), Cp.number_hit rfl rfl]
  rw [be4_num n h]
theorem ours_refreshes (n : Nat) (m : List Cp) : Cp.refreshes (oursL n ++ m) = true := by
  show Cp.refreshes ((1, [0, 1, 0, 1]) :: (2, []) :: (65, be4 n) :: m) = _
  rw [Cp.refreshes_miss (by rintro ⟨h, _⟩; exact absurd h (by decide)), Cp.refreshes_hit (by decide) rfl]
theorem ours_ipv4 (n : Nat) (m : List Cp) : Cp.ipv4 false (oursL n ++ m) = true := Cp.ipv4_hit (by decide) rfl
def xb (n : Nat) : List UInt8 := [2, 14, 1, 4, 0, 1, 0, 1, 2, 0, 65, 4] ++ be4 n
theorem ours_bytes (n : Nat) : Cp.bytes (oursL n) = (xb n, 0) := rfl
theorem ours_read (n : Nat) : Cp.out [] (xb n) = (oursL n, 0, 0) := by
  have := Cp.bytes_back (l := oursL n) (by rw [ours_bytes])
  rwa [ours_bytes] at this
theorem bys_xb (n : Nat) (h : n < 4294967296) : bys (xb n) = [.int .u8 2, .int .u8 14, .int .u8 1, .int .u8 4, .int .u8 0, .int .u8 1, .int .u8 0, .int .u8 1, .int .u8 2, .int .u8 0, .int .u8 65, .int .u8 4, .int .u8 ((n : Int) / 16777216), .int .u8 ((n : Int) / 65536 % 256), .int .u8 ((n : Int) / 256 % 256), .int .u8 ((n : Int) % 256)] := by
  have h24 : (((n / 16777216 : Nat) : Int)) % 256 = (n : Int) / 16777216 := by omega
  rw [← h24]
  unfold xb be4
  rw [bys_append]
  unfold bys
  simp only [List.map_cons, List.map_nil, by8_mod]
  rfl

theorem Cells.append {B : Value → List UInt8 → Prop} : ∀ {xs ys : List Value} {l m : List Cp}, Cells B xs l → Cells B ys m → Cells B (xs ++ ys) (l ++ m)
  | [], _, [], _, _, h => h
  | _ :: _ :: _, _, _ :: _, _, ⟨h1, h2, h3⟩, h => ⟨h1, h2, Cells.append h3 h⟩
  | [], _, _ :: _, _, h, _ => h.elim
  | [_], _, _, _, h, _ => by unfold Cells at h; exact h.elim
  | _ :: _ :: _, _, [], _, h, _ => by unfold Cells at h; exact h.elim
theorem Cells.one {w : World} : ∀ {xs : List Value} {l : List Cp}, Cells (Bs w) xs l → ∀ u ∈ xs, u.oneCell' = true
  | [], [], _, _, hu => by cases hu
  | a :: v :: xs, c :: l, ⟨h1, h2, h3⟩, u, hu => by
    rcases List.mem_cons.1 hu with rfl | hu
    · rw [h1]; rfl
    · rcases List.mem_cons.1 hu with rfl | hu
      · obtain ⟨A, k, rfl, _, _⟩ := h2.form; rfl
      · exact Cells.one h3 u hu
  | [], _ :: _, h, _, _ => h.elim
  | [_], _, h, _, _ => by unfold Cells at h; exact h.elim
  | _ :: _ :: _, [], h, _, _ => by unfold Cells at h; exact h.elim
theorem own_of_blk {w : World} {g base n size : Nat} {e : TypeId} {cs : Array Value} (h : Blk w g e cs) (hb : base ≤ g) (hs : cs.size = n * size) (hm : n ≤ maxLen) : w.ownsRow base e size (.slice (some ⟨g, 0, none⟩) n n) n cs.toList :=
  ⟨by simpa using hs, .inr ⟨g, n, cs, rfl, hb, h, Nat.le_refl _, hm, hs, List.take_of_length_le (by simp [hs])⟩⟩
theorem own_src {w : World} {base n c size : Nat} {e : TypeId} {A : Option Addr} {xs : List Value} (h : w.ownsRow base e size (.slice A n c) n xs) (h1 : ∀ u ∈ xs, u.oneCell' = true) : Src w size A n xs := by
  obtain ⟨hl, h2⟩ := h
  rcases h2 with ⟨he, h0⟩ | ⟨g, cap, cur, he, _, hg, _, _, _, ht⟩
  · injection he with e1 e2 e3
    subst e1
    exact ⟨hl, fun _ => h0, (fun a ha => by cases ha), h1⟩
  · injection he with e1 e2 e3
    subst e1
    refine ⟨hl, (fun ha => by cases ha), fun a ha j u hu => ?_, h1⟩
    injection ha with ha
    subst ha
    rw [add_none, Nat.zero_add, cell_of_row w g _ cur e (0, 0) hg]
    have hj : j < xs.length := (List.getElem?_eq_some_iff.1 hu).1
    rw [← ht, List.getElem?_take_of_lt (by omega), Array.getElem?_toList] at hu
    exact hu

theorem idx0 (a b : Value) (w : World) : (Instr.index 46 (.agg #[a, b]) (.int .i64 0)).run Tryd.prog w = .ok a w := by
  unfold Instr.index
  simp [go_sem, run_underlying Tryd.underlying46, Tryd.sizeOf22]
theorem idx1 (a b : Value) (w : World) : (Instr.index 46 (.agg #[a, b]) (.int .i64 1)).run Tryd.prog w = .ok b w := by
  unfold Instr.index
  simp [go_sem, run_underlying Tryd.underlying46, Tryd.sizeOf22]

set_option maxRecDepth 20000 in
set_option maxHeartbeats 4000000 in
theorem ours_law (n : Nat) (h : n < 4294967296) (v1 : Value) (l : List Cp) (W : World) (hr : RdC W) (h1 : Cps W v1 l) :
    Calls Tryd.prog 4 #[.int .u32 (n : Int), v1] W fun e w' => e = .returned (.bool true) ∧ Kept Nothing W w' := by
  have HR := Lib.hid hr
  have H1 := Lib.hid h1
  obtain ⟨i0, hi, hz0, hz1, hz2⟩ := info_parts cap_info
  clear hr h1
  go_enter Tryd.func4, Tryd.ntmps4
  go_wp2_with fail
  refine (cp_ours n h W HR.out).mono ?_
  rintro e w1 ⟨rv1, rfl, hp1, hk1⟩
  have P1 := Lib.hid hp1
  have K1 := Lib.hid hk1
  obtain ⟨A1, c1, rfl, _, _⟩ := hp1.form
  change Hid (Cps w1 (.slice A1 3 c1) (oursL n)) at P1
  rw [show (oursL n).length = 3 from rfl]
  clear hp1 hk1
  go_wp2_with fail
  refine (cp_ours_blk n h w1 (HR.out.kept K1.out)).mono ?_
  rintro e w2 ⟨g, cs, rfl, hb2, hcs, hc2, hg2, hk2⟩
  have B2 := Lib.hid hb2
  have C2 := Lib.hid hc2
  have K2 := Lib.hid hk2
  clear hb2 hc2 hk2
  go_wp2_with fail
  refine (cp_few_own v1 l w2 (H1.out.old (K1.out.trans K2.out))).mono ?_
  rintro e w3 ⟨rv3, rfl, ⟨xs, ho3, hx3⟩, hk3⟩
  have hfl := fewL_small l
  obtain ⟨A3, c3, rfl, _, _⟩ := ow_form ho3
  have S3 := Lib.hid (own_src ho3 hx3.one)
  have X3 := Lib.hid hx3
  have B3 := Lib.hid (B2.out.kept hk3 (fun x => x))
  have C3 := Lib.hid (C2.out.mono (fun _ _ h => h.old hk3))
  have K3 := Lib.hid (K2.out.trans hk3)
  have O3 := Lib.hid (own_of_blk (base := w1.heap.size) (n := 3) (size := 2) B3.out hg2 hcs (by simp [maxLen]))
  clear hx3 hk3 ho3 B2 C2 K2
  generalize fewL l = fl at *
  have hsz3 := K3.out.size
  go_wp2_with (at_builtin; refine wpList_app _ rfl _ _ 22 rfl w1.heap.size 54 i0 _ 2 32 Tryd.underlying22 hi hz0 hz1 hz2 rfl (by decide) (.slice (some ⟨g, 0, none⟩) 3 3) 3 cs.toList rfl O3.out A3 fl.length c3 xs rfl S3.out (by simp [maxLen]; omega) (by omega) hsz3 ?_; intro v4 w4 ho4 hg4 hat4; have HO4 := Lib.hid ho4; have HG4 := Lib.hid hg4; obtain ⟨A4, c4, rfl, _, _⟩ := ow_form ho4; clear ho4 hg4 hat4)
  have kg : Kept (fun k => k = g) w3 w4 := (grown_kept HG4.out).mono (fun k hk => by simpa [Value.ownBlock] using hk.symm)
  have k14 : Kept Nothing w1 w4 := K3.out.trans_new kg (fun i hi e => by omega)
  have P4 := Lib.hid (P1.out.old k14)
  have K4 := Lib.hid (K1.out.trans k14)
  have hlen4 : (oursL n ++ fl).length = 3 + fl.length := by rw [List.length_append]; rfl
  have Q4 : Hid (Cps w4 (.slice A4 (3 + fl.length) c4) (oursL n ++ fl)) := Lib.hid (Cps.of_own (base := w1.heap.size) (e := 54) (l := oursL n ++ fl) (by rw [hlen4]; exact HO4.out) (Cells.append (C3.out.mono (fun _ _ h => (h.kept kg).1)) (X3.out.mono (fun _ _ h => (h.kept kg (fun k hk => by
    obtain rfl : k = g := hk
    intro cs' f hb'
    have hB := B3.out
    unfold Blk at hB
    rw [hB] at hb'
    injection hb' with hb'
    injection hb' with _ h5
    exact absurd h5 (by decide))).by))))
  have RD4 := Lib.hid (HR.out.kept K4.out)
  have N4a := Lib.hid (fun w h' => number_at (.slice A1 3 c1) (oursL n) n true (by have := RS.num_be4 n h []; rwa [List.append_nil] at this) w h' (by simp [oursL]))
  have N4b := Lib.hid (fun w h' => number_at (.slice A4 (3 + fl.length) c4) (oursL n ++ fl) n true (RS.num_be4 n h fl) w h' (by omega))
  have R4a := Lib.hid (fun w h' => refreshes_at (.slice A1 3 c1) (oursL n) true (by have := ours_refreshes n []; rwa [List.append_nil] at this) w h' (by simp [oursL]))
  have R4b := Lib.hid (fun w h' => refreshes_at (.slice A4 (3 + fl.length) c4) (oursL n ++ fl) true (ours_refreshes n fl) w h' (by omega))
  have I4a : Hid (∀ w, RdC w → Cps w (.slice A1 3 c1) (oursL n) → Calls Tryd.prog 15 #[.slice A1 3 c1] w fun e w' => e = .returned (.bool true) ∧ Kept Nothing w w') := Lib.hid (fun w hr' h' => by
    have := cp_ipv4 (.slice A1 3 c1) (oursL n) w hr' h' (by simp [oursL])
    have e := ours_ipv4 n []
    rw [List.append_nil] at e
    rwa [e] at this)
  have I4b : Hid (∀ w, RdC w → Cps w (.slice A4 (3 + fl.length) c4) (oursL n ++ fl) → Calls Tryd.prog 15 #[.slice A4 (3 + fl.length) c4] w fun e w' => e = .returned (.bool true) ∧ Kept Nothing w w') := Lib.hid (fun w hr' h' => by
    have := cp_ipv4 (.slice A4 (3 + fl.length) c4) (oursL n ++ fl) w hr' h' (by omega)
    rwa [ours_ipv4] at this)
  clear kg k14 HO4 HG4 C3 X3 B3 S3 O3 K3 hlen4 hz0 hz1 hz2 hi
  go_loopw [25] (fun i wr => ∃ k : Nat, k ≤ 2 ∧ i = .int .i64 (k : Int) ∧ Kept Nothing w4 wr) (fun i _ => 2 - (intOf i).toNat)
  case atStart => exact ⟨0, by omega, rfl, Kept.refl _ _⟩
  case round =>
    obtain ⟨k, hk, rfl, hkw⟩ := hrel
    have HK := Lib.hid hkw
    clear hkw
    have hk3 : k = 0 ∨ k = 1 ∨ k = 2 := by omega
    have hx0 := idx0 (.slice A1 3 c1) (.slice A4 (3 + fl.length) c4)
    have hx1 := idx1 (.slice A1 3 c1) (.slice A4 (3 + fl.length) c4)
    rcases hk3 with rfl | rfl | rfl
    · go_wp2_with (first
        | (go_at_call 10; refine (N4a.out _ (P4.out.old HK.out)).mono ?_; rintro e w5 ⟨rfl, hk5⟩; have HK5 := Lib.hid (HK.out.trans hk5); clear hk5)
        | (go_at_call 13; refine (R4a.out _ (P4.out.old HK5.out)).mono ?_; rintro e w6 ⟨rfl, hk6⟩; have HK6 := Lib.hid (HK5.out.trans hk6); clear hk6)
        | (go_at_call 15; refine (I4a.out _ (RD4.out.kept HK6.out) (P4.out.old HK6.out)).mono ?_; rintro e w7 ⟨rfl, hk7⟩; have HK7 := Lib.hid (HK6.out.trans hk7); clear hk7))
      go_roundw
      case rel => exact ⟨1, by omega, rfl, HK7.out⟩
      case measure => simp [intOf]
    · go_wp2_with (first
        | (go_at_call 10; refine (N4b.out _ (Q4.out.old HK.out)).mono ?_; rintro e w5 ⟨rfl, hk5⟩; have HK5 := Lib.hid (HK.out.trans hk5); clear hk5)
        | (go_at_call 13; refine (R4b.out _ (Q4.out.old HK5.out)).mono ?_; rintro e w6 ⟨rfl, hk6⟩; have HK6 := Lib.hid (HK5.out.trans hk6); clear hk6)
        | (go_at_call 15; refine (I4b.out _ (RD4.out.kept HK6.out) (Q4.out.old HK6.out)).mono ?_; rintro e w7 ⟨rfl, hk7⟩; have HK7 := Lib.hid (HK6.out.trans hk7); clear hk7))
      go_roundw
      case rel => exact ⟨2, by omega, rfl, HK7.out⟩
      case measure => simp [intOf]
    · have P5 := Lib.hid (P4.out.old HK.out)
      have K5 := Lib.hid (K4.out.trans HK.out)
      clear P4 Q4 RD4 N4a N4b R4a R4b I4a I4b K4
      go_wp2_with fail
      refine (cp_bytes (.slice A1 3 c1) (oursL n) _ P5.out (by simp [oursL])).mono ?_
      rw [ours_bytes]
      rintro e w6 ⟨xv, rfl, hx6, hk6⟩
      have X6 := Lib.hid hx6
      have P6 := Lib.hid (P5.out.old hk6)
      have K6 := Lib.hid (K5.out.trans hk6)
      obtain ⟨A6, c6, rfl, _, _⟩ := hx6.form
      clear hx6 hk6 P5 K5
      go_wp2_with fail
      refine (read_at _ (xb n) (oursL n, 0, 0) (ours_read n) _ X6.out.by (by simp [xb, be4])).mono ?_
      rintro e w7 ⟨A7, c7, rfl, hp7, hk7⟩
      have kf := (Kept.refl Nothing w7).alloc (.cells #[.int .u8 0, .int .u8 0] 48)
      have F7 := Lib.hid (Blk.fresh w7 48 #[.int .u8 0, .int .u8 0])
      have M7 := Lib.hid (hp7.old kf)
      have P7 := Lib.hid ((P6.out.old hk7).old kf)
      have X7 := Lib.hid ((X6.out.kept hk7 (NoBytes.nothing _)).kept kf (NoBytes.nothing _))
      have K7 := Lib.hid ((K6.out.trans hk7).trans kf)
      obtain ⟨d0, d1⟩ := cells2 F7.out
      clear hp7 hk7 kf P6 X6 K6 F7
      go_wp2_with fail
      refine (cp_of _ (oursL n) _ M7.out (by simp [oursL])).mono ?_
      rintro e w8 ⟨rv8, rfl, hp8, hk8⟩
      have P8 := Lib.hid (P7.out.old hk8)
      have M8 := Lib.hid hp8
      have X8 := Lib.hid (X7.out.kept hk8 (NoBytes.nothing _))
      have K8 := Lib.hid (K7.out.trans hk8)
      obtain ⟨A8, c8, rfl, _, _⟩ := hp8.form
      clear hp8 hk8 P7 M7 X7 K7
      go_wp2_with fail
      refine (cp_of _ (oursL n) _ P8.out (by simp [oursL])).mono ?_
      rintro e w9 ⟨rv9, rfl, hp9, hk9⟩
      have S9 := Lib.hid (cp_same _ _ (oursL n) _ (M8.out.old hk9) hp9 (by simp [oursL]))
      have X9 := Lib.hid (X8.out.kept hk9 (NoBytes.nothing _))
      have K9 := Lib.hid (K8.out.trans hk9)
      obtain ⟨A9, c9, rfl, _, _⟩ := hp9.form
      clear hp9 hk9 P8 M8 X8 K8
      go_wp2_with fail
      refine S9.out.mono ?_
      rintro e w10 ⟨rfl, hk10⟩
      have X10 := Lib.hid (X9.out.kept hk10 (NoBytes.nothing _))
      have K10 := Lib.hid (K9.out.trans hk10)
      clear hk10 S9 X9 K9
      have ka := (Kept.refl Nothing w10).alloc (.cells (bys (xb n)).toArray 5)
      have hbe : (xb n == xb n) = true := beq_self_eq_true _
      have EQ := Lib.hid (by_equal _ _ (xb n) (xb n) _ (X10.out.kept ka (NoBytes.nothing _)).by (made_by (w := w10) (n := w10.heap.size) (cs := (bys (xb n)).toArray) rfl (by simp) (by simp [xb, be4, maxLen])))
      rw [hbe] at EQ
      have KA := Lib.hid (K10.out.trans ka)
      have WK := Lib.hid (cp_wakes (w10.alloc (.cells (bys (xb n)).toArray 5)))
      rw [bys_xb n h] at EQ KA WK
      clear ka hbe X10 K10
      go_wp2_with (first
        | (go_at_call 12; refine (EQ.out).mono ?_; rintro e w11 ⟨rfl, rfl⟩)
        | (go_at_call 20; refine (WK.out).mono ?_; rintro e w12 ⟨rfl, hk12⟩))
      go_ret
      exact ⟨rfl, KA.out.trans hk12⟩
end Go.Proofs.YtknmpadfklckkaaDoor
