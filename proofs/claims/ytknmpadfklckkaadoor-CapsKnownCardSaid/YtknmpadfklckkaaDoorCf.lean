
/-
  The law's own words of chapter 5: same, of, few.
-/
import Derived.Test.YtknmpadfklckkaaDoorCe
import Derived.Test.YtknmpadfklckkaaDoorWd
namespace Go.Proofs.YtknmpadfklckkaaDoor
open Go.RowKit

theorem equal_by {w : World} {a b : Value} {l m : List UInt8} (ha : By w a l) (hb : By w b m) (n : Nat) :
    Calls Tryd.prog 12 #[a, b] (w.drewN n) fun e w'' => e = .returned (.bool (l == m)) ∧ ∃ k, w'' = w.drewN k :=
  (by_equal a b l m _ (ha.old ((Kept.refl Nothing w).drewN n)) (hb.old ((Kept.refl Nothing w).drewN n))).mono fun _ _ ⟨h1, h2⟩ => ⟨h1, n, h2.symm⟩

set_option maxHeartbeats 1000000 in
/-- The same capabilities, whatever slices they lie in. -/
theorem cp_same (v1 v2 : Value) (l : List Cp) (w : World) (h1 : Cps w v1 l) (h2 : Cps w v2 l) (hl : l.length ≤ 1000000) :
    Calls Tryd.prog 17 #[v1, v2] w fun r w' => r = .returned (.bool true) ∧ Kept Nothing w w' := by
  obtain ⟨A1, c1, rfl, hc1, hm1⟩ := h1.form
  obtain ⟨A2, c2, rfl, hc2, hm2⟩ := h2.form
  have H1 := Lib.hid h1
  have H2 := Lib.hid h2
  clear h1 h2
  go_enter Tryd.func17, Tryd.ntmps17
  go_wp2_with fail
  go_loopw [13] (fun i wr => ∃ k : Nat, i = .int .i64 (k : Int) ∧ k ≤ l.length ∧ Kept Nothing w wr) (fun i _ => l.length - (intOf i).toNat)
  case atStart => exact ⟨0, rfl, Nat.zero_le _, Kept.refl _ _⟩
  case round =>
    obtain ⟨k, rfl, hk, hkk⟩ := hrel
    have KK := Lib.hid hkk
    clear hkk
    by_cases hlt : k < l.length
    · obtain ⟨b1, x1, rfl, g1⟩ := (H1.out.old KK.out).at (by omega)
      obtain ⟨b2, x2, rfl, g2⟩ := (H2.out.old KK.out).at (by omega)
      obtain ⟨p0, u1, p1, hx1⟩ := g1 k hlt
      obtain ⟨q0, u2, q1, hx2⟩ := g2 k hlt
      clear g1 g2
      have X1 := Lib.hid hx1
      have X2 := Lib.hid hx2
      have i1 : (0 : Int) ≤ (k : Int) := by omega
      have i2 : (k : Int) < (l.length : Int) := by omega
      unfold by8 at p0 q0
      have d1 : (((l[k]).1.toNat : Int) != ((l[k]).1.toNat : Int)) = false := by simp
      have d2 : ((l[k]).2 == (l[k]).2) = true := beq_self_eq_true _
      generalize (l[k]).1.toNat = t at *
      have E := Lib.hid (fun m => equal_by X1.out X2.out m)
      rw [d2] at E
      clear hx1 hx2 d2 X1 X2
      go_wp2_with fail
      go_quiet ((go_at_call 12; exact E.out _))
      go_wp2
      go_roundw
      case rel => exact ⟨k + 1, by go_num, by omega, KK.out.drewN _⟩
      case measure => simp [intOf]; omega
    · go_wp2
      go_ret
      exact ⟨rfl, KK.out⟩

set_option maxHeartbeats 1000000 in
theorem cp_of (v : Value) (l : List Cp) (w : World) (hv : Cps w v l) (hl : l.length ≤ 1000000) :
    Calls Tryd.prog 7 #[v] w fun e w' => ∃ rv, e = .returned rv ∧ Cps w' rv l ∧ Kept Nothing w w' := by
  obtain ⟨A, c, rfl, hc, hm⟩ := hv.form
  have HV := Lib.hid hv
  obtain ⟨i0, hi, hz0, hz1, hz2⟩ := info_parts rcap_info
  clear hv
  go_enter Tryd.func7, Tryd.ntmps7
  go_wp2
  go_loopw [3, 8] (fun lv i wr => ∃ (k : Nat) (xs : List Value), k ≤ l.length ∧ i = .int .i64 k ∧ wr.ownsRow w.heap.size 56 2 lv k xs ∧ Cells (By w) xs (l.take k) ∧ Kept Nothing w wr) (fun _ i _ => l.length - (intOf i).toNat)
  case atStart => exact ⟨0, [], by omega, rfl, World.ownsRow_nil _ _ _ _, trivial, Kept.refl _ w⟩
  case round =>
    obtain ⟨k, xs, hk, rfl, ho, hcs, hkw⟩ := hrel
    by_cases hlt : k < l.length
    · obtain ⟨b, o, rfl, hcell⟩ := HV.out.at (by omega)
      obtain ⟨q0, u, q1, q2⟩ := hcell k hlt
      have c0 := hkw.cell_some q0 (fun x => x)
      have c1 := hkw.cell_some q1 (fun x => x)
      obtain ⟨A1, cc1, rfl, _, _⟩ := q2.form
      have HB := Lib.hid q2
      have HO := Lib.hid ho
      have HC := Lib.hid hcs
      have HK := Lib.hid hkw
      have HT := Lib.hid (List.take_succ_eq_append_getElem hlt)
      have hsz := hkw.size
      generalize hP : l[k] = P at *
      obtain ⟨kd, val⟩ := P
      simp only at c0 c1 HB
      unfold by8 at c0
      clear hcell q0 q1 q2 hkw hP ho hcs
      go_wp2_with (at_builtin; refine wpList_app _ rfl _ _ 26 rfl w.heap.size 56 i0 _ 2 32 Tryd.underlying26 hi hz0 hz1 hz2 rfl (by decide) u3 k xs rfl (ow_kept HO.out (((Kept.refl Nothing wr).alloc _).alloc _) (fun _ _ x => x)) (some ⟨wr.heap.size + 1, 0, none⟩) 1 1 [.int .u8 (kd.toNat : Int), .slice A1 val.length cc1] rfl (by have := src_new (wr.alloc (.cells #[.int .u8 (kd.toNat : Int), .slice A1 val.length cc1] 54)) 56 #[.int .u8 (kd.toNat : Int), .slice A1 val.length cc1] 2 1 rfl (by simp [Value.oneCell']); rwa [World.size_alloc] at this) (by simp [maxLen]; omega) (by omega) (by simp; omega) ?_; intro v' w7 ho7 hg7 hat7)
      go_roundw
      case rel =>
        refine ⟨k + 1, _, by omega, by go_num, ho7, ?_, ((HK.out.alloc _).alloc _).grown hg7 (fun k hk hlt => by have := (HO.out.lt k hk).1; omega)⟩
        rw [HT.out]
        exact Cells.snoc (c := (kd, val)) HB.out HC.out
      case measure => simp [intOf]; omega
    · obtain rfl : k = l.length := by omega
      obtain ⟨A4, c4, rfl, _, _⟩ := ow_form ho
      rw [List.take_length] at hcs
      have HP := Lib.hid (Cps.of_own ho (hcs.mono (fun _ _ h => h.old hkw)))
      clear ho hcs
      go_wp2
      go_ret
      exact ⟨_, rfl, HP.out, hkw⟩

theorem slice_to (A : Option Addr) (n c k : Nat) (hk : k ≤ c) (w : World) :
    (Instr.slice 28 (.slice A n c) none (some (.int .i64 (k : Int))) none).run Tryd.prog w = .ok (.slice A k c) w := by
  have hz := Tryd.sizeOf5
  have he : Tryd.prog.elem 28 = 5 := by kernel_rfl
  rw [run_slice_h w 28 A n c (by kernel_rfl) .i64 k (by omega) (by omega), he, hz]
  cases A <;> simp [sliced, Addr.add]

def cutC (c : Cp) : Cp := (c.1, c.2.take 260)
def fewL (l : List Cp) : List Cp := (l.take 20).map cutC
end Go.Proofs.YtknmpadfklckkaaDoor
