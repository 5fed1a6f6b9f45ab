
/-
  attrs: Without a type that no attribute of another type has.
-/
import Derived.Test.YteofbpdogmajoaaGreatDoorZxe
import Derived.Test.YteofbpdogmajoaaGreatDoorZm
import Derived.Test.YteofbpdogmajoaaGreatDoorZsk
import Derived.Laws.EntriesVeiled
namespace Go.Proofs.YteofbpdogmajoaaGreatDoor
open Go.RowKit

theorem wi1_any (a t : UInt8) (x : Value) (pt : Nat) (s : UInt8) (w : World) (hc : w.cell? ⟨pt, 0, none⟩ = some (.int .u8 (s.toNat : Int))) :
    Calls Tryz.prog 55 #[.agg #[.int .u8 (a.toNat : Int), .int .u8 (t.toNat : Int), x], .pointer (some ⟨pt, 0, none⟩)] w fun e w' => e = .returned (.bool (decide (t = s))) ∧ Kept Nothing w w' := by
  have HK := Lib.hid ((Kept.refl Nothing w).alloc (.cells #[.int .u8 (a.toNat : Int), .int .u8 (t.toNat : Int), x] 73))
  have HC := Lib.hid (ot_is a t x s)
  have c0 := HK.out.cell_some hc (fun x => x)
  clear hc
  generalize decide (t = s) = d at *
  go_enter Tryz.func55, Tryz.ntmps55
  go_wp2_with (go_at_call 56; refine (HC.out _).mono ?_; rintro e w1 ⟨rfl, k1⟩)
  go_ret
  exact ⟨rfl, HK.out.trans k1⟩

set_option maxHeartbeats 1000000 in
theorem ots_indexW (v : Value) (l : List Ot) (pt : Nat) (s : UInt8) (w : World) (hv : Ots w v l) (hc : w.cell? ⟨pt, 0, none⟩ = some (.int .u8 (s.toNat : Int))) (hno : ∀ o ∈ l, o.t ≠ s) :
    Calls Tryz.prog 110 #[v, .func (.func 55) #[] #[.pointer (some ⟨pt, 0, none⟩)]] w fun e w' => e = .returned (.int .i64 (-1)) ∧ Kept Nothing w w' := by
  obtain ⟨A, c, rfl, hcc, hm⟩ := hv.form
  unfold maxLen at hm
  have HV := Lib.hid hv
  have HC := Lib.hid hc
  have HN := Lib.hid hno
  clear hv hc hno
  go_enter Tryz.func110, Tryz.ntmps110
  go_wp2
  go_loopw [8] (fun i wr => ∃ k : Nat, k ≤ l.length ∧ i = .int .i64 (k : Int) ∧ Kept Nothing w wr) (fun i _ => l.length - (intOf i).toNat)
  case atStart => exact ⟨0, Nat.zero_le _, rfl, Kept.refl _ _⟩
  case round =>
    obtain ⟨k, hk, rfl, hkw⟩ := hrel
    by_cases hlt : k < l.length
    · obtain ⟨b, o, rfl, hcell⟩ := HV.out.at (by omega)
      obtain ⟨q0, q1, u, q2, q3⟩ := hcell k hlt
      have c0 := hkw.cell_some q0 (fun x => x)
      have c1 := hkw.cell_some q1 (fun x => x)
      have c2 := hkw.cell_some q2 (fun x => x)
      obtain ⟨A1, cc1, rfl, _, _⟩ := q3.form
      have HK := Lib.hid hkw
      have hne := HN.out l[k] (List.getElem_mem hlt)
      have HC2 := Lib.hid (HK.out.cell_some HC.out (fun x => x))
      generalize hP : l[k] = P at *
      obtain ⟨pf, ptt, pv⟩ := P
      simp only at c0 c1 c2 hne
      have HW := Lib.hid (wi1_any pf ptt (.slice A1 pv.length cc1) pt s _ HC2.out)
      rw [decide_eq_false hne] at HW
      unfold by8 at c0 c1
      clear hcell q0 q1 q2 q3 hkw hP hne
      go_wp2_with (go_at_call 55; with_reducible refine (HW.out).mono ?_; rintro e w1 ⟨rfl, hk1⟩)
      go_roundw
      case rel => exact ⟨k + 1, by omega, by go_num, HK.out.trans hk1⟩
      case measure => simp [intOf]; omega
    · go_wp2
      go_ret
      exact ⟨rfl, hkw⟩

theorem ots_delete (v : Value) (l : List Ot) (pt : Nat) (s : UInt8) (w : World) (hv : Ots w v l) (hc : w.cell? ⟨pt, 0, none⟩ = some (.int .u8 (s.toNat : Int))) (hno : ∀ o ∈ l, o.t ≠ s) :
    Calls Tryz.prog 54 #[v, .func (.func 55) #[] #[.pointer (some ⟨pt, 0, none⟩)]] w fun e w' => e = .returned v ∧ Kept Nothing w w' := by
  have HC := Lib.hid (ots_indexW v l pt s w hv hc hno)
  obtain ⟨A, c, rfl, hcc, hm⟩ := hv.form
  clear hv hc hno
  go_enter Tryz.func54, Tryz.ntmps54
  go_wp2_with (go_at_call 110; refine (HC.out).mono ?_; rintro e w1 ⟨rfl, k1⟩)
  go_ret
  exact ⟨rfl, k1⟩

namespace Ax
theorem drop_fit {a : At} (t : UInt8) (h : fit a) : fit (drop a t) := by
  obtain ⟨h1, h2, h3, h4, h5, h6, h7, h8⟩ := h
  have h0 : hasOff a t < 4294967296 := by unfold hasOff; split; exact off_lt _ _; exact h1
  unfold fit drop
  refine ⟨h0, ?_, ?_, ?_, ?_, ?_, ?_, ?_⟩ <;> simp only <;> split <;> omega
end Ax
theorem AtO.forms {w : World} {B : Nat} {a : At} {pv cv qv ov : Value} (h : AtO w B a pv cv qv ov) : (∃ A c, pv = .slice A a.path.length c) ∧ (∃ A c, cv = .slice A a.comms.length c) ∧ (∃ A c, qv = .slice A a.path4.length c) ∧ ∃ A c, ov = .slice A a.others.length c := by
  obtain ⟨⟨xs, h1, _⟩, ⟨h3, _⟩, ⟨ys, h5, _⟩, ⟨zs, h7, _⟩, _⟩ := h
  obtain ⟨A, c, h1, -, -⟩ := ow_form h1
  obtain ⟨A2, c2, h2, -, -⟩ := ow_form h3
  obtain ⟨A3, c3, h3, -, -⟩ := ow_form h5
  obtain ⟨A4, c4, h4, -, -⟩ := ow_form h7
  exact ⟨⟨A, c, h1⟩, ⟨A2, c2, h2⟩, ⟨A3, c3, h3⟩, A4, c4, h4⟩
theorem AtO.one {w : World} {B : Nat} {a : At} {pv cv qv ov : Value} (h : AtO w B a pv cv qv ov) : (Ax.agg a pv cv qv ov).all (·.oneCell') = true := by
  obtain ⟨⟨_, _, rfl⟩, ⟨_, _, rfl⟩, ⟨_, _, rfl⟩, _, _, rfl⟩ := h.forms
  exact Ax.agg_one ..
set_option maxRecDepth 20000 in
set_option maxHeartbeats 1600000 in
theorem at_without (a : At) (pv cv qv ov : Value) (t : UInt8) (w : World) (h : Atp w a pv cv qv ov) (ht : Wtd w) (hsm : Ax.small a) (hcl : a.comms.length ≤ 1000000) (hol : a.others.length ≤ 1000000) (hvl : ∀ o ∈ a.others, o.v.length ≤ 1000000) (hno : ∀ o ∈ a.others, o.t ≠ t) :
    Calls Tryz.prog 16 #[.agg (Ax.agg a pv cv qv ov), .int .u8 (t.toNat : Int)] w fun e w' => ∃ pv' cv' qv' ov', e = .returned (.agg (Ax.agg (Ax.drop a t) pv' cv' qv' ov')) ∧ AtO w' w.heap.size (Ax.drop a t) pv' cv' qv' ov' ∧ Kept Nothing w w' := by
  have HT := Lib.hid ht
  have HCO := Lib.hid (fun u (k : Kept Nothing w u) => at_copy a pv cv qv ov u (h.old k) hsm hcl hol hvl)
  have HNO := Lib.hid hno
  clear hsm hcl hol hvl hno ht
  obtain ⟨Ap, np, rfl, -, -⟩ := (show ∃ A c, pv = .slice A a.path.length c ∧ _ ∧ _ from h.1.form)
  obtain ⟨Ac, nc, rfl, -, -⟩ := h.2.1.form
  obtain ⟨Aq, nq, rfl, -, -⟩ := (show ∃ A c, qv = .slice A a.path4.length c ∧ _ ∧ _ from h.2.2.1.form)
  obtain ⟨Ao, no, rfl, -, -⟩ := h.2.2.2.1.form
  clear h
  go_enter Tryz.func16, Tryz.ntmps16
  go_upto_region 1 with fail
  obtain ⟨W1, hW1⟩ : ∃ W1, ((w.alloc (.cells (Ax.agg a (.slice Ap a.path.length np) (.slice Ac a.comms.length nc) (.slice Aq a.path4.length nq) (.slice Ao a.others.length no)) 33)).alloc (.cells #[.int .u8 (t.toNat : Int)] 5)).alloc (.cells z13 33) = W1 := ⟨_, rfl⟩
  have K1 : Hid (Kept Nothing w W1) := Lib.hid (by rw [← hW1]; exact (((Kept.refl Nothing _).alloc _).alloc _).alloc _)
  have B1 : Hid (Blk W1 w.heap.size 33 (Ax.agg a (.slice Ap a.path.length np) (.slice Ac a.comms.length nc) (.slice Aq a.path4.length nq) (.slice Ao a.others.length no))) := Lib.hid (by rw [← hW1]; exact ((Blk.fresh w _ _).alloc _).alloc _)
  have T1 : Hid (Blk W1 (w.heap.size + 1) 5 #[.int .u8 (t.toNat : Int)]) := Lib.hid (by
    have h := Blk.fresh (w.alloc (.cells (Ax.agg a (.slice Ap a.path.length np) (.slice Ac a.comms.length nc) (.slice Aq a.path4.length nq) (.slice Ao a.others.length no)) 33)) 5 #[.int .u8 (t.toNat : Int)]
    rw [World.size_alloc] at h
    rw [← hW1]
    exact h.alloc _)
  have Z1 : Hid (Blk W1 (w.heap.size + 1 + 1) 33 z13) := Lib.hid (by
    have h := Blk.fresh ((w.alloc (.cells (Ax.agg a (.slice Ap a.path.length np) (.slice Ac a.comms.length nc) (.slice Aq a.path4.length nq) (.slice Ao a.others.length no)) 33)).alloc (.cells #[.int .u8 (t.toNat : Int)] 5)) 33 z13
    rw [World.size_alloc, World.size_alloc] at h
    rw [← hW1]
    exact h)
  rw [show (#[.int .u32 0, .int .u8 0, .slice none 0 0, .int .u32 0, .int .u32 0, .int .u32 0, .int .u32 0, .int .u32 0, .slice none 0 0, .slice none 0 0, .int .u32 0, .int .u32 0, .slice none 0 0] : Array Value) = z13 from rfl, hW1]
  clear hW1
  go_upto_region 2 with (first
    | (refine wpList_store_row rfl 33 _ _ rfl w.heap.size (Ax.agg a pv2 cv2 qv2 ov2) rfl rfl 33 _ B2.out (by kernel_rfl) rfl AONE.out ?_)
    | (go_at_call 53; refine (HCO.out _ K1.out).mono ?_; rintro e w2 ⟨pv2, cv2, qv2, ov2, rfl, n2, k2⟩; (have N2 := Lib.hid (n2.weak K1.out.size)); (have B2 := Lib.hid (B1.out.kept k2 (fun x => x))); (have T2 := Lib.hid (T1.out.kept k2 (fun x => x))); (have Z2 := Lib.hid (Z1.out.kept k2 (fun x => x))); (have K2 := Lib.hid (K1.out.trans k2)); (have AONE : Hid ((Ax.agg a pv2 cv2 qv2 ov2).all (·.oneCell') = true) := Lib.hid (AtO.one N2.out)); clear n2 k2)
    | (refine wpList_load_row rfl 33 _ rfl w.heap.size rfl 33 _ (0, 0) _ B1.out Tryz.underlying33 rfl (by kernel_rfl) ?_))
  simp only [Act.put]
  have k3 : Kept (Only w.heap.size) w2 (w2.setRow w.heap.size (Ax.agg a pv2 cv2 qv2 ov2)) := Kept.setRow _ _
  have B3 : Hid (Blk (w2.setRow w.heap.size (Ax.agg a pv2 cv2 qv2 ov2)) w.heap.size 33 (Ax.agg a pv2 cv2 qv2 ov2)) := Lib.hid (setRow_heap w2 _ _ _ _ _ B2.out)
  have hoff : Off5 w2 (Only w.heap.size) := Off5.blk B2.out (by decide)
  have N3 := Lib.hid (N2.out.off5 k3 hoff)
  have T3 := Lib.hid (T2.out.kept k3 (fun (e : w.heap.size + 1 = w.heap.size) => by omega))
  have Z3 := Lib.hid (Z2.out.kept k3 (fun (e : w.heap.size + 1 + 1 = w.heap.size) => by omega))
  have K3 := Lib.hid (K2.out.trans_new k3 (fun i hi (e : i = w.heap.size) => by omega))
  generalize w2.setRow w.heap.size (Ax.agg a pv2 cv2 qv2 ov2) = W3 at *
  clear k3 hoff N2 T2 Z2 K2 B2 K1 B1 T1 Z1 HCO AONE
  have ct : W3.cell? ⟨w.heap.size + 1, 0, none⟩ = some (.int .u8 (t.toNat : Int)) := T3.out.cell 0
  go_upto_region 3 with (go_at_call 43; refine (at_drop w.heap.size a pv2 cv2 qv2 ov2 t W3 B3.out (HT.out.kept K3.out)).mono ?_; rintro e w4 ⟨⟨ve, rfl⟩, b4, k4⟩)
  have hoff : Off5 W3 (Only w.heap.size) := Off5.blk B3.out (by decide)
  have N4 := Lib.hid ((N3.out.drop t).off5 k4 hoff)
  have T4 := Lib.hid (T3.out.kept k4 (fun (e : w.heap.size + 1 = w.heap.size) => by omega))
  have Z4 := Lib.hid (Z3.out.kept k4 (fun (e : w.heap.size + 1 + 1 = w.heap.size) => by omega))
  have K4 := Lib.hid (K3.out.trans_new k4 (fun i hi (e : i = w.heap.size) => by omega))
  obtain ⟨-, -, -, Bo, mo, hov⟩ := N4.out.forms
  subst hov
  have B4 := Lib.hid b4
  clear k4 hoff N3 T3 Z3 K3 B3 b4 ct
  generalize gone (decide (t.toNat = 2)) pv2 = pv4 at *
  generalize gone (decide (t.toNat = 8)) cv2 = cv4 at *
  generalize gone (decide (t.toNat = 17)) qv2 = qv4 at *
  have c12 : w4.cell? ⟨w.heap.size, 12, none⟩ = some (.slice Bo a.others.length mo) := B4.out.cell 12
  have HDF := Lib.hid (ots_delete (.slice Bo a.others.length mo) a.others (w.heap.size + 1) t w4 (Oown.ots N4.out.2.2.2.1) (T4.out.cell 0) HNO.out)
  go_upto_region 4 with (go_at_call 54; refine (HDF.out).mono ?_; rintro e w5 ⟨rfl, k5⟩; (have b5 := B4.out.kept k5 (fun x => x)); (have g12 := b5.free 12); (have d12 : w5.cell? ⟨w.heap.size, 12, none⟩ = some (.slice Bo a.others.length mo) := b5.cell 12); (have B5 := Lib.hid b5); (have K5 := Lib.hid k5); clear b5 k5)
  have k6 : Kept (Only w.heap.size) w5 (w5.setCell ⟨w.heap.size, 12, none⟩ (.slice Bo a.others.length mo)) := Kept.own _ _ _ _
  have B6 : Hid (Blk (w5.setCell ⟨w.heap.size, 12, none⟩ (.slice Bo a.others.length mo)) w.heap.size 33 (Ax.agg (Ax.drop a t) pv4 cv4 qv4 (.slice Bo a.others.length mo))) := Lib.hid (B5.out.put 12 _)
  have hoff : Off5 w5 (Only w.heap.size) := Off5.blk B5.out (by decide)
  have N6 := Lib.hid ((N4.out.off5 K5.out (Off5.nothing _)).off5 k6 hoff)
  have Z6 := Lib.hid ((Z4.out.kept K5.out (fun x => x)).kept k6 (fun (e : w.heap.size + 1 + 1 = w.heap.size) => by omega))
  have K6 := Lib.hid ((K4.out.trans K5.out).trans_new k6 (fun i hi (e : i = w.heap.size) => by omega))
  generalize w5.setCell ⟨w.heap.size, 12, none⟩ (.slice Bo a.others.length mo) = W6 at *
  clear k6 hoff N4 T4 Z4 K4 B4 K5 B5 c12 g12 d12
  go_wp2_with (first
    | (refine wpList_store_row rfl 33 _ _ rfl (w.heap.size + 1 + 1) (Ax.agg (Ax.drop a t) pv4 cv4 qv4 (.slice Bo a.others.length mo)) rfl rfl 33 z13 Z6.out (by kernel_rfl) rfl (AtO.one N6.out) ?_)
    | (refine wpList_load_row rfl 33 _ rfl w.heap.size rfl 33 _ (0, 0) _ B6.out Tryz.underlying33 rfl (by kernel_rfl) ?_))
  have hB : Blk (W6.setRow (w.heap.size + 1 + 1) (Ax.agg (Ax.drop a t) pv4 cv4 qv4 (.slice Bo a.others.length mo))) (w.heap.size + 1 + 1) 33 (Ax.agg (Ax.drop a t) pv4 cv4 qv4 (.slice Bo a.others.length mo)) := setRow_heap W6 _ _ _ _ _ Z6.out
  refine bodyPost_ret (v := .agg (Ax.agg (Ax.drop a t) pv4 cv4 qv4 (.slice Bo a.others.length mo))) ?_ rfl ⟨_, _, _, _, rfl, N6.out.off5 (Kept.setRow _ _) (Off5.blk Z6.out (by decide)), K6.out.trans_new (Kept.setRow _ _) (fun i hi (e : i = w.heap.size + 1 + 1) => by omega)⟩
  exact results_cell_row (p := 4) rfl _ _ (w.heap.size + 1 + 1) 33 _ (0, 0) _ rfl hB Tryz.underlying33 rfl (by kernel_rfl)
end Go.Proofs.YteofbpdogmajoaaGreatDoor
