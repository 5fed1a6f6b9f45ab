
/-
  session: the document's message.
-/
import Derived.Test.YtembdobkgpojfaaDoorSOb
namespace Go.Proofs.YtembdobkgpojfaaDoor
open Go.RowKit

set_option maxRecDepth 100000 in
set_option maxHeartbeats 16000000 in
theorem rs_msg41z (hd : Nat) (c s : Nat) (A : Option Addr) (n cc : Nat) (dA : Option Addr) (dn dc : Nat) (w : World) :
    Calls Tryd.prog 61 #[.agg #[.int .i64 4, .int .i64 hd], .agg #[.int .i64 5, .int .i64 1, .int .i64 0, .int .i64 c, .int .i64 s, .slice A n cc]] w fun e w' => RR (.slice dA dn dc) w w' e (Sm.message ⟨4, hd⟩ 1 0) := by
  have HP : Hid (Sm.message ⟨4, hd⟩ 1 0 = (⟨5, 0⟩, [Sm.send 4] ++ [Sm.unset 2])) := Lib.hid (by simp [Sm.message])
  have B1 : Hid (Bxr w (((w.alloc (.cells #[.int .i64 4, .int .i64 hd] 26)).alloc (.cells #[.int .i64 5, .int .i64 1, .int .i64 0, .int .i64 c, .int .i64 s, .slice A n cc] 39)).alloc (.cells #[.int .i64 0, .int .i64 0] 26)) 4 hd 5 0 1 c s A n cc) := Lib.hid Bxr.make
  have HG : Hid (w.heap.size ≤ w.heap.size + 1 + 1) := Lib.hid (by omega)
  go_enter Tryd.func61, Tryd.ntmps61
  go_upto_region 1 with fail
  change Code.wp _ _ _ _ ((((w.alloc (.cells #[.int .i64 4, .int .i64 hd] 26)).alloc (.cells #[.int .i64 5, .int .i64 1, .int .i64 0, .int .i64 c, .int .i64 s, .slice A n cc] 39)).alloc (.cells #[.int .i64 0, .int .i64 0] 26)))
  generalize ((w.alloc (.cells #[.int .i64 4, .int .i64 hd] 26)).alloc (.cells #[.int .i64 5, .int .i64 1, .int .i64 0, .int .i64 c, .int .i64 s, .slice A n cc] 39)).alloc (.cells #[.int .i64 0, .int .i64 0] 26) = W1 at *
  obtain ⟨⟨m0, m1⟩, ⟨e0, e1, e2, -, -, -⟩, r0, r1, f0, f1⟩ := B1.out.cells
  have k2 := (Kept.refl Nothing W1).alloc (.cells #[.int .i64 1, .int .i64 4, .int .i64 0, .int .i64 0, .int .i64 0, .slice none 0 0] 107)
  have B2 := Lib.hid (B1.out.old k2)
  have D2 := Lib.hid (own_blkR w B1.out.k.size (.slice dA dn dc) [Sm.send 4] _ 1 rfl rfl (by decide) (Blk.fresh W1 107 #[.int .i64 1, .int .i64 4, .int .i64 0, .int .i64 0, .int .i64 0, .slice none 0 0]))
  go_upto_region 3 with fail
  change Code.wp _ _ _ _ (W1.alloc (.cells #[.int .i64 1, .int .i64 4, .int .i64 0, .int .i64 0, .int .i64 0, .slice none 0 0] 107))
  clear k2 B1 m0 m1 e0 e1 e2 r0 r1 f0 f1
  generalize W1.alloc (.cells #[.int .i64 1, .int .i64 4, .int .i64 0, .int .i64 0, .int .i64 0, .slice none 0 0] 107) = W2 at *
  generalize W1.heap.size = d2 at *
  obtain ⟨⟨m0, m1⟩, ⟨e0, e1, e2, -, -, -⟩, -⟩ := B2.out.cells
  have k3 := (Kept.refl Nothing W2).alloc (.cells #[.int .i64 4, .int .i64 2, .int .i64 0, .int .i64 0, .int .i64 0, .slice none 0 0] 107)
  have B3 := Lib.hid (B2.out.old k3)
  have D3 := Lib.hid (ow_kept D2.out k3 (fun _ _ x => x))
  clear k3
  go_upto_region 6 with (at_builtin; refine wpList_appR rfl _ _ rfl w (.slice dA dn dc) (some ⟨d2, 0, none⟩) 1 1 [Sm.send 4] [Sm.unset 2] rfl rfl D3.out (some ⟨W2.heap.size, 0, none⟩) 1 1 rfl rfl (src_litR W2 dA dn dc [Sm.unset 2] _ rfl) (by simp) B3.out.k ?_; intro A4 n4 c4 w4 hn4 ho4 hk4 hb4; (have E4 := Lib.hid (hb4 _ _ _ (by decide) B3.out.e)); (have R4 := Lib.hid (hb4 _ _ _ (by decide) B3.out.r)); (have H4 := Lib.hid (And.intro hn4 (And.intro ho4 hk4))); clear hn4 ho4 hk4 hb4)
  clear B2 D2 B3 D3 m0 m1 e0 e1 e2
  have e2 : w4.cell? ⟨w.heap.size + 1, 2, none⟩ = some (.int .i64 0) := E4.out.cell 2
  obtain ⟨r0, r1, f0, f1⟩ := mcellsR R4.out
  go_wp2
  rw [HP.out]
  refine bodyPost_ret (ret_machR rfl _ _ (w.heap.size + 1 + 1) _ _ _ rfl rfl (fin_blkR R4.out)) rfl ?_
  exact rr_own H4.out.1 H4.out.2.1 R4.out H4.out.2.2 HG.out
set_option maxRecDepth 100000 in
set_option maxHeartbeats 16000000 in
theorem rs_msg41h (hd : Nat) (h : Nat) (c s : Nat) (A : Option Addr) (n cc : Nat) (dA : Option Addr) (dn dc : Nat) (w : World) (hh : 0 < h ∧ h ≤ 65535) :
    Calls Tryd.prog 61 #[.agg #[.int .i64 4, .int .i64 hd], .agg #[.int .i64 5, .int .i64 1, .int .i64 h, .int .i64 c, .int .i64 s, .slice A n cc]] w fun e w' => RR (.slice dA dn dc) w w' e (Sm.message ⟨4, hd⟩ 1 h) := by
  have HP : Hid (Sm.message ⟨4, hd⟩ 1 h = (⟨5, h⟩, [Sm.send 4] ++ [Sm.set 2 h, Sm.set 3 (h / 3)])) := Lib.hid (by simp [Sm.message]; omega)
  have hz : ((h : Int) == 0) = false := by simp; omega
  have h1 : Int.tdiv (h : Int) 3 = (h : Int) / 3 := Int.tdiv_eq_ediv_of_nonneg (by omega)
  have h2 : wrap64 ((h : Int) / 3) = (h : Int) / 3 := by unfold wrap64; omega
  clear hh
  have B1 : Hid (Bxr w (((w.alloc (.cells #[.int .i64 4, .int .i64 hd] 26)).alloc (.cells #[.int .i64 5, .int .i64 1, .int .i64 h, .int .i64 c, .int .i64 s, .slice A n cc] 39)).alloc (.cells #[.int .i64 0, .int .i64 0] 26)) 4 hd 5 h 1 c s A n cc) := Lib.hid Bxr.make
  have HG : Hid (w.heap.size ≤ w.heap.size + 1 + 1) := Lib.hid (by omega)
  go_enter Tryd.func61, Tryd.ntmps61
  go_upto_region 1 with fail
  change Code.wp _ _ _ _ ((((w.alloc (.cells #[.int .i64 4, .int .i64 hd] 26)).alloc (.cells #[.int .i64 5, .int .i64 1, .int .i64 h, .int .i64 c, .int .i64 s, .slice A n cc] 39)).alloc (.cells #[.int .i64 0, .int .i64 0] 26)))
  generalize ((w.alloc (.cells #[.int .i64 4, .int .i64 hd] 26)).alloc (.cells #[.int .i64 5, .int .i64 1, .int .i64 h, .int .i64 c, .int .i64 s, .slice A n cc] 39)).alloc (.cells #[.int .i64 0, .int .i64 0] 26) = W1 at *
  obtain ⟨⟨m0, m1⟩, ⟨e0, e1, e2, -, -, -⟩, r0, r1, f0, f1⟩ := B1.out.cells
  have k2 := (Kept.refl Nothing W1).alloc (.cells #[.int .i64 1, .int .i64 4, .int .i64 0, .int .i64 0, .int .i64 0, .slice none 0 0] 107)
  have B2 := Lib.hid (B1.out.old k2)
  have D2 := Lib.hid (own_blkR w B1.out.k.size (.slice dA dn dc) [Sm.send 4] _ 1 rfl rfl (by decide) (Blk.fresh W1 107 #[.int .i64 1, .int .i64 4, .int .i64 0, .int .i64 0, .int .i64 0, .slice none 0 0]))
  go_upto_region 3 with fail
  change Code.wp _ _ _ _ (W1.alloc (.cells #[.int .i64 1, .int .i64 4, .int .i64 0, .int .i64 0, .int .i64 0, .slice none 0 0] 107))
  clear k2 B1 m0 m1 e0 e1 e2 r0 r1 f0 f1
  generalize W1.alloc (.cells #[.int .i64 1, .int .i64 4, .int .i64 0, .int .i64 0, .int .i64 0, .slice none 0 0] 107) = W2 at *
  generalize W1.heap.size = d2 at *
  obtain ⟨⟨m0, m1⟩, ⟨e0, e1, e2, -, -, -⟩, -⟩ := B2.out.cells
  have k3 := (Kept.refl Nothing W2).alloc (.cells #[.int .i64 3, .int .i64 2, .int .i64 h, .int .i64 0, .int .i64 0, .slice none 0 0, .int .i64 3, .int .i64 3, .int .i64 ((h : Int) / 3), .int .i64 0, .int .i64 0, .slice none 0 0] 107)
  have B3 := Lib.hid (B2.out.old k3)
  have D3 := Lib.hid (ow_kept D2.out k3 (fun _ _ x => x))
  clear k3
  go_upto_region 6 with (at_builtin; refine wpList_appR rfl _ _ rfl w (.slice dA dn dc) (some ⟨d2, 0, none⟩) 1 1 [Sm.send 4] [Sm.set 2 h, Sm.set 3 (h / 3)] rfl rfl D3.out (some ⟨W2.heap.size, 0, none⟩) 2 2 rfl rfl (src_litR W2 dA dn dc [Sm.set 2 h, Sm.set 3 (h / 3)] _ rfl) (by simp) B3.out.k ?_; intro A4 n4 c4 w4 hn4 ho4 hk4 hb4; (have E4 := Lib.hid (hb4 _ _ _ (by decide) B3.out.e)); (have R4 := Lib.hid (hb4 _ _ _ (by decide) B3.out.r)); (have H4 := Lib.hid (And.intro hn4 (And.intro ho4 hk4))); clear hn4 ho4 hk4 hb4)
  clear B2 D2 B3 D3 m0 m1 e0 e1 e2
  have e2 : w4.cell? ⟨w.heap.size + 1, 2, none⟩ = some (.int .i64 h) := E4.out.cell 2
  obtain ⟨r0, r1, f0, f1⟩ := mcellsR R4.out
  go_wp2
  rw [HP.out]
  refine bodyPost_ret (ret_machR rfl _ _ (w.heap.size + 1 + 1) _ _ _ rfl rfl (fin_blkR R4.out)) rfl ?_
  exact rr_own H4.out.1 H4.out.2.1 R4.out H4.out.2.2 HG.out
set_option maxRecDepth 100000 in
set_option maxHeartbeats 16000000 in
theorem rs_msg54 (hd : Nat) (ho : Int) (c s : Nat) (A : Option Addr) (n cc : Nat) (dA : Option Addr) (dn dc : Nat) (w : World) :
    Calls Tryd.prog 61 #[.agg #[.int .i64 5, .int .i64 hd], .agg #[.int .i64 5, .int .i64 4, .int .i64 ho, .int .i64 c, .int .i64 s, .slice A n cc]] w fun e w' => RR (.slice dA dn dc) w w' e (Sm.message ⟨5, hd⟩ 4 ho.toNat) := by
  have HP : Hid (Sm.message ⟨5, hd⟩ 4 ho.toNat = (⟨6, hd⟩, Sm.holds hd ++ [Sm.a0 7])) := Lib.hid (by simp [Sm.message])
  have B1 : Hid (Bxr w (((w.alloc (.cells #[.int .i64 5, .int .i64 hd] 26)).alloc (.cells #[.int .i64 5, .int .i64 4, .int .i64 ho, .int .i64 c, .int .i64 s, .slice A n cc] 39)).alloc (.cells #[.int .i64 0, .int .i64 0] 26)) 5 hd 5 ho 4 c s A n cc) := Lib.hid Bxr.make
  have HG : Hid (w.heap.size ≤ w.heap.size + 1 + 1) := Lib.hid (by omega)
  go_enter Tryd.func61, Tryd.ntmps61
  go_upto_region 1 with fail
  change Code.wp _ _ _ _ ((((w.alloc (.cells #[.int .i64 5, .int .i64 hd] 26)).alloc (.cells #[.int .i64 5, .int .i64 4, .int .i64 ho, .int .i64 c, .int .i64 s, .slice A n cc] 39)).alloc (.cells #[.int .i64 0, .int .i64 0] 26)))
  generalize ((w.alloc (.cells #[.int .i64 5, .int .i64 hd] 26)).alloc (.cells #[.int .i64 5, .int .i64 4, .int .i64 ho, .int .i64 c, .int .i64 s, .slice A n cc] 39)).alloc (.cells #[.int .i64 0, .int .i64 0] 26) = W1 at *
  obtain ⟨⟨m0, m1⟩, ⟨e0, e1, e2, -, -, -⟩, r0, r1, f0, f1⟩ := B1.out.cells
  have HH := Lib.hid (fun u => rs_holds 5 hd dA dn dc u)
  have HD : Hid (Bxr w W1.drew 5 hd 5 ho 4 c s A n cc) := Lib.hid ⟨B1.out.k.drew, B1.out.m.drew, B1.out.e.drew, B1.out.r.drew⟩
  have ka := (Kept.refl Nothing W1).alloc (.cells #[.int .i64 7, .int .i64 0, .int .i64 0, .int .i64 0, .int .i64 0, .slice none 0 0] 107)
  have HA0 : Hid (Bxr w (W1.alloc (.cells #[.int .i64 7, .int .i64 0, .int .i64 0, .int .i64 0, .int .i64 0, .slice none 0 0] 107)) 5 hd 5 ho 4 c s A n cc) := Lib.hid (B1.out.old ka)
  have HA : Hid (Bxr w (W1.alloc (.cells #[.int .i64 7, .int .i64 0, .int .i64 0, .int .i64 0, .int .i64 0, .slice none 0 0] 107)).drew 5 hd 5 ho 4 c s A n cc) := Lib.hid ⟨HA0.out.k.drew, HA0.out.m.drew, HA0.out.e.drew, HA0.out.r.drew⟩
  have HL : Hid (Blk (W1.alloc (.cells #[.int .i64 7, .int .i64 0, .int .i64 0, .int .i64 0, .int .i64 0, .slice none 0 0] 107)).drew W1.heap.size 107 #[.int .i64 7, .int .i64 0, .int .i64 0, .int .i64 0, .int .i64 0, .slice none 0 0]) := Lib.hid (Blk.fresh W1 _ _)
  clear ka
  obtain ⟨⟨a0, a1⟩, -, a2, a3, a4, a5⟩ := HA0.out.cells
  go_upto_region 8 with fail
  go_region_law (first
    | (go_simp; go_at_call 85; refine (HH.out W1.drew).mono ?_; rintro e w3 ⟨A3, n3, c3, rfl, hn3, ho3, hk3⟩; (have B3 := Lib.hid (HD.out.old hk3)); (have k5 := (Kept.refl Nothing w3).alloc (.cells #[.int .i64 7, .int .i64 0, .int .i64 0, .int .i64 0, .int .i64 0, .slice none 0 0] 107)); (have B5 := Lib.hid (B3.out.old k5)); (have O5 := Lib.hid (ow_kept (ow_weak ho3 HD.out.k.size) k5 (fun _ _ x => x))); (have N3 := Lib.hid hn3); (have L5 := Lib.hid (src_litR w3 dA dn dc [Sm.a0 7] _ rfl)); (obtain ⟨⟨p0, p1⟩, -, q0, q1, q2, q3⟩ := B3.out.cells); (obtain ⟨⟨p0', p1'⟩, -, q0', q1', q2', q3'⟩ := B5.out.cells); clear hn3 ho3 hk3 k5)
    | (go_simp; go_at_call 85; refine (HH.out (W1.alloc (.cells #[.int .i64 7, .int .i64 0, .int .i64 0, .int .i64 0, .int .i64 0, .slice none 0 0] 107)).drew).mono ?_; rintro e w3 ⟨A3, n3, c3, rfl, hn3, ho3, hk3⟩; (have B5 := Lib.hid (HA.out.old hk3)); (have O5 := Lib.hid (ow_weak ho3 HA.out.k.size)); (have N3 := Lib.hid hn3); (have L5 := Lib.hid (src_blkR dA dn dc [Sm.a0 7] _ (HL.out.kept hk3 (fun x => x)) rfl)); (obtain ⟨⟨p0, p1⟩, -, q0, q1, q2, q3⟩ := B5.out.cells); clear hn3 ho3 hk3)
    | (refine step_appR rfl _ _ rfl w (.slice dA dn dc) A3 n3 c3 (Sm.holds hd) [Sm.a0 7] N3.out rfl O5.out (some ⟨_, 0, none⟩) 1 1 rfl rfl L5.out (by unfold Sm.holds; split <;> simp) B5.out.k ?_; intro A4 n4 c4 w4 hn4 ho4 hk4 hb4; (have M4 := Lib.hid (hb4 _ _ _ (by decide) B5.out.m)); (have R4 := Lib.hid (hb4 _ _ _ (by decide) B5.out.r)); (have H4 := Lib.hid (And.intro hn4 (And.intro ho4 hk4))); (obtain ⟨u0, u1, -, -⟩ := mcellsR M4.out); (obtain ⟨v0, v1, v2, v3⟩ := mcellsR R4.out); clear hn4 ho4 hk4 hb4))
  all_goals
    go_wp2
    rw [HP.out]
    refine bodyPost_ret (ret_machR rfl _ _ (w.heap.size + 1 + 1) _ _ _ rfl rfl (fin_blkR R4.out)) rfl ?_
    exact rr_own H4.out.1 H4.out.2.1 R4.out H4.out.2.2 HG.out
set_option maxRecDepth 100000 in
set_option maxHeartbeats 16000000 in
theorem rs_msg62 (hd : Nat) (ho : Int) (c s : Nat) (A : Option Addr) (n cc : Nat) (dA : Option Addr) (dn dc : Nat) (w : World) :
    Calls Tryd.prog 61 #[.agg #[.int .i64 6, .int .i64 hd], .agg #[.int .i64 5, .int .i64 2, .int .i64 ho, .int .i64 c, .int .i64 s, .slice A n cc]] w fun e w' => RR (.slice dA dn dc) w w' e (Sm.message ⟨6, hd⟩ 2 ho.toNat) := by
  have HP : Hid (Sm.message ⟨6, hd⟩ 2 ho.toNat = (⟨6, hd⟩, Sm.holds hd ++ [Sm.a0 9])) := Lib.hid (by simp [Sm.message])
  have B1 : Hid (Bxr w (((w.alloc (.cells #[.int .i64 6, .int .i64 hd] 26)).alloc (.cells #[.int .i64 5, .int .i64 2, .int .i64 ho, .int .i64 c, .int .i64 s, .slice A n cc] 39)).alloc (.cells #[.int .i64 0, .int .i64 0] 26)) 6 hd 5 ho 2 c s A n cc) := Lib.hid Bxr.make
  have HG : Hid (w.heap.size ≤ w.heap.size + 1 + 1) := Lib.hid (by omega)
  go_enter Tryd.func61, Tryd.ntmps61
  go_upto_region 1 with fail
  change Code.wp _ _ _ _ ((((w.alloc (.cells #[.int .i64 6, .int .i64 hd] 26)).alloc (.cells #[.int .i64 5, .int .i64 2, .int .i64 ho, .int .i64 c, .int .i64 s, .slice A n cc] 39)).alloc (.cells #[.int .i64 0, .int .i64 0] 26)))
  generalize ((w.alloc (.cells #[.int .i64 6, .int .i64 hd] 26)).alloc (.cells #[.int .i64 5, .int .i64 2, .int .i64 ho, .int .i64 c, .int .i64 s, .slice A n cc] 39)).alloc (.cells #[.int .i64 0, .int .i64 0] 26) = W1 at *
  obtain ⟨⟨m0, m1⟩, ⟨e0, e1, e2, -, -, -⟩, r0, r1, f0, f1⟩ := B1.out.cells
  have HH := Lib.hid (fun u => rs_holds 6 hd dA dn dc u)
  have HD : Hid (Bxr w W1.drew 6 hd 5 ho 2 c s A n cc) := Lib.hid ⟨B1.out.k.drew, B1.out.m.drew, B1.out.e.drew, B1.out.r.drew⟩
  have ka := (Kept.refl Nothing W1).alloc (.cells #[.int .i64 9, .int .i64 0, .int .i64 0, .int .i64 0, .int .i64 0, .slice none 0 0] 107)
  have HA0 : Hid (Bxr w (W1.alloc (.cells #[.int .i64 9, .int .i64 0, .int .i64 0, .int .i64 0, .int .i64 0, .slice none 0 0] 107)) 6 hd 5 ho 2 c s A n cc) := Lib.hid (B1.out.old ka)
  have HA : Hid (Bxr w (W1.alloc (.cells #[.int .i64 9, .int .i64 0, .int .i64 0, .int .i64 0, .int .i64 0, .slice none 0 0] 107)).drew 6 hd 5 ho 2 c s A n cc) := Lib.hid ⟨HA0.out.k.drew, HA0.out.m.drew, HA0.out.e.drew, HA0.out.r.drew⟩
  have HL : Hid (Blk (W1.alloc (.cells #[.int .i64 9, .int .i64 0, .int .i64 0, .int .i64 0, .int .i64 0, .slice none 0 0] 107)).drew W1.heap.size 107 #[.int .i64 9, .int .i64 0, .int .i64 0, .int .i64 0, .int .i64 0, .slice none 0 0]) := Lib.hid (Blk.fresh W1 _ _)
  clear ka
  obtain ⟨⟨a0, a1⟩, -, a2, a3, a4, a5⟩ := HA0.out.cells
  go_upto_region 14 with fail
  go_region_law (first
    | (go_simp; go_at_call 85; refine (HH.out W1.drew).mono ?_; rintro e w3 ⟨A3, n3, c3, rfl, hn3, ho3, hk3⟩; (have B3 := Lib.hid (HD.out.old hk3)); (have k5 := (Kept.refl Nothing w3).alloc (.cells #[.int .i64 9, .int .i64 0, .int .i64 0, .int .i64 0, .int .i64 0, .slice none 0 0] 107)); (have B5 := Lib.hid (B3.out.old k5)); (have O5 := Lib.hid (ow_kept (ow_weak ho3 HD.out.k.size) k5 (fun _ _ x => x))); (have N3 := Lib.hid hn3); (have L5 := Lib.hid (src_litR w3 dA dn dc [Sm.a0 9] _ rfl)); (obtain ⟨⟨p0, p1⟩, -, q0, q1, q2, q3⟩ := B3.out.cells); (obtain ⟨⟨p0', p1'⟩, -, q0', q1', q2', q3'⟩ := B5.out.cells); clear hn3 ho3 hk3 k5)
    | (go_simp; go_at_call 85; refine (HH.out (W1.alloc (.cells #[.int .i64 9, .int .i64 0, .int .i64 0, .int .i64 0, .int .i64 0, .slice none 0 0] 107)).drew).mono ?_; rintro e w3 ⟨A3, n3, c3, rfl, hn3, ho3, hk3⟩; (have B5 := Lib.hid (HA.out.old hk3)); (have O5 := Lib.hid (ow_weak ho3 HA.out.k.size)); (have N3 := Lib.hid hn3); (have L5 := Lib.hid (src_blkR dA dn dc [Sm.a0 9] _ (HL.out.kept hk3 (fun x => x)) rfl)); (obtain ⟨⟨p0, p1⟩, -, q0, q1, q2, q3⟩ := B5.out.cells); clear hn3 ho3 hk3)
    | (refine step_appR rfl _ _ rfl w (.slice dA dn dc) A3 n3 c3 (Sm.holds hd) [Sm.a0 9] N3.out rfl O5.out (some ⟨_, 0, none⟩) 1 1 rfl rfl L5.out (by unfold Sm.holds; split <;> simp) B5.out.k ?_; intro A4 n4 c4 w4 hn4 ho4 hk4 hb4; (have M4 := Lib.hid (hb4 _ _ _ (by decide) B5.out.m)); (have R4 := Lib.hid (hb4 _ _ _ (by decide) B5.out.r)); (have H4 := Lib.hid (And.intro hn4 (And.intro ho4 hk4))); (obtain ⟨u0, u1, -, -⟩ := mcellsR M4.out); (obtain ⟨v0, v1, v2, v3⟩ := mcellsR R4.out); clear hn4 ho4 hk4 hb4))
  all_goals
    go_wp2
    rw [HP.out]
    refine bodyPost_ret (ret_machR rfl _ _ (w.heap.size + 1 + 1) _ _ _ rfl rfl (fin_blkR R4.out)) rfl ?_
    exact rr_own H4.out.1 H4.out.2.1 R4.out H4.out.2.2 HG.out
set_option maxRecDepth 100000 in
set_option maxHeartbeats 16000000 in
theorem rs_msg64 (hd : Nat) (ho : Int) (c s : Nat) (A : Option Addr) (n cc : Nat) (dA : Option Addr) (dn dc : Nat) (w : World) :
    Calls Tryd.prog 61 #[.agg #[.int .i64 6, .int .i64 hd], .agg #[.int .i64 5, .int .i64 4, .int .i64 ho, .int .i64 c, .int .i64 s, .slice A n cc]] w fun e w' => RR (.slice dA dn dc) w w' e (Sm.message ⟨6, hd⟩ 4 ho.toNat) := by
  have HP : Hid (Sm.message ⟨6, hd⟩ 4 ho.toNat = (⟨6, hd⟩, Sm.holds hd)) := Lib.hid (by simp [Sm.message])
  have B1 : Hid (Bxr w (((w.alloc (.cells #[.int .i64 6, .int .i64 hd] 26)).alloc (.cells #[.int .i64 5, .int .i64 4, .int .i64 ho, .int .i64 c, .int .i64 s, .slice A n cc] 39)).alloc (.cells #[.int .i64 0, .int .i64 0] 26)) 6 hd 5 ho 4 c s A n cc) := Lib.hid Bxr.make
  have HG : Hid (w.heap.size ≤ w.heap.size + 1 + 1) := Lib.hid (by omega)
  go_enter Tryd.func61, Tryd.ntmps61
  go_upto_region 1 with fail
  change Code.wp _ _ _ _ ((((w.alloc (.cells #[.int .i64 6, .int .i64 hd] 26)).alloc (.cells #[.int .i64 5, .int .i64 4, .int .i64 ho, .int .i64 c, .int .i64 s, .slice A n cc] 39)).alloc (.cells #[.int .i64 0, .int .i64 0] 26)))
  generalize ((w.alloc (.cells #[.int .i64 6, .int .i64 hd] 26)).alloc (.cells #[.int .i64 5, .int .i64 4, .int .i64 ho, .int .i64 c, .int .i64 s, .slice A n cc] 39)).alloc (.cells #[.int .i64 0, .int .i64 0] 26) = W1 at *
  obtain ⟨⟨m0, m1⟩, ⟨e0, e1, e2, -, -, -⟩, r0, r1, f0, f1⟩ := B1.out.cells
  have HH := Lib.hid (fun u => rs_holds 6 hd dA dn dc u)
  have HD : Hid (Bxr w W1.drew 6 hd 5 ho 4 c s A n cc) := Lib.hid ⟨B1.out.k.drew, B1.out.m.drew, B1.out.e.drew, B1.out.r.drew⟩
  go_upto_region 12 with fail
  go_region_law (first
    | (go_simp; go_at_call 85; refine (HH.out W1.drew).mono ?_; rintro e w3 ⟨A3, n3, c3, rfl, hn3, ho3, hk3⟩; (have B3 := Lib.hid (HD.out.old hk3)); (have O3 := Lib.hid (ow_weak ho3 HD.out.k.size)); (have N3 := Lib.hid hn3); (obtain ⟨⟨p0, p1⟩, -, q0, q1, q2, q3⟩ := B3.out.cells); clear hn3 ho3 hk3))
  all_goals
    go_wp2
    rw [HP.out]
    refine bodyPost_ret (ret_machR rfl _ _ (w.heap.size + 1 + 1) _ _ _ rfl rfl (fin_blkR B3.out.r)) rfl ?_
    exact rr_own N3.out O3.out B3.out.r B3.out.k HG.out
set_option maxRecDepth 100000 in
set_option maxHeartbeats 16000000 in
theorem rs_msg65 (hd : Nat) (ho : Int) (c s : Nat) (A : Option Addr) (n cc : Nat) (dA : Option Addr) (dn dc : Nat) (w : World) :
    Calls Tryd.prog 61 #[.agg #[.int .i64 6, .int .i64 hd], .agg #[.int .i64 5, .int .i64 5, .int .i64 ho, .int .i64 c, .int .i64 s, .slice A n cc]] w fun e w' => RR (.slice dA dn dc) w w' e (Sm.message ⟨6, hd⟩ 5 ho.toNat) := by
  have HP : Hid (Sm.message ⟨6, hd⟩ 5 ho.toNat = (⟨6, hd⟩, [Sm.a0 9])) := Lib.hid (by simp [Sm.message])
  have B1 : Hid (Bxr w (((w.alloc (.cells #[.int .i64 6, .int .i64 hd] 26)).alloc (.cells #[.int .i64 5, .int .i64 5, .int .i64 ho, .int .i64 c, .int .i64 s, .slice A n cc] 39)).alloc (.cells #[.int .i64 0, .int .i64 0] 26)) 6 hd 5 ho 5 c s A n cc) := Lib.hid Bxr.make
  have HG : Hid (w.heap.size ≤ w.heap.size + 1 + 1) := Lib.hid (by omega)
  go_enter Tryd.func61, Tryd.ntmps61
  go_upto_region 1 with fail
  change Code.wp _ _ _ _ ((((w.alloc (.cells #[.int .i64 6, .int .i64 hd] 26)).alloc (.cells #[.int .i64 5, .int .i64 5, .int .i64 ho, .int .i64 c, .int .i64 s, .slice A n cc] 39)).alloc (.cells #[.int .i64 0, .int .i64 0] 26)))
  generalize ((w.alloc (.cells #[.int .i64 6, .int .i64 hd] 26)).alloc (.cells #[.int .i64 5, .int .i64 5, .int .i64 ho, .int .i64 c, .int .i64 s, .slice A n cc] 39)).alloc (.cells #[.int .i64 0, .int .i64 0] 26) = W1 at *
  obtain ⟨⟨m0, m1⟩, ⟨e0, e1, e2, -, -, -⟩, r0, r1, f0, f1⟩ := B1.out.cells
  have k2 := (Kept.refl Nothing W1).alloc (.cells #[.int .i64 9, .int .i64 0, .int .i64 0, .int .i64 0, .int .i64 0, .slice none 0 0] 107)
  have B2 := Lib.hid (B1.out.old k2)
  have D2 := Lib.hid (own_blkR w B1.out.k.size (.slice dA dn dc) [Sm.a0 9] _ 1 rfl rfl (by decide) (Blk.fresh W1 107 #[.int .i64 9, .int .i64 0, .int .i64 0, .int .i64 0, .int .i64 0, .slice none 0 0]))
  obtain ⟨-, -, s0, s1, s2, s3⟩ := B2.out.cells
  clear k2 B1
  go_wp2
  rw [HP.out]
  refine bodyPost_ret (ret_machR rfl _ _ (w.heap.size + 1 + 1) _ _ _ rfl rfl (fin_blkR B2.out.r)) rfl ?_
  exact rr_own rfl D2.out B2.out.r B2.out.k HG.out
set_option maxRecDepth 100000 in
set_option maxHeartbeats 16000000 in
theorem rs_msg4o (hd x : Nat) (ho : Int) (c s : Nat) (A : Option Addr) (n cc : Nat) (dA : Option Addr) (dn dc : Nat) (w : World) (x1 : ((x : Int) == 1) = false) :
    Calls Tryd.prog 61 #[.agg #[.int .i64 4, .int .i64 hd], .agg #[.int .i64 5, .int .i64 x, .int .i64 ho, .int .i64 c, .int .i64 s, .slice A n cc]] w fun e w' => RR (.slice dA dn dc) w w' e (Sm.message ⟨4, hd⟩ x ho.toNat) := by
  have HP : Hid (Sm.message ⟨4, hd⟩ x ho.toNat = Sm.ends 4 false 5 1 false) := Lib.hid (by
    simp only [beq_eq_false_iff_ne] at x1
    unfold Sm.message
    simp only
    repeat rw [if_neg (by omega)])
  have HE := Lib.hid (fun u => rs_ends 4 5 5 1 false dA dn dc none 0 0 rfl u)
  have B1 : Hid (Bxr w (((w.alloc (.cells #[.int .i64 4, .int .i64 hd] 26)).alloc (.cells #[.int .i64 5, .int .i64 x, .int .i64 ho, .int .i64 c, .int .i64 s, .slice A n cc] 39)).alloc (.cells #[.int .i64 0, .int .i64 0] 26)) 4 hd 5 ho x c s A n cc) := Lib.hid Bxr.make
  have HG : Hid (w.heap.size ≤ w.heap.size + 1 + 1) := Lib.hid (by omega)
  go_enter Tryd.func61, Tryd.ntmps61
  go_upto_region 1 with fail
  change Code.wp _ _ _ _ ((((w.alloc (.cells #[.int .i64 4, .int .i64 hd] 26)).alloc (.cells #[.int .i64 5, .int .i64 x, .int .i64 ho, .int .i64 c, .int .i64 s, .slice A n cc] 39)).alloc (.cells #[.int .i64 0, .int .i64 0] 26)))
  generalize ((w.alloc (.cells #[.int .i64 4, .int .i64 hd] 26)).alloc (.cells #[.int .i64 5, .int .i64 x, .int .i64 ho, .int .i64 c, .int .i64 s, .slice A n cc] 39)).alloc (.cells #[.int .i64 0, .int .i64 0] 26) = W1 at *
  obtain ⟨⟨m0, m1⟩, ⟨e0, e1, e2, -, -, -⟩, r0, r1, f0, f1⟩ := B1.out.cells
  go_upto_region 17 with fail
  go_wp2_with (go_at_call 60; refine (HE.out _).mono ?_; rintro e w2 ⟨A2, n2, c2, rfl, hn2, ho2, hk2⟩; (have B2 := Lib.hid (B1.out.old hk2)); (have H2 := Lib.hid (And.intro hn2 (ow_weak ho2 B1.out.k.size))); (obtain ⟨-, -, r0', r1', f0', f1'⟩ := B2.out.cells); clear hn2 ho2 hk2)
  rw [HP.out]
  refine bodyPost_ret (ret_machR rfl _ _ (w.heap.size + 1 + 1) _ _ _ rfl rfl (fin_blkR B2.out.r)) rfl ?_
  exact rr_own H2.out.1 H2.out.2 B2.out.r B2.out.k HG.out
set_option maxRecDepth 100000 in
set_option maxHeartbeats 16000000 in
theorem rs_msg5o (hd x : Nat) (ho : Int) (c s : Nat) (A : Option Addr) (n cc : Nat) (dA : Option Addr) (dn dc : Nat) (w : World) (x4 : ((x : Int) == 4) = false) :
    Calls Tryd.prog 61 #[.agg #[.int .i64 5, .int .i64 hd], .agg #[.int .i64 5, .int .i64 x, .int .i64 ho, .int .i64 c, .int .i64 s, .slice A n cc]] w fun e w' => RR (.slice dA dn dc) w w' e (Sm.message ⟨5, hd⟩ x ho.toNat) := by
  have HP : Hid (Sm.message ⟨5, hd⟩ x ho.toNat = Sm.ends 5 false 5 2 false) := Lib.hid (by
    simp only [beq_eq_false_iff_ne] at x4
    unfold Sm.message
    simp only
    repeat rw [if_neg (by omega)])
  have HE := Lib.hid (fun u => rs_ends 5 5 5 2 false dA dn dc none 0 0 rfl u)
  have B1 : Hid (Bxr w (((w.alloc (.cells #[.int .i64 5, .int .i64 hd] 26)).alloc (.cells #[.int .i64 5, .int .i64 x, .int .i64 ho, .int .i64 c, .int .i64 s, .slice A n cc] 39)).alloc (.cells #[.int .i64 0, .int .i64 0] 26)) 5 hd 5 ho x c s A n cc) := Lib.hid Bxr.make
  have HG : Hid (w.heap.size ≤ w.heap.size + 1 + 1) := Lib.hid (by omega)
  go_enter Tryd.func61, Tryd.ntmps61
  go_upto_region 1 with fail
  change Code.wp _ _ _ _ ((((w.alloc (.cells #[.int .i64 5, .int .i64 hd] 26)).alloc (.cells #[.int .i64 5, .int .i64 x, .int .i64 ho, .int .i64 c, .int .i64 s, .slice A n cc] 39)).alloc (.cells #[.int .i64 0, .int .i64 0] 26)))
  generalize ((w.alloc (.cells #[.int .i64 5, .int .i64 hd] 26)).alloc (.cells #[.int .i64 5, .int .i64 x, .int .i64 ho, .int .i64 c, .int .i64 s, .slice A n cc] 39)).alloc (.cells #[.int .i64 0, .int .i64 0] 26) = W1 at *
  obtain ⟨⟨m0, m1⟩, ⟨e0, e1, e2, -, -, -⟩, r0, r1, f0, f1⟩ := B1.out.cells
  go_upto_region 17 with fail
  go_wp2_with (go_at_call 60; refine (HE.out _).mono ?_; rintro e w2 ⟨A2, n2, c2, rfl, hn2, ho2, hk2⟩; (have B2 := Lib.hid (B1.out.old hk2)); (have H2 := Lib.hid (And.intro hn2 (ow_weak ho2 B1.out.k.size))); (obtain ⟨-, -, r0', r1', f0', f1'⟩ := B2.out.cells); clear hn2 ho2 hk2)
  rw [HP.out]
  refine bodyPost_ret (ret_machR rfl _ _ (w.heap.size + 1 + 1) _ _ _ rfl rfl (fin_blkR B2.out.r)) rfl ?_
  exact rr_own H2.out.1 H2.out.2 B2.out.r B2.out.k HG.out
set_option maxRecDepth 100000 in
set_option maxHeartbeats 16000000 in
theorem rs_msg6o (hd x : Nat) (ho : Int) (c s : Nat) (A : Option Addr) (n cc : Nat) (dA : Option Addr) (dn dc : Nat) (w : World) (x4 : ((x : Int) == 4) = false) (x2 : ((x : Int) == 2) = false) (x5 : ((x : Int) == 5) = false) :
    Calls Tryd.prog 61 #[.agg #[.int .i64 6, .int .i64 hd], .agg #[.int .i64 5, .int .i64 x, .int .i64 ho, .int .i64 c, .int .i64 s, .slice A n cc]] w fun e w' => RR (.slice dA dn dc) w w' e (Sm.message ⟨6, hd⟩ x ho.toNat) := by
  have HP : Hid (Sm.message ⟨6, hd⟩ x ho.toNat = Sm.ends 6 false 5 3 false) := Lib.hid (by
    simp only [beq_eq_false_iff_ne] at x4 x2 x5
    unfold Sm.message
    simp only
    repeat rw [if_neg (by omega)])
  have HE := Lib.hid (fun u => rs_ends 6 5 5 3 false dA dn dc none 0 0 rfl u)
  have B1 : Hid (Bxr w (((w.alloc (.cells #[.int .i64 6, .int .i64 hd] 26)).alloc (.cells #[.int .i64 5, .int .i64 x, .int .i64 ho, .int .i64 c, .int .i64 s, .slice A n cc] 39)).alloc (.cells #[.int .i64 0, .int .i64 0] 26)) 6 hd 5 ho x c s A n cc) := Lib.hid Bxr.make
  have HG : Hid (w.heap.size ≤ w.heap.size + 1 + 1) := Lib.hid (by omega)
  go_enter Tryd.func61, Tryd.ntmps61
  go_upto_region 1 with fail
  change Code.wp _ _ _ _ ((((w.alloc (.cells #[.int .i64 6, .int .i64 hd] 26)).alloc (.cells #[.int .i64 5, .int .i64 x, .int .i64 ho, .int .i64 c, .int .i64 s, .slice A n cc] 39)).alloc (.cells #[.int .i64 0, .int .i64 0] 26)))
  generalize ((w.alloc (.cells #[.int .i64 6, .int .i64 hd] 26)).alloc (.cells #[.int .i64 5, .int .i64 x, .int .i64 ho, .int .i64 c, .int .i64 s, .slice A n cc] 39)).alloc (.cells #[.int .i64 0, .int .i64 0] 26) = W1 at *
  obtain ⟨⟨m0, m1⟩, ⟨e0, e1, e2, -, -, -⟩, r0, r1, f0, f1⟩ := B1.out.cells
  go_upto_region 17 with fail
  go_wp2_with (go_at_call 60; refine (HE.out _).mono ?_; rintro e w2 ⟨A2, n2, c2, rfl, hn2, ho2, hk2⟩; (have B2 := Lib.hid (B1.out.old hk2)); (have H2 := Lib.hid (And.intro hn2 (ow_weak ho2 B1.out.k.size))); (obtain ⟨-, -, r0', r1', f0', f1'⟩ := B2.out.cells); clear hn2 ho2 hk2)
  rw [HP.out]
  refine bodyPost_ret (ret_machR rfl _ _ (w.heap.size + 1 + 1) _ _ _ rfl rfl (fin_blkR B2.out.r)) rfl ?_
  exact rr_own H2.out.1 H2.out.2 B2.out.r B2.out.k HG.out
theorem rs_message (st hd : Nat) (h4 : 4 ≤ st) (h6 : st ≤ 6) (x : Nat) (ho : Int) (hh : x = 1 → 0 ≤ ho ∧ ho ≤ 65535) (c s : Nat) (A : Option Addr) (n cc : Nat) (dA : Option Addr) (dn dc : Nat) (w : World) :
    Calls Tryd.prog 61 #[.agg #[.int .i64 st, .int .i64 hd], .agg #[.int .i64 5, .int .i64 x, .int .i64 ho, .int .i64 c, .int .i64 s, .slice A n cc]] w fun e w' => RR (.slice dA dn dc) w w' e (Sm.message ⟨st, hd⟩ x ho.toNat) := by
  obtain rfl | rfl | rfl : st = 4 ∨ st = 5 ∨ st = 6 := by omega
  · by_cases x1 : x = 1
    · subst x1
      obtain ⟨h0, h1⟩ := hh rfl
      obtain ⟨h, rfl⟩ : ∃ h : Nat, ho = h := ⟨ho.toNat, by omega⟩
      by_cases hz : h = 0
      · subst hz
        exact rs_msg41z hd c s A n cc dA dn dc w
      · exact rs_msg41h hd h c s A n cc dA dn dc w ⟨by omega, by omega⟩
    · exact rs_msg4o hd x ho c s A n cc dA dn dc w (by simp; omega)
  · by_cases x4 : x = 4
    · subst x4
      exact rs_msg54 hd ho c s A n cc dA dn dc w
    · exact rs_msg5o hd x ho c s A n cc dA dn dc w (by simp; omega)
  · by_cases x4 : x = 4
    · subst x4
      exact rs_msg64 hd ho c s A n cc dA dn dc w
    · by_cases x2 : x = 2
      · subst x2
        exact rs_msg62 hd ho c s A n cc dA dn dc w
      · by_cases x5 : x = 5
        · subst x5
          exact rs_msg65 hd ho c s A n cc dA dn dc w
        · exact rs_msg6o hd x ho c s A n cc dA dn dc w (by simp; omega) (by simp; omega) (by simp; omega)
end Go.Proofs.YtembdobkgpojfaaDoor
