
/-
  attrs: Copy: the same in new memory (printed by wip/gen_xe.py).
-/
import Derived.Test.YteofbpdogmajoaaGreatDoorZxd
import Derived.Test.YteofbpdogmajoaaGreatDoorZxf
namespace Go.Proofs.YteofbpdogmajoaaGreatDoor
open Go.RowKit

theorem Oby.form {w0 w : World} {v : Value} {l : List Ot} (h : Oby w0 w v l) : ∃ A c, v = .slice A l.length c ∧ l.length ≤ c ∧ c ≤ maxLen := by
  obtain ⟨d, e1, h1, _⟩ := h
  exact ow_form h1
theorem Oby.off5 {S : Nat → Prop} {w0 w w' : World} {v : Value} {l : List Ot} (h : Oby w0 w v l) (k : Kept S w w') (hs : Off5 w S) : Oby w0 w' v l :=
  h.kept k (fun g cs t hg e => ⟨(hs g hg cs t _ e).2.2.2.1, (hs g hg cs t _ e).2.2.2.2⟩)
/-- What stands while the values are copied. -/
structure CpI (w : World) (a : At) (pv cv qv ov : Value) (i : Nat) (u : World) : Prop where
  kept : Kept Nothing w u
  blk : Blk u w.heap.size 33 (Ax.agg a pv cv qv ov)
  zero : Blk u (w.heap.size + 1) 33 z13
  p : Pown u w.heap.size pv a.path
  c : u.ownsRow w.heap.size 23 1 cv a.comms.length (ass a.comms)
  q : Pown u w.heap.size qv a.path4
  o : Obk w u ov a.others i
theorem CpI.old {w u u' : World} {a : At} {pv cv qv ov : Value} {i : Nat} (h : CpI w a pv cv qv ov i u) (k : Kept Nothing u u') : CpI w a pv cv qv ov i u' :=
  ⟨h.kept.trans k, h.blk.kept k (fun x => x), h.zero.kept k (fun x => x), h.p.old k, ow_kept h.c k (fun _ _ x => x), h.q.old k, h.o.old k⟩
/-- Behind a value's new row. -/
theorem CpI.put {w u : World} {a : At} {pv cv qv x : Value} {B : Option Addr} {n c k g : Nat} (h : CpI w a pv cv qv (.slice B n c) k u) (hk : k < a.others.length) (hB : B = some ⟨g, 0, none⟩)
    (hu : u.ownsRow w.heap.size 5 1 x (a.others.getD k ⟨0, 0, []⟩).v.length (bys (a.others.getD k ⟨0, 0, []⟩).v)) : CpI w a pv cv qv (.slice B n c) (k + 1) (u.setCell ⟨g, k * 3 + 2, none⟩ x) := by
  obtain ⟨g', cs, hA, hge, hb, hcs⟩ := h.o.oby.row (by omega)
  rw [hB] at hA
  injection hA with hA
  injection hA with hA
  subst hA
  have kk := Kept.own u g (k * 3 + 2) x
  have ne : ∀ i cs' t, t ≠ 73 → Only g i → u.heap[i]? ≠ some (.cells cs' t (0, 0)) := fun i cs' t ht (hi : i = g) e => by
    subst hi
    unfold Blk at hb
    rw [hb] at e
    injection e with e
    injection e with _ e2
    exact ht e2.symm
  have low : ∀ {e size n v xs}, u.ownsRow w.heap.size e size v n xs → e ≠ 73 → (u.setCell ⟨g, k * 3 + 2, none⟩ x).ownsRow w.heap.size e size v n xs := fun hr he => ow_kept hr kk (fun i hg hi => by obtain ⟨cs, hh⟩ := ow_lt hr hg; exact ne i cs _ he hi hh)
  have far : ∀ {i cs}, Blk u i 33 cs → Blk (u.setCell ⟨g, k * 3 + 2, none⟩ x) i 33 cs := fun hb2 => hb2.kept kk (fun hi => ne _ _ _ (by decide) hi hb2)
  have pw : ∀ {v l}, Pown u w.heap.size v l → Pown (u.setCell ⟨g, k * 3 + 2, none⟩ x) w.heap.size v l := fun ⟨xs, h1, h2⟩ => ⟨xs, low h1 (by decide), h2.kept kk (fun i cs hi e => ne i cs _ (by decide) hi e)⟩
  exact ⟨h.kept.trans_new kk (fun i hi (e : i = g) => by omega), far h.blk, far h.zero, pw h.p, low h.c (by decide), pw h.q, h.o.put hk hu hB⟩
def ksCp (B pl : Nat) (pw : List UInt8) : Nat → Value → World → Prop
  | 5, v, w => ∃ A c, v = .slice A pl c ∧ w.ownsRow B 5 1 v pl (bys pw)
  | _, _, _ => True
theorem ksCp_stab (B pl : Nat) (pw : List UInt8) (k : Nat) (v : Value) (w w' : World) (kk : Kept Nothing w w') (h : ksCp B pl pw k v w) : ksCp B pl pw k v w' := by
  unfold ksCp at h ⊢
  split at h
  all_goals first
    | (obtain ⟨A, c, h1, h2⟩ := h; exact ⟨A, c, h1, ow_kept h2 kk (fun _ _ x => x)⟩)
    | trivial

set_option maxRecDepth 20000 in
set_option maxHeartbeats 4000000 in
theorem at_copy (a : At) (pv cv qv ov : Value) (w : World) (h : Atp w a pv cv qv ov) (hsm : Ax.small a) (hcl : a.comms.length ≤ 1000000) (hol : a.others.length ≤ 1000000) (hvl : ∀ o ∈ a.others, o.v.length ≤ 1000000) :
    Calls Tryz.prog 53 #[.agg (Ax.agg a pv cv qv ov)] w fun e w' => ∃ pv' cv' qv' ov', e = .returned (.agg (Ax.agg a pv' cv' qv' ov')) ∧ AtO w' w.heap.size a pv' cv' qv' ov' ∧ Kept Nothing w w' := by
  have HOV := Lib.hid h.2.2.2.1
  have HCP := Lib.hid (fun u (k : Kept Nothing w u) => path_copy pv a.path u (h.1.old k) (by have := hsm.1; omega) (fun s hs => by have := hsm.2.2.1 s hs; omega))
  have HCC := Lib.hid (fun u (k : Kept Nothing w u) => u32_clone cv a.comms u (h.2.1.old k) (by omega))
  have HCQ := Lib.hid (fun u (k : Kept Nothing w u) => path_copy qv a.path4 u (h.2.2.1.old k) (by have := hsm.2.1; omega) (fun s hs => by have := hsm.2.2.2 s hs; omega))
  have HCO := Lib.hid (fun u (k : Kept Nothing w u) => ots_clone w ov a.others u h.2.2.2.1 k (by omega))
  have HVL := Lib.hid hvl
  have HFC := Lib.hid h.2.1.1
  have HFI := Lib.hid h.2.2.2.2
  clear hsm hcl hvl
  obtain ⟨Ap, np, rfl, -, -⟩ := (show ∃ A c, pv = .slice A a.path.length c ∧ _ ∧ _ from h.1.form)
  obtain ⟨Ac, nc, rfl, -, -⟩ := h.2.1.form
  obtain ⟨Aq, nq, rfl, -, -⟩ := (show ∃ A c, qv = .slice A a.path4.length c ∧ _ ∧ _ from h.2.2.1.form)
  obtain ⟨Ao, no, rfl, -, -⟩ := h.2.2.2.1.form
  clear h
  go_enter Tryz.func53, Tryz.ntmps53
  go_upto_region 1 with fail
  obtain ⟨W0, hW0⟩ : ∃ W0, (w.alloc (.cells (Ax.agg a (.slice Ap a.path.length np) (.slice Ac a.comms.length nc) (.slice Aq a.path4.length nq) (.slice Ao a.others.length no)) 33)).alloc (.cells z13 33) = W0 := ⟨_, rfl⟩
  have K0 : Hid (Kept Nothing w W0) := Lib.hid (by rw [← hW0]; exact ((Kept.refl Nothing _).alloc _).alloc _)
  have B0 : Hid (Blk W0 w.heap.size 33 (Ax.agg a (.slice Ap a.path.length np) (.slice Ac a.comms.length nc) (.slice Aq a.path4.length nq) (.slice Ao a.others.length no))) := Lib.hid (by rw [← hW0]; exact (Blk.fresh w _ _).alloc _)
  have Z0 : Hid (Blk W0 (w.heap.size + 1) 33 z13) := Lib.hid (by
    have h := Blk.fresh (w.alloc (.cells (Ax.agg a (.slice Ap a.path.length np) (.slice Ac a.comms.length nc) (.slice Aq a.path4.length nq) (.slice Ao a.others.length no)) 33)) 33 z13
    rw [World.size_alloc] at h
    rw [← hW0]
    exact h)
  rw [show (#[.int .u32 0, .int .u8 0, .slice none 0 0, .int .u32 0, .int .u32 0, .int .u32 0, .int .u32 0, .int .u32 0, .slice none 0 0, .slice none 0 0, .int .u32 0, .int .u32 0, .slice none 0 0] : Array Value) = z13 from rfl, hW0]
  clear hW0
  have c0 : W0.cell? ⟨w.heap.size, 2, none⟩ = some (.slice Ap a.path.length np) := B0.out.cell 2
  have KU0 := K0
  go_upto_region 2 with (go_at_call 97; refine (HCP.out _ (by exact K0.out)).mono ?_; rintro e u0 ⟨v', rfl, p', k'⟩; (obtain ⟨Bp, mp, rfl, -, -⟩ := (show ∃ A c, v' = .slice A a.path.length c ∧ _ ∧ _ from p'.pts.form)); (have b' := B0.out.kept k' (fun x => x)); (have g0 := b'.free 2); (have d0 : u0.cell? ⟨w.heap.size, 2, none⟩ = some (.slice Ap a.path.length np) := b'.cell 2); (have O0 : Hid (Pown u0 w.heap.size (.slice Bp a.path.length mp) a.path) := Lib.hid (p'.weak KU0.out.size)); (have KK0 := Lib.hid k'); clear p' k' b')
  obtain ⟨W1, hW1⟩ : ∃ W1, u0.setCell ⟨w.heap.size, 2, none⟩ (.slice Bp a.path.length mp) = W1 := ⟨_, rfl⟩
  have kk : Kept (Only w.heap.size) u0 W1 := by rw [← hW1]; exact Kept.own u0 w.heap.size 2 _
  have hoff : Off5 u0 (Only w.heap.size) := Off5.blk (B0.out.kept KK0.out (fun x => x)) (by decide)
  have K1 : Hid (Kept Nothing w W1) := Lib.hid ((K0.out.trans KK0.out).trans_new kk (fun i hi (e : i = w.heap.size) => by omega))
  have B1 : Hid (Blk W1 w.heap.size 33 (Ax.agg a (.slice Bp a.path.length mp) (.slice Ac a.comms.length nc) (.slice Aq a.path4.length nq) (.slice Ao a.others.length no))) := Lib.hid (by rw [← hW1]; exact (B0.out.kept KK0.out (fun x => x)).put 2 _)
  have Z1 : Hid (Blk W1 (w.heap.size + 1) 33 z13) := Lib.hid ((Z0.out.kept KK0.out (fun x => x)).kept kk (fun (e : w.heap.size + 1 = w.heap.size) => by omega))
  have P1_0 : Hid (Pown W1 w.heap.size (.slice Bp a.path.length mp) a.path) := Lib.hid (O0.out.off5 kk hoff)
  rw [hW1]
  clear hW1 kk hoff g0 c0 d0 B0 Z0 K0 KU0 KK0 O0 HCP 
  have c1 : W1.cell? ⟨w.heap.size, 8, none⟩ = some (.slice Ac a.comms.length nc) := B1.out.cell 8
  have KU1 := K1
  go_upto_region 3 with (go_at_call 109; refine (HCC.out _ (by exact K1.out)).mono ?_; rintro e u1 ⟨v', rfl, p', k'⟩; (obtain ⟨Bc, mc, rfl, -, -⟩ := ow_form p'); (have b' := B1.out.kept k' (fun x => x)); (have g1 := b'.free 8); (have d1 : u1.cell? ⟨w.heap.size, 8, none⟩ = some (.slice Ac a.comms.length nc) := b'.cell 8); (have O1 : Hid (u1.ownsRow w.heap.size 23 1 (.slice Bc a.comms.length mc) a.comms.length (ass a.comms)) := Lib.hid (own_weakA p' KU1.out.size)); (have KK1 := Lib.hid k'); clear p' k' b')
  obtain ⟨W2, hW2⟩ : ∃ W2, u1.setCell ⟨w.heap.size, 8, none⟩ (.slice Bc a.comms.length mc) = W2 := ⟨_, rfl⟩
  have kk : Kept (Only w.heap.size) u1 W2 := by rw [← hW2]; exact Kept.own u1 w.heap.size 8 _
  have hoff : Off5 u1 (Only w.heap.size) := Off5.blk (B1.out.kept KK1.out (fun x => x)) (by decide)
  have K2 : Hid (Kept Nothing w W2) := Lib.hid ((K1.out.trans KK1.out).trans_new kk (fun i hi (e : i = w.heap.size) => by omega))
  have B2 : Hid (Blk W2 w.heap.size 33 (Ax.agg a (.slice Bp a.path.length mp) (.slice Bc a.comms.length mc) (.slice Aq a.path4.length nq) (.slice Ao a.others.length no))) := Lib.hid (by rw [← hW2]; exact (B1.out.kept KK1.out (fun x => x)).put 8 _)
  have Z2 : Hid (Blk W2 (w.heap.size + 1) 33 z13) := Lib.hid ((Z1.out.kept KK1.out (fun x => x)).kept kk (fun (e : w.heap.size + 1 = w.heap.size) => by omega))
  have P2_0 : Hid (Pown W2 w.heap.size (.slice Bp a.path.length mp) a.path) := Lib.hid (by have h1 : Hid (Pown u1 w.heap.size (.slice Bp a.path.length mp) a.path) := Lib.hid (P1_0.out.old KK1.out); exact h1.out.off5 kk hoff)
  have P2_1 : Hid (W2.ownsRow w.heap.size 23 1 (.slice Bc a.comms.length mc) a.comms.length (ass a.comms)) := Lib.hid (ow_off O1.out kk hoff (by decide))
  rw [hW2]
  clear hW2 kk hoff g1 c1 d1 B1 Z1 K1 KU1 KK1 O1 HCC P1_0
  have c2 : W2.cell? ⟨w.heap.size, 9, none⟩ = some (.slice Aq a.path4.length nq) := B2.out.cell 9
  have KU2 := K2
  go_upto_region 4 with (go_at_call 97; refine (HCQ.out _ (by exact K2.out)).mono ?_; rintro e u2 ⟨v', rfl, p', k'⟩; (obtain ⟨Bq, mq, rfl, -, -⟩ := (show ∃ A c, v' = .slice A a.path4.length c ∧ _ ∧ _ from p'.pts.form)); (have b' := B2.out.kept k' (fun x => x)); (have g2 := b'.free 9); (have d2 : u2.cell? ⟨w.heap.size, 9, none⟩ = some (.slice Aq a.path4.length nq) := b'.cell 9); (have O2 : Hid (Pown u2 w.heap.size (.slice Bq a.path4.length mq) a.path4) := Lib.hid (p'.weak KU2.out.size)); (have KK2 := Lib.hid k'); clear p' k' b')
  obtain ⟨W3, hW3⟩ : ∃ W3, u2.setCell ⟨w.heap.size, 9, none⟩ (.slice Bq a.path4.length mq) = W3 := ⟨_, rfl⟩
  have kk : Kept (Only w.heap.size) u2 W3 := by rw [← hW3]; exact Kept.own u2 w.heap.size 9 _
  have hoff : Off5 u2 (Only w.heap.size) := Off5.blk (B2.out.kept KK2.out (fun x => x)) (by decide)
  have K3 : Hid (Kept Nothing w W3) := Lib.hid ((K2.out.trans KK2.out).trans_new kk (fun i hi (e : i = w.heap.size) => by omega))
  have B3 : Hid (Blk W3 w.heap.size 33 (Ax.agg a (.slice Bp a.path.length mp) (.slice Bc a.comms.length mc) (.slice Bq a.path4.length mq) (.slice Ao a.others.length no))) := Lib.hid (by rw [← hW3]; exact (B2.out.kept KK2.out (fun x => x)).put 9 _)
  have Z3 : Hid (Blk W3 (w.heap.size + 1) 33 z13) := Lib.hid ((Z2.out.kept KK2.out (fun x => x)).kept kk (fun (e : w.heap.size + 1 = w.heap.size) => by omega))
  have P3_0 : Hid (Pown W3 w.heap.size (.slice Bp a.path.length mp) a.path) := Lib.hid (by have h1 : Hid (Pown u2 w.heap.size (.slice Bp a.path.length mp) a.path) := Lib.hid (P2_0.out.old KK2.out); exact h1.out.off5 kk hoff)
  have P3_1 : Hid (W3.ownsRow w.heap.size 23 1 (.slice Bc a.comms.length mc) a.comms.length (ass a.comms)) := Lib.hid (by have h1 : Hid (u2.ownsRow w.heap.size 23 1 (.slice Bc a.comms.length mc) a.comms.length (ass a.comms)) := Lib.hid (ow_kept P2_1.out KK2.out (fun _ _ x => x)); exact ow_off h1.out kk hoff (by decide))
  have P3_2 : Hid (Pown W3 w.heap.size (.slice Bq a.path4.length mq) a.path4) := Lib.hid (O2.out.off5 kk hoff)
  rw [hW3]
  clear hW3 kk hoff g2 c2 d2 B2 Z2 K2 KU2 KK2 O2 HCQ P2_0 P2_1
  have c3 : W3.cell? ⟨w.heap.size, 12, none⟩ = some (.slice Ao a.others.length no) := B3.out.cell 12
  have KU3 := K3
  go_upto_region 5 with (go_at_call 47; refine (HCO.out _ (by exact K3.out)).mono ?_; rintro e u3 ⟨v', rfl, p', k'⟩; (obtain ⟨Bo, mo, rfl, -, -⟩ := p'.form); (have b' := B3.out.kept k' (fun x => x)); (have g3 := b'.free 12); (have d3 : u3.cell? ⟨w.heap.size, 12, none⟩ = some (.slice Ao a.others.length no) := b'.cell 12); (have O3 : Hid (Oby w u3 (.slice Bo a.others.length mo) a.others) := Lib.hid (p')); (have KK3 := Lib.hid k'); clear p' k' b')
  obtain ⟨W4, hW4⟩ : ∃ W4, u3.setCell ⟨w.heap.size, 12, none⟩ (.slice Bo a.others.length mo) = W4 := ⟨_, rfl⟩
  have kk : Kept (Only w.heap.size) u3 W4 := by rw [← hW4]; exact Kept.own u3 w.heap.size 12 _
  have hoff : Off5 u3 (Only w.heap.size) := Off5.blk (B3.out.kept KK3.out (fun x => x)) (by decide)
  have K4 : Hid (Kept Nothing w W4) := Lib.hid ((K3.out.trans KK3.out).trans_new kk (fun i hi (e : i = w.heap.size) => by omega))
  have B4 : Hid (Blk W4 w.heap.size 33 (Ax.agg a (.slice Bp a.path.length mp) (.slice Bc a.comms.length mc) (.slice Bq a.path4.length mq) (.slice Bo a.others.length mo))) := Lib.hid (by rw [← hW4]; exact (B3.out.kept KK3.out (fun x => x)).put 12 _)
  have Z4 : Hid (Blk W4 (w.heap.size + 1) 33 z13) := Lib.hid ((Z3.out.kept KK3.out (fun x => x)).kept kk (fun (e : w.heap.size + 1 = w.heap.size) => by omega))
  have P4_0 : Hid (Pown W4 w.heap.size (.slice Bp a.path.length mp) a.path) := Lib.hid (by have h1 : Hid (Pown u3 w.heap.size (.slice Bp a.path.length mp) a.path) := Lib.hid (P3_0.out.old KK3.out); exact h1.out.off5 kk hoff)
  have P4_1 : Hid (W4.ownsRow w.heap.size 23 1 (.slice Bc a.comms.length mc) a.comms.length (ass a.comms)) := Lib.hid (by have h1 : Hid (u3.ownsRow w.heap.size 23 1 (.slice Bc a.comms.length mc) a.comms.length (ass a.comms)) := Lib.hid (ow_kept P3_1.out KK3.out (fun _ _ x => x)); exact ow_off h1.out kk hoff (by decide))
  have P4_2 : Hid (Pown W4 w.heap.size (.slice Bq a.path4.length mq) a.path4) := Lib.hid (by have h1 : Hid (Pown u3 w.heap.size (.slice Bq a.path4.length mq) a.path4) := Lib.hid (P3_2.out.old KK3.out); exact h1.out.off5 kk hoff)
  have P4_3 : Hid (Oby w W4 (.slice Bo a.others.length mo) a.others) := Lib.hid (O3.out.off5 kk hoff)
  rw [hW4]
  clear hW4 kk hoff g3 c3 d3 B3 Z3 K3 KU3 KK3 O3 HCO P3_0 P3_1 P3_2
  have c12 : W4.cell? ⟨w.heap.size, 12, none⟩ = some (.slice Bo a.others.length mo) := B4.out.cell 12
  go_wp2
  clear c12
  go_loopw [24] (fun i wr => ∃ k : Nat, i = .int .i64 (k : Int) ∧ k ≤ a.others.length ∧ Hid (CpI w a (.slice Bp a.path.length mp) (.slice Bc a.comms.length mc) (.slice Bq a.path4.length mq) (.slice Bo a.others.length mo) k wr)) (fun i _ => a.others.length - (intOf i).toNat)
  case atStart => exact ⟨0, rfl, Nat.zero_le _, Lib.hid ⟨K4.out, B4.out, Z4.out, P4_0.out, P4_1.out, P4_2.out, P4_3.out.obk⟩⟩
  case round =>
    obtain ⟨k, rfl, hk, HI⟩ := hrel
    clear K4 B4 Z4 P4_0 P4_1 P4_2 P4_3
    have i1 : (0 : Int) ≤ (k : Int) := by omega
    by_cases hlt : k < a.others.length
    · have i2 : (k : Int) < (a.others.length : Int) := by omega
      obtain ⟨g, cs, rfl, hge, hbg, hcs⟩ := HI.out.o.oby.row (by omega)
      obtain ⟨b, o, Au, cu, hbo, q0, q1, q2, q3⟩ := (HI.out.o.oby.ots HI.out.kept).at3 hlt
      injection hbo with hbo
      injection hbo with hb1 hb2
      subst hb1 hb2
      rw [Nat.zero_add] at q0 q1 q2
      have hkl : k * 3 + 2 < cs.size := by omega
      have HV := Lib.hid (show (a.others.getD k ⟨0, 0, []⟩).v.length ≤ 1000000 from HVL.out _ (by rw [List.getD_eq_getElem?_getD, List.getElem?_eq_getElem hlt]; exact List.getElem_mem _))
      have HPUT := Lib.hid (fun (u : World) (x : Value) (h : CpI w a (.slice Bp a.path.length mp) (.slice Bc a.comms.length mc) (.slice Bq a.path4.length mq) (.slice (some ⟨g, 0, none⟩) a.others.length mo) k u) (hu : u.ownsRow w.heap.size 5 1 x (a.others.getD k ⟨0, 0, []⟩).v.length (bys (a.others.getD k ⟨0, 0, []⟩).v)) => h.put hlt rfl hu)
      have HBG := Lib.hid hbg
      have HLT := Lib.hid hlt
      clear hbg
      generalize a.others.getD k ⟨0, 0, []⟩ = P at *
      obtain ⟨pf, pt, pv⟩ := P
      simp only at q0 q1 q2
      replace q3 : By wr (.slice Au pv.length cu) pv := q3
      replace HPUT : Hid (∀ (u : World) (x : Value), CpI w a (.slice Bp a.path.length mp) (.slice Bc a.comms.length mc) (.slice Bq a.path4.length mq) (.slice (some ⟨g, 0, none⟩) a.others.length mo) k u → u.ownsRow w.heap.size 5 1 x pv.length (bys pv) → CpI w a (.slice Bp a.path.length mp) (.slice Bc a.comms.length mc) (.slice Bq a.path4.length mq) (.slice (some ⟨g, 0, none⟩) a.others.length mo) (k + 1) (u.setCell ⟨g, k * 3 + 2, none⟩ x)) := HPUT
      replace HV : Hid (pv.length ≤ 1000000) := HV
      have HCV := Lib.hid (fun u (kk : Kept Nothing wr u) => sl_clone (.slice Au pv.length cu) pv u (q3.old kk) (by have := HV.out; omega))
      have hx : g < wr.heap.size := HBG.out.lt
      go_upto_region 8 with fail
      obtain ⟨WA, hWA⟩ : ∃ WA, wr.alloc (.cells #[.int .u8 (pf.toNat : Int), .int .u8 (pt.toNat : Int), .slice Au pv.length cu] 73) = WA := ⟨_, rfl⟩
      have KA : Hid (Kept Nothing wr WA) := Lib.hid (by rw [← hWA]; exact (Kept.refl Nothing wr).alloc _)
      have BX : Hid (Blk WA wr.heap.size 73 #[.int .u8 (pf.toNat : Int), .int .u8 (pt.toNat : Int), .slice Au pv.length cu]) := Lib.hid (by rw [← hWA]; exact Blk.fresh wr _ _)
      have C2 : Hid (WA.cell? ⟨wr.heap.size, 2, none⟩ = some (.slice Au pv.length cu)) := Lib.hid (BX.out.cell 2)
      have C12 : Hid (WA.cell? ⟨w.heap.size, 12, none⟩ = some (.slice (some ⟨g, 0, none⟩) a.others.length mo)) := Lib.hid ((HI.out.blk.kept KA.out (fun x => x)).cell 12)
      have HKC := Lib.hid HI.out.kept
      rw [hWA]
      clear hWA q0 q1 q2 q3
      refine wp_region_tail WA (Facts [some (.pointer (some ⟨w.heap.size, 12, none⟩)), some (.slice (some ⟨g, 0, none⟩) a.others.length mo), some (.int .i64 (k : Int)), some (.pointer (some ⟨wr.heap.size, 2, none⟩)), some (.slice Au pv.length cu), none] (ksCp w.heap.size pv.length pv)) 6 (by decide) (by kernel_rfl) (by kernel_rfl) (by kernel_rfl) (by decide +kernel) (by intro d hd; simp [dsts] at hd ⊢; omega) (ready_nil (by kernel_rfl)) (fun _ => true) (by kernel_rfl) ?_ (Facts.stab (ksCp_stab w.heap.size pv.length pv)) ((Kept.refl Nothing WA).drew) ?_ ?_
      · intro x hx; simp at hx
      · refine OweTo.cons ?_ (by rfl) ?_
        · intro u aa hk hf hfar
          have v1 : aa.tmps.getD 1 undef = .pointer (some ⟨w.heap.size, 0, none⟩) := hfar 1 (by decide)
          have w1 := v1
          rw [Array.getD_eq_getD_getElem?] at w1
          clear hf hfar
          go_simp
          exact ⟨_, rfl, Kept.refl _ _, rfl⟩
        refine OweTo.cons ?_ (by rfl) ?_
        · intro u aa hk hf hfar
          have v29 : aa.tmps.getD 29 undef = .pointer (some ⟨w.heap.size, 12, none⟩) := hf 0 _ 29 rfl rfl ⟨⟨0, .data⟩, Array.mem_of_getElem? (i := 0) rfl, rfl, rfl⟩
          have w29 := v29
          rw [Array.getD_eq_getD_getElem?] at w29
          have c12 := hk.cell_some C12.out (fun x => x)
          clear hf hfar
          go_simp
          exact ⟨_, rfl, Kept.refl _ _, rfl⟩
        refine OweTo.cons ?_ (by rfl) ?_
        · intro u aa hk hf hfar
          have v3 : aa.tmps.getD 3 undef = .int .i64 (k : Int) := hfar 3 (by decide)
          have w3 := v3
          rw [Array.getD_eq_getD_getElem?] at w3
          clear hf hfar
          go_simp
          exact ⟨_, rfl, Kept.refl _ _, rfl⟩
        refine OweTo.cons ?_ (by rfl) ?_
        · intro u aa hk hf hfar
          have v4 : aa.tmps.getD 4 undef = .pointer (some ⟨wr.heap.size, 0, none⟩) := hfar 4 (by decide)
          have w4 := v4
          rw [Array.getD_eq_getD_getElem?] at w4
          clear hf hfar
          go_simp
          exact ⟨_, rfl, Kept.refl _ _, rfl⟩
        refine OweTo.cons ?_ (by rfl) ?_
        · intro u aa hk hf hfar
          have v32 : aa.tmps.getD 32 undef = .pointer (some ⟨wr.heap.size, 2, none⟩) := hf 3 _ 32 rfl rfl ⟨⟨3, .data⟩, Array.mem_of_getElem? (i := 0) rfl, rfl, rfl⟩
          have w32 := v32
          rw [Array.getD_eq_getD_getElem?] at w32
          have c2 := hk.cell_some C2.out (fun x => x)
          clear hf hfar
          go_simp
          exact ⟨_, rfl, Kept.refl _ _, rfl⟩
        refine OweTo.cons ?_ (by rfl) ?_
        · intro u aa hk hf hfar
          have v33 : aa.tmps.getD 33 undef = .slice Au pv.length cu := hf 4 _ 33 rfl rfl ⟨⟨4, .data⟩, Array.mem_of_getElem? (i := 0) rfl, rfl, rfl⟩
          have w33 := v33
          rw [Array.getD_eq_getD_getElem?] at w33
          clear hf hfar
          go_simp
          refine (HCV.out _ (KA.out.trans hk)).mono ?_
          rintro e u' ⟨v', rfl, p', hk'⟩
          obtain ⟨A', n', rfl, -, -⟩ := ow_form p'
          exact ⟨_, rfl, hk', ⟨A', n', rfl, own_weakA p' (HKC.out.trans (KA.out.trans hk)).size⟩⟩
        exact OweTo.last (by decide)
      · intro AA u hk hsz hdef hfar hfacts
        have x29 : AA.tmps.getD 29 undef = .pointer (some ⟨w.heap.size, 12, none⟩) := hfacts 0 _ 29 (by decide) rfl rfl
        have x30 : AA.tmps.getD 30 undef = .slice (some ⟨g, 0, none⟩) a.others.length mo := hfacts 1 _ 30 (by decide) rfl rfl
        have x31 : AA.tmps.getD 31 undef = .int .i64 (k : Int) := hfacts 2 _ 31 (by decide) rfl rfl
        have x32 : AA.tmps.getD 32 undef = .pointer (some ⟨wr.heap.size, 2, none⟩) := hfacts 3 _ 32 (by decide) rfl rfl
        have x33 : AA.tmps.getD 33 undef = .slice Au pv.length cu := hfacts 4 _ 33 (by decide) rfl rfl
        obtain ⟨A8, n8, x34, P8⟩ : ∃ A c, (AA.tmps.getD 34 undef) = .slice A pv.length c ∧ u.ownsRow w.heap.size 5 1 (AA.tmps.getD 34 undef) pv.length (bys pv) := hfacts 5 _ 34 (by decide) rfl rfl
        have hA := arr_put AA.tmps [29, 30, 31, 32, 33, 34, 35, 36] _ hsz (fun t ht => hfar t ht)
        obtain ⟨At, Ad⟩ := AA
        simp only at hdef x29 x30 x31 x32 x33 x34 hA
        subst hdef
        simp only [List.foldl_cons, List.foldl_nil, x29, x30, x31, x32, x33, x34] at hA
        clear hfar hfacts hsz x29 x30 x31 x32 x33 x34
        generalize At.getD 35 undef = y35 at hA
        generalize At.getD 36 undef = y36 at hA
        simp only [List.setIfInBounds_toArray, List.set_cons_succ, List.set_cons_zero] at hA
        subst hA
        simp only [List.drop_succ_cons, List.drop_zero]
        have HU := Lib.hid (HI.out.old (KA.out.trans hk))
        have P8h := Lib.hid P8
        have bG := HBG.out.kept (KA.out.trans hk) (fun x => x)
        have g2 := bG.free (k * 3 + 2)
        obtain ⟨vd, d2⟩ : ∃ vd, u.cell? ⟨g, k * 3 + 2, none⟩ = some vd := ⟨_, (bG.cell (k * 3 + 2)).trans (Array.getElem?_eq_getElem hkl)⟩
        clear P8 bG hk
        go_wp2
        go_roundw
        case rel => exact ⟨k + 1, by go_num, by omega, Lib.hid (HPUT.out u _ HU.out P8h.out)⟩
        case measure => simp [intOf]; omega
    · obtain rfl : k = a.others.length := by omega
      go_upto_region 10 with fail
      have B9 := Lib.hid HI.out.blk
      have Z9 := Lib.hid HI.out.zero
      have T9 : Hid (AtO wr w.heap.size a (.slice Bp a.path.length mp) (.slice Bc a.comms.length mc) (.slice Bq a.path4.length mq) (.slice Bo a.others.length mo)) := Lib.hid ⟨HI.out.p, ⟨HI.out.c, HFC.out⟩, HI.out.q, HI.out.o.own (Nat.le_refl _), HFI.out⟩
      have K9 := Lib.hid HI.out.kept
      clear HI
      go_wp2_with (first
        | (refine wpList_store_row rfl 33 _ _ rfl (w.heap.size + 1) (Ax.agg a (.slice Bp a.path.length mp) (.slice Bc a.comms.length mc) (.slice Bq a.path4.length mq) (.slice Bo a.others.length mo)) rfl rfl 33 z13 Z9.out (by kernel_rfl) rfl (Ax.agg_one ..) ?_)
        | (refine wpList_load_row rfl 33 _ rfl w.heap.size rfl 33 _ (0, 0) _ B9.out Tryz.underlying33 rfl (by kernel_rfl) ?_))
      have hB : Blk (wr.setRow (w.heap.size + 1) (Ax.agg a (.slice Bp a.path.length mp) (.slice Bc a.comms.length mc) (.slice Bq a.path4.length mq) (.slice Bo a.others.length mo))) (w.heap.size + 1) 33 (Ax.agg a (.slice Bp a.path.length mp) (.slice Bc a.comms.length mc) (.slice Bq a.path4.length mq) (.slice Bo a.others.length mo)) := setRow_heap wr _ _ _ _ _ Z9.out
      refine bodyPost_ret (v := .agg (Ax.agg a (.slice Bp a.path.length mp) (.slice Bc a.comms.length mc) (.slice Bq a.path4.length mq) (.slice Bo a.others.length mo))) ?_ rfl ⟨_, _, _, _, rfl, T9.out.off5 (Kept.setRow _ _) (Off5.blk Z9.out (by decide)), K9.out.trans_new (Kept.setRow _ _) (fun i hi (e : i = w.heap.size + 1) => by omega)⟩
      exact results_cell_row (p := 2) rfl _ _ (w.heap.size + 1) 33 _ (0, 0) _ rfl hB Tryz.underlying33 rfl (by kernel_rfl)
end Go.Proofs.YteofbpdogmajoaaGreatDoor
