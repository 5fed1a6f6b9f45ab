
/-
  session: the document's holds, early.
-/
import Derived.Test.YtembdobkgpojfaaDoorSOa
namespace Go.Proofs.YtembdobkgpojfaaDoor
open Go.RowKit

set_option maxRecDepth 100000 in
set_option maxHeartbeats 4000000 in
theorem rs_holds (st hd : Nat) (dA : Option Addr) (dn dc : Nat) (w : World) :
    Calls Tryd.prog 85 #[.agg #[.int .i64 st, .int .i64 hd]] w fun e w' => ∃ A n c, e = .returned (.slice A n c) ∧ n = (Sm.holds hd).length ∧ w'.ownsRow w.heap.size 107 6 (.slice A n c) n (Sm.cls .i64 (.slice dA dn dc) (Sm.holds hd)) ∧ Kept Nothing w w' := by
  have K0 : Hid (Kept Nothing w (w.alloc (.cells #[.int .i64 st, .int .i64 hd] 26))) := Lib.hid ((Kept.refl Nothing w).alloc _)
  have M0 := Blk.fresh w 26 #[.int .i64 st, .int .i64 hd]
  by_cases h0 : hd = 0
  · subst h0
    go_enter Tryd.func85, Tryd.ntmps85
    go_wp2
    go_ret
    exact ⟨none, 0, 0, rfl, rfl, World.ownsRow_nil _ _ _ _, K0.out⟩
  · have hi : ((hd : Int) == 0) = false := by simp; omega
    have HH : Hid (Sm.holds hd = [Sm.set 2 hd]) := Lib.hid (if_neg h0)
    clear h0
    go_enter Tryd.func85, Tryd.ntmps85
    go_upto_region 1 with fail
    change Code.wp _ _ _ _ (w.alloc (.cells #[.int .i64 st, .int .i64 hd] 26))
    generalize w.alloc (.cells #[.int .i64 st, .int .i64 hd] 26) = W0 at *
    have m1 : W0.cell? ⟨w.heap.size, 1, none⟩ = some (.int .i64 hd) := M0.cell 1
    have k1 := (Kept.refl Nothing W0).alloc (.cells #[.int .i64 3, .int .i64 2, .int .i64 hd, .int .i64 0, .int .i64 0, .slice none 0 0] 107)
    have K1 := Lib.hid (K0.out.trans k1)
    clear k1 M0
    go_wp2_with (at_builtin; refine wpList_appR rfl _ _ rfl w (.slice dA dn dc) none 0 0 [] [Sm.set 2 hd] rfl rfl (World.ownsRow_nil _ _ _ _) (some ⟨W0.heap.size, 0, none⟩) 1 1 rfl rfl (src_litR W0 dA dn dc [Sm.set 2 hd] _ rfl) (by simp) K1.out ?_; intro A4 n4 c4 w4 hn4 ho4 hk4 hb4; (have H4 := Lib.hid (And.intro hn4 (And.intro ho4 hk4))); clear hn4 ho4 hk4 hb4)
    go_ret
    rw [HH.out]
    exact ⟨_, _, _, rfl, H4.out.1, H4.out.2.1, H4.out.2.2⟩
/-- The boxes that a call with a machine and an event begins with. -/
structure Bxr (w u : World) (st hd kd ho : Int) (x c s : Nat) (A : Option Addr) (n cc : Nat) : Prop where
  k : Kept Nothing w u
  m : Blk u w.heap.size 26 #[.int .i64 st, .int .i64 hd]
  e : Blk u (w.heap.size + 1) 39 #[.int .i64 kd, .int .i64 x, .int .i64 ho, .int .i64 c, .int .i64 s, .slice A n cc]
  r : Blk u (w.heap.size + 1 + 1) 26 #[.int .i64 0, .int .i64 0]
section
variable {w u u' : World} {st hd kd ho : Int} {x c s : Nat} {A : Option Addr} {n cc : Nat}
theorem Bxr.make : Bxr w (((w.alloc (.cells #[.int .i64 st, .int .i64 hd] 26)).alloc (.cells #[.int .i64 kd, .int .i64 x, .int .i64 ho, .int .i64 c, .int .i64 s, .slice A n cc] 39)).alloc (.cells #[.int .i64 0, .int .i64 0] 26)) st hd kd ho x c s A n cc := by
  obtain ⟨h1, h2, h3, h4⟩ := boxes3 w 26 39 26 #[.int .i64 st, .int .i64 hd] #[.int .i64 kd, .int .i64 x, .int .i64 ho, .int .i64 c, .int .i64 s, .slice A n cc] #[.int .i64 0, .int .i64 0]
  exact ⟨h4, h1, h2, h3⟩
theorem Bxr.old (h : Bxr w u st hd kd ho x c s A n cc) (k : Kept Nothing u u') : Bxr w u' st hd kd ho x c s A n cc := ⟨h.k.trans k, h.m.kept k (fun x => x), h.e.kept k (fun x => x), h.r.kept k (fun x => x)⟩
theorem Bxr.cells (h : Bxr w u st hd kd ho x c s A n cc) : (u.cell? ⟨w.heap.size, 0, none⟩ = some (.int .i64 st) ∧ u.cell? ⟨w.heap.size, 1, none⟩ = some (.int .i64 hd)) ∧
    (u.cell? ⟨w.heap.size + 1, 0, none⟩ = some (.int .i64 kd) ∧ u.cell? ⟨w.heap.size + 1, 1, none⟩ = some (.int .i64 x) ∧ u.cell? ⟨w.heap.size + 1, 2, none⟩ = some (.int .i64 ho) ∧ u.cell? ⟨w.heap.size + 1, 3, none⟩ = some (.int .i64 c) ∧ u.cell? ⟨w.heap.size + 1, 4, none⟩ = some (.int .i64 s) ∧ u.cell? ⟨w.heap.size + 1, 5, none⟩ = some (.slice A n cc)) ∧
    (u.cell? ⟨w.heap.size + 1 + 1, 0, none⟩ = some (.int .i64 0) ∧ u.cell? ⟨w.heap.size + 1 + 1, 1, none⟩ = some (.int .i64 0) ∧ u.frozen? ⟨w.heap.size + 1 + 1, 0, none⟩ = false ∧ u.frozen? ⟨w.heap.size + 1 + 1, 1, none⟩ = false) :=
  ⟨⟨h.m.cell 0, h.m.cell 1⟩, ⟨h.e.cell 0, h.e.cell 1, h.e.cell 2, h.e.cell 3, h.e.cell 4, h.e.cell 5⟩, h.r.cell 0, h.r.cell 1, h.r.free 0, h.r.free 1⟩
end
theorem kinds (kd : Int) : kd = 1 ∨ kd = 2 ∨ kd = 3 ∨ kd = 4 ∨ kd = 6 ∨ ((kd == 1) = false ∧ (kd == 2) = false ∧ (kd == 3) = false ∧ (kd == 4) = false ∧ (kd == 6) = false) := by
  simp only [beq_eq_false_iff_ne]
  omega
set_option maxRecDepth 100000 in
set_option maxHeartbeats 16000000 in
theorem rs_early (st hd : Nat) (kd ho : Int) (x c s : Nat) (A : Option Addr) (n cc : Nat) (dA : Option Addr) (dn dc : Nat) (w : World) :
    Calls Tryd.prog 59 #[.agg #[.int .i64 st, .int .i64 hd], .agg #[.int .i64 kd, .int .i64 x, .int .i64 ho, .int .i64 c, .int .i64 s, .slice A n cc]] w fun e w' => RR (.slice dA dn dc) w w' e (Sm.early ⟨st, hd⟩ kd x) := by
  have B0 : Hid (Bxr w (((w.alloc (.cells #[.int .i64 st, .int .i64 hd] 26)).alloc (.cells #[.int .i64 kd, .int .i64 x, .int .i64 ho, .int .i64 c, .int .i64 s, .slice A n cc] 39)).alloc (.cells #[.int .i64 0, .int .i64 0] 26)) st hd kd ho x c s A n cc) := Lib.hid Bxr.make
  have HE := Lib.hid (fun u (k : Kept Nothing w u) => rs_ends st 2 0 0 false dA dn dc none 0 0 rfl u)
  go_enter Tryd.func59, Tryd.ntmps59
  go_upto_region 1 with fail
  change Code.wp _ _ _ _ ((((w.alloc (.cells #[.int .i64 st, .int .i64 hd] 26)).alloc (.cells #[.int .i64 kd, .int .i64 x, .int .i64 ho, .int .i64 c, .int .i64 s, .slice A n cc] 39)).alloc (.cells #[.int .i64 0, .int .i64 0] 26)))
  generalize ((w.alloc (.cells #[.int .i64 st, .int .i64 hd] 26)).alloc (.cells #[.int .i64 kd, .int .i64 x, .int .i64 ho, .int .i64 c, .int .i64 s, .slice A n cc] 39)).alloc (.cells #[.int .i64 0, .int .i64 0] 26) = W0 at *
  have k1 := (Kept.refl Nothing W0).alloc (.cells #[.int .i64 3, .int .i64 1, .int .i64 120, .int .i64 0, .int .i64 0, .slice none 0 0, .int .i64 6, .int .i64 0, .int .i64 0, .int .i64 0, .int .i64 0, .slice none 0 0] 107)
  have B1 := Lib.hid (B0.out.old k1)
  have D1 : Hid ((W0.alloc (.cells #[.int .i64 3, .int .i64 1, .int .i64 120, .int .i64 0, .int .i64 0, .slice none 0 0, .int .i64 6, .int .i64 0, .int .i64 0, .int .i64 0, .int .i64 0, .slice none 0 0] 107)).ownsRow w.heap.size 107 6 (.slice (some ⟨W0.heap.size, 0, none⟩) 2 2) 2 (Sm.cls .i64 (.slice dA dn dc) [Sm.set 1 120, Sm.a0 6])) := Lib.hid (own_blkR w B0.out.k.size (.slice dA dn dc) [Sm.set 1 120, Sm.a0 6] _ 2 rfl rfl (by decide) (Blk.fresh W0 _ _))
  clear k1
  go_upto_region 2 with fail
  change Code.wp _ _ _ _ (W0.alloc (.cells #[.int .i64 3, .int .i64 1, .int .i64 120, .int .i64 0, .int .i64 0, .slice none 0 0, .int .i64 6, .int .i64 0, .int .i64 0, .int .i64 0, .int .i64 0, .slice none 0 0] 107))
  generalize W0.alloc (.cells #[.int .i64 3, .int .i64 1, .int .i64 120, .int .i64 0, .int .i64 0, .slice none 0 0, .int .i64 6, .int .i64 0, .int .i64 0, .int .i64 0, .int .i64 0, .slice none 0 0] 107) = W1 at *
  generalize W0.heap.size = dB at *
  clear B0
  have hxx : x = 1 ∨ ((x : Int) == 1) = false := by by_cases h : x = 1; exact .inl h; exact .inr (by simp; omega)
  have hg0 : w.heap.size ≤ w.heap.size + 1 + 1 := by omega
  have HG := Lib.hid hg0
  clear hg0
  obtain ⟨⟨m0, m1⟩, ⟨e0, e1, -, -, -, -⟩, r0, r1, f0, f1⟩ := B1.out.cells
  by_cases h1 : st = 1
  · subst h1
    rcases kinds kd with rfl | rfl | rfl | rfl | rfl | ⟨k1, k2, k3, k4, k6⟩
    · go_wp2
      refine bodyPost_ret (ret_machR rfl _ _ (w.heap.size + 1 + 1) _ _ _ rfl rfl (fin_blkR B1.out.r)) rfl ?_
      exact rr_own rfl D1.out B1.out.r B1.out.k HG.out
    · have k2 := (Kept.refl Nothing W1).alloc (.cells #[.int .i64 4, .int .i64 1, .int .i64 0, .int .i64 0, .int .i64 0, .slice none 0 0] 107)
      have B2 := Lib.hid (B1.out.old k2)
      have D2 := Lib.hid (own_blkR w B1.out.k.size (.slice dA dn dc) [Sm.unset 1] _ 1 rfl rfl (by decide) (Blk.fresh W1 107 #[.int .i64 4, .int .i64 1, .int .i64 0, .int .i64 0, .int .i64 0, .slice none 0 0]))
      obtain ⟨-, -, s0, s1, s2, s3⟩ := B2.out.cells
      clear k2 B1
      go_wp2
      refine bodyPost_ret (ret_machR rfl _ _ (w.heap.size + 1 + 1) _ _ _ rfl rfl (fin_blkR B2.out.r)) rfl ?_
      exact rr_own rfl D2.out B2.out.r B2.out.k HG.out
    · go_wp2
      refine bodyPost_ret (ret_machR rfl _ _ (w.heap.size + 1 + 1) _ _ _ rfl rfl (fin_blkR B1.out.r)) rfl ?_
      exact rr_nil B1.out.r B1.out.k HG.out
    · go_wp2
      refine bodyPost_ret (ret_machR rfl _ _ (w.heap.size + 1 + 1) _ _ _ rfl rfl (fin_blkR B1.out.r)) rfl ?_
      exact rr_nil B1.out.r B1.out.k HG.out
    · rcases hxx with rfl | hx
      · go_wp2
        refine bodyPost_ret (ret_machR rfl _ _ (w.heap.size + 1 + 1) _ _ _ rfl rfl (fin_blkR B1.out.r)) rfl ?_
        exact rr_own rfl D1.out B1.out.r B1.out.k HG.out
      · have HP : Hid (Sm.early ⟨1, hd⟩ 6 x = (⟨1, hd⟩, [])) := Lib.hid (by simp at hx; simp [Sm.early]; omega)
        go_wp2
        rw [HP.out]
        refine bodyPost_ret (ret_machR rfl _ _ (w.heap.size + 1 + 1) _ _ _ rfl rfl (fin_blkR B1.out.r)) rfl ?_
        exact rr_nil B1.out.r B1.out.k HG.out
    · have HP : Hid (Sm.early ⟨1, hd⟩ kd x = (⟨1, hd⟩, [])) := Lib.hid (by simp at k1 k2 k6; simp [Sm.early, k1, k2, k6])
      go_wp2
      rw [HP.out]
      refine bodyPost_ret (ret_machR rfl _ _ (w.heap.size + 1 + 1) _ _ _ rfl rfl (fin_blkR B1.out.r)) rfl ?_
      exact rr_nil B1.out.r B1.out.k HG.out
  · have h1i : ((st : Int) == 1) = false := by simp; omega
    have HN := Lib.hid h1
    clear h1
    rcases kinds kd with rfl | rfl | rfl | rfl | rfl | ⟨k1, k2, k3, k4, k6⟩
    · have HP : Hid (Sm.early ⟨st, hd⟩ 1 x = (⟨st, hd⟩, [])) := Lib.hid (by have := HN.out; simp [Sm.early, this])
      go_wp2
      rw [HP.out]
      refine bodyPost_ret (ret_machR rfl _ _ (w.heap.size + 1 + 1) _ _ _ rfl rfl (fin_blkR B1.out.r)) rfl ?_
      exact rr_nil B1.out.r B1.out.k HG.out
    · have HP : Hid (Sm.early ⟨st, hd⟩ 2 x = Sm.ends st true 0 0 false) := Lib.hid (by have := HN.out; simp [Sm.early, this])
      go_upto_region 10 with fail
      go_wp2_with (go_at_call 60; refine (HE.out _ B1.out.k).mono ?_; rintro e w2 ⟨A2, n2, c2, rfl, hn2, ho2, hk2⟩; (have B2 := Lib.hid (B1.out.old hk2)); (have H2 := Lib.hid (And.intro hn2 (ow_weak ho2 B1.out.k.size))); (obtain ⟨-, -, r0', r1', f0', f1'⟩ := B2.out.cells); clear hn2 ho2 hk2)
      rw [HP.out]
      refine bodyPost_ret (ret_machR rfl _ _ (w.heap.size + 1 + 1) _ _ _ rfl rfl (fin_blkR B2.out.r)) rfl ?_
      exact rr_own H2.out.1 H2.out.2 B2.out.r B2.out.k HG.out
    · have HP : Hid (Sm.early ⟨st, hd⟩ 3 x = (⟨4, 0⟩, [Sm.unset 1, Sm.send 1, Sm.set 2 240])) := Lib.hid (by have := HN.out; simp [Sm.early, this])
      have k2 := (Kept.refl Nothing W1).alloc (.cells #[.int .i64 4, .int .i64 1, .int .i64 0, .int .i64 0, .int .i64 0, .slice none 0 0, .int .i64 1, .int .i64 1, .int .i64 0, .int .i64 0, .int .i64 0, .slice none 0 0, .int .i64 3, .int .i64 2, .int .i64 240, .int .i64 0, .int .i64 0, .slice none 0 0] 107)
      have B2 := Lib.hid (B1.out.old k2)
      have D2 := Lib.hid (own_blkR w B1.out.k.size (.slice dA dn dc) [Sm.unset 1, Sm.send 1, Sm.set 2 240] _ 3 rfl rfl (by decide) (Blk.fresh W1 107 #[.int .i64 4, .int .i64 1, .int .i64 0, .int .i64 0, .int .i64 0, .slice none 0 0, .int .i64 1, .int .i64 1, .int .i64 0, .int .i64 0, .int .i64 0, .slice none 0 0, .int .i64 3, .int .i64 2, .int .i64 240, .int .i64 0, .int .i64 0, .slice none 0 0]))
      have B1h := Lib.hid B1.out
      obtain ⟨-, -, s0, s1, s2, s3⟩ := B2.out.cells
      clear k2 B1
      go_wp2
      rw [HP.out]
      first
        | (refine bodyPost_ret (ret_machR rfl _ _ (w.heap.size + 1 + 1) _ _ _ rfl rfl (fin_blkR B2.out.r)) rfl ?_; exact rr_own rfl D2.out B2.out.r B2.out.k HG.out)
        | (refine bodyPost_ret (ret_machR rfl _ _ (w.heap.size + 1 + 1) _ _ _ rfl rfl ((fin_blkR B1h.out.r).alloc _)) rfl ?_; exact rr_lit (l := [Sm.unset 1, Sm.send 1, Sm.set 2 240]) #[.int .i64 4, .int .i64 1, .int .i64 0, .int .i64 0, .int .i64 0, .slice none 0 0, .int .i64 1, .int .i64 1, .int .i64 0, .int .i64 0, .int .i64 0, .slice none 0 0, .int .i64 3, .int .i64 2, .int .i64 240, .int .i64 0, .int .i64 0, .slice none 0 0] rfl rfl (by decide) B1h.out.k HG.out rfl)
    · have HP : Hid (Sm.early ⟨st, hd⟩ 4 x = (⟨3, 0⟩, [Sm.set 1 120])) := Lib.hid (by have := HN.out; simp [Sm.early, this])
      have k2 := (Kept.refl Nothing W1).alloc (.cells #[.int .i64 3, .int .i64 1, .int .i64 120, .int .i64 0, .int .i64 0, .slice none 0 0] 107)
      have B2 := Lib.hid (B1.out.old k2)
      have D2 := Lib.hid (own_blkR w B1.out.k.size (.slice dA dn dc) [Sm.set 1 120] _ 1 rfl rfl (by decide) (Blk.fresh W1 107 #[.int .i64 3, .int .i64 1, .int .i64 120, .int .i64 0, .int .i64 0, .slice none 0 0]))
      have B1h := Lib.hid B1.out
      obtain ⟨-, -, s0, s1, s2, s3⟩ := B2.out.cells
      clear k2 B1
      go_wp2
      rw [HP.out]
      first
        | (refine bodyPost_ret (ret_machR rfl _ _ (w.heap.size + 1 + 1) _ _ _ rfl rfl (fin_blkR B2.out.r)) rfl ?_; exact rr_own rfl D2.out B2.out.r B2.out.k HG.out)
        | (refine bodyPost_ret (ret_machR rfl _ _ (w.heap.size + 1 + 1) _ _ _ rfl rfl ((fin_blkR B1h.out.r).alloc _)) rfl ?_; exact rr_lit (l := [Sm.set 1 120]) #[.int .i64 3, .int .i64 1, .int .i64 120, .int .i64 0, .int .i64 0, .slice none 0 0] rfl rfl (by decide) B1h.out.k HG.out rfl)
    · rcases hxx with rfl | hx
      · have HP : Hid (Sm.early ⟨st, hd⟩ 6 1 = (⟨2, 0⟩, [Sm.set 1 120, Sm.a0 6])) := Lib.hid (by have := HN.out; simp [Sm.early, this])
        go_wp2
        rw [HP.out]
        refine bodyPost_ret (ret_machR rfl _ _ (w.heap.size + 1 + 1) _ _ _ rfl rfl (fin_blkR B1.out.r)) rfl ?_
        exact rr_own rfl D1.out B1.out.r B1.out.k HG.out
      · have HP : Hid (Sm.early ⟨st, hd⟩ 6 x = (⟨st, hd⟩, [])) := Lib.hid (by have := HN.out; simp at hx; simp [Sm.early, this]; omega)
        go_wp2
        rw [HP.out]
        refine bodyPost_ret (ret_machR rfl _ _ (w.heap.size + 1 + 1) _ _ _ rfl rfl (fin_blkR B1.out.r)) rfl ?_
        exact rr_nil B1.out.r B1.out.k HG.out
    · have HP : Hid (Sm.early ⟨st, hd⟩ kd x = (⟨st, hd⟩, [])) := Lib.hid (by have := HN.out; simp at k1 k2 k3 k4 k6; simp [Sm.early, this, k2, k3, k4, k6])
      go_wp2
      rw [HP.out]
      refine bodyPost_ret (ret_machR rfl _ _ (w.heap.size + 1 + 1) _ _ _ rfl rfl (fin_blkR B1.out.r)) rfl ?_
      exact rr_nil B1.out.r B1.out.k HG.out
end Go.Proofs.YtembdobkgpojfaaDoor
