
/-
  attrs: the law's Few: attributes of few things, all of the call's own.
-/
import Derived.Test.YteofbpdogmajoaaGreatDoorZu
import Derived.Test.YteofbpdogmajoaaGreatDoorZoc
import Derived.Test.YteofbpdogmajoaaGreatDoorZxt
namespace Go.Proofs.YteofbpdogmajoaaGreatDoor
open Go.RowKit
attribute [local go_sem] Oper.semAt_some

def z13 : Array Value := #[.int .u32 0, .int .u8 0, .slice none 0 0, .int .u32 0, .int .u32 0, .int .u32 0, .int .u32 0, .int .u32 0, .slice none 0 0, .slice none 0 0, .int .u32 0, .int .u32 0, .slice none 0 0]
theorem Ax.agg_one (a : At) (A B C D : Option Addr) (n m k l x y z t : Nat) : (Ax.agg a (.slice A n x) (.slice B m y) (.slice C k z) (.slice D l t)).all (·.oneCell') = true := by
  unfold Ax.agg
  simp [Value.oneCell']
theorem Ors.push {u1 w9 : World} {B : Nat} {q v8 : Value} {l : List Ot} {c : Ot} {n : Nat} {xs : List Value} (oq : u1.ownsRow B 73 3 q n xs) (hr : Ors u1 B xs l) (o8 : u1.ownsRow B 5 1 v8 c.v.length (bys c.v)) (hg : u1.grownBy w9 q.ownBlock) : Ors w9 B (xs ++ [by8 c.f, by8 c.t, v8]) (l ++ [c]) := by
  have kg : Kept (fun k => q.ownBlock = some k) u1 w9 := (Kept.refl _ u1).grown hg (fun _ hk _ => hk)
  have hs : ∀ g cs, q.ownBlock = some g → u1.heap[g]? ≠ some (.cells cs 5 (0, 0)) := fun g cs x e => by
    obtain ⟨cs', hh⟩ := ow_lt oq x
    rw [hh] at e
    injection e with e
    injection e with _ e2
    exact absurd e2 (by decide)
  exact (hr.kept kg hs).snoc (ow_kept o8 kg (fun g hg' x => by obtain ⟨cs, hh⟩ := ow_lt o8 hg'; exact hs g cs x hh))

namespace Ax
def cutO (o : Ot) : Ot := { o with v := o.v.take 300 }
def fewO (l : List Ot) : List Ot := (l.take 6).map cutO
/-- Attributes of few things. -/
def few (a : At) : At := { a with path := fewN 40 300 a.path, path4 := fewN 40 300 a.path4, comms := a.comms.take 70, others := fewO a.others }
theorem fewO_next {l : List Ot} {k : Nat} (hk : k < l.length) (h6 : k < 6) : fewO (l.take (k + 1)) = fewO (l.take k) ++ [cutO (l.getD k ⟨0, 0, []⟩)] := by
  unfold fewO
  rw [List.take_take, List.take_take, show min 6 (k + 1) = k + 1 by omega, show min 6 k = k by omega, List.take_succ_eq_append_getElem hk, List.map_append]
  congr 2
  rw [List.getD_eq_getElem?_getD, List.getElem?_eq_getElem hk]
  rfl
theorem fewO_len {l : List Ot} {k : Nat} (hk : k ≤ l.length) (h6 : k ≤ 6) : (fewO (l.take k)).length = k := by
  unfold fewO
  rw [List.length_map, List.length_take, List.length_take]
  omega
theorem fewO_full (l : List Ot) {k : Nat} (h : k = l.length ∨ k = 6) : fewO (l.take k) = fewO l := by
  unfold fewO
  rcases h with rfl | rfl
  · rw [List.take_of_length_le (Nat.le_refl l.length)]
  · rw [List.take_take, Nat.min_self]
end Ax
theorem Ots.at3 {w : World} {A : Option Addr} {n c : Nat} {l : List Ot} (h : Ots w (.slice A n c) l) {k : Nat} (hk : k < l.length) :
    ∃ b o Au cu, A = some ⟨b, o, none⟩ ∧ w.cell? ⟨b, o + k * 3, none⟩ = some (.int .u8 ((l.getD k ⟨0, 0, []⟩).f.toNat : Int)) ∧ w.cell? ⟨b, o + k * 3 + 1, none⟩ = some (.int .u8 ((l.getD k ⟨0, 0, []⟩).t.toNat : Int)) ∧
      w.cell? ⟨b, o + k * 3 + 2, none⟩ = some (.slice Au (l.getD k ⟨0, 0, []⟩).v.length cu) ∧ By w (.slice Au (l.getD k ⟨0, 0, []⟩).v.length cu) (l.getD k ⟨0, 0, []⟩).v := by
  obtain ⟨A', c', hv, _, _, hr⟩ := h
  injection hv with h1 h2 h3
  subst h1 h2
  obtain ⟨b, o, hA, hi⟩ := hr (by omega)
  obtain ⟨x1, x2, u, x3, x4⟩ := hi k hk
  have e : l.getD k ⟨0, 0, []⟩ = l[k] := by rw [List.getD_eq_getElem?_getD, List.getElem?_eq_getElem hk]; rfl
  rw [e]
  obtain ⟨Au, cu, rfl, -, -⟩ := x4.form
  exact ⟨b, o, Au, cu, hA, x1, x2, x3, x4⟩
theorem u32_infoF : (Tryz.prog.info? 23).map (fun i => (i.zero, i.size, i.bytes)) = some (some (.int .u32 0), 1, 4) := by kernel_rfl
theorem u8_infoF : (Tryz.prog.info? 5).map (fun i => (i.zero, i.size, i.bytes)) = some (some (.int .u8 0), 1, 1) := by kernel_rfl
theorem oth_infoF : (Tryz.prog.info? 73).map (fun i => (i.zero, i.size, i.bytes)) = some (some (.agg #[.int .u8 0, .int .u8 0, .slice none 0 0]), 3, 32) := by kernel_rfl
/-- What stands while the others are cut. -/
structure FewI (w : World) (a : At) (pv cv qv : Value) (ov : Value) (u : World) : Prop where
  kept : Kept Nothing w u
  blk : Blk u w.heap.size 33 (Ax.agg a pv cv qv ov)
  zero : Blk u (w.heap.size + 1) 33 z13
  p : Pown u w.heap.size pv a.path
  c : u.ownsRow w.heap.size 23 1 cv a.comms.length (ass a.comms)
  q : Pown u w.heap.size qv a.path4
theorem FewI.old {w u u' : World} {a : At} {pv cv qv ov : Value} (h : FewI w a pv cv qv ov u) (k : Kept Nothing u u') : FewI w a pv cv qv ov u' :=
  ⟨h.kept.trans k, h.blk.kept k (fun x => x), h.zero.kept k (fun x => x), h.p.old k, ow_kept h.c k (fun _ _ x => x), h.q.old k⟩
theorem FewI.grown {w u u' : World} {a : At} {pv cv qv ov q : Value} {n : Nat} {xs : List Value} (h : FewI w a pv cv qv ov u) (oq : u.ownsRow w.heap.size 73 3 q n xs) (hg : u.grownBy u' q.ownBlock) : FewI w a pv cv qv ov u' := by
  have kg : Kept (fun k => q.ownBlock = some k) u u' := (Kept.refl _ u).grown hg (fun _ hk _ => hk)
  have ne : ∀ g cs t, t ≠ 73 → q.ownBlock = some g → u.heap[g]? ≠ some (.cells cs t (0, 0)) := fun g cs t ht hg e => by
    obtain ⟨cs', hh⟩ := ow_lt oq hg
    rw [hh] at e
    injection e with e
    injection e with _ e2
    exact ht e2.symm
  have low : ∀ {e size n v xs}, u.ownsRow w.heap.size e size v n xs → e ≠ 73 → u'.ownsRow w.heap.size e size v n xs := fun hr he => ow_kept hr kg (fun g hg x => by obtain ⟨cs, hh⟩ := ow_lt hr hg; exact ne g cs _ he x hh)
  have far : ∀ {g cs}, Blk u g 33 cs → Blk u' g 33 cs := fun hb => hb.kept kg (fun x => ne _ _ _ (by decide) x hb)
  have pw : ∀ {v l}, Pown u w.heap.size v l → Pown u' w.heap.size v l := fun ⟨xs, h1, h2⟩ => ⟨xs, low h1 (by decide), h2.kept kg (fun g cs x e => ne g cs _ (by decide) x e)⟩
  exact ⟨h.kept.own_grown oq (Nat.le_refl _) hg, far h.blk, far h.zero, pw h.p, low h.c (by decide), pw h.q⟩

def ksFew (B : Nat) (p q : List Seg) : Nat → Value → World → Prop
  | 2, v, w => ∃ A c, v = .slice A (fewN 40 300 p).length c ∧ Pown w B v (fewN 40 300 p)
  | 5, v, w => ∃ A c, v = .slice A (fewN 40 300 q).length c ∧ Pown w B v (fewN 40 300 q)
  | _, _, _ => True
theorem ksFew_stab (B : Nat) (p q : List Seg) (k : Nat) (v : Value) (w w' : World) (kk : Kept Nothing w w') (h : ksFew B p q k v w) : ksFew B p q k v w' := by
  unfold ksFew at h ⊢
  split at h
  all_goals first
    | (obtain ⟨A, c, h1, h2⟩ := h; exact ⟨A, c, h1, h2.old kk⟩)
    | (obtain ⟨A, c, h1, h2⟩ := h; exact ⟨A, c, h1, h2.old kk⟩)
    | trivial

set_option maxRecDepth 20000 in
set_option maxHeartbeats 400000 in
theorem at_few (a : At) (pv cv qv ov : Value) (w : World) (h : Atp w a pv cv qv ov) :
    Calls Tryz.prog 40 #[.agg (Ax.agg a pv cv qv ov)] w fun e w' => ∃ pv' cv' qv' ov', e = .returned (.agg (Ax.agg (Ax.few a) pv' cv' qv' ov')) ∧ AtO w' w.heap.size (Ax.few a) pv' cv' qv' ov' ∧ Kept Nothing w w' := by
  have HFIT := Lib.hid h.2.2.2.2
  have HOV := Lib.hid h.2.2.2.1
  have HCM := Lib.hid h.2.1
  have HCP := Lib.hid (fun u (k : Kept Nothing w u) => few8 pv a.path u (h.1.old k))
  have HCQ := Lib.hid (fun u (k : Kept Nothing w u) => few8 qv a.path4 u (h.2.2.1.old k))
  obtain ⟨i0, hi, hz0, hz1, hz2⟩ := info_parts u32_infoF
  obtain ⟨j0, hj, hy0, hy1, hy2⟩ := info_parts u8_infoF
  obtain ⟨l0, hl0, hx0, hx1, hx2⟩ := info_parts oth_infoF
  obtain ⟨Ap, np, rfl, -, -⟩ := (show ∃ A c, pv = .slice A a.path.length c ∧ _ ∧ _ from h.1.form)
  obtain ⟨Ac, nc, rfl, hcc, hcm⟩ := h.2.1.form
  obtain ⟨Aq, nq, rfl, -, -⟩ := (show ∃ A c, qv = .slice A a.path4.length c ∧ _ ∧ _ from h.2.2.1.form)
  obtain ⟨Ao, no, rfl, hoc, hom⟩ := h.2.2.2.1.form
  clear h
  go_enter Tryz.func40, Tryz.ntmps40
  go_upto_region 1 with fail
  obtain ⟨W1, hW1⟩ : ∃ W1, (w.alloc (.cells (Ax.agg a (.slice Ap a.path.length np) (.slice Ac a.comms.length nc) (.slice Aq a.path4.length nq) (.slice Ao a.others.length no)) 33)).alloc (.cells z13 33) = W1 := ⟨_, rfl⟩
  have K1 : Hid (Kept Nothing w W1) := Lib.hid (by rw [← hW1]; exact ((Kept.refl Nothing _).alloc _).alloc _)
  have B1 : Hid (Blk W1 w.heap.size 33 (Ax.agg a (.slice Ap a.path.length np) (.slice Ac a.comms.length nc) (.slice Aq a.path4.length nq) (.slice Ao a.others.length no))) := Lib.hid (by rw [← hW1]; exact (Blk.fresh w _ _).alloc _)
  have Z1 : Hid (Blk W1 (w.heap.size + 1) 33 z13) := Lib.hid (by
    have h := Blk.fresh (w.alloc (.cells (Ax.agg a (.slice Ap a.path.length np) (.slice Ac a.comms.length nc) (.slice Aq a.path4.length nq) (.slice Ao a.others.length no)) 33)) 33 z13
    rw [World.size_alloc] at h
    rw [← hW1]
    exact h)
  rw [show (#[.int .u32 0, .int .u8 0, .slice none 0 0, .int .u32 0, .int .u32 0, .int .u32 0, .int .u32 0, .int .u32 0, .slice none 0 0, .slice none 0 0, .int .u32 0, .int .u32 0, .slice none 0 0] : Array Value) = z13 from rfl, hW1]
  clear hW1
  have C2 : Hid (W1.cell? ⟨w.heap.size, 2, none⟩ = some (.slice Ap a.path.length np)) := Lib.hid (B1.out.cell 2)
  have C9 : Hid (W1.cell? ⟨w.heap.size, 9, none⟩ = some (.slice Aq a.path4.length nq)) := Lib.hid (B1.out.cell 9)
  refine wp_region_tail W1 (Facts [some (.pointer (some ⟨w.heap.size, 2, none⟩)), some (.slice Ap a.path.length np), none, some (.pointer (some ⟨w.heap.size, 9, none⟩)), some (.slice Aq a.path4.length nq), none, some (.pointer (some ⟨w.heap.size, 2, none⟩))] (ksFew w.heap.size a.path a.path4)) 7 (by decide) (by kernel_rfl) (by kernel_rfl) (by kernel_rfl) (by decide +kernel) (by intro d hd; simp [dsts] at hd ⊢; omega) (ready_nil (by kernel_rfl)) (fun _ => true) (by kernel_rfl) ?_ (Facts.stab (ksFew_stab w.heap.size a.path a.path4)) ((Kept.refl Nothing W1).drew) ?_ ?_
  · intro x hx; simp at hx
  · refine OweTo.cons ?_ (by rfl) ?_
    · intro u aa hk hf hfar
      have v1 : aa.tmps.getD 1 undef = .pointer (some ⟨w.heap.size, 0, none⟩) := hfar 1 (by decide)
      have w1 := v1
      rw [Array.getD_eq_getD_getElem?] at w1
      clear hf hfar
      go_simp
      exact ⟨_, rfl, Kept.refl _ _, rfl⟩
    refine OweTo.cons ?_ (by rfl) ?_
    · intro u aa hk hf hfar
      have v6 : aa.tmps.getD 6 undef = .pointer (some ⟨w.heap.size, 2, none⟩) := hf 0 _ 6 rfl rfl ⟨⟨0, .data⟩, Array.mem_of_getElem? (i := 0) rfl, rfl, rfl⟩
      have w6 := v6
      rw [Array.getD_eq_getD_getElem?] at w6
      have c2 := hk.cell_some C2.out (fun x => x)
      clear hf hfar
      go_simp
      exact ⟨_, rfl, Kept.refl _ _, rfl⟩
    refine OweTo.cons ?_ (by rfl) ?_
    · intro u aa hk hf hfar
      have v7 : aa.tmps.getD 7 undef = .slice Ap a.path.length np := hf 1 _ 7 rfl rfl ⟨⟨1, .data⟩, Array.mem_of_getElem? (i := 0) rfl, rfl, rfl⟩
      have w7 := v7
      rw [Array.getD_eq_getD_getElem?] at w7
      clear hf hfar
      go_simp
      refine (HCP.out _ (K1.out.trans hk)).mono ?_
      rintro e u' ⟨v', rfl, p', hk'⟩
      obtain ⟨A', n', rfl, -, -⟩ := (show ∃ A c, v' = .slice A _ c ∧ _ ∧ _ from p'.pts.form)
      exact ⟨_, rfl, hk', ⟨A', n', rfl, p'.weak (K1.out.trans hk).size⟩⟩
    refine OweTo.cons ?_ (by rfl) ?_
    · intro u aa hk hf hfar
      have v1 : aa.tmps.getD 1 undef = .pointer (some ⟨w.heap.size, 0, none⟩) := hfar 1 (by decide)
      have w1 := v1
      rw [Array.getD_eq_getD_getElem?] at w1
      clear hf hfar
      go_simp
      exact ⟨_, rfl, Kept.refl _ _, rfl⟩
    refine OweTo.cons ?_ (by rfl) ?_
    · intro u aa hk hf hfar
      have v9 : aa.tmps.getD 9 undef = .pointer (some ⟨w.heap.size, 9, none⟩) := hf 3 _ 9 rfl rfl ⟨⟨3, .data⟩, Array.mem_of_getElem? (i := 0) rfl, rfl, rfl⟩
      have w9 := v9
      rw [Array.getD_eq_getD_getElem?] at w9
      have c9 := hk.cell_some C9.out (fun x => x)
      clear hf hfar
      go_simp
      exact ⟨_, rfl, Kept.refl _ _, rfl⟩
    refine OweTo.cons ?_ (by rfl) ?_
    · intro u aa hk hf hfar
      have v10 : aa.tmps.getD 10 undef = .slice Aq a.path4.length nq := hf 4 _ 10 rfl rfl ⟨⟨4, .data⟩, Array.mem_of_getElem? (i := 0) rfl, rfl, rfl⟩
      have w10 := v10
      rw [Array.getD_eq_getD_getElem?] at w10
      clear hf hfar
      go_simp
      refine (HCQ.out _ (K1.out.trans hk)).mono ?_
      rintro e u' ⟨v', rfl, p', hk'⟩
      obtain ⟨A', n', rfl, -, -⟩ := (show ∃ A c, v' = .slice A _ c ∧ _ ∧ _ from p'.pts.form)
      exact ⟨_, rfl, hk', ⟨A', n', rfl, p'.weak (K1.out.trans hk).size⟩⟩
    refine OweTo.cons ?_ (by rfl) ?_
    · intro u aa hk hf hfar
      have v1 : aa.tmps.getD 1 undef = .pointer (some ⟨w.heap.size, 0, none⟩) := hfar 1 (by decide)
      have w1 := v1
      rw [Array.getD_eq_getD_getElem?] at w1
      clear hf hfar
      go_simp
      exact ⟨_, rfl, Kept.refl _ _, rfl⟩
    exact OweTo.last (by decide)
  · intro AA u hk hsz hdef hfar hfacts
    have x6 : AA.tmps.getD 6 undef = .pointer (some ⟨w.heap.size, 2, none⟩) := hfacts 0 _ 6 (by decide) rfl rfl
    have x7 : AA.tmps.getD 7 undef = .slice Ap a.path.length np := hfacts 1 _ 7 (by decide) rfl rfl
    obtain ⟨A8, n8, x8, P8⟩ : ∃ A c, (AA.tmps.getD 8 undef) = .slice A (fewN 40 300 a.path).length c ∧ Pown u w.heap.size (AA.tmps.getD 8 undef) (fewN 40 300 a.path) := hfacts 2 _ 8 (by decide) rfl rfl
    have x9 : AA.tmps.getD 9 undef = .pointer (some ⟨w.heap.size, 9, none⟩) := hfacts 3 _ 9 (by decide) rfl rfl
    have x10 : AA.tmps.getD 10 undef = .slice Aq a.path4.length nq := hfacts 4 _ 10 (by decide) rfl rfl
    obtain ⟨A11, n11, x11, P11⟩ : ∃ A c, (AA.tmps.getD 11 undef) = .slice A (fewN 40 300 a.path4).length c ∧ Pown u w.heap.size (AA.tmps.getD 11 undef) (fewN 40 300 a.path4) := hfacts 5 _ 11 (by decide) rfl rfl
    have x12 : AA.tmps.getD 12 undef = .pointer (some ⟨w.heap.size, 2, none⟩) := hfacts 6 _ 12 (by decide) rfl rfl
    have hA := arr_put AA.tmps [6, 7, 8, 9, 10, 11, 12, 13] _ hsz (fun t ht => hfar t ht)
    obtain ⟨At, Ad⟩ := AA
    simp only at hdef x6 x7 x8 x9 x10 x11 x12 hA
    subst hdef
    simp only [List.foldl_cons, List.foldl_nil, x6, x7, x8, x9, x10, x11, x12] at hA
    clear hfar hfacts hsz x6 x7 x8 x9 x10 x11 x12
    generalize At.getD 13 undef = y13 at hA
    simp only [List.setIfInBounds_toArray, List.set_cons_succ, List.set_cons_zero] at hA
    subst hA
    simp only [List.drop_succ_cons, List.drop_zero]
    have BU := Lib.hid (B1.out.kept hk (fun x => x))
    have ZU := Lib.hid (Z1.out.kept hk (fun x => x))
    have KU := Lib.hid (K1.out.trans hk)
    have g2 := BU.out.free 2
    have g9 := BU.out.free 9
    have h2 : u.cell? ⟨w.heap.size, 2, none⟩ = some (.slice Ap a.path.length np) := BU.out.cell 2
    have h9 : u.cell? ⟨w.heap.size, 9, none⟩ = some (.slice Aq a.path4.length nq) := BU.out.cell 9
    have P8h := Lib.hid P8
    have P11h := Lib.hid P11
    clear P8 P11 hk HCP HCQ C2 C9
    go_upto_region 2 with fail
    obtain ⟨W2, hW2⟩ : ∃ W2, (u.setCell ⟨w.heap.size, 2, none⟩ (.slice A8 (fewN 40 300 a.path).length n8)).setCell ⟨w.heap.size, 9, none⟩ (.slice A11 (fewN 40 300 a.path4).length n11) = W2 := ⟨_, rfl⟩
    have kU : Kept (Only w.heap.size) u W2 := by rw [← hW2]; exact (Kept.own u w.heap.size 2 _).trans (Kept.own _ w.heap.size 9 _)
    have hoff : Off5 u (Only w.heap.size) := Off5.blk BU.out (by decide)
    have K2 : Hid (Kept Nothing w W2) := Lib.hid (KU.out.trans_new kU (fun i hi (e : i = w.heap.size) => by omega))
    have B2 : Hid (Blk W2 w.heap.size 33 (Ax.agg (Ax.few a) (.slice A8 (fewN 40 300 a.path).length n8) (.slice Ac a.comms.length nc) (.slice A11 (fewN 40 300 a.path4).length n11) (.slice Ao a.others.length no))) := Lib.hid (by rw [← hW2]; exact (BU.out.put 2 _).put 9 _)
    have Z2 : Hid (Blk W2 (w.heap.size + 1) 33 z13) := Lib.hid (ZU.out.kept kU (fun (e : w.heap.size + 1 = w.heap.size) => by omega))
    have P2 := Lib.hid (P8h.out.off5 kU hoff)
    have Q2 := Lib.hid (P11h.out.off5 kU hoff)
    rw [hW2]
    clear hW2 kU hoff BU ZU KU g2 g9 h2 h9 P8h P11h K1 B1 Z1
    obtain ⟨m, hmm⟩ : ∃ m, min a.comms.length 70 = m := ⟨_, rfl⟩
    have i1 : min (a.comms.length : Int) 70 = (m : Int) := by omega
    have hmin : (if (70 : Int) < (a.comms.length : Int) then (70 : Int) else (a.comms.length : Int)) = (m : Int) := by split <;> omega
    have i2 : (m : Int) ≤ (nc : Int) := by omega
    have HA2 := Lib.hid ((HCM.out.old K2.out).pre (m := m) (by omega))
    have htk : a.comms.take m = a.comms.take 70 := by
      by_cases h : a.comms.length ≤ 70
      · rw [List.take_of_length_le (by omega), List.take_of_length_le (by omega)]
      · rw [show m = 70 by omega]
    have hlen : (a.comms.take 70).length = m := by rw [List.length_take]; omega
    rw [htk] at HA2
    have HSRC := Lib.hid HA2.out.src
    rw [hlen] at HSRC
    have HLEN := Lib.hid hlen
    have HCT := Lib.hid (show ∀ n ∈ a.comms.take 70, n < 4294967296 from fun n hn => HCM.out.1 n (List.mem_of_mem_take hn))
    have HL5 : Hid (0 + m ≤ maxLen ∧ (0 + m) * 4 ≤ 140737488355328) := Lib.hid (by unfold maxLen; omega)
    have c8 : W2.cell? ⟨w.heap.size, 8, none⟩ = some (.slice Ac a.comms.length nc) := B2.out.cell 8
    have HZ2 := Lib.hid K2.out.size
    clear htk hmm HCM HA2 hlen
    obtain ⟨vt, hvt⟩ : ∃ vt, a.comms.take 70 = vt := ⟨_, rfl⟩
    rw [hvt] at HSRC HLEN HCT
    have HVT := Lib.hid hvt
    clear hvt
    go_upto_region 3 with (at_builtin; refine wpList_app _ rfl _ _ 30 rfl w.heap.size 23 i0 _ 1 4 Tryz.underlying30 hi hz0 hz1 hz2 rfl (by decide) (.slice none 0 0) 0 [] rfl (World.ownsRow_nil _ _ _ _) Ac m nc (ass vt) rfl HSRC.out HL5.out.1 HL5.out.2 HZ2.out ?_; intro v3 w3 ho3 hg3 _; (rw [Nat.zero_add, List.nil_append] at ho3); (have k3 : Kept Nothing W2 w3 := (Kept.refl Nothing _).grown hg3 (fun _ hk _ => by cases hk)); (obtain ⟨A3, n3, rfl, -, -⟩ := ow_form ho3); (have O3 := Lib.hid ho3); (have K3 := Lib.hid k3); (have g8 := (B2.out.kept k3 (fun x => x)).free 8); (have d8 : w3.cell? ⟨w.heap.size, 8, none⟩ = some (.slice Ac a.comms.length nc) := (B2.out.kept k3 (fun x => x)).cell 8); clear ho3 hg3 k3)
    obtain ⟨W4, hW4⟩ : ∃ W4, w3.setCell ⟨w.heap.size, 8, none⟩ (.slice A3 m n3) = W4 := ⟨_, rfl⟩
    have k4 : Kept (Only w.heap.size) w3 W4 := by rw [← hW4]; exact Kept.own w3 w.heap.size 8 _
    have hoff : Off5 w3 (Only w.heap.size) := Off5.blk (B2.out.kept K3.out (fun x => x)) (by decide)
    have HI : Hid (FewI w (Ax.few a) (.slice A8 (fewN 40 300 a.path).length n8) (.slice A3 m n3) (.slice A11 (fewN 40 300 a.path4).length n11) (.slice Ao a.others.length no) W4) := Lib.hid ⟨(K2.out.trans K3.out).trans_new k4 (fun i hi (e : i = w.heap.size) => by omega),
      by rw [← hW4]; exact (B2.out.kept K3.out (fun x => x)).put 8 _, (Z2.out.kept K3.out (fun x => x)).kept k4 (fun (e : w.heap.size + 1 = w.heap.size) => by omega), (P2.out.old K3.out).off5 k4 hoff,
      by
        have h := ow_off O3.out k4 hoff (by decide)
        show W4.ownsRow w.heap.size 23 1 (.slice A3 m n3) (a.comms.take 70).length (ass (a.comms.take 70))
        rw [HVT.out, HLEN.out]
        exact h, (Q2.out.old K3.out).off5 k4 hoff⟩
    rw [hW4]
    clear hW4 k4 hoff g8 d8 c8 K2 B2 Z2 P2 Q2 O3 K3 HSRC HL5 HZ2 i1 i2
    go_wp2
    go_loopw [3, 4] (fun q i wr => ∃ k : Nat, i = .int .i64 (k : Int) ∧ k ≤ a.others.length ∧ k ≤ 6 ∧ Hid (Oown wr w.heap.size q (Ax.fewO (a.others.take k))) ∧ Hid (FewI w (Ax.few a) (.slice A8 (fewN 40 300 a.path).length n8) (.slice A3 m n3) (.slice A11 (fewN 40 300 a.path4).length n11) (.slice Ao a.others.length no) wr)) (fun _ i _ => a.others.length - (intOf i).toNat)
    case atStart => exact ⟨0, rfl, Nat.zero_le _, Nat.zero_le _, Lib.hid (Oown.nil _ _), HI⟩
    case round =>
      obtain ⟨k, rfl, hk, hk6, HP, HR⟩ := hrel
      clear HI
      have b12 : wr.cell? ⟨w.heap.size, 12, none⟩ = some (.slice Ao a.others.length no) := HR.out.blk.cell 12
      have i1 : (0 : Int) ≤ (k : Int) := by omega
      by_cases hgo : k < a.others.length ∧ k < 6
      · obtain ⟨hlt, h6⟩ := hgo
        have i2 : (k : Int) < (a.others.length : Int) := by omega
        have h6' : (k : Int) < 6 := by omega
        obtain ⟨b, o, Au, cu, rfl, q0, q1, q2, q3⟩ := (HOV.out.old HR.out.kept).at3 hlt
        have HN := Lib.hid (Ax.fewO_next hlt h6)
        have HQL := Lib.hid (Ax.fewO_len (l := a.others) (k := k) (by omega) (by omega))
        obtain ⟨xs, oq, hr⟩ := HP.out
        rw [HQL.out] at oq
        have OQ := Lib.hid oq
        have HRS := Lib.hid hr
        obtain ⟨Aq2, cq2, rfl, _, _⟩ := ow_form oq
        clear oq hr HP
        generalize a.others.getD k ⟨0, 0, []⟩ = P at *
        obtain ⟨pf, pt, pv⟩ := P
        simp only at q0 q1 q2
        replace q3 : By wr (.slice Au pv.length cu) pv := q3
        replace HN : Hid (Ax.fewO (a.others.take (k + 1)) = Ax.fewO (a.others.take k) ++ [⟨pf, pt, pv.take 300⟩]) := HN
        have hcu : pv.length ≤ cu ∧ cu ≤ maxLen := by obtain ⟨_, _, e, h1, h2⟩ := q3.form; cases e; exact ⟨h1, h2⟩
        obtain ⟨ml, hml⟩ : ∃ ml, min pv.length 300 = ml := ⟨_, rfl⟩
        have hmin : (if (300 : Int) < (pv.length : Int) then (300 : Int) else (pv.length : Int)) = (ml : Int) := by split <;> omega
        have i3 : (ml : Int) ≤ (cu : Int) := by omega
        have HA2 := q3.pre (m := ml) (by omega)
        have htk : pv.take ml = pv.take 300 := by
          by_cases h : pv.length ≤ 300
          · rw [List.take_of_length_le (by omega), List.take_of_length_le (by omega)]
          · rw [show ml = 300 by omega]
        rw [htk] at HA2
        have hlen : (pv.take 300).length = ml := by rw [List.length_take]; omega
        have KA := Lib.hid ((Kept.refl Nothing wr).alloc (.cells #[.int .u8 (pf.toNat : Int), .int .u8 (pt.toNat : Int), .slice Au pv.length cu] 73))
        have BX := Lib.hid (Blk.fresh wr 73 #[.int .u8 (pf.toNat : Int), .int .u8 (pt.toNat : Int), .slice Au pv.length cu])
        have HSRC := (HA2.old KA.out).src
        rw [hlen] at HSRC
        have HS := Lib.hid HSRC
        have HL6 : Hid (0 + ml ≤ maxLen ∧ (0 + ml) * 1 ≤ 140737488355328) := Lib.hid (by unfold maxLen; omega)
        have HL7 : Hid (k + 1 ≤ maxLen ∧ (k + 1) * 32 ≤ 140737488355328) := Lib.hid (by unfold maxLen; omega)
        have HSZ := Lib.hid (Nat.le_trans HR.out.kept.size KA.out.size)
        have HLE := Lib.hid hlen
        clear htk hlen HSRC HA2 q3 hml
        generalize pv.take 300 = vt at *
        go_wp2_with (first
          | (at_builtin; refine wpList_app _ rfl _ _ 31 rfl w.heap.size 73 l0 _ 3 32 Tryz.underlying31 hl0 hx0 hx1 hx2 rfl (by decide) (.slice Aq2 k cq2) k xs rfl (ow_kept OQ.out (K8.out.alloc _) (fun _ _ x => x)) (some ⟨w8.heap.size, 0, none⟩) 1 1 [.int .u8 (pf.toNat : Int), .int .u8 (pt.toNat : Int), .slice A7 ml c7] rfl (src_new w8 _ #[.int .u8 (pf.toNat : Int), .int .u8 (pt.toNat : Int), .slice A7 ml c7] 3 1 rfl (by simp [Value.oneCell'])) HL7.out.1 HL7.out.2 (Nat.le_trans (Nat.le_trans HR.out.kept.size K8.out.size) ((Kept.refl Nothing w8).alloc (.cells #[.int .u8 (pf.toNat : Int), .int .u8 (pt.toNat : Int), .slice A7 ml c7] 73)).size) ?_; intro v9 w9 ho9 hg9 _)
          | (refine wpList_load_row rfl 73 _ rfl wr.heap.size rfl 73 _ (0, 0) _ B8.out Tryz.underlying73 rfl (by kernel_rfl) ?_)
          | (at_builtin; refine wpList_app _ rfl _ _ 22 rfl w.heap.size 5 j0 _ 1 1 Tryz.underlying22 hj hy0 hy1 hy2 rfl (by decide) (.slice none 0 0) 0 [] rfl (World.ownsRow_nil _ _ _ _) Au ml cu (bys vt) rfl HS.out HL6.out.1 HL6.out.2 HSZ.out ?_; intro v7 w7 ho7 hg7 _; (rw [Nat.zero_add, List.nil_append] at ho7); (obtain ⟨A7, c7, rfl, _, _⟩ := ow_form ho7); (have k7 : Kept Nothing wr w7 := KA.out.grown hg7 (fun _ hk _ => by cases hk)); (have b7 := BX.out.kept ((Kept.refl Nothing _).grown hg7 (fun _ hk _ => by cases hk)) (fun x => x)); (have y2 := b7.cell 2); (have f2 := b7.free 2); (obtain ⟨w8, hw8⟩ : ∃ w8, w7.setCell ⟨wr.heap.size, 2, none⟩ (.slice A7 ml c7) = w8 := ⟨_, rfl⟩); (have B8 : Hid (Blk w8 wr.heap.size 73 #[.int .u8 (pf.toNat : Int), .int .u8 (pt.toNat : Int), .slice A7 ml c7]) := Lib.hid (by rw [← hw8]; exact b7.put 2 _)); (have O8 : Hid (w8.ownsRow w.heap.size 5 1 (.slice A7 ml c7) ml (bys vt)) := Lib.hid (by rw [← hw8]; exact ow_kept ho7 (Kept.own w7 wr.heap.size 2 _) (ow_far ho7 b7 (by decide)))); (have K8 : Hid (Kept Nothing wr w8) := Lib.hid (by rw [← hw8]; exact k7.setCell (p := ⟨wr.heap.size, 2, none⟩) (fun (h : wr.heap.size < wr.heap.size) => absurd h (by omega)) _)); clear ho7 hg7 k7 b7))
        go_roundw
        case rel =>
          have oq2 := ow_kept OQ.out (K8.out.alloc (.cells #[.int .u8 (pf.toNat : Int), .int .u8 (pt.toNat : Int), .slice A7 ml c7] 73)) (fun _ _ x => x)
          refine ⟨k + 1, by go_num, by omega, by omega, Lib.hid ?_, Lib.hid ((HR.out.old (K8.out.alloc _)).grown oq2 hg9)⟩
          rw [HN.out]
          refine ⟨xs ++ [.int .u8 (pf.toNat : Int), .int .u8 (pt.toNat : Int), .slice A7 ml c7], ?_, ?_⟩
          · rw [List.length_append, HQL.out]; exact ho9
          · exact Ors.push (c := ⟨pf, pt, vt⟩) oq2 (HRS.out.old (K8.out.alloc _)) (by rw [show (Ot.mk pf pt vt).v.length = ml from HLE.out]; exact ow_kept O8.out ((Kept.refl Nothing w8).alloc _) (fun _ _ x => x)) hg9
        case measure => simp [intOf]; omega
      · have HFU : Ax.fewO (a.others.take k) = Ax.fewO a.others := Ax.fewO_full _ (by omega)
        rw [HFU] at HP
        have hd : decide ((k : Int) < (a.others.length : Int)) = decide (k < a.others.length) := by rw [Bool.eq_iff_iff]; simp
        have h12f := HR.out.blk.free 12
        have HPO := Lib.hid HP.out
        obtain ⟨xs, oq, hr⟩ := HP.out
        obtain ⟨Aq2, cq2, rfl, _, _⟩ := ow_form oq
        clear oq hr HP HFU
        have kW : ∀ x, Kept (Only w.heap.size) wr (wr.setCell ⟨w.heap.size, 12, none⟩ x) := fun x => Kept.own wr w.heap.size 12 x
        have hoff : Off5 wr (Only w.heap.size) := Off5.blk HR.out.blk (by decide)
        have FIN : Hid (∀ (no' : Nat) (Ao' : Option Addr), Oown wr w.heap.size (.slice Ao' (Ax.fewO a.others).length no') (Ax.fewO a.others) → Blk (wr.setCell ⟨w.heap.size, 12, none⟩ (.slice Ao' (Ax.fewO a.others).length no')) w.heap.size 33 (Ax.agg (Ax.few a) (.slice A8 (fewN 40 300 a.path).length n8) (.slice A3 m n3) (.slice A11 (fewN 40 300 a.path4).length n11) (.slice Ao' (Ax.fewO a.others).length no')) ∧ Blk (wr.setCell ⟨w.heap.size, 12, none⟩ (.slice Ao' (Ax.fewO a.others).length no')) (w.heap.size + 1) 33 z13 ∧
            AtO (wr.setCell ⟨w.heap.size, 12, none⟩ (.slice Ao' (Ax.fewO a.others).length no')) w.heap.size (Ax.few a) (.slice A8 (fewN 40 300 a.path).length n8) (.slice A3 m n3) (.slice A11 (fewN 40 300 a.path4).length n11) (.slice Ao' (Ax.fewO a.others).length no') ∧ Kept Nothing w (wr.setCell ⟨w.heap.size, 12, none⟩ (.slice Ao' (Ax.fewO a.others).length no'))) := Lib.hid (fun no' Ao' ho => by
          refine ⟨HR.out.blk.put 12 _, HR.out.zero.kept (kW _) (fun (e : w.heap.size + 1 = w.heap.size) => by omega), ⟨HR.out.p.off5 (kW _) hoff, ⟨ow_off HR.out.c (kW _) hoff (by decide), ?_⟩, HR.out.q.off5 (kW _) hoff, ho.off5 (kW _) hoff, HFIT.out⟩, HR.out.kept.trans_new (kW _) (fun i hi (e : i = w.heap.size) => by omega)⟩
          show ∀ n ∈ a.comms.take 70, n < 4294967296
          rw [HVT.out]; exact HCT.out)
        clear kW hoff HR
        by_cases hlt : k < a.others.length
        · have h6 : ¬ (k : Int) < 6 := by omega
          have i2 : (k : Int) < (a.others.length : Int) := by omega
          obtain ⟨F1, F2, F3, F4⟩ := FIN.out _ _ HPO.out
          clear FIN HPO
          go_upto_region 11 with fail
          generalize wr.setCell ⟨w.heap.size, 12, none⟩ (.slice Aq2 (Ax.fewO a.others).length cq2) = WN at *
          have B9 := Lib.hid F1
          have Z9 := Lib.hid F2
          have T9 := Lib.hid F3
          have K9 := Lib.hid F4
          clear F1 F2 F3 F4
          go_wp2_with (first
            | (refine wpList_store_row rfl 33 _ _ rfl (w.heap.size + 1) (Ax.agg (Ax.few a) (.slice A8 (fewN 40 300 a.path).length n8) (.slice A3 m n3) (.slice A11 (fewN 40 300 a.path4).length n11) (.slice Aq2 (Ax.fewO a.others).length cq2)) rfl rfl 33 z13 Z9.out (by kernel_rfl) rfl (Ax.agg_one ..) ?_)
            | (refine wpList_load_row rfl 33 _ rfl w.heap.size rfl 33 _ (0, 0) _ B9.out Tryz.underlying33 rfl (by kernel_rfl) ?_))
          have hB : Blk (WN.setRow (w.heap.size + 1) (Ax.agg (Ax.few a) (.slice A8 (fewN 40 300 a.path).length n8) (.slice A3 m n3) (.slice A11 (fewN 40 300 a.path4).length n11) (.slice Aq2 (Ax.fewO a.others).length cq2))) (w.heap.size + 1) 33 (Ax.agg (Ax.few a) (.slice A8 (fewN 40 300 a.path).length n8) (.slice A3 m n3) (.slice A11 (fewN 40 300 a.path4).length n11) (.slice Aq2 (Ax.fewO a.others).length cq2)) := setRow_heap WN _ _ _ _ _ Z9.out
          refine bodyPost_ret (v := .agg (Ax.agg (Ax.few a) (.slice A8 (fewN 40 300 a.path).length n8) (.slice A3 m n3) (.slice A11 (fewN 40 300 a.path4).length n11) (.slice Aq2 (Ax.fewO a.others).length cq2))) ?_ rfl ⟨_, _, _, _, rfl, T9.out.off5 (Kept.setRow _ _) (Off5.blk Z9.out (by decide)), K9.out.trans_new (Kept.setRow _ _) (fun i hi (e : i = w.heap.size + 1) => by omega)⟩
          exact results_cell_row (p := 2) rfl _ _ (w.heap.size + 1) 33 _ (0, 0) _ rfl hB Tryz.underlying33 rfl (by kernel_rfl)
        · obtain rfl : k = a.others.length := by omega
          obtain ⟨F1, F2, F3, F4⟩ := FIN.out _ _ HPO.out
          clear FIN HPO
          go_upto_region 11 with fail
          generalize wr.setCell ⟨w.heap.size, 12, none⟩ (.slice Aq2 (Ax.fewO a.others).length cq2) = WN at *
          have B9 := Lib.hid F1
          have Z9 := Lib.hid F2
          have T9 := Lib.hid F3
          have K9 := Lib.hid F4
          clear F1 F2 F3 F4
          go_wp2_with (first
            | (refine wpList_store_row rfl 33 _ _ rfl (w.heap.size + 1) (Ax.agg (Ax.few a) (.slice A8 (fewN 40 300 a.path).length n8) (.slice A3 m n3) (.slice A11 (fewN 40 300 a.path4).length n11) (.slice Aq2 (Ax.fewO a.others).length cq2)) rfl rfl 33 z13 Z9.out (by kernel_rfl) rfl (Ax.agg_one ..) ?_)
            | (refine wpList_load_row rfl 33 _ rfl w.heap.size rfl 33 _ (0, 0) _ B9.out Tryz.underlying33 rfl (by kernel_rfl) ?_))
          have hB : Blk (WN.setRow (w.heap.size + 1) (Ax.agg (Ax.few a) (.slice A8 (fewN 40 300 a.path).length n8) (.slice A3 m n3) (.slice A11 (fewN 40 300 a.path4).length n11) (.slice Aq2 (Ax.fewO a.others).length cq2))) (w.heap.size + 1) 33 (Ax.agg (Ax.few a) (.slice A8 (fewN 40 300 a.path).length n8) (.slice A3 m n3) (.slice A11 (fewN 40 300 a.path4).length n11) (.slice Aq2 (Ax.fewO a.others).length cq2)) := setRow_heap WN _ _ _ _ _ Z9.out
          refine bodyPost_ret (v := .agg (Ax.agg (Ax.few a) (.slice A8 (fewN 40 300 a.path).length n8) (.slice A3 m n3) (.slice A11 (fewN 40 300 a.path4).length n11) (.slice Aq2 (Ax.fewO a.others).length cq2))) ?_ rfl ⟨_, _, _, _, rfl, T9.out.off5 (Kept.setRow _ _) (Off5.blk Z9.out (by decide)), K9.out.trans_new (Kept.setRow _ _) (fun i hi (e : i = w.heap.size + 1) => by omega)⟩
          exact results_cell_row (p := 2) rfl _ _ (w.heap.size + 1) 33 _ (0, 0) _ rfl hB Tryz.underlying33 rfl (by kernel_rfl)
end Go.Proofs.YteofbpdogmajoaaGreatDoor
