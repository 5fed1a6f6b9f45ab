
/-
  attrs: Get, walked (printed by wip/gen_yx.py).
-/
import Derived.Test.YteofbpdogmajoaaGreatDoorZsk
namespace Go.Proofs.YteofbpdogmajoaaGreatDoor
open Go.RowKit
attribute [local go_sem] Oper.semAt_some

def ptrB : Value → Nat | .pointer (some a) => a.block | _ => 0
/-- What holds at a label of Get. -/
def Lab (W : World) (D : List UInt8) (four outside : Bool) (A : Option Addr) (c : Nat) (R : At × Nat × List UInt8) : Nat → Act → World → Prop
  | 0, a, u => ∃ p pb pf bm k st o0 o1 o2 x11, GM W D four outside p pb pf bm k st #[o0, o1, o2] u ∧ Ax.fin st = R ∧ a.defers = [] ∧ a.tmps.size = 87 ∧ a.tmps.getD 0 undef = .slice A D.length c ∧ a.tmps.getD 1 undef = .bool four ∧ a.tmps.getD 2 undef = .bool outside ∧ a.tmps.getD 6 undef = .pointer (some ⟨W.heap.size, 0, none⟩) ∧ a.tmps.getD 7 undef = .pointer (some ⟨W.heap.size + 1, 0, none⟩) ∧ a.tmps.getD 8 undef = .pointer (some ⟨W.heap.size + 1 + 1, 0, none⟩) ∧ a.tmps.getD 9 undef = .pointer (some ⟨W.heap.size + 1 + 1 + 1, 0, none⟩) ∧ a.tmps.getD 10 undef = .int .i64 (st.cls : Int) ∧ a.tmps.getD 11 undef = x11 ∧ a.tmps.getD 12 undef = .pointer (some ⟨W.heap.size + 1 + 1 + 1 + 1, 0, none⟩) ∧ a.tmps.getD 13 undef = .pointer (some ⟨p, 0, none⟩) ∧ a.tmps.getD 14 undef = .map (some bm)
  | 1, a, u => ∃ p pb pf bm k st o0 o1 o2 x11, GM W D four outside p pb pf bm k st #[o0, o1, o2] u ∧ Ax.rest four outside (D.drop k) st = R ∧ a.defers = [] ∧ a.tmps.size = 87 ∧ a.tmps.getD 0 undef = .slice A D.length c ∧ a.tmps.getD 1 undef = .bool four ∧ a.tmps.getD 2 undef = .bool outside ∧ a.tmps.getD 6 undef = .pointer (some ⟨W.heap.size, 0, none⟩) ∧ a.tmps.getD 7 undef = .pointer (some ⟨W.heap.size + 1, 0, none⟩) ∧ a.tmps.getD 8 undef = .pointer (some ⟨W.heap.size + 1 + 1, 0, none⟩) ∧ a.tmps.getD 9 undef = .pointer (some ⟨W.heap.size + 1 + 1 + 1, 0, none⟩) ∧ a.tmps.getD 10 undef = .int .i64 (st.cls : Int) ∧ a.tmps.getD 11 undef = x11 ∧ a.tmps.getD 12 undef = .pointer (some ⟨W.heap.size + 1 + 1 + 1 + 1, 0, none⟩) ∧ a.tmps.getD 13 undef = .pointer (some ⟨p, 0, none⟩) ∧ a.tmps.getD 14 undef = .map (some bm)
  | 2, a, u => GB W u ∧ R = (Ax.zeroA, 2, []) ∧ a.defers = [] ∧ a.tmps.size = 87 ∧ a.tmps.getD 6 undef = .pointer (some ⟨W.heap.size, 0, none⟩) ∧ a.tmps.getD 7 undef = .pointer (some ⟨W.heap.size + 1, 0, none⟩)
  | 3, a, u => ∃ p pb pf bm k k0 st f t v ow n, GM W D four outside p pb pf bm k st #[by8 f, by8 t, ow] u ∧ u.ownsRow (W.heap.size + 5) 5 1 ow v.length (bys v) ∧ (∀ o ∈ st.a.others, o.t ≠ t) ∧ t ∈ st.seen ∧ Ax.formL (D.drop k0) = some (f, t, v, n) ∧ k = k0 + n ∧ k0 < D.length ∧ st.a.others.length + 1 ≤ k ∧
      (if f &&& 128 = 0 then (Ax.zeroA, 3, (D.drop k0).take n) else if f &&& 64 ≠ 0 then Ax.rest four outside (D.drop k) { a := { st.a with others := st.a.others ++ [⟨224, t, v⟩] }, cls := st.cls, seen := st.seen } else Ax.rest four outside (D.drop k) st) = R ∧ a.defers = [] ∧ a.tmps.size = 87 ∧ a.tmps.getD 0 undef = .slice A D.length c ∧ a.tmps.getD 1 undef = .bool four ∧ a.tmps.getD 2 undef = .bool outside ∧ a.tmps.getD 6 undef = .pointer (some ⟨W.heap.size, 0, none⟩) ∧ a.tmps.getD 7 undef = .pointer (some ⟨W.heap.size + 1, 0, none⟩) ∧ a.tmps.getD 8 undef = .pointer (some ⟨W.heap.size + 1 + 1, 0, none⟩) ∧ a.tmps.getD 9 undef = .pointer (some ⟨W.heap.size + 1 + 1 + 1, 0, none⟩) ∧ a.tmps.getD 10 undef = .int .i64 (st.cls : Int) ∧ a.tmps.getD 11 undef = .int .i64 (k0 : Int) ∧ a.tmps.getD 12 undef = .pointer (some ⟨W.heap.size + 1 + 1 + 1 + 1, 0, none⟩) ∧ a.tmps.getD 13 undef = .pointer (some ⟨p, 0, none⟩) ∧ a.tmps.getD 14 undef = .map (some bm)
  | _, _, _ => False
def labM (l : Nat) (a : Act) (u : World) : Nat := if l = 1 then 2 * rdm u (ptrB (a.tmps.getD 13 undef)) + 2 else if l = 3 then 2 * rdm u (ptrB (a.tmps.getD 13 undef)) + 3 else if l = 2 then 1 else 0
theorem rdm_in {D : List UInt8} {k : Nat} {u : World} {p : Nat} (h : Rd u p ⟨D, k, [], 0⟩) : rdm u p = 2 * (D.length - k) + 1 := by
  rw [h.rem_eq]; rfl

section
variable {P : Program}
end

theorem GB.low {W u u' : World} {S : Nat → Prop} (h : GB W u) (kk : Kept S u u') (hs : ∀ g, S g → W.heap.size + 2 ≤ g) : GB W u' :=
  ⟨h.b6.kept kk (fun e => by have := hs _ e; omega), h.b7.kept kk (fun e => by have := hs _ e; omega), h.kept.trans_new kk (fun i hi e => by have := hs _ e; omega)⟩
theorem small_rdv (four : Bool) (a : At) (t : UInt8) (v : List UInt8) (h : Ax.small a) : Ax.small (Ax.rdv four a t v) := by
  have hr : ∀ w, (Pt.read w v).1.length ≤ 1000 ∧ ∀ s ∈ (Pt.read w v).1, s.2.length ≤ 1000 := fun w => by
    have := Pt.read_small w v
    exact ⟨by omega, fun s hs => by have := this.2 s hs; omega⟩
  have hp := plains_lenQ (Pt.read true v).1
  unfold Ax.rdv
  repeat' split
  all_goals first
    | exact h
    | exact ⟨(hr four).1, h.2.1, (hr four).2, h.2.2.2⟩
    | exact ⟨h.1, Nat.le_trans hp (hr true).1, h.2.2.1, fun s hs => (hr true).2 s (plains_memQ hs)⟩
theorem small_drop (a : At) (t : UInt8) (h : Ax.small a) : Ax.small (Ax.drop a t) := by
  have z : ∀ (c : Prop) [Decidable c] (l : List Seg), l.length ≤ 1000 → (∀ s ∈ l, s.2.length ≤ 1000) → (if c then [] else l).length ≤ 1000 ∧ ∀ s ∈ (if c then [] else l), s.2.length ≤ 1000 := fun c _ l h1 h2 => by
    split
    · exact ⟨by simp, fun s hs => by cases hs⟩
    · exact ⟨h1, h2⟩
  have z1 := z (t.toNat = 2) a.path h.1 h.2.2.1
  have z2 := z (t.toNat = 17) a.path4 h.2.1 h.2.2.2
  exact ⟨z1.1, z2.1, z1.2, z2.2⟩
theorem lost_le (t : UInt8) : Ax.lost t ≤ 2 := by unfold Ax.lost; split <;> omega
theorem keepS_facts (four outside : Bool) (a : At) (t : UInt8) (v : List UInt8) (h : Ax.small a) : Ax.small (Ax.keepS four outside a t v).1 ∧ (Ax.keepS four outside a t v).1.others = a.others ∧ (Ax.keepS four outside a t v).2 ≤ 2 := by
  unfold Ax.keepS
  split
  · unfold Ax.keepM
    split
    · exact ⟨small_rdv four a t v h, (rdv_has four a t v).2, by simp⟩
    · exact ⟨small_drop a t h, rfl, lost_le t⟩
  · exact ⟨h, rfl, by simp⟩
theorem ot_info : (Tryz.prog.info? 73).map (fun i => (i.zero, i.size, i.bytes)) = some (some (.agg #[.int .u8 0, .int .u8 0, .slice none 0 0]), 3, 32) := by kernel_rfl
theorem GM.push {W : World} {D : List UInt8} {four outside : Bool} {p pb pf bm k m : Nat} {st : Ax.Gs} {oc : Array Value} {u u' : World} {a' : At} {ov : Value} {xs : List Value} (h : GM W D four outside p pb pf bm k st oc u) (ho : u.ownsRow (W.heap.size + 5) 73 3 ov m xs)
    (kk : Kept (fun g => ov.ownBlock = some g ∨ g = W.heap.size + 1 + 1) u u') (hat : ∃ pv cv qv ov', Blk u' (W.heap.size + 1 + 1) 33 (Ax.agg a' pv cv qv ov') ∧ AtO u' (W.heap.size + 5) a' pv cv qv ov')
    (hsm : Ax.small a') (hdis : a'.others.Pairwise (fun x y => x.t ≠ y.t)) (hsub : ∀ o ∈ a'.others, o.t ∈ st.seen) (hlen : a'.others.length ≤ k) : GM W D four outside p pb pf bm k { a := a', cls := st.cls, seen := st.seen } oc u' := by
  obtain ⟨_, _, _, _, ha, _⟩ := h.at_
  have ne : ∀ {g t cs}, Blk u g t cs → t ≠ 73 → g ≠ W.heap.size + 1 + 1 → ¬ (ov.ownBlock = some g ∨ g = W.heap.size + 1 + 1) := by
    rintro g t cs hb ht hne (e | e)
    · obtain ⟨cs', hh⟩ := ow_lt ho e
      unfold Blk at hb
      rw [hb] at hh
      injection hh with hh
      injection hh with _ h2
      exact ht h2
    · exact hne e
  have low : ∀ {g}, g < W.heap.size + 5 → g ≠ W.heap.size + 1 + 1 → ¬ (ov.ownBlock = some g ∨ g = W.heap.size + 1 + 1) := by
    rintro g hg hne (e | e)
    · have := (ow_ge ho e).1; omega
    · exact hne e
  have hrd : Rd u' p ⟨D, k, [], 0⟩ := h.rd.kept kk (fun g hg cs t f hh => by
    rcases hg with e | e
    · obtain ⟨cs', h2⟩ := ow_lt ho e
      rw [h2] at hh
      injection hh with hh
      injection hh with _ h3
      rw [← h3]
      decide
    · subst e
      unfold Blk at ha
      rw [ha] at hh
      injection hh with hh
      injection hh with _ h3
      rw [← h3]
      decide)
  have hbm : ¬ (ov.ownBlock = some bm ∨ bm = W.heap.size + 1 + 1) := by
    rintro (e | e)
    · obtain ⟨cs', h2⟩ := ow_lt ho e
      exact h.mp.ne (show Blk u bm 73 cs' from h2) rfl
    · have := h.hbm; omega
  exact ⟨hrd, hat, h.bo.kept kk (low (by omega) (by omega)), h.bs.kept kk (low (by omega) (by omega)), h.b6.kept kk (low (by omega) (by omega)), h.b7.kept kk (low (by omega) (by omega)), h.bb.kept kk (ne h.bb (by decide) (by have := h.hpb; omega)), h.bf.kept kk (ne h.bf (by decide) (by have := h.hpf; omega)),
    h.mp.kept kk hbm, h.kept.trans_new kk (fun i hi e => low (g := i) (by omega) (by omega) e), h.hp, h.hpb, h.hpf, h.hbm, h.hg, hsm, hdis, hsub, hlen, h.cls, h.wtd.keptS kk (low (by have := h.hg; omega) (by have := h.hg; omega)), h.le⟩
theorem Ors.push {u1 w9 : World} {B : Nat} {q v8 : Value} {l : List Ot} {c : Ot} {n : Nat} {xs : List Value} (oq : u1.ownsRow B 73 3 q n xs) (hr : Ors u1 B xs l) (o8 : u1.ownsRow B 5 1 v8 c.v.length (bys c.v)) (hg : u1.grownBy w9 q.ownBlock) : Ors w9 B (xs ++ [by8 c.f, by8 c.t, v8]) (l ++ [c]) := by
  have kg : Kept (fun k => q.ownBlock = some k) u1 w9 := (Kept.refl _ u1).grown hg (fun _ hk _ => hk)
  have hs : ∀ g cs, q.ownBlock = some g → u1.heap[g]? ≠ some (.cells cs 5 (0, 0)) := fun g cs x e => by
    obtain ⟨cs', hh⟩ := ow_lt oq x
    rw [hh] at e
    injection e with e
    injection e with _ e2
    exact absurd e2 (by decide)
  exact (hr.kept kg hs).snoc (ow_kept o8 kg (fun g hg' x => by obtain ⟨cs, hh⟩ := ow_lt o8 hg'; exact hs g cs x hh))
theorem slice_lohi (A : Option Addr) (n c i m : Nat) (h : i + m ≤ c) (w : World) : (Instr.slice 22 (.slice A n c) (some (.int .i64 (i : Int))) (some (.int .i64 ((i + m : Nat) : Int))) none).run Tryz.prog w = .ok (.slice (if c = i then A else A.map (·.add i)) m (c - i)) w := by
  have hz := Tryz.sizeOf5
  have he : Tryz.prog.elem 22 = 5 := by kernel_rfl
  rw [run_slice_lh w 22 A n c (by kernel_rfl) .i64 .i64 (i : Int) ((i + m : Nat) : Int) (by omega) (by omega) (by omega), he, hz]
  simp [sliced]
  omega
theorem ret_cells {W w : World} (h6 : Blk w (W.heap.size) 33 zeroC) (h7 : Blk w (W.heap.size + 1) 37 fateC) (v0 v1 v2 v3 v4 v5 v6 v7 v8 v9 v10 v11 v12 f0 f1 f2 f3 : Value) :
    ∃ w', ((((((((((((((((w.setCell ⟨W.heap.size, 0, none⟩ (v0)).setCell ⟨W.heap.size, 1, none⟩ (v1)).setCell ⟨W.heap.size, 2, none⟩ (v2)).setCell ⟨W.heap.size, 3, none⟩ (v3)).setCell ⟨W.heap.size, 4, none⟩ (v4)).setCell ⟨W.heap.size, 5, none⟩ (v5)).setCell ⟨W.heap.size, 6, none⟩ (v6)).setCell ⟨W.heap.size, 7, none⟩ (v7)).setCell ⟨W.heap.size, 8, none⟩ (v8)).setCell ⟨W.heap.size, 9, none⟩ (v9)).setCell ⟨W.heap.size, 10, none⟩ (v10)).setCell ⟨W.heap.size, 11, none⟩ (v11)).setCell ⟨W.heap.size, 12, none⟩ (v12)).setCell ⟨W.heap.size + 1, 0, none⟩ (f0)).setCell ⟨W.heap.size + 1, 1, none⟩ (f1)).setCell ⟨W.heap.size + 1, 2, none⟩ (f2)).setCell ⟨W.heap.size + 1, 3, none⟩ (f3) = w' ∧ w'.cell? ⟨W.heap.size, 0, none⟩ = some v0 ∧ w'.cell? ⟨W.heap.size, 1, none⟩ = some v1 ∧ w'.cell? ⟨W.heap.size, 2, none⟩ = some v2 ∧ w'.cell? ⟨W.heap.size, 3, none⟩ = some v3 ∧ w'.cell? ⟨W.heap.size, 4, none⟩ = some v4 ∧ w'.cell? ⟨W.heap.size, 5, none⟩ = some v5 ∧ w'.cell? ⟨W.heap.size, 6, none⟩ = some v6 ∧ w'.cell? ⟨W.heap.size, 7, none⟩ = some v7 ∧ w'.cell? ⟨W.heap.size, 8, none⟩ = some v8 ∧ w'.cell? ⟨W.heap.size, 9, none⟩ = some v9 ∧ w'.cell? ⟨W.heap.size, 10, none⟩ = some v10 ∧ w'.cell? ⟨W.heap.size, 11, none⟩ = some v11 ∧ w'.cell? ⟨W.heap.size, 12, none⟩ = some v12 ∧ w'.cell? ⟨W.heap.size + 1, 0, none⟩ = some f0 ∧ w'.cell? ⟨W.heap.size + 1, 1, none⟩ = some f1 ∧ w'.cell? ⟨W.heap.size + 1, 2, none⟩ = some f2 ∧ w'.cell? ⟨W.heap.size + 1, 3, none⟩ = some f3 ∧ Kept (fun k => k = W.heap.size ∨ k = W.heap.size + 1) w w' := by
  have k0 := Kept.refl (fun k => k = W.heap.size ∨ k = W.heap.size + 1) w
  have a0 : Blk w W.heap.size 33 #[.int .u32 0, .int .u8 0, .slice none 0 0, .int .u32 0, .int .u32 0, .int .u32 0, .int .u32 0, .int .u32 0, .slice none 0 0, .slice none 0 0, .int .u32 0, .int .u32 0, .slice none 0 0] := h6
  have b0 : Blk w (W.heap.size + 1) 37 #[.int .i64 0, .int .u8 0, .int .u8 0, .slice none 0 0] := h7
  clear h6 h7
  have k1 := k0.setCell (p := ⟨W.heap.size, 0, none⟩) (fun _ => .inl rfl) v0
  have a1 : Blk (w.setCell ⟨W.heap.size, 0, none⟩ v0) W.heap.size 33 #[v0, .int .u8 0, .slice none 0 0, .int .u32 0, .int .u32 0, .int .u32 0, .int .u32 0, .int .u32 0, .slice none 0 0, .slice none 0 0, .int .u32 0, .int .u32 0, .slice none 0 0] := a0.put 0 v0
  have b1 : Blk (w.setCell ⟨W.heap.size, 0, none⟩ v0) (W.heap.size + 1) 37 #[.int .i64 0, .int .u8 0, .int .u8 0, .slice none 0 0] := b0.far (p := ⟨W.heap.size, 0, none⟩) (by show W.heap.size + 1 ≠ W.heap.size; omega) v0
  generalize hw1 : w.setCell ⟨W.heap.size, 0, none⟩ v0 = w1 at *
  clear k0 a0 b0
  have k2 := k1.setCell (p := ⟨W.heap.size, 1, none⟩) (fun _ => .inl rfl) v1
  have a2 : Blk (w1.setCell ⟨W.heap.size, 1, none⟩ v1) W.heap.size 33 #[v0, v1, .slice none 0 0, .int .u32 0, .int .u32 0, .int .u32 0, .int .u32 0, .int .u32 0, .slice none 0 0, .slice none 0 0, .int .u32 0, .int .u32 0, .slice none 0 0] := a1.put 1 v1
  have b2 : Blk (w1.setCell ⟨W.heap.size, 1, none⟩ v1) (W.heap.size + 1) 37 #[.int .i64 0, .int .u8 0, .int .u8 0, .slice none 0 0] := b1.far (p := ⟨W.heap.size, 1, none⟩) (by show W.heap.size + 1 ≠ W.heap.size; omega) v1
  generalize hw2 : w1.setCell ⟨W.heap.size, 1, none⟩ v1 = w2 at *
  clear k1 a1 b1
  have k3 := k2.setCell (p := ⟨W.heap.size, 2, none⟩) (fun _ => .inl rfl) v2
  have a3 : Blk (w2.setCell ⟨W.heap.size, 2, none⟩ v2) W.heap.size 33 #[v0, v1, v2, .int .u32 0, .int .u32 0, .int .u32 0, .int .u32 0, .int .u32 0, .slice none 0 0, .slice none 0 0, .int .u32 0, .int .u32 0, .slice none 0 0] := a2.put 2 v2
  have b3 : Blk (w2.setCell ⟨W.heap.size, 2, none⟩ v2) (W.heap.size + 1) 37 #[.int .i64 0, .int .u8 0, .int .u8 0, .slice none 0 0] := b2.far (p := ⟨W.heap.size, 2, none⟩) (by show W.heap.size + 1 ≠ W.heap.size; omega) v2
  generalize hw3 : w2.setCell ⟨W.heap.size, 2, none⟩ v2 = w3 at *
  clear k2 a2 b2
  have k4 := k3.setCell (p := ⟨W.heap.size, 3, none⟩) (fun _ => .inl rfl) v3
  have a4 : Blk (w3.setCell ⟨W.heap.size, 3, none⟩ v3) W.heap.size 33 #[v0, v1, v2, v3, .int .u32 0, .int .u32 0, .int .u32 0, .int .u32 0, .slice none 0 0, .slice none 0 0, .int .u32 0, .int .u32 0, .slice none 0 0] := a3.put 3 v3
  have b4 : Blk (w3.setCell ⟨W.heap.size, 3, none⟩ v3) (W.heap.size + 1) 37 #[.int .i64 0, .int .u8 0, .int .u8 0, .slice none 0 0] := b3.far (p := ⟨W.heap.size, 3, none⟩) (by show W.heap.size + 1 ≠ W.heap.size; omega) v3
  generalize hw4 : w3.setCell ⟨W.heap.size, 3, none⟩ v3 = w4 at *
  clear k3 a3 b3
  have k5 := k4.setCell (p := ⟨W.heap.size, 4, none⟩) (fun _ => .inl rfl) v4
  have a5 : Blk (w4.setCell ⟨W.heap.size, 4, none⟩ v4) W.heap.size 33 #[v0, v1, v2, v3, v4, .int .u32 0, .int .u32 0, .int .u32 0, .slice none 0 0, .slice none 0 0, .int .u32 0, .int .u32 0, .slice none 0 0] := a4.put 4 v4
  have b5 : Blk (w4.setCell ⟨W.heap.size, 4, none⟩ v4) (W.heap.size + 1) 37 #[.int .i64 0, .int .u8 0, .int .u8 0, .slice none 0 0] := b4.far (p := ⟨W.heap.size, 4, none⟩) (by show W.heap.size + 1 ≠ W.heap.size; omega) v4
  generalize hw5 : w4.setCell ⟨W.heap.size, 4, none⟩ v4 = w5 at *
  clear k4 a4 b4
  have k6 := k5.setCell (p := ⟨W.heap.size, 5, none⟩) (fun _ => .inl rfl) v5
  have a6 : Blk (w5.setCell ⟨W.heap.size, 5, none⟩ v5) W.heap.size 33 #[v0, v1, v2, v3, v4, v5, .int .u32 0, .int .u32 0, .slice none 0 0, .slice none 0 0, .int .u32 0, .int .u32 0, .slice none 0 0] := a5.put 5 v5
  have b6 : Blk (w5.setCell ⟨W.heap.size, 5, none⟩ v5) (W.heap.size + 1) 37 #[.int .i64 0, .int .u8 0, .int .u8 0, .slice none 0 0] := b5.far (p := ⟨W.heap.size, 5, none⟩) (by show W.heap.size + 1 ≠ W.heap.size; omega) v5
  generalize hw6 : w5.setCell ⟨W.heap.size, 5, none⟩ v5 = w6 at *
  clear k5 a5 b5
  have k7 := k6.setCell (p := ⟨W.heap.size, 6, none⟩) (fun _ => .inl rfl) v6
  have a7 : Blk (w6.setCell ⟨W.heap.size, 6, none⟩ v6) W.heap.size 33 #[v0, v1, v2, v3, v4, v5, v6, .int .u32 0, .slice none 0 0, .slice none 0 0, .int .u32 0, .int .u32 0, .slice none 0 0] := a6.put 6 v6
  have b7 : Blk (w6.setCell ⟨W.heap.size, 6, none⟩ v6) (W.heap.size + 1) 37 #[.int .i64 0, .int .u8 0, .int .u8 0, .slice none 0 0] := b6.far (p := ⟨W.heap.size, 6, none⟩) (by show W.heap.size + 1 ≠ W.heap.size; omega) v6
  generalize hw7 : w6.setCell ⟨W.heap.size, 6, none⟩ v6 = w7 at *
  clear k6 a6 b6
  have k8 := k7.setCell (p := ⟨W.heap.size, 7, none⟩) (fun _ => .inl rfl) v7
  have a8 : Blk (w7.setCell ⟨W.heap.size, 7, none⟩ v7) W.heap.size 33 #[v0, v1, v2, v3, v4, v5, v6, v7, .slice none 0 0, .slice none 0 0, .int .u32 0, .int .u32 0, .slice none 0 0] := a7.put 7 v7
  have b8 : Blk (w7.setCell ⟨W.heap.size, 7, none⟩ v7) (W.heap.size + 1) 37 #[.int .i64 0, .int .u8 0, .int .u8 0, .slice none 0 0] := b7.far (p := ⟨W.heap.size, 7, none⟩) (by show W.heap.size + 1 ≠ W.heap.size; omega) v7
  generalize hw8 : w7.setCell ⟨W.heap.size, 7, none⟩ v7 = w8 at *
  clear k7 a7 b7
  have k9 := k8.setCell (p := ⟨W.heap.size, 8, none⟩) (fun _ => .inl rfl) v8
  have a9 : Blk (w8.setCell ⟨W.heap.size, 8, none⟩ v8) W.heap.size 33 #[v0, v1, v2, v3, v4, v5, v6, v7, v8, .slice none 0 0, .int .u32 0, .int .u32 0, .slice none 0 0] := a8.put 8 v8
  have b9 : Blk (w8.setCell ⟨W.heap.size, 8, none⟩ v8) (W.heap.size + 1) 37 #[.int .i64 0, .int .u8 0, .int .u8 0, .slice none 0 0] := b8.far (p := ⟨W.heap.size, 8, none⟩) (by show W.heap.size + 1 ≠ W.heap.size; omega) v8
  generalize hw9 : w8.setCell ⟨W.heap.size, 8, none⟩ v8 = w9 at *
  clear k8 a8 b8
  have k10 := k9.setCell (p := ⟨W.heap.size, 9, none⟩) (fun _ => .inl rfl) v9
  have a10 : Blk (w9.setCell ⟨W.heap.size, 9, none⟩ v9) W.heap.size 33 #[v0, v1, v2, v3, v4, v5, v6, v7, v8, v9, .int .u32 0, .int .u32 0, .slice none 0 0] := a9.put 9 v9
  have b10 : Blk (w9.setCell ⟨W.heap.size, 9, none⟩ v9) (W.heap.size + 1) 37 #[.int .i64 0, .int .u8 0, .int .u8 0, .slice none 0 0] := b9.far (p := ⟨W.heap.size, 9, none⟩) (by show W.heap.size + 1 ≠ W.heap.size; omega) v9
  generalize hw10 : w9.setCell ⟨W.heap.size, 9, none⟩ v9 = w10 at *
  clear k9 a9 b9
  have k11 := k10.setCell (p := ⟨W.heap.size, 10, none⟩) (fun _ => .inl rfl) v10
  have a11 : Blk (w10.setCell ⟨W.heap.size, 10, none⟩ v10) W.heap.size 33 #[v0, v1, v2, v3, v4, v5, v6, v7, v8, v9, v10, .int .u32 0, .slice none 0 0] := a10.put 10 v10
  have b11 : Blk (w10.setCell ⟨W.heap.size, 10, none⟩ v10) (W.heap.size + 1) 37 #[.int .i64 0, .int .u8 0, .int .u8 0, .slice none 0 0] := b10.far (p := ⟨W.heap.size, 10, none⟩) (by show W.heap.size + 1 ≠ W.heap.size; omega) v10
  generalize hw11 : w10.setCell ⟨W.heap.size, 10, none⟩ v10 = w11 at *
  clear k10 a10 b10
  have k12 := k11.setCell (p := ⟨W.heap.size, 11, none⟩) (fun _ => .inl rfl) v11
  have a12 : Blk (w11.setCell ⟨W.heap.size, 11, none⟩ v11) W.heap.size 33 #[v0, v1, v2, v3, v4, v5, v6, v7, v8, v9, v10, v11, .slice none 0 0] := a11.put 11 v11
  have b12 : Blk (w11.setCell ⟨W.heap.size, 11, none⟩ v11) (W.heap.size + 1) 37 #[.int .i64 0, .int .u8 0, .int .u8 0, .slice none 0 0] := b11.far (p := ⟨W.heap.size, 11, none⟩) (by show W.heap.size + 1 ≠ W.heap.size; omega) v11
  generalize hw12 : w11.setCell ⟨W.heap.size, 11, none⟩ v11 = w12 at *
  clear k11 a11 b11
  have k13 := k12.setCell (p := ⟨W.heap.size, 12, none⟩) (fun _ => .inl rfl) v12
  have a13 : Blk (w12.setCell ⟨W.heap.size, 12, none⟩ v12) W.heap.size 33 #[v0, v1, v2, v3, v4, v5, v6, v7, v8, v9, v10, v11, v12] := a12.put 12 v12
  have b13 : Blk (w12.setCell ⟨W.heap.size, 12, none⟩ v12) (W.heap.size + 1) 37 #[.int .i64 0, .int .u8 0, .int .u8 0, .slice none 0 0] := b12.far (p := ⟨W.heap.size, 12, none⟩) (by show W.heap.size + 1 ≠ W.heap.size; omega) v12
  generalize hw13 : w12.setCell ⟨W.heap.size, 12, none⟩ v12 = w13 at *
  clear k12 a12 b12
  have k14 := k13.setCell (p := ⟨W.heap.size + 1, 0, none⟩) (fun _ => .inr rfl) f0
  have b14 : Blk (w13.setCell ⟨W.heap.size + 1, 0, none⟩ f0) (W.heap.size + 1) 37 #[f0, .int .u8 0, .int .u8 0, .slice none 0 0] := b13.put 0 f0
  have a14 : Blk (w13.setCell ⟨W.heap.size + 1, 0, none⟩ f0) W.heap.size 33 #[v0, v1, v2, v3, v4, v5, v6, v7, v8, v9, v10, v11, v12] := a13.far (p := ⟨W.heap.size + 1, 0, none⟩) (by show W.heap.size ≠ W.heap.size + 1; omega) f0
  generalize hw14 : w13.setCell ⟨W.heap.size + 1, 0, none⟩ f0 = w14 at *
  clear k13 a13 b13
  have k15 := k14.setCell (p := ⟨W.heap.size + 1, 1, none⟩) (fun _ => .inr rfl) f1
  have b15 : Blk (w14.setCell ⟨W.heap.size + 1, 1, none⟩ f1) (W.heap.size + 1) 37 #[f0, f1, .int .u8 0, .slice none 0 0] := b14.put 1 f1
  have a15 : Blk (w14.setCell ⟨W.heap.size + 1, 1, none⟩ f1) W.heap.size 33 #[v0, v1, v2, v3, v4, v5, v6, v7, v8, v9, v10, v11, v12] := a14.far (p := ⟨W.heap.size + 1, 1, none⟩) (by show W.heap.size ≠ W.heap.size + 1; omega) f1
  generalize hw15 : w14.setCell ⟨W.heap.size + 1, 1, none⟩ f1 = w15 at *
  clear k14 a14 b14
  have k16 := k15.setCell (p := ⟨W.heap.size + 1, 2, none⟩) (fun _ => .inr rfl) f2
  have b16 : Blk (w15.setCell ⟨W.heap.size + 1, 2, none⟩ f2) (W.heap.size + 1) 37 #[f0, f1, f2, .slice none 0 0] := b15.put 2 f2
  have a16 : Blk (w15.setCell ⟨W.heap.size + 1, 2, none⟩ f2) W.heap.size 33 #[v0, v1, v2, v3, v4, v5, v6, v7, v8, v9, v10, v11, v12] := a15.far (p := ⟨W.heap.size + 1, 2, none⟩) (by show W.heap.size ≠ W.heap.size + 1; omega) f2
  generalize hw16 : w15.setCell ⟨W.heap.size + 1, 2, none⟩ f2 = w16 at *
  clear k15 a15 b15
  have k17 := k16.setCell (p := ⟨W.heap.size + 1, 3, none⟩) (fun _ => .inr rfl) f3
  have b17 : Blk (w16.setCell ⟨W.heap.size + 1, 3, none⟩ f3) (W.heap.size + 1) 37 #[f0, f1, f2, f3] := b16.put 3 f3
  have a17 : Blk (w16.setCell ⟨W.heap.size + 1, 3, none⟩ f3) W.heap.size 33 #[v0, v1, v2, v3, v4, v5, v6, v7, v8, v9, v10, v11, v12] := a16.far (p := ⟨W.heap.size + 1, 3, none⟩) (by show W.heap.size ≠ W.heap.size + 1; omega) f3
  generalize hw17 : w16.setCell ⟨W.heap.size + 1, 3, none⟩ f3 = w17 at *
  clear k16 a16 b16
  exact ⟨w17, rfl, a17.cell 0, a17.cell 1, a17.cell 2, a17.cell 3, a17.cell 4, a17.cell 5, a17.cell 6, a17.cell 7, a17.cell 8, a17.cell 9, a17.cell 10, a17.cell 11, a17.cell 12, b17.cell 0, b17.cell 1, b17.cell 2, b17.cell 3, k17⟩
theorem AtO.others {w w' : World} {B : Nat} {a : At} {pv cv qv ov ov' : Value} {l : List Ot} (h : AtO w B a pv cv qv ov) (k : Kept (fun k => ov.ownBlock = some k) w w') (ho : Oown w' B ov' l) : AtO w' B { a with others := l } pv cv qv ov' := by
  obtain ⟨⟨xs, h1, h2⟩, ⟨h3, h4⟩, ⟨ys, h5, h6⟩, ⟨zs, h7, _⟩, h9⟩ := h
  have ne : ∀ g cs t, t ≠ 73 → ov.ownBlock = some g → w.heap[g]? ≠ some (.cells cs t (0, 0)) := fun g cs t ht hg e => by
    obtain ⟨cs', hh⟩ := ow_lt h7 hg
    rw [hh] at e
    injection e with e
    injection e with _ e2
    exact ht e2.symm
  have low : ∀ {e size n v xs}, w.ownsRow B e size v n xs → e ≠ 73 → w'.ownsRow B e size v n xs := fun hr he => ow_kept hr k (fun g hg x => by obtain ⟨cs, hh⟩ := ow_lt hr hg; exact ne g cs _ he x hh)
  exact ⟨⟨xs, low h1 (by decide), h2.kept k (fun g cs x e => ne g cs _ (by decide) x e)⟩, ⟨low h3 (by decide), h4⟩, ⟨ys, low h5 (by decide), h6.kept k (fun g cs x e => ne g cs _ (by decide) x e)⟩, ho, h9⟩
set_option maxRecDepth 100000 in
set_option maxHeartbeats 3200000 in
theorem at_get (v : Value) (D : List UInt8) (four outside : Bool) (W : World) (hv : By W v D) (hD : D.length ≤ 100000000) (ht : Wtd W) :
    Calls Tryz.prog 8 #[v, .bool four, .bool outside] W fun e w' => ∃ pv cv qv ov dv, e = .returned (.tuple #[.agg (Ax.agg (Ax.get D four outside).1 pv cv qv ov), .agg #[.int .i64 ((Ax.get D four outside).2.1 : Int), .int .u8 (if (Ax.get D four outside).2.1 = 3 then 3 else 0), .int .u8 (if (Ax.get D four outside).2.1 = 3 then 2 else 0), dv]]) ∧
      AtO w' W.heap.size (Ax.get D four outside).1 pv cv qv ov ∧ w'.ownsRow W.heap.size 5 1 dv (Ax.get D four outside).2.2.length (bys (Ax.get D four outside).2.2) ∧ Kept Nothing W w' := by
  obtain ⟨A, c, rfl, hlc, _⟩ := hv.form
  have HV := Lib.hid hv
  have HT := Lib.hid ht
  have HDL := Lib.hid hD
  obtain ⟨R, hR⟩ : ∃ R, Ax.get D four outside = R := ⟨_, rfl⟩
  have HGET : Hid (Ax.rest four outside (D.drop 0) ⟨Ax.zeroA, 0, []⟩ = R) := Lib.hid (by rw [List.drop_zero]; exact hR)
  rw [hR]
  clear hv ht hR hD
  go_enter Tryz.func8, Tryz.ntmps8
  go_wp2_with fail
  refine wp_scope4 (Lab W D four outside A c R) labM rfl rfl rfl rfl (fun l a u h => by unfold Lab at h; split at h <;> first | omega | exact h.elim) ?pass ?first
  case first =>
    intro J' key
    have HN := Lib.hid (fun u (k : Kept Nothing W u) => rd_new (.slice A D.length c) D u (HV.out.old k) (by have := HDL.out; omega))
    have HRS := Lib.hid (fun u pa h => at_readers pa four outside u h)
    have kk := ((((((Kept.refl Nothing W).alloc (.cells #[.int .u32 0, .int .u8 0, .slice none 0 0, .int .u32 0, .int .u32 0, .int .u32 0, .int .u32 0, .int .u32 0, .slice none 0 0, .slice none 0 0, .int .u32 0, .int .u32 0, .slice none 0 0] 33)).alloc (.cells #[.int .i64 0, .int .u8 0, .int .u8 0, .slice none 0 0] 37)).alloc (.cells #[.int .u32 0, .int .u8 0, .slice none 0 0, .int .u32 0, .int .u32 0, .int .u32 0, .int .u32 0, .int .u32 0, .slice none 0 0, .slice none 0 0, .int .u32 0, .int .u32 0, .slice none 0 0] 33)).alloc (.cells #[.int .u8 0, .int .u8 0, .slice none 0 0] 73)).alloc (.cells Tryz.zeroCells77 77))
    have b0 : Blk (W.alloc (.cells #[.int .u32 0, .int .u8 0, .slice none 0 0, .int .u32 0, .int .u32 0, .int .u32 0, .int .u32 0, .int .u32 0, .slice none 0 0, .slice none 0 0, .int .u32 0, .int .u32 0, .slice none 0 0] 33)) W.heap.size 33 zeroC := by
      have h := Blk.fresh W 33 zeroC
      exact h
    have b1 : Blk ((W.alloc (.cells #[.int .u32 0, .int .u8 0, .slice none 0 0, .int .u32 0, .int .u32 0, .int .u32 0, .int .u32 0, .int .u32 0, .slice none 0 0, .slice none 0 0, .int .u32 0, .int .u32 0, .slice none 0 0] 33)).alloc (.cells #[.int .i64 0, .int .u8 0, .int .u8 0, .slice none 0 0] 37)) (W.heap.size + 1) 37 fateC := by
      have h := Blk.fresh (W.alloc (.cells #[.int .u32 0, .int .u8 0, .slice none 0 0, .int .u32 0, .int .u32 0, .int .u32 0, .int .u32 0, .int .u32 0, .slice none 0 0, .slice none 0 0, .int .u32 0, .int .u32 0, .slice none 0 0] 33)) 37 fateC
      simp only [World.size_alloc] at h
      exact h
    replace b0 := b0.alloc (.cells #[.int .i64 0, .int .u8 0, .int .u8 0, .slice none 0 0] 37)
    have b2 : Blk (((W.alloc (.cells #[.int .u32 0, .int .u8 0, .slice none 0 0, .int .u32 0, .int .u32 0, .int .u32 0, .int .u32 0, .int .u32 0, .slice none 0 0, .slice none 0 0, .int .u32 0, .int .u32 0, .slice none 0 0] 33)).alloc (.cells #[.int .i64 0, .int .u8 0, .int .u8 0, .slice none 0 0] 37)).alloc (.cells #[.int .u32 0, .int .u8 0, .slice none 0 0, .int .u32 0, .int .u32 0, .int .u32 0, .int .u32 0, .int .u32 0, .slice none 0 0, .slice none 0 0, .int .u32 0, .int .u32 0, .slice none 0 0] 33)) (W.heap.size + 1 + 1) 33 zeroC := by
      have h := Blk.fresh ((W.alloc (.cells #[.int .u32 0, .int .u8 0, .slice none 0 0, .int .u32 0, .int .u32 0, .int .u32 0, .int .u32 0, .int .u32 0, .slice none 0 0, .slice none 0 0, .int .u32 0, .int .u32 0, .slice none 0 0] 33)).alloc (.cells #[.int .i64 0, .int .u8 0, .int .u8 0, .slice none 0 0] 37)) 33 zeroC
      simp only [World.size_alloc] at h
      exact h
    replace b0 := b0.alloc (.cells #[.int .u32 0, .int .u8 0, .slice none 0 0, .int .u32 0, .int .u32 0, .int .u32 0, .int .u32 0, .int .u32 0, .slice none 0 0, .slice none 0 0, .int .u32 0, .int .u32 0, .slice none 0 0] 33)
    replace b1 := b1.alloc (.cells #[.int .u32 0, .int .u8 0, .slice none 0 0, .int .u32 0, .int .u32 0, .int .u32 0, .int .u32 0, .int .u32 0, .slice none 0 0, .slice none 0 0, .int .u32 0, .int .u32 0, .slice none 0 0] 33)
    have b3 : Blk ((((W.alloc (.cells #[.int .u32 0, .int .u8 0, .slice none 0 0, .int .u32 0, .int .u32 0, .int .u32 0, .int .u32 0, .int .u32 0, .slice none 0 0, .slice none 0 0, .int .u32 0, .int .u32 0, .slice none 0 0] 33)).alloc (.cells #[.int .i64 0, .int .u8 0, .int .u8 0, .slice none 0 0] 37)).alloc (.cells #[.int .u32 0, .int .u8 0, .slice none 0 0, .int .u32 0, .int .u32 0, .int .u32 0, .int .u32 0, .int .u32 0, .slice none 0 0, .slice none 0 0, .int .u32 0, .int .u32 0, .slice none 0 0] 33)).alloc (.cells #[.int .u8 0, .int .u8 0, .slice none 0 0] 73)) (W.heap.size + 1 + 1 + 1) 73 #[.int .u8 0, .int .u8 0, .slice none 0 0] := by
      have h := Blk.fresh (((W.alloc (.cells #[.int .u32 0, .int .u8 0, .slice none 0 0, .int .u32 0, .int .u32 0, .int .u32 0, .int .u32 0, .int .u32 0, .slice none 0 0, .slice none 0 0, .int .u32 0, .int .u32 0, .slice none 0 0] 33)).alloc (.cells #[.int .i64 0, .int .u8 0, .int .u8 0, .slice none 0 0] 37)).alloc (.cells #[.int .u32 0, .int .u8 0, .slice none 0 0, .int .u32 0, .int .u32 0, .int .u32 0, .int .u32 0, .int .u32 0, .slice none 0 0, .slice none 0 0, .int .u32 0, .int .u32 0, .slice none 0 0] 33)) 73 #[.int .u8 0, .int .u8 0, .slice none 0 0]
      simp only [World.size_alloc] at h
      exact h
    replace b0 := b0.alloc (.cells #[.int .u8 0, .int .u8 0, .slice none 0 0] 73)
    replace b1 := b1.alloc (.cells #[.int .u8 0, .int .u8 0, .slice none 0 0] 73)
    replace b2 := b2.alloc (.cells #[.int .u8 0, .int .u8 0, .slice none 0 0] 73)
    have b4 : Blk (((((W.alloc (.cells #[.int .u32 0, .int .u8 0, .slice none 0 0, .int .u32 0, .int .u32 0, .int .u32 0, .int .u32 0, .int .u32 0, .slice none 0 0, .slice none 0 0, .int .u32 0, .int .u32 0, .slice none 0 0] 33)).alloc (.cells #[.int .i64 0, .int .u8 0, .int .u8 0, .slice none 0 0] 37)).alloc (.cells #[.int .u32 0, .int .u8 0, .slice none 0 0, .int .u32 0, .int .u32 0, .int .u32 0, .int .u32 0, .int .u32 0, .slice none 0 0, .slice none 0 0, .int .u32 0, .int .u32 0, .slice none 0 0] 33)).alloc (.cells #[.int .u8 0, .int .u8 0, .slice none 0 0] 73)).alloc (.cells Tryz.zeroCells77 77)) (W.heap.size + 1 + 1 + 1 + 1) 77 Tryz.zeroCells77 := by
      have h := Blk.fresh ((((W.alloc (.cells #[.int .u32 0, .int .u8 0, .slice none 0 0, .int .u32 0, .int .u32 0, .int .u32 0, .int .u32 0, .int .u32 0, .slice none 0 0, .slice none 0 0, .int .u32 0, .int .u32 0, .slice none 0 0] 33)).alloc (.cells #[.int .i64 0, .int .u8 0, .int .u8 0, .slice none 0 0] 37)).alloc (.cells #[.int .u32 0, .int .u8 0, .slice none 0 0, .int .u32 0, .int .u32 0, .int .u32 0, .int .u32 0, .int .u32 0, .slice none 0 0, .slice none 0 0, .int .u32 0, .int .u32 0, .slice none 0 0] 33)).alloc (.cells #[.int .u8 0, .int .u8 0, .slice none 0 0] 73)) 77 Tryz.zeroCells77
      simp only [World.size_alloc] at h
      exact h
    replace b0 := b0.alloc (.cells Tryz.zeroCells77 77)
    replace b1 := b1.alloc (.cells Tryz.zeroCells77 77)
    replace b2 := b2.alloc (.cells Tryz.zeroCells77 77)
    replace b3 := b3.alloc (.cells Tryz.zeroCells77 77)
    go_upto_region 5 with fail
    obtain ⟨w0, hw0⟩ : ∃ w0, (((((W.alloc (.cells #[.int .u32 0, .int .u8 0, .slice none 0 0, .int .u32 0, .int .u32 0, .int .u32 0, .int .u32 0, .int .u32 0, .slice none 0 0, .slice none 0 0, .int .u32 0, .int .u32 0, .slice none 0 0] 33)).alloc (.cells #[.int .i64 0, .int .u8 0, .int .u8 0, .slice none 0 0] 37)).alloc (.cells #[.int .u32 0, .int .u8 0, .slice none 0 0, .int .u32 0, .int .u32 0, .int .u32 0, .int .u32 0, .int .u32 0, .slice none 0 0, .slice none 0 0, .int .u32 0, .int .u32 0, .slice none 0 0] 33)).alloc (.cells #[.int .u8 0, .int .u8 0, .slice none 0 0] 73)).alloc (.cells Tryz.zeroCells77 77)) = w0 := ⟨_, rfl⟩
    have hsz0 : w0.heap.size = W.heap.size + 5 := by rw [← hw0]; simp only [World.size_alloc]
    rw [hw0] at kk b0 b1 b2 b3 b4 ⊢
    clear hw0
    rw [seenA_nil] at b4
    have KK := Lib.hid kk
    have BS := Lib.hid (And.intro b0 (And.intro b1 (And.intro b2 (And.intro b3 b4))))
    have HS0 := Lib.hid hsz0
    clear kk b0 b1 b2 b3 b4 hsz0
    go_wp2_with (first
      | (go_at_call 23; refine (HRS.out _ (W.heap.size + 1 + 1) (by have := K1.out.size; have := HS0.out; omega)).mono ?_; rintro e w2 ⟨pb, pf, bm, rfl, bb2, bf2, m2, -, gb2, gf2, gm2, k2⟩)
      | (go_at_call 22; refine (HN.out _ KK.out).mono ?_; rintro e w1 ⟨p, rfl, r1, k1, hp1⟩; (have K1 := Lib.hid k1); (have R1 := Lib.hid r1); clear k1 r1))
    go_step3
    simp only [Exit.then]
    apply_assumption
    refine key _ _ ?_
    obtain ⟨b0, b1, b2, b3, b4⟩ := BS.out
    have k3 := K1.out.trans k2
    have e1 := K1.out.size
    have e0 := HS0.out
    refine ⟨p, pb, pf, bm, 0, ⟨Ax.zeroA, 0, []⟩, .int .u8 0, .int .u8 0, .slice none 0 0, _, ?_, HGET.out, rfl, rfl, rfl, rfl, rfl, rfl, rfl, rfl, rfl, rfl, rfl, rfl, rfl, rfl⟩
    exact ⟨R1.out.kept k2 (NoRd.nothing _), ⟨_, _, _, _, b2.kept k3 (fun x => x), AtO.zero _ _⟩, b3.kept k3 (fun x => x), b4.kept k3 (fun x => x), b0.kept k3 (fun x => x), b1.kept k3 (fun x => x), bb2, bf2, m2, KK.out.trans k3, by omega, by omega, by omega, by omega, HT.out.lt, ⟨by simp [Ax.zeroA], by simp [Ax.zeroA], fun s h => (by cases h), fun s h => (by cases h)⟩, List.Pairwise.nil, fun o h => (by cases h), Nat.zero_le _, Nat.zero_le _, HT.out.kept (KK.out.trans k3), Nat.zero_le _⟩
  case pass =>
    intro J' l r a u hl hr hJ'
    rcases hr with ⟨rfl, rfl⟩ | ⟨rfl, rfl⟩ | ⟨rfl, rfl⟩ | ⟨rfl, rfl⟩
    · clear HGET
      obtain ⟨tl0, df⟩ := a
      obtain ⟨tl⟩ := tl0
      obtain ⟨p, pb, pf, bm, k, st, o0, o1, o2, x11, hGM, hR, hdf, hsz, s0, s1, s2, s6, s7, s8, s9, s10, s11, s12, s13, s14⟩ := hl
      obtain rfl : df = [] := hdf
      obtain ⟨x0, x1, x2, x3, x4, x5, x6, x7, x8, x9, x10, x11, x12, x13, x14, x15, x16, x17, x18, x19, x20, x21, x22, x23, x24, x25, x26, x27, x28, x29, x30, x31, x32, x33, x34, x35, x36, x37, x38, x39, x40, x41, x42, x43, x44, x45, x46, x47, x48, x49, x50, x51, x52, x53, x54, x55, x56, x57, x58, x59, x60, x61, x62, x63, x64, x65, x66, x67, x68, x69, x70, x71, x72, x73, x74, x75, x76, x77, x78, x79, x80, x81, x82, x83, x84, x85, x86, rfl⟩ := list87 tl (by simpa using hsz)
      obtain rfl : x0 = _ := s0
      obtain rfl : x1 = _ := s1
      obtain rfl : x2 = _ := s2
      obtain rfl : x6 = _ := s6
      obtain rfl : x7 = _ := s7
      obtain rfl : x8 = _ := s8
      obtain rfl : x9 = _ := s9
      obtain rfl : x10 = _ := s10
      obtain rfl : x11 = _ := s11
      obtain rfl : x12 = _ := s12
      obtain rfl : x13 = _ := s13
      obtain rfl : x14 = _ := s14
      clear hsz
      have G1 := Lib.hid hGM
      have hcl := hGM.cls
      clear hJ'
      by_cases h2 : st.cls = 2
      · have h2i : (st.cls : Int) = 2 := by omega
        have hR0 : R = (Ax.zeroA, 2, []) := by rw [← hR]; exact if_pos h2
        subst hR0
        rw [h2i]
        have b6c0 : u.cell? ⟨W.heap.size, 0, none⟩ = some (.int .u32 0) := hGM.b6.cell 0
        have b6f0 := hGM.b6.free 0
        have b6c1 : u.cell? ⟨W.heap.size, 1, none⟩ = some (.int .u8 0) := hGM.b6.cell 1
        have b6f1 := hGM.b6.free 1
        have b6c2 : u.cell? ⟨W.heap.size, 2, none⟩ = some (.slice none 0 0) := hGM.b6.cell 2
        have b6f2 := hGM.b6.free 2
        have b6c3 : u.cell? ⟨W.heap.size, 3, none⟩ = some (.int .u32 0) := hGM.b6.cell 3
        have b6f3 := hGM.b6.free 3
        have b6c4 : u.cell? ⟨W.heap.size, 4, none⟩ = some (.int .u32 0) := hGM.b6.cell 4
        have b6f4 := hGM.b6.free 4
        have b6c5 : u.cell? ⟨W.heap.size, 5, none⟩ = some (.int .u32 0) := hGM.b6.cell 5
        have b6f5 := hGM.b6.free 5
        have b6c6 : u.cell? ⟨W.heap.size, 6, none⟩ = some (.int .u32 0) := hGM.b6.cell 6
        have b6f6 := hGM.b6.free 6
        have b6c7 : u.cell? ⟨W.heap.size, 7, none⟩ = some (.int .u32 0) := hGM.b6.cell 7
        have b6f7 := hGM.b6.free 7
        have b6c8 : u.cell? ⟨W.heap.size, 8, none⟩ = some (.slice none 0 0) := hGM.b6.cell 8
        have b6f8 := hGM.b6.free 8
        have b6c9 : u.cell? ⟨W.heap.size, 9, none⟩ = some (.slice none 0 0) := hGM.b6.cell 9
        have b6f9 := hGM.b6.free 9
        have b6c10 : u.cell? ⟨W.heap.size, 10, none⟩ = some (.int .u32 0) := hGM.b6.cell 10
        have b6f10 := hGM.b6.free 10
        have b6c11 : u.cell? ⟨W.heap.size, 11, none⟩ = some (.int .u32 0) := hGM.b6.cell 11
        have b6f11 := hGM.b6.free 11
        have b6c12 : u.cell? ⟨W.heap.size, 12, none⟩ = some (.slice none 0 0) := hGM.b6.cell 12
        have b6f12 := hGM.b6.free 12
        have b7c0 : u.cell? ⟨W.heap.size + 1, 0, none⟩ = some (.int .i64 0) := hGM.b7.cell 0
        have b7f0 := hGM.b7.free 0
        have b7c1 : u.cell? ⟨W.heap.size + 1, 1, none⟩ = some (.int .u8 0) := hGM.b7.cell 1
        have b7f1 := hGM.b7.free 1
        have b7c2 : u.cell? ⟨W.heap.size + 1, 2, none⟩ = some (.int .u8 0) := hGM.b7.cell 2
        have b7f2 := hGM.b7.free 2
        have b7c3 : u.cell? ⟨W.heap.size + 1, 3, none⟩ = some (.slice none 0 0) := hGM.b7.cell 3
        have b7f3 := hGM.b7.free 3
        clear hGM hR h2 h2i hcl
        go_wp2
        have RC := ret_cells (W := W) G1.out.b6 G1.out.b7 (.int .u32 0) (.int .u8 0) (.slice none 0 0) (.int .u32 0) (.int .u32 0) (.int .u32 0) (.int .u32 0) (.int .u32 0) (.slice none 0 0) (.slice none 0 0) (.int .u32 0) (.int .u32 0) (.slice none 0 0) (.int .i64 2) (.int .u8 0) (.int .u8 0) (.slice none 0 0)
        obtain ⟨wF, hwF, c0, c1, c2, c3, c4, c5, c6, c7, c8, c9, c10, c11, c12, d0, d1, d2, d3, kF⟩ := RC
        rw [hwF]
        (try simp +zetaDelta only [jumps])
        refine bodyPost_ret (v := .tuple #[.agg #[.int .u32 0, .int .u8 0, .slice none 0 0, .int .u32 0, .int .u32 0, .int .u32 0, .int .u32 0, .int .u32 0, .slice none 0 0, .slice none 0 0, .int .u32 0, .int .u32 0, .slice none 0 0], .agg #[.int .i64 2, .int .u8 0, .int .u8 0, .slice none 0 0]]) (by simp [results, Tryz.results8, go_sem, c0, c1, c2, c3, c4, c5, c6, c7, c8, c9, c10, c11, c12, d0, d1, d2, d3]) rfl ?_
        exact ⟨_, _, _, _, _, rfl, AtO.zero _ _, World.ownsRow_nil _ _ _ _, G1.out.kept.trans_new kF (fun i hi e => by rcases e with e | e <;> omega)⟩
      · have h2b : ((st.cls : Int) == 2) = false := by rw [beq_eq_false_iff_ne]; omega
        have h2c : ¬ (st.cls : Int) = 2 := by omega
        have hR0 : R = ({ st.a with others := Ax.sortO st.a.others }, st.cls, []) := by rw [← hR]; exact if_neg h2
        subst hR0
        obtain ⟨pv, cv, qv, ov, ba, oa⟩ := hGM.at_
        have BA := Lib.hid ba
        have OA := Lib.hid oa
        have H2 := Lib.hid h2
        have HSO := Lib.hid (sort_others ov st.a.others u (W.heap.size + 5) oa.2.2.2.1 hGM.dis (by have := hGM.len; have := hGM.le; have := HDL.out; omega))
        have q12 := ba.cell 12
        obtain ⟨Ap, np, rfl, -, -⟩ := (show ∃ A c, pv = .slice A st.a.path.length c ∧ _ ∧ _ from oa.1.pts.form)
        obtain ⟨Ac, nc, rfl, -, -⟩ := ow_form oa.2.1.1
        obtain ⟨Aq, nq, rfl, -, -⟩ := (show ∃ A c, qv = .slice A st.a.path4.length c ∧ _ ∧ _ from oa.2.2.1.pts.form)
        obtain ⟨Ao, no, rfl, -, -⟩ := oa.2.2.2.1.ots.form
        unfold Ax.agg at q12
        have HOB : Hid (∀ g, (Value.slice Ao st.a.others.length no).ownBlock = some g → W.heap.size + 5 ≤ g) := Lib.hid (fun g hg => by obtain ⟨zs, hz, _⟩ := oa.2.2.2.1; exact (ow_ge hz hg).1)
        clear hGM hR h2 ba oa
        go_upto_region 25 with (go_at_call 32; refine HSO.out.mono ?_; rintro e w7 ⟨rfl, o7, k7⟩)
        have b7 := BA.out.kept k7 (fun e => by have := HOB.out _ e; omega)
        have K7 := Lib.hid k7
        have O7 := Lib.hid o7
        have S6 := Lib.hid (G1.out.b6.kept k7 (fun e => by have := HOB.out _ e; omega))
        have S7 := Lib.hid (G1.out.b7.kept k7 (fun e => by have := HOB.out _ e; omega))
        have HB : Hid (∃ x : GB W w7, True) := Lib.hid ⟨⟨S6.out, S7.out, G1.out.kept.trans_new k7 (fun i hi e => by have := HOB.out _ e; omega)⟩, trivial⟩
        obtain ⟨hGB, -⟩ := HB.out
        have b6c0 : w7.cell? ⟨W.heap.size, 0, none⟩ = some (.int .u32 0) := hGB.b6.cell 0
        have b6f0 := hGB.b6.free 0
        have b6c1 : w7.cell? ⟨W.heap.size, 1, none⟩ = some (.int .u8 0) := hGB.b6.cell 1
        have b6f1 := hGB.b6.free 1
        have b6c2 : w7.cell? ⟨W.heap.size, 2, none⟩ = some (.slice none 0 0) := hGB.b6.cell 2
        have b6f2 := hGB.b6.free 2
        have b6c3 : w7.cell? ⟨W.heap.size, 3, none⟩ = some (.int .u32 0) := hGB.b6.cell 3
        have b6f3 := hGB.b6.free 3
        have b6c4 : w7.cell? ⟨W.heap.size, 4, none⟩ = some (.int .u32 0) := hGB.b6.cell 4
        have b6f4 := hGB.b6.free 4
        have b6c5 : w7.cell? ⟨W.heap.size, 5, none⟩ = some (.int .u32 0) := hGB.b6.cell 5
        have b6f5 := hGB.b6.free 5
        have b6c6 : w7.cell? ⟨W.heap.size, 6, none⟩ = some (.int .u32 0) := hGB.b6.cell 6
        have b6f6 := hGB.b6.free 6
        have b6c7 : w7.cell? ⟨W.heap.size, 7, none⟩ = some (.int .u32 0) := hGB.b6.cell 7
        have b6f7 := hGB.b6.free 7
        have b6c8 : w7.cell? ⟨W.heap.size, 8, none⟩ = some (.slice none 0 0) := hGB.b6.cell 8
        have b6f8 := hGB.b6.free 8
        have b6c9 : w7.cell? ⟨W.heap.size, 9, none⟩ = some (.slice none 0 0) := hGB.b6.cell 9
        have b6f9 := hGB.b6.free 9
        have b6c10 : w7.cell? ⟨W.heap.size, 10, none⟩ = some (.int .u32 0) := hGB.b6.cell 10
        have b6f10 := hGB.b6.free 10
        have b6c11 : w7.cell? ⟨W.heap.size, 11, none⟩ = some (.int .u32 0) := hGB.b6.cell 11
        have b6f11 := hGB.b6.free 11
        have b6c12 : w7.cell? ⟨W.heap.size, 12, none⟩ = some (.slice none 0 0) := hGB.b6.cell 12
        have b6f12 := hGB.b6.free 12
        have b7c0 : w7.cell? ⟨W.heap.size + 1, 0, none⟩ = some (.int .i64 0) := hGB.b7.cell 0
        have b7f0 := hGB.b7.free 0
        have b7c1 : w7.cell? ⟨W.heap.size + 1, 1, none⟩ = some (.int .u8 0) := hGB.b7.cell 1
        have b7f1 := hGB.b7.free 1
        have b7c2 : w7.cell? ⟨W.heap.size + 1, 2, none⟩ = some (.int .u8 0) := hGB.b7.cell 2
        have b7f2 := hGB.b7.free 2
        have b7c3 : w7.cell? ⟨W.heap.size + 1, 3, none⟩ = some (.slice none 0 0) := hGB.b7.cell 3
        have b7f3 := hGB.b7.free 3
        have KB := Lib.hid hGB.kept
        have g0 := b7.cell 0
        have g1 := b7.cell 1
        have g2 := b7.cell 2
        have g3 := b7.cell 3
        have g4 := b7.cell 4
        have g5 := b7.cell 5
        have g6 := b7.cell 6
        have g7 := b7.cell 7
        have g8 := b7.cell 8
        have g9 := b7.cell 9
        have g10 := b7.cell 10
        have g11 := b7.cell 11
        have g12 := b7.cell 12
        unfold Ax.agg at g0 g1 g2 g3 g4 g5 g6 g7 g8 g9 g10 g11 g12
        clear hGB b7 k7 o7 HB
        go_wp2
        have RC := ret_cells (W := W) S6.out S7.out (.int .u32 (st.a.has : Int)) (.int .u8 (st.a.origin.toNat : Int)) (.slice Ap st.a.path.length np) (.int .u32 (st.a.nh : Int)) (.int .u32 (st.a.med : Int)) (.int .u32 (st.a.pref : Int)) (.int .u32 (st.a.byA : Int)) (.int .u32 (st.a.byI : Int)) (.slice Ac st.a.comms.length nc) (.slice Aq st.a.path4.length nq) (.int .u32 (st.a.by4A : Int)) (.int .u32 (st.a.by4I : Int)) (.slice Ao st.a.others.length no) (.int .i64 (st.cls : Int)) (.int .u8 0) (.int .u8 0) (.slice none 0 0)
        obtain ⟨wF, hwF, c0, c1, c2, c3, c4, c5, c6, c7, c8, c9, c10, c11, c12, d0, d1, d2, d3, kF⟩ := RC
        rw [hwF]
        (try simp +zetaDelta only [jumps])
        refine bodyPost_ret (v := .tuple #[.agg #[.int .u32 (st.a.has : Int), .int .u8 (st.a.origin.toNat : Int), .slice Ap st.a.path.length np, .int .u32 (st.a.nh : Int), .int .u32 (st.a.med : Int), .int .u32 (st.a.pref : Int), .int .u32 (st.a.byA : Int), .int .u32 (st.a.byI : Int), .slice Ac st.a.comms.length nc, .slice Aq st.a.path4.length nq, .int .u32 (st.a.by4A : Int), .int .u32 (st.a.by4I : Int), .slice Ao st.a.others.length no], .agg #[.int .i64 (st.cls : Int), .int .u8 0, .int .u8 0, .slice none 0 0]]) (by simp [results, Tryz.results8, go_sem, c0, c1, c2, c3, c4, c5, c6, c7, c8, c9, c10, c11, c12, d0, d1, d2, d3]) rfl ?_
        have hc3 : ¬ st.cls = 3 := by have := G1.out.cls; omega
        have oF := ((OA.out.others K7.out O7.out).low kF (fun g e => by rcases e with e | e <;> omega)).weak (Nat.le_add_right _ 5)
        refine ⟨_, _, _, _, _, ?_, oF, World.ownsRow_nil _ _ _ _, KB.out.trans_new kF (fun i hi e => by rcases e with e | e <;> omega)⟩
        show _ = Ending.returned (.tuple #[_, .agg #[.int .i64 (st.cls : Int), .int .u8 (if st.cls = 3 then 3 else 0), .int .u8 (if st.cls = 3 then 2 else 0), _]])
        rw [if_neg hc3, if_neg hc3]
        rfl
    · clear HGET
      obtain ⟨tl0, df⟩ := a
      obtain ⟨tl⟩ := tl0
      obtain ⟨p, pb, pf, bm, k, st, o0, o1, o2, x11, hGM, hR, hdf, hsz, s0, s1, s2, s6, s7, s8, s9, s10, s11, s12, s13, s14⟩ := hl
      obtain rfl : df = [] := hdf
      obtain ⟨x0, x1, x2, x3, x4, x5, x6, x7, x8, x9, x10, x11, x12, x13, x14, x15, x16, x17, x18, x19, x20, x21, x22, x23, x24, x25, x26, x27, x28, x29, x30, x31, x32, x33, x34, x35, x36, x37, x38, x39, x40, x41, x42, x43, x44, x45, x46, x47, x48, x49, x50, x51, x52, x53, x54, x55, x56, x57, x58, x59, x60, x61, x62, x63, x64, x65, x66, x67, x68, x69, x70, x71, x72, x73, x74, x75, x76, x77, x78, x79, x80, x81, x82, x83, x84, x85, x86, rfl⟩ := list87 tl (by simpa using hsz)
      obtain rfl : x0 = _ := s0
      obtain rfl : x1 = _ := s1
      obtain rfl : x2 = _ := s2
      obtain rfl : x6 = _ := s6
      obtain rfl : x7 = _ := s7
      obtain rfl : x8 = _ := s8
      obtain rfl : x9 = _ := s9
      obtain rfl : x10 = _ := s10
      obtain rfl : x11 = _ := s11
      obtain rfl : x12 = _ := s12
      obtain rfl : x13 = _ := s13
      obtain rfl : x14 = _ := s14
      clear hsz
      have G1 := Lib.hid hGM
      have R1 := Lib.hid hR
      have J1 := Lib.hid hJ'
      have hkl := hGM.le
      clear hGM hR hJ'
      have HLEFT := Lib.hid (fun u' (h : Rd u' p ⟨D, k, [], 0⟩) => show Calls Tryz.prog _ _ u' fun r w' => r = .returned (.int .i64 ((D.length - k : Nat) : Int)) ∧ ∃ n, w' = u'.drewN n from by have := rd_left p ⟨D, k, [], 0⟩ u' h; rw [RS.left_in] at this; exact this)
      by_cases hk : k < D.length
      · have hzn : (((D.length - k : Nat) : Int) == 0) = false := by rw [beq_eq_false_iff_ne]; omega
        have hzn2 : ¬ ((D.length - k : Nat) : Int) = 0 := by omega
        have HSZ : Hid (W.heap.size + 5 ≤ u.heap.size) := Lib.hid (by have := G1.out.hp; have := G1.out.rd.lt; omega)
        have HAT := Lib.hid (fun u' (h : Rd u' p ⟨D, k, [], 0⟩) => show Calls Tryz.prog _ _ u' fun r w' => r = .returned (.int .i64 (k : Int)) ∧ u' = w' from rd_at p ⟨D, k, [], 0⟩ u' h)
        rcases take_form D k hk with ⟨f, t, vv, n, hform, ef, et, ev, es⟩ | ⟨hform, ee⟩
        · have hn := Ax.formL_le hform
          rw [List.length_drop] at hn
          have HTK := Lib.hid (fun u' (h : Rd u' p ⟨D, k, [], 0⟩) => show Calls Tryz.prog _ _ u' fun e w' => ∃ v, e = .returned (.agg #[.int .u8 (f.toNat : Int), .int .u8 (t.toNat : Int), v]) ∧ w'.ownsRow u'.heap.size 5 1 v vv.length (bys vv) ∧ Rd w' p ⟨D, k + n, [], 0⟩ ∧ Kept (Only p) u' w' from by
            have := at_take p ⟨D, k, [], 0⟩ u' h
            rw [ev, es, ef, et] at this
            exact this)
          have HERR := Lib.hid (fun u' (h : Rd u' p ⟨D, k + n, [], 0⟩) => show Calls Tryz.prog _ _ u' fun r w' => r = .returned (.int .i64 0) ∧ u' = w' from rd_err p ⟨D, k + n, [], 0⟩ u' h)
          have HF := Lib.hid hform
          have R2 := Lib.hid ((Ax.rest_some (four := four) (outside := outside) (s := st) hform).symm.trans R1.out)
          have HN := Lib.hid hn
          have HK := Lib.hid hk
          have hknl : k + n ≤ D.length := by omega
          have hn3 : 3 ≤ n := hn.1
          clear hform ef et ev es hn R1
          go_upto_region 9 with (first
            | (go_at_call 26; refine (HTK.out _ (G1.out.rd.drewN m2)).mono ?_; rintro e w3 ⟨ov, rfl, o3, r3, k3⟩; (have G3 := Lib.hid ((G1.out.old ((Kept.refl Nothing u).drewN m2)).read r3 k3 (Nat.le_add_right k n) hknl)); (have O3 := Lib.hid (own_weakA o3 (show W.heap.size + 5 ≤ (u.drewN m2).heap.size from HSZ.out))); (have z0 := G3.out.bo.cell 0); (have z1 := G3.out.bo.cell 1); (have z2 := G3.out.bo.cell 2); (have e0 := G3.out.bo.free 0); (have e1 := G3.out.bo.free 1); (have e2 := G3.out.bo.free 2); (obtain ⟨A3, c3, rfl, -, -⟩ := ow_form o3); clear o3 r3 k3)
            | (go_at_call 25; refine (HAT.out _ (G1.out.rd.drewN m2)).mono ?_; rintro e w2 ⟨rfl, rfl⟩)
            | (go_at_call 24; refine (HLEFT.out _ G1.out.rd).mono ?_; rintro e w2 ⟨rfl, m2, rfl⟩))
          have B4 := ((G3.out.bo.put 0 (.int .u8 (f.toNat : Int))).put 1 (.int .u8 (t.toNat : Int))).put 2 (.slice A3 vv.length c3)
          have K4 := ((Kept.own w3 (W.heap.size + 1 + 1 + 1) 0 (.int .u8 (f.toNat : Int))).trans (Kept.own _ (W.heap.size + 1 + 1 + 1) 1 (.int .u8 (t.toNat : Int)))).trans (Kept.own _ (W.heap.size + 1 + 1 + 1) 2 (.slice A3 vv.length c3))
          have G4 : Hid (GM W D four outside p pb pf bm (k + n) st #[by8 f, by8 t, .slice A3 vv.length c3] (((w3.setCell ⟨W.heap.size + 1 + 1 + 1, 0, none⟩ (.int .u8 (f.toNat : Int))).setCell ⟨W.heap.size + 1 + 1 + 1, 1, none⟩ (.int .u8 (t.toNat : Int))).setCell ⟨W.heap.size + 1 + 1 + 1, 2, none⟩ (.slice A3 vv.length c3))) := Lib.hid (G3.out.puto K4 B4)
          have O4 := Lib.hid (ow_low O3.out K4 (fun g (e : g = W.heap.size + 1 + 1 + 1) => by omega))
          generalize ((w3.setCell ⟨W.heap.size + 1 + 1 + 1, 0, none⟩ (.int .u8 (f.toNat : Int))).setCell ⟨W.heap.size + 1 + 1 + 1, 1, none⟩ (.int .u8 (t.toNat : Int))).setCell ⟨W.heap.size + 1 + 1 + 1, 2, none⟩ (.slice A3 vv.length c3) = w4 at *
          have q0 : w4.cell? ⟨W.heap.size + 1 + 1 + 1, 0, none⟩ = some (.int .u8 (f.toNat : Int)) := G4.out.bo.cell 0
          have q1 : w4.cell? ⟨W.heap.size + 1 + 1 + 1, 1, none⟩ = some (.int .u8 (t.toNat : Int)) := G4.out.bo.cell 1
          have q2 : w4.cell? ⟨W.heap.size + 1 + 1 + 1, 2, none⟩ = some (.slice A3 vv.length c3) := G4.out.bo.cell 2
          have qs : w4.cell? ⟨W.heap.size + 1 + 1 + 1 + 1, t.toNat, none⟩ = some (.bool (decide (t ∈ st.seen))) := by rw [G4.out.bs.cell]; exact seenA_at _ _
          have qf := G4.out.bs.free t.toNat
          have ht8 := t.toNat_lt
          clear B4 K4 z0 z1 z2 e0 e1 e2 G3 O3
          by_cases hin : t ∈ st.seen
          · have R3 : Hid (Ax.rest four outside (D.drop (k + n)) { st with cls := max st.cls 1 } = R) := Lib.hid (by rw [← R2.out]; unfold Ax.step; rw [if_pos hin]; show _ = Ax.rest four outside ((D.drop k).drop n) _; rw [List.drop_drop])
            rw [decide_eq_true hin] at qs
            have hmx : max (st.cls : Int) 1 = ((max st.cls 1 : Nat) : Int) := by omega
            clear hin R2
            go_wp2_with (go_at_call 27; refine (HERR.out _ G4.out.rd).mono ?_; rintro e w5 ⟨rfl, rfl⟩)
            go_step3
            exact J1.out 1 _ _ ⟨p, pb, pf, bm, k + n, { st with cls := max st.cls 1 }, _, _, _, _, G4.out.class (by have := G4.out.cls; omega), R3.out, rfl, rfl, rfl, rfl, rfl, rfl, rfl, rfl, rfl, rfl, rfl, rfl, rfl, rfl⟩ (by show 2 * rdm w4 p + 2 < 2 * rdm u p + 2; rw [rdm_in G4.out.rd, rdm_in G1.out.rd]; have := HK.out; omega)
          · rw [decide_eq_false hin] at qs
            have HIN := Lib.hid hin
            have HDIS : Hid (∀ o ∈ st.a.others, o.t ≠ t) := Lib.hid (fun o ho e => hin (by rw [← e]; exact G4.out.sub o ho))
            clear hin
            go_upto_region 13 with (go_at_call 27; refine (HERR.out _ G4.out.rd).mono ?_; rintro e w5 ⟨rfl, rfl⟩)
            have G5 := Lib.hid (G4.out.puts t)
            have O5 := Lib.hid (ow_low O4.out (Kept.own w4 (W.heap.size + 1 + 1 + 1 + 1) t.toNat (.bool true)) (fun g (e : g = W.heap.size + 1 + 1 + 1 + 1) => by omega))
            generalize w4.setCell ⟨W.heap.size + 1 + 1 + 1 + 1, t.toNat, none⟩ (.bool true) = w5 at *
            clear q0 q1 q2 qs qf O4 G4
            have q0 : w5.cell? ⟨W.heap.size + 1 + 1 + 1, 0, none⟩ = some (.int .u8 (f.toNat : Int)) := G5.out.bo.cell 0
            have q1 : w5.cell? ⟨W.heap.size + 1 + 1 + 1, 1, none⟩ = some (.int .u8 (t.toNat : Int)) := G5.out.bo.cell 1
            have q2 : w5.cell? ⟨W.heap.size + 1 + 1 + 1, 2, none⟩ = some (.slice A3 vv.length c3) := G5.out.bo.cell 2
            have HKN := Lib.hid (known_any t w5 G5.out.wtd)
            cases hkn : Ax.known t with
            | false =>
              rw [hkn] at HKN
              have R3 : Hid ((if f &&& 128 = 0 then (Ax.zeroA, 3, (D.drop k).take n) else if f &&& 64 ≠ 0 then Ax.rest four outside (D.drop (k + n)) { a := { st.a with others := st.a.others ++ [⟨224, t, vv⟩] }, cls := st.cls, seen := t :: st.seen } else Ax.rest four outside (D.drop (k + n)) { st with seen := t :: st.seen }) = R) := Lib.hid (by
                rw [← R2.out]
                unfold Ax.step
                rw [if_neg HIN.out, if_neg (show ¬ (Ax.known t = true) from by rw [hkn]; simp), List.drop_drop]
                by_cases h1 : f &&& 128 = 0
                · rw [if_pos h1, if_pos h1]
                · rw [if_neg h1, if_neg h1]
                  by_cases h2 : f &&& 64 ≠ 0
                  · rw [if_pos h2, if_pos h2]
                  · rw [if_neg h2, if_neg h2])
              clear hkn R2
              go_wp2_with (go_at_call 28; refine HKN.out.mono ?_; rintro e w6 ⟨rfl, rfl⟩)
              go_step3
              exact J1.out 3 _ _ ⟨p, pb, pf, bm, k + n, k, { st with seen := t :: st.seen }, f, t, vv, _, n, G5.out, O5.out, HDIS.out, List.mem_cons_self .., HF.out, rfl, HK.out, by have := G1.out.len; show st.a.others.length + 1 ≤ k + n; omega, R3.out, rfl, rfl, rfl, rfl, rfl, rfl, rfl, rfl, rfl, rfl, rfl, rfl, rfl, rfl⟩ (by show 2 * rdm w5 p + 3 < 2 * rdm u p + 2; rw [rdm_in G5.out.rd, rdm_in G1.out.rd]; have := HK.out; omega)
            | true =>
              rw [hkn] at HKN
              have HKNT := Lib.hid hkn
              have HW := Lib.hid (fun u' (h : Wtd u') => wanted_any t u' h)
              obtain ⟨y, hy⟩ : ∃ y : Nat, (f &&& 192).toNat = y := ⟨_, rfl⟩
              obtain ⟨x, hx⟩ : ∃ x : Nat, (Ax.wanted t).toNat = x := ⟨_, rfl⟩
              have hand2 : bits .and .u8 (f.toNat : Int) 192 = (y : Int) := by rw [← hy]; exact and_u8 f 192
              rw [hx] at HW
              clear hkn
              by_cases htop : f &&& 192 = Ax.wanted t
              · have hne : ((y : Int) != (x : Int)) = false := by rw [← hy, ← hx, htop]; simp
                obtain ⟨pv, cv, qv, ov, ba, oa⟩ := G5.out.at_
                have HKEEP := Lib.hid (at_keep (W.heap.size + 1 + 1) pb pf bm (W.heap.size + 5) four outside f t (.slice A3 vv.length c3) vv st.a pv cv qv ov w5.drew ba (oa.off5 ((Kept.refl Nothing w5).drew) (Off5.nothing _)) G5.out.bb G5.out.bf (G5.out.mp.kept ((Kept.refl Nothing w5).drew) (fun x => x)) (by have := G5.out.hp; have := G5.out.rd.lt; show W.heap.size + 5 ≤ w5.heap.size; omega) ((Bs.of_own O5.out).by.old ((Kept.refl Nothing w5).drew)) (by have := HN.out.2.2.1; omega) (G5.out.wtd.kept ((Kept.refl Nothing w5).drew)) G5.out.small HKNT.out (fun e => by have := G5.out.hg; omega))
                have HFX := Lib.hid (keepS_facts four outside st.a t vv G5.out.small)
                have R3 : Hid (Ax.rest four outside (D.drop (k + n)) { a := (Ax.keepS four outside st.a t vv).1, cls := max st.cls (Ax.keepS four outside st.a t vv).2, seen := t :: st.seen } = R) := Lib.hid (by
                  rw [← R2.out]
                  unfold Ax.step
                  rw [if_neg HIN.out, if_pos HKNT.out, if_neg (show ¬ (f &&& 192 ≠ Ax.wanted t) from fun h => h htop), List.drop_drop])
                have hmx : max (st.cls : Int) ((Ax.keepS four outside st.a t vv).2 : Int) = ((max st.cls (Ax.keepS four outside st.a t vv).2 : Nat) : Int) := by omega
                clear htop R2 ba oa hy hx
                generalize Ax.keepS four outside st.a t vv = KS at *
                go_upto_region 14 with (go_at_call 28; refine HKN.out.mono ?_; rintro e w6 ⟨rfl, rfl⟩)
                first | (go_region_law (go_simp; go_at_call 29; refine (HW.out _ (by exact G5.out.wtd.kept ((Kept.refl Nothing w5).drew))).mono ?_; rintro e w6 ⟨rfl, rfl⟩)) | fail
                all_goals
                  have d0 : w5.drew.cell? ⟨W.heap.size + 1 + 1 + 1, 0, none⟩ = some (.int .u8 (f.toNat : Int)) := q0
                  have d1 : w5.drew.cell? ⟨W.heap.size + 1 + 1 + 1, 1, none⟩ = some (.int .u8 (t.toNat : Int)) := q1
                  have d2 : w5.drew.cell? ⟨W.heap.size + 1 + 1 + 1, 2, none⟩ = some (.slice A3 vv.length c3) := q2
                  go_wp2_with (go_at_call 30; refine HKEEP.out.mono ?_; rintro e w7 ⟨rfl, ⟨pv7, cv7, qv7, b7, o7⟩, k7⟩)
                  go_step3
                  have G7 := (G5.out.old ((Kept.refl Nothing w5).drew)).putk (c := max st.cls KS.2) k7 b7 o7 HFX.out.1 HFX.out.2.1 (by have := G5.out.cls; have := HFX.out.2.2; show max st.cls KS.2 ≤ 2; have h9 : st.cls ≤ 2 := G5.out.cls; omega)
                  exact J1.out 1 _ _ ⟨p, pb, pf, bm, k + n, { a := KS.1, cls := max st.cls KS.2, seen := t :: st.seen }, _, _, _, _, G7, R3.out, rfl, rfl, rfl, rfl, rfl, rfl, rfl, rfl, rfl, rfl, rfl, rfl, rfl, rfl⟩ (by show 2 * rdm w7 p + 2 < 2 * rdm u p + 2; rw [rdm_in G7.rd, rdm_in G1.out.rd]; have := HK.out; omega)
              · have hne : ((y : Int) != (x : Int)) = true := by
                  rw [← hy, ← hx, bne_iff_ne]
                  intro e
                  exact htop (UInt8.toNat_inj.1 (by omega))
                have R3 : Hid (R = (Ax.zeroA, 2, [])) := Lib.hid (by
                  rw [← R2.out]
                  unfold Ax.step
                  rw [if_neg HIN.out, if_pos HKNT.out, if_pos (show f &&& 192 ≠ Ax.wanted t from htop)])
                clear htop R2 hy hx
                go_upto_region 14 with (go_at_call 28; refine HKN.out.mono ?_; rintro e w6 ⟨rfl, rfl⟩)
                first | (go_region_law (go_simp; go_at_call 29; refine (HW.out _ (by exact G5.out.wtd.kept ((Kept.refl Nothing w5).drew))).mono ?_; rintro e w6 ⟨rfl, rfl⟩)) | fail
                all_goals
                  go_wp2
                  go_step3
                  exact J1.out 2 _ _ ⟨(G5.out.old ((Kept.refl Nothing w5).drew)).gb, R3.out, rfl, rfl, rfl, rfl⟩ (by show 1 < 2 * _ + 2; omega)
        · have R2 : Hid (R = (Ax.zeroA, 2, [])) := Lib.hid (by rw [← R1.out]; exact Ax.rest_none (fun e => by have := congrArg List.length e; rw [List.length_drop] at this; simp at this; omega) hform)
          obtain ⟨S4, hS4⟩ : ∃ S4, (Ax.tkS (Ax.ext (RS.num ((RS.mk D k [] 0).got 1))) (((RS.mk D k [] 0).pass 1).pass 1)).pass (Ax.tkN (Ax.ext (RS.num ((RS.mk D k [] 0).got 1))) (((RS.mk D k [] 0).pass 1).pass 1) : Int) = S4 := ⟨_, rfl⟩
          have HTK := Lib.hid (fun u' (h : Rd u' p ⟨D, k, [], 0⟩) => show Calls Tryz.prog _ _ u' fun e w' => ∃ (f t : Nat) (v : Value) (l : List UInt8), e = .returned (.agg #[.int .u8 (f : Int), .int .u8 (t : Int), v]) ∧ w'.ownsRow u'.heap.size 5 1 v l.length (bys l) ∧ Rd w' p S4 ∧ Kept (Only p) u' w' from by
            refine (at_take p ⟨D, k, [], 0⟩ u' h).mono ?_
            rintro e w' ⟨v, h1, h2, h3, h4⟩
            rw [hS4] at h3
            exact ⟨_, _, v, _, h1, h2, h3, h4⟩)
          have HERR := Lib.hid (fun u' (h : Rd u' p S4) => show Calls Tryz.prog _ _ u' fun r w' => r = .returned (.int .i64 4) ∧ u' = w' from by have := rd_err p S4 u' h; rw [← hS4, ee] at this; exact this)
          clear hform ee R1 hS4
          go_upto_region 9 with (first
            | (go_at_call 26; refine (HTK.out _ (G1.out.rd.drewN m2)).mono ?_; rintro e w3 ⟨f, t, ov, vv, rfl, o3, r3, k3⟩; (have G3 := Lib.hid (G1.out.old ((Kept.refl Nothing u).drewN m2))); (have B3 := Lib.hid (G3.out.bo.rd G3.out.rd (by decide) k3)); (have GB3 := Lib.hid (G3.out.gbrd G3.out.rd k3)); (have z0 := B3.out.cell 0); (have z1 := B3.out.cell 1); (have z2 := B3.out.cell 2); (have e0 := B3.out.free 0); (have e1 := B3.out.free 1); (have e2 := B3.out.free 2); (obtain ⟨A3, c3, rfl, -, -⟩ := ow_form o3); (have RD3 := Lib.hid r3); clear o3 r3 k3)
            | (go_at_call 25; refine (HAT.out _ (G1.out.rd.drewN m2)).mono ?_; rintro e w2 ⟨rfl, rfl⟩)
            | (go_at_call 24; refine (HLEFT.out _ G1.out.rd).mono ?_; rintro e w2 ⟨rfl, m2, rfl⟩))
          have K4 := ((Kept.own w3 (W.heap.size + 1 + 1 + 1) 0 (.int .u8 (f : Int))).trans (Kept.own _ (W.heap.size + 1 + 1 + 1) 1 (.int .u8 (t : Int)))).trans (Kept.own _ (W.heap.size + 1 + 1 + 1) 2 (.slice A3 vv.length c3))
          have GB4 := Lib.hid (GB3.out.low K4 (fun g (e : g = W.heap.size + 1 + 1 + 1) => by omega))
          have RD4 := Lib.hid (RD3.out.kept K4 (NoRd.of_blk B3.out (by decide)))
          generalize ((w3.setCell ⟨W.heap.size + 1 + 1 + 1, 0, none⟩ (.int .u8 (f : Int))).setCell ⟨W.heap.size + 1 + 1 + 1, 1, none⟩ (.int .u8 (t : Int))).setCell ⟨W.heap.size + 1 + 1 + 1, 2, none⟩ (.slice A3 vv.length c3) = w4 at *
          clear K4 z0 z1 z2 e0 e1 e2 B3 RD3 GB3
          go_wp2_with (go_at_call 27; refine (HERR.out _ RD4.out).mono ?_; rintro e w5 ⟨rfl, rfl⟩)
          go_step3
          exact J1.out 2 _ _ ⟨GB4.out, R2.out, rfl, rfl, rfl, rfl⟩ (by show 1 < 2 * _ + 2; omega)
      · have hz : ((D.length - k : Nat) : Int) = 0 := by omega
        have R2 : Hid (Ax.fin st = R) := Lib.hid (by rw [← R1.out, List.drop_eq_nil_of_le (by omega)]; rfl)
        rw [hz] at HLEFT
        clear hz R1
        go_wp2_with (go_at_call 24; refine (HLEFT.out _ G1.out.rd).mono ?_; rintro e w2 ⟨rfl, m2, rfl⟩)
        go_step3
        exact J1.out 0 _ _ ⟨p, pb, pf, bm, k, st, o0, o1, o2, _, G1.out.old ((Kept.refl Nothing u).drewN m2), R2.out, rfl, rfl, rfl, rfl, rfl, rfl, rfl, rfl, rfl, rfl, rfl, rfl, rfl, rfl⟩ (by show 0 < 2 * _ + 2; omega)
    · clear HGET
      obtain ⟨tl0, df⟩ := a
      obtain ⟨tl⟩ := tl0
      obtain ⟨hGB, hR, hdf, hsz, s6, s7⟩ := hl
      obtain rfl : df = [] := hdf
      obtain ⟨x0, x1, x2, x3, x4, x5, x6, x7, x8, x9, x10, x11, x12, x13, x14, x15, x16, x17, x18, x19, x20, x21, x22, x23, x24, x25, x26, x27, x28, x29, x30, x31, x32, x33, x34, x35, x36, x37, x38, x39, x40, x41, x42, x43, x44, x45, x46, x47, x48, x49, x50, x51, x52, x53, x54, x55, x56, x57, x58, x59, x60, x61, x62, x63, x64, x65, x66, x67, x68, x69, x70, x71, x72, x73, x74, x75, x76, x77, x78, x79, x80, x81, x82, x83, x84, x85, x86, rfl⟩ := list87 tl (by simpa using hsz)
      obtain rfl : x6 = _ := s6
      obtain rfl : x7 = _ := s7
      clear hsz
      have GB1 := Lib.hid hGB
      subst hR
      have b6c0 : u.cell? ⟨W.heap.size, 0, none⟩ = some (.int .u32 0) := hGB.b6.cell 0
      have b6f0 := hGB.b6.free 0
      have b6c1 : u.cell? ⟨W.heap.size, 1, none⟩ = some (.int .u8 0) := hGB.b6.cell 1
      have b6f1 := hGB.b6.free 1
      have b6c2 : u.cell? ⟨W.heap.size, 2, none⟩ = some (.slice none 0 0) := hGB.b6.cell 2
      have b6f2 := hGB.b6.free 2
      have b6c3 : u.cell? ⟨W.heap.size, 3, none⟩ = some (.int .u32 0) := hGB.b6.cell 3
      have b6f3 := hGB.b6.free 3
      have b6c4 : u.cell? ⟨W.heap.size, 4, none⟩ = some (.int .u32 0) := hGB.b6.cell 4
      have b6f4 := hGB.b6.free 4
      have b6c5 : u.cell? ⟨W.heap.size, 5, none⟩ = some (.int .u32 0) := hGB.b6.cell 5
      have b6f5 := hGB.b6.free 5
      have b6c6 : u.cell? ⟨W.heap.size, 6, none⟩ = some (.int .u32 0) := hGB.b6.cell 6
      have b6f6 := hGB.b6.free 6
      have b6c7 : u.cell? ⟨W.heap.size, 7, none⟩ = some (.int .u32 0) := hGB.b6.cell 7
      have b6f7 := hGB.b6.free 7
      have b6c8 : u.cell? ⟨W.heap.size, 8, none⟩ = some (.slice none 0 0) := hGB.b6.cell 8
      have b6f8 := hGB.b6.free 8
      have b6c9 : u.cell? ⟨W.heap.size, 9, none⟩ = some (.slice none 0 0) := hGB.b6.cell 9
      have b6f9 := hGB.b6.free 9
      have b6c10 : u.cell? ⟨W.heap.size, 10, none⟩ = some (.int .u32 0) := hGB.b6.cell 10
      have b6f10 := hGB.b6.free 10
      have b6c11 : u.cell? ⟨W.heap.size, 11, none⟩ = some (.int .u32 0) := hGB.b6.cell 11
      have b6f11 := hGB.b6.free 11
      have b6c12 : u.cell? ⟨W.heap.size, 12, none⟩ = some (.slice none 0 0) := hGB.b6.cell 12
      have b6f12 := hGB.b6.free 12
      have b7c0 : u.cell? ⟨W.heap.size + 1, 0, none⟩ = some (.int .i64 0) := hGB.b7.cell 0
      have b7f0 := hGB.b7.free 0
      have b7c1 : u.cell? ⟨W.heap.size + 1, 1, none⟩ = some (.int .u8 0) := hGB.b7.cell 1
      have b7f1 := hGB.b7.free 1
      have b7c2 : u.cell? ⟨W.heap.size + 1, 2, none⟩ = some (.int .u8 0) := hGB.b7.cell 2
      have b7f2 := hGB.b7.free 2
      have b7c3 : u.cell? ⟨W.heap.size + 1, 3, none⟩ = some (.slice none 0 0) := hGB.b7.cell 3
      have b7f3 := hGB.b7.free 3
      clear hGB hJ'
      go_wp2
      go_step3
      simp only [Exit.then]
      apply_assumption
      go_wp2
      have RC := ret_cells (W := W) GB1.out.b6 GB1.out.b7 (.int .u32 0) (.int .u8 0) (.slice none 0 0) (.int .u32 0) (.int .u32 0) (.int .u32 0) (.int .u32 0) (.int .u32 0) (.slice none 0 0) (.slice none 0 0) (.int .u32 0) (.int .u32 0) (.slice none 0 0) (.int .i64 2) (.int .u8 0) (.int .u8 0) (.slice none 0 0)
      obtain ⟨wF, hwF, c0, c1, c2, c3, c4, c5, c6, c7, c8, c9, c10, c11, c12, d0, d1, d2, d3, kF⟩ := RC
      rw [hwF]
      (try simp +zetaDelta only [jumps])
      refine bodyPost_ret (v := .tuple #[.agg #[.int .u32 0, .int .u8 0, .slice none 0 0, .int .u32 0, .int .u32 0, .int .u32 0, .int .u32 0, .int .u32 0, .slice none 0 0, .slice none 0 0, .int .u32 0, .int .u32 0, .slice none 0 0], .agg #[.int .i64 2, .int .u8 0, .int .u8 0, .slice none 0 0]]) (by simp [results, Tryz.results8, go_sem, c0, c1, c2, c3, c4, c5, c6, c7, c8, c9, c10, c11, c12, d0, d1, d2, d3]) rfl ?_
      exact ⟨_, _, _, _, _, rfl, AtO.zero _ _, World.ownsRow_nil _ _ _ _, GB1.out.kept.trans_new kF (fun i hi e => by rcases e with e | e <;> omega)⟩
    · clear HGET
      obtain ⟨tl0, df⟩ := a
      obtain ⟨tl⟩ := tl0
      obtain ⟨p, pb, pf, bm, k, k0, st, f, t, vv, ow, n, hGM, hO, hdis, hin, hform, hkk, hk0, hlen, hR, hdf, hsz, s0, s1, s2, s6, s7, s8, s9, s10, s11, s12, s13, s14⟩ := hl
      obtain rfl : df = [] := hdf
      obtain ⟨x0, x1, x2, x3, x4, x5, x6, x7, x8, x9, x10, x11, x12, x13, x14, x15, x16, x17, x18, x19, x20, x21, x22, x23, x24, x25, x26, x27, x28, x29, x30, x31, x32, x33, x34, x35, x36, x37, x38, x39, x40, x41, x42, x43, x44, x45, x46, x47, x48, x49, x50, x51, x52, x53, x54, x55, x56, x57, x58, x59, x60, x61, x62, x63, x64, x65, x66, x67, x68, x69, x70, x71, x72, x73, x74, x75, x76, x77, x78, x79, x80, x81, x82, x83, x84, x85, x86, rfl⟩ := list87 tl (by simpa using hsz)
      obtain rfl : x0 = _ := s0
      obtain rfl : x1 = _ := s1
      obtain rfl : x2 = _ := s2
      obtain rfl : x6 = _ := s6
      obtain rfl : x7 = _ := s7
      obtain rfl : x8 = _ := s8
      obtain rfl : x9 = _ := s9
      obtain rfl : x10 = _ := s10
      obtain rfl : x11 = _ := s11
      obtain rfl : x12 = _ := s12
      obtain rfl : x13 = _ := s13
      obtain rfl : x14 = _ := s14
      clear hsz
      obtain ⟨Aw, cw, rfl, -, -⟩ := ow_form hO
      have G1 := Lib.hid hGM
      have O1 := Lib.hid hO
      have J1 := Lib.hid hJ'
      have HN := Lib.hid (Ax.formL_le hform)
      have HF := Lib.hid hform
      have HK := Lib.hid hkk
      have HD := Lib.hid hdis
      have HI := Lib.hid hin
      have HLEN := Lib.hid hlen
      have q0 : u.cell? ⟨W.heap.size + 1 + 1 + 1, 0, none⟩ = some (.int .u8 (f.toNat : Int)) := hGM.bo.cell 0
      have f0 := hGM.bo.free 0
      clear hGM hO hJ' hform hkk hdis hin hlen
      by_cases h1 : f &&& 128 = 0
      · have hand : bits .and .u8 (f.toNat : Int) 128 = 0 := by have h9 := and_u8 f 128; rw [h1] at h9; exact h9
        obtain ⟨FL, hFL⟩ : ∃ FL, (D.drop k0).take n = FL := ⟨_, rfl⟩
        rw [if_pos h1, hFL] at hR
        subst hR
        have HAT := Lib.hid (fun u' (h : Rd u' p ⟨D, k, [], 0⟩) => show Calls Tryz.prog _ _ u' fun r w' => r = .returned (.int .i64 (k : Int)) ∧ u' = w' from rd_at p ⟨D, k, [], 0⟩ u' h)
        have HSL : ∀ u', (Instr.slice 22 (.slice A D.length c) (some (.int .i64 (k0 : Int))) (some (.int .i64 (k : Int))) none).run Tryz.prog u' = .ok (.slice (if c = k0 then A else A.map (·.add k0)) n (c - k0)) u' := fun u' => by
          rw [HK.out]
          exact slice_lohi A D.length c k0 n (by have := HN.out.2.1; rw [List.length_drop] at this; omega) u'
        have hlt : FL.length = n := by rw [← hFL, List.length_take]; have := HN.out.2.1; omega
        have HP := Lib.hid (HV.out.piece (k := k0) (m := n) (by have := HN.out.2.1; rw [List.length_drop] at this; omega))
        rw [hFL] at HP
        have HRST := Lib.hid (fun u' (kq : Kept Nothing W u') => at_reset _ _ u' (HP.out.old kq) (by rw [hlt]; have := HN.out.2.1; rw [List.length_drop] at this; have := HDL.out; omega))
        have HLT := Lib.hid hlt
        clear hFL
        generalize (if c = k0 then A else A.map (·.add k0)) = A5 at *
        clear h1 hlt
        have b6c0 : u.cell? ⟨W.heap.size, 0, none⟩ = some (.int .u32 0) := G1.out.b6.cell 0
        have b6f0 := G1.out.b6.free 0
        have b6c1 : u.cell? ⟨W.heap.size, 1, none⟩ = some (.int .u8 0) := G1.out.b6.cell 1
        have b6f1 := G1.out.b6.free 1
        have b6c2 : u.cell? ⟨W.heap.size, 2, none⟩ = some (.slice none 0 0) := G1.out.b6.cell 2
        have b6f2 := G1.out.b6.free 2
        have b6c3 : u.cell? ⟨W.heap.size, 3, none⟩ = some (.int .u32 0) := G1.out.b6.cell 3
        have b6f3 := G1.out.b6.free 3
        have b6c4 : u.cell? ⟨W.heap.size, 4, none⟩ = some (.int .u32 0) := G1.out.b6.cell 4
        have b6f4 := G1.out.b6.free 4
        have b6c5 : u.cell? ⟨W.heap.size, 5, none⟩ = some (.int .u32 0) := G1.out.b6.cell 5
        have b6f5 := G1.out.b6.free 5
        have b6c6 : u.cell? ⟨W.heap.size, 6, none⟩ = some (.int .u32 0) := G1.out.b6.cell 6
        have b6f6 := G1.out.b6.free 6
        have b6c7 : u.cell? ⟨W.heap.size, 7, none⟩ = some (.int .u32 0) := G1.out.b6.cell 7
        have b6f7 := G1.out.b6.free 7
        have b6c8 : u.cell? ⟨W.heap.size, 8, none⟩ = some (.slice none 0 0) := G1.out.b6.cell 8
        have b6f8 := G1.out.b6.free 8
        have b6c9 : u.cell? ⟨W.heap.size, 9, none⟩ = some (.slice none 0 0) := G1.out.b6.cell 9
        have b6f9 := G1.out.b6.free 9
        have b6c10 : u.cell? ⟨W.heap.size, 10, none⟩ = some (.int .u32 0) := G1.out.b6.cell 10
        have b6f10 := G1.out.b6.free 10
        have b6c11 : u.cell? ⟨W.heap.size, 11, none⟩ = some (.int .u32 0) := G1.out.b6.cell 11
        have b6f11 := G1.out.b6.free 11
        have b6c12 : u.cell? ⟨W.heap.size, 12, none⟩ = some (.slice none 0 0) := G1.out.b6.cell 12
        have b6f12 := G1.out.b6.free 12
        have b7c0 : u.cell? ⟨W.heap.size + 1, 0, none⟩ = some (.int .i64 0) := G1.out.b7.cell 0
        have b7f0 := G1.out.b7.free 0
        have b7c1 : u.cell? ⟨W.heap.size + 1, 1, none⟩ = some (.int .u8 0) := G1.out.b7.cell 1
        have b7f1 := G1.out.b7.free 1
        have b7c2 : u.cell? ⟨W.heap.size + 1, 2, none⟩ = some (.int .u8 0) := G1.out.b7.cell 2
        have b7f2 := G1.out.b7.free 2
        have b7c3 : u.cell? ⟨W.heap.size + 1, 3, none⟩ = some (.slice none 0 0) := G1.out.b7.cell 3
        have b7f3 := G1.out.b7.free 3
        go_upto_region 17 with fail
        go_wp2_with (first
          | (go_at_call 31; refine (HRST.out _ G1.out.kept).mono ?_; rintro e w7 ⟨dv, rfl, od, k7⟩; (obtain ⟨Ad, cd, rfl, -, -⟩ := ow_form od); (have G7 := Lib.hid (G1.out.old k7)); (have OD := Lib.hid od); (have e6c0 : w7.cell? ⟨W.heap.size, 0, none⟩ = some (.int .u32 0) := G7.out.b6.cell 0); (have e6f0 := G7.out.b6.free 0); (have e6c1 : w7.cell? ⟨W.heap.size, 1, none⟩ = some (.int .u8 0) := G7.out.b6.cell 1); (have e6f1 := G7.out.b6.free 1); (have e6c2 : w7.cell? ⟨W.heap.size, 2, none⟩ = some (.slice none 0 0) := G7.out.b6.cell 2); (have e6f2 := G7.out.b6.free 2); (have e6c3 : w7.cell? ⟨W.heap.size, 3, none⟩ = some (.int .u32 0) := G7.out.b6.cell 3); (have e6f3 := G7.out.b6.free 3); (have e6c4 : w7.cell? ⟨W.heap.size, 4, none⟩ = some (.int .u32 0) := G7.out.b6.cell 4); (have e6f4 := G7.out.b6.free 4); (have e6c5 : w7.cell? ⟨W.heap.size, 5, none⟩ = some (.int .u32 0) := G7.out.b6.cell 5); (have e6f5 := G7.out.b6.free 5); (have e6c6 : w7.cell? ⟨W.heap.size, 6, none⟩ = some (.int .u32 0) := G7.out.b6.cell 6); (have e6f6 := G7.out.b6.free 6); (have e6c7 : w7.cell? ⟨W.heap.size, 7, none⟩ = some (.int .u32 0) := G7.out.b6.cell 7); (have e6f7 := G7.out.b6.free 7); (have e6c8 : w7.cell? ⟨W.heap.size, 8, none⟩ = some (.slice none 0 0) := G7.out.b6.cell 8); (have e6f8 := G7.out.b6.free 8); (have e6c9 : w7.cell? ⟨W.heap.size, 9, none⟩ = some (.slice none 0 0) := G7.out.b6.cell 9); (have e6f9 := G7.out.b6.free 9); (have e6c10 : w7.cell? ⟨W.heap.size, 10, none⟩ = some (.int .u32 0) := G7.out.b6.cell 10); (have e6f10 := G7.out.b6.free 10); (have e6c11 : w7.cell? ⟨W.heap.size, 11, none⟩ = some (.int .u32 0) := G7.out.b6.cell 11); (have e6f11 := G7.out.b6.free 11); (have e6c12 : w7.cell? ⟨W.heap.size, 12, none⟩ = some (.slice none 0 0) := G7.out.b6.cell 12); (have e6f12 := G7.out.b6.free 12); (have e7c0 : w7.cell? ⟨W.heap.size + 1, 0, none⟩ = some (.int .i64 0) := G7.out.b7.cell 0); (have e7f0 := G7.out.b7.free 0); (have e7c1 : w7.cell? ⟨W.heap.size + 1, 1, none⟩ = some (.int .u8 0) := G7.out.b7.cell 1); (have e7f1 := G7.out.b7.free 1); (have e7c2 : w7.cell? ⟨W.heap.size + 1, 2, none⟩ = some (.int .u8 0) := G7.out.b7.cell 2); (have e7f2 := G7.out.b7.free 2); (have e7c3 : w7.cell? ⟨W.heap.size + 1, 3, none⟩ = some (.slice none 0 0) := G7.out.b7.cell 3); (have e7f3 := G7.out.b7.free 3); clear od k7)
          | (go_at_call 25; refine (HAT.out _ G1.out.rd).mono ?_; rintro e w6 ⟨rfl, rfl⟩))
        have RC := ret_cells (W := W) G7.out.b6 G7.out.b7 (.int .u32 0) (.int .u8 0) (.slice none 0 0) (.int .u32 0) (.int .u32 0) (.int .u32 0) (.int .u32 0) (.int .u32 0) (.slice none 0 0) (.slice none 0 0) (.int .u32 0) (.int .u32 0) (.slice none 0 0) (.int .i64 3) (.int .u8 3) (.int .u8 2) (.slice Ad FL.length cd)
        obtain ⟨wF, hwF, c0, c1, c2, c3, c4, c5, c6, c7, c8, c9, c10, c11, c12, d0, d1, d2, d3, kF⟩ := RC
        rw [hwF]
        (try simp +zetaDelta only [jumps])
        refine bodyPost_ret (v := .tuple #[.agg #[.int .u32 0, .int .u8 0, .slice none 0 0, .int .u32 0, .int .u32 0, .int .u32 0, .int .u32 0, .int .u32 0, .slice none 0 0, .slice none 0 0, .int .u32 0, .int .u32 0, .slice none 0 0], .agg #[.int .i64 3, .int .u8 3, .int .u8 2, .slice Ad FL.length cd]]) (by simp [results, Tryz.results8, go_sem, c0, c1, c2, c3, c4, c5, c6, c7, c8, c9, c10, c11, c12, d0, d1, d2, d3]) rfl ?_
        exact ⟨_, _, _, _, _, rfl, AtO.zero _ _, own_weakA (ow_low OD.out kF (fun g e => by have := G1.out.rd.lt; have := G1.out.hp; rcases e with e | e <;> omega)) G1.out.kept.size, G7.out.kept.trans_new kF (fun i hi e => by rcases e with e | e <;> omega)⟩
      · have hy0 : (f &&& 128).toNat ≠ 0 := fun e => h1 (UInt8.toNat_inj.1 e)
        obtain ⟨y, hy⟩ : ∃ y : Nat, (f &&& 128).toNat = y + 1 := ⟨(f &&& 128).toNat - 1, by omega⟩
        have hand : bits .and .u8 (f.toNat : Int) 128 = (y : Int) + 1 := by have h9 := and_u8 f 128; rw [hy] at h9; exact h9
        have hyn : ((y : Int) + 1 == 0) = false := by rw [beq_eq_false_iff_ne]; omega
        have hyn2 : ¬ (y : Int) + 1 = 0 := by omega
        rw [if_neg h1] at hR
        clear h1 hy hy0
        by_cases h2 : f &&& 64 = 0
        · have hand2 : bits .and .u8 (f.toNat : Int) 64 = 0 := by have h9 := and_u8 f 64; rw [h2] at h9; exact h9
          rw [if_neg (fun h => h h2)] at hR
          have R3 := Lib.hid hR
          clear hR h2
          go_wp2
          go_step3
          exact J1.out 1 _ _ ⟨p, pb, pf, bm, k, st, _, _, _, _, G1.out, R3.out, rfl, rfl, rfl, rfl, rfl, rfl, rfl, rfl, rfl, rfl, rfl, rfl, rfl, rfl⟩ (by show 2 * rdm u p + 2 < 2 * rdm u p + 3; omega)
        · have hz0 : (f &&& 64).toNat ≠ 0 := fun e => h2 (UInt8.toNat_inj.1 e)
          obtain ⟨z, hz⟩ : ∃ z : Nat, (f &&& 64).toNat = z + 1 := ⟨(f &&& 64).toNat - 1, by omega⟩
          have hand2 : bits .and .u8 (f.toNat : Int) 64 = (z : Int) + 1 := by have h9 := and_u8 f 64; rw [hz] at h9; exact h9
          have hzn : ((z : Int) + 1 != 0) = true := by rw [bne_iff_ne]; omega
          have hzn2 : ¬ (z : Int) + 1 = 0 := by omega
          rw [if_pos h2] at hR
          have R3 := Lib.hid hR
          clear hR h2 hz hz0
          obtain ⟨i0, hi, hz0, hz1, hz2⟩ := info_parts ot_info
          have B2 := G1.out.bo.put 0 (.int .u8 224)
          have G2 := Lib.hid (G1.out.puto (Kept.own u (W.heap.size + 1 + 1 + 1) 0 (.int .u8 224)) B2)
          have O2 := Lib.hid (ow_low O1.out (Kept.own u (W.heap.size + 1 + 1 + 1) 0 (.int .u8 224)) (fun g (e : g = W.heap.size + 1 + 1 + 1) => by omega))
          go_upto_region 20 with fail
          generalize u.setCell ⟨W.heap.size + 1 + 1 + 1, 0, none⟩ (.int .u8 224) = u2 at *
          obtain ⟨pv, cv, qv, ov, ba, oa⟩ := G2.out.at_
          obtain ⟨zs, hzo, hzx⟩ := oa.2.2.2.1
          obtain ⟨Ao, no, rfl, -, -⟩ := ow_form hzo
          have r0 : u2.cell? ⟨W.heap.size + 1 + 1 + 1, 0, none⟩ = some (.int .u8 224) := G2.out.bo.cell 0
          have r1 : u2.cell? ⟨W.heap.size + 1 + 1 + 1, 1, none⟩ = some (.int .u8 (t.toNat : Int)) := G2.out.bo.cell 1
          have r2 : u2.cell? ⟨W.heap.size + 1 + 1 + 1, 2, none⟩ = some (.slice Aw vv.length cw) := G2.out.bo.cell 2
          have r12 : u2.cell? ⟨W.heap.size + 1 + 1, 12, none⟩ = some (.slice Ao st.a.others.length no) := ba.cell 12
          have BA := Lib.hid ba
          have OA := Lib.hid oa
          have ZO := Lib.hid hzo
          have ZX := Lib.hid hzx
          have LT5 : Hid (W.heap.size + 5 ≤ u2.heap.size) := Lib.hid (by have := G2.out.rd.lt; have := G2.out.hp; omega)
          have HL6 : Hid (st.a.others.length + 1 ≤ maxLen ∧ (st.a.others.length + 1) * 32 ≤ 140737488355328) := Lib.hid (by have := G1.out.len; have := G1.out.le; have := HDL.out; unfold maxLen; omega)
          clear ba oa hzo hzx q0 f0 B2
          go_wp2_with (at_builtin; refine wpList_app _ rfl _ _ 31 rfl (W.heap.size + 5) 73 i0 _ 3 32 Tryz.underlying31 hi hz0 hz1 hz2 rfl (by decide) (.slice Ao st.a.others.length no) st.a.others.length zs rfl (ow_kept ZO.out ((Kept.refl Nothing _).alloc _) (fun _ _ x => x)) (some ⟨u2.heap.size, 0, none⟩) 1 1 [.int .u8 224, .int .u8 (t.toNat : Int), .slice Aw vv.length cw] rfl (src_new u2 _ #[.int .u8 224, .int .u8 (t.toNat : Int), .slice Aw vv.length cw] 3 1 rfl (by simp [Value.oneCell'])) HL6.out.1 HL6.out.2 (Nat.le_trans LT5.out (by simp)) ?_; intro v9 w9 ho9 hg9 _; (have ka := (Kept.refl Nothing u2).alloc (.cells #[.int .u8 224, .int .u8 (t.toNat : Int), .slice Aw vv.length cw] 73)); (have kg9 : Kept (fun g => (Value.slice Ao st.a.others.length no).ownBlock = some g) u2 w9 := (ka.mono (fun _ x => x.elim)).trans (grown_kept hg9)); (have ZX9 := Lib.hid (Ors.push (c := ⟨224, t, vv⟩) (ow_kept ZO.out ka (fun _ _ x => x)) (ZX.out.old ka) (ow_kept O2.out ka (fun _ _ x => x)) hg9)); (have ZO9 := Lib.hid ho9); (have KG9 := Lib.hid kg9); (have B9 := Lib.hid (BA.out.kept kg9 (fun e => by have := (ow_ge ZO.out e).1; omega))); (have r9 := B9.out.cell 12); (have s9 := B9.out.free 12); (obtain ⟨A9, c9, rfl, -, -⟩ := ow_form ho9); clear ho9 hg9 kg9 ka)
          go_step3
          have A10 := OA.out.others KG9.out (ov' := .slice A9 (st.a.others.length + 1) c9) (l := st.a.others ++ [⟨224, t, vv⟩]) ⟨_, by rw [List.length_append]; exact ZO9.out, ZX9.out⟩
          have k10 := Kept.own w9 (W.heap.size + 1 + 1) 12 (.slice A9 (st.a.others.length + 1) c9)
          have G10 := G2.out.push (a' := { st.a with others := st.a.others ++ [⟨224, t, vv⟩] }) ZO.out ((KG9.out.mono (fun _ e => Or.inl e)).trans (k10.mono (fun _ e => Or.inr e))) ⟨pv, cv, qv, _, B9.out.put 12 (.slice A9 (st.a.others.length + 1) c9), A10.low k10 (fun g (e : g = W.heap.size + 1 + 1) => by omega)⟩ G1.out.small
            (List.pairwise_append.2 ⟨G1.out.dis, List.pairwise_singleton _ _, fun x hx y hy => by obtain rfl := List.mem_singleton.1 hy; exact HD.out x hx⟩) (fun o ho => by
              rcases List.mem_append.1 ho with ho | ho
              · exact G1.out.sub o ho
              · obtain rfl := List.mem_singleton.1 ho; exact HI.out) (by rw [List.length_append]; exact HLEN.out)
          exact J1.out 1 _ _ ⟨p, pb, pf, bm, k, { a := { st.a with others := st.a.others ++ [⟨224, t, vv⟩] }, cls := st.cls, seen := st.seen }, _, _, _, _, G10, R3.out, rfl, rfl, rfl, rfl, rfl, rfl, rfl, rfl, rfl, rfl, rfl, rfl, rfl, rfl⟩ (by show 2 * rdm _ p + 2 < 2 * rdm u p + 3; rw [rdm_in G10.rd, rdm_in G1.out.rd]; omega)
end Go.Proofs.YteofbpdogmajoaaGreatDoor
