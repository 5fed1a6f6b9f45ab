
/-
  The law PrefixTells: its first drawn region: two calls, two new blocks, two stores.
-/
import Derived.Test.YtfjhpeijlhlaeaaDoorIv
import Derived.Test.YtfjhpeijlhlaeaaDoorRh2
import Derived.Test.YtfjhpeijlhlaeaaDoorRg2
import Derived.Test.YtfjhpeijlhlaeaaDoorPi
namespace Go.Proofs.YtfjhpeijlhlaeaaDoor
open Go.RowKit

structure TG where
  a9 : Option Nat
  a10 : Option Nat
  n : Nat
def TJ (l : Array Bool) (G : TG) : Prop := l.getD 4 false = G.a9.isSome ∧ l.getD 5 false = G.a10.isSome ∧ l.getD 6 false = decide (1 ≤ G.n) ∧ l.getD 7 false = decide (2 ≤ G.n)
def pc (x b : Int) : Array Value := #[.int .u32 x, .int .i64 b]
def TB (W : World) (p4 p5 : Nat) (x b y c : Int) (G : TG) (w : World) : Prop :=
  Kept Nothing W w ∧ (∀ a, G.a9 = some a → W.heap.size ≤ a ∧ Blk w a 27 (if 1 ≤ G.n then pc x b else pc 0 0)) ∧
    (∀ a, G.a10 = some a → W.heap.size ≤ a ∧ Blk w a 27 (if 2 ≤ G.n then pc y c else pc 0 0)) ∧ (∀ a a', G.a9 = some a → G.a10 = some a' → a ≠ a') ∧
    (1 ≤ G.n → G.a9.isSome = true) ∧ (2 ≤ G.n → G.a10.isSome = true) ∧ Blk w p4 25 (pc x b) ∧ Blk w p5 25 (pc y c)
def TR (G : TG) (_ : World) (G' : TG) (_ : World) : Prop := (∀ a, G.a9 = some a → G'.a9 = some a) ∧ (∀ a, G.a10 = some a → G'.a10 = some a)
theorem TR.refl (G : TG) (w w' : World) : TR G w G w' := ⟨fun _ h => h, fun _ h => h⟩
def TF (x b y c : Int) : Nat → TG → Value → World → Prop
  | 0, _, v, _ => v = .agg (pc x b)
  | 1, _, v, _ => v = .agg (pc x b)
  | 2, _, v, _ => v = .agg (pc y c)
  | 3, _, v, _ => v = .agg (pc y c)
  | 4, G, v, _ => ∃ a, G.a9 = some a ∧ v = .pointer (some ⟨a, 0, none⟩)
  | 5, G, v, _ => ∃ a, G.a10 = some a ∧ v = .pointer (some ⟨a, 0, none⟩)
  | _, _, _, _ => True
theorem TF.step {x b y c : Int} (k : Nat) (G : TG) (w : World) (G' : TG) (w' : World) (v : Value) (r : TR G w G' w') (h : TF x b y c k G v w) : TF x b y c k G' v w' := by
  unfold TF at h ⊢
  split at h
  all_goals first | exact h | (obtain ⟨a, h1, h2⟩ := h; first | exact ⟨a, r.1 a h1, h2⟩ | exact ⟨a, r.2 a h1, h2⟩) | trivial
theorem TB.kept {W w w' : World} {p4 p5 : Nat} {x b y c : Int} {G : TG} (h : TB W p4 p5 x b y c G w) (k : Kept Nothing w w') : TB W p4 p5 x b y c G w' :=
  ⟨h.1.trans k, fun a e => ⟨(h.2.1 a e).1, (h.2.1 a e).2.kept k (fun x => x)⟩, fun a e => ⟨(h.2.2.1 a e).1, (h.2.2.1 a e).2.kept k (fun x => x)⟩, h.2.2.2.1, h.2.2.2.2.1, h.2.2.2.2.2.1, h.2.2.2.2.2.2.1.kept k (fun x => x), h.2.2.2.2.2.2.2.kept k (fun x => x)⟩
theorem getD_off {listed : Array Bool} {i n : Nat} (hs : listed.size = n) (hi : i < n) (h : listed.getD i true = false) : listed.getD i false = false := by
  have hlt : i < listed.size := by omega
  rw [Array.getD_eq_getD_getElem?, Array.getElem?_eq_getElem hlt] at h ⊢
  exact h
theorem getD_on {listed : Array Bool} {i n : Nat} (hs : listed.size = n) (hi : i < n) : (listed.setIfInBounds i true).getD i false = true := by
  have hlt : i < listed.size := by omega
  simp [hlt]
theorem TJ.other {l : Array Bool} {G : TG} {i : Nat} (h : TJ l G) (hi : i < 4) : TJ (l.setIfInBounds i true) G := by
  unfold TJ at h ⊢
  rw [getD_set_ne false (by omega), getD_set_ne false (by omega), getD_set_ne false (by omega), getD_set_ne false (by omega)]
  exact h
theorem TJ.four {l : Array Bool} {G : TG} (h : TJ l G) (hs : l.size = 8) (h0 : l.getD 4 true = false) (a : Nat) : G.a9 = none ∧ TJ (l.setIfInBounds 4 true) { G with a9 := some a } := by
  have e := getD_off hs (by decide) h0
  unfold TJ at h ⊢
  rw [h.1] at e
  refine ⟨Option.not_isSome_iff_eq_none.1 (by rw [e]; simp), ?_⟩
  rw [getD_on hs (by decide), getD_set_ne false (by omega), getD_set_ne false (by omega), getD_set_ne false (by omega)]
  exact ⟨rfl, h.2⟩
theorem TJ.five {l : Array Bool} {G : TG} (h : TJ l G) (hs : l.size = 8) (h0 : l.getD 5 true = false) (a : Nat) : G.a10 = none ∧ TJ (l.setIfInBounds 5 true) { G with a10 := some a } := by
  have e := getD_off hs (by decide) h0
  unfold TJ at h ⊢
  rw [h.2.1] at e
  refine ⟨Option.not_isSome_iff_eq_none.1 (by rw [e]; simp), ?_⟩
  rw [getD_on hs (by decide), getD_set_ne false (by omega), getD_set_ne false (by omega), getD_set_ne false (by omega)]
  exact ⟨h.1, rfl, h.2.2⟩
theorem TJ.six {l : Array Bool} {G : TG} (h : TJ l G) (hs : l.size = 8) (h0 : l.getD 6 true = false) : G.n = 0 ∧ TJ (l.setIfInBounds 6 true) { G with n := 1 } := by
  have e := getD_off hs (by decide) h0
  unfold TJ at h ⊢
  rw [h.2.2.1] at e
  have hn : G.n = 0 := by
    have : ¬ 1 ≤ G.n := by simpa using e
    omega
  refine ⟨hn, ?_⟩
  rw [getD_on hs (by decide), getD_set_ne false (by omega), getD_set_ne false (by omega), getD_set_ne false (by omega)]
  refine ⟨h.1, h.2.1, rfl, ?_⟩
  rw [h.2.2.2, hn]
  rfl
theorem TJ.seven {l : Array Bool} {G : TG} (h : TJ l G) (hs : l.size = 8) (h0 : l.getD 7 true = false) (h6 : l.getD 6 false = true) : G.n = 1 ∧ TJ (l.setIfInBounds 7 true) { G with n := 2 } := by
  have e := getD_off hs (by decide) h0
  unfold TJ at h ⊢
  rw [h.2.2.2] at e
  have e6 := h6
  rw [h.2.2.1] at e6
  have hn : G.n = 1 := by
    have : ¬ 2 ≤ G.n := by simpa using e
    have : 1 ≤ G.n := by simpa using e6
    omega
  refine ⟨hn, ?_⟩
  rw [getD_on hs (by decide), getD_set_ne false (by omega), getD_set_ne false (by omega), getD_set_ne false (by omega)]
  exact ⟨h.1, h.2.1, h6, rfl⟩
theorem TB.four {W w : World} {p4 p5 : Nat} {x b y c : Int} {G : TG} (h : TB W p4 p5 x b y c G w) (hn : G.a9 = none) : TB W p4 p5 x b y c { G with a9 := some w.heap.size } (w.alloc (.cells (pc 0 0) 27)) := by
  have hk := (Kept.refl Nothing w).alloc (.cells (pc 0 0) 27)
  have h' := h.kept hk
  obtain ⟨_, _, h3, _, h5, h6, h7, h8⟩ := h'
  have n0 : ¬ 1 ≤ G.n := fun e => by have := h5 e; rw [hn] at this; cases this
  refine ⟨h.1.trans hk, fun a e => ?_, h3, fun a a' e e' => ?_, fun _ => rfl, h6, h7, h8⟩
  · injection e with e
    subst e
    refine ⟨h.1.size, ?_⟩
    show Blk _ _ _ (if 1 ≤ G.n then _ else _)
    rw [if_neg n0]
    exact Blk.fresh w _ _
  · injection e with e
    subst e
    have := (h.2.2.1 a' e').2.lt
    omega
theorem TB.five {W w : World} {p4 p5 : Nat} {x b y c : Int} {G : TG} (h : TB W p4 p5 x b y c G w) (hn : G.a10 = none) : TB W p4 p5 x b y c { G with a10 := some w.heap.size } (w.alloc (.cells (pc 0 0) 27)) := by
  have hk := (Kept.refl Nothing w).alloc (.cells (pc 0 0) 27)
  have h' := h.kept hk
  obtain ⟨_, h2, _, _, h5, h6, h7, h8⟩ := h'
  have n0 : ¬ 2 ≤ G.n := fun e => by have := h6 e; rw [hn] at this; cases this
  refine ⟨h.1.trans hk, h2, fun a e => ?_, fun a a' e e' => ?_, h5, fun _ => rfl, h7, h8⟩
  · injection e with e
    subst e
    refine ⟨h.1.size, ?_⟩
    show Blk _ _ _ (if 2 ≤ G.n then _ else _)
    rw [if_neg n0]
    exact Blk.fresh w _ _
  · injection e' with e'
    subst e'
    have := (h.2.1 a e).2.lt
    omega
theorem put_pc {w : World} {g : Nat} {t : TypeId} {u v x b : Int} (h : Blk w g t (pc u v)) : Blk ((w.setCell ⟨g, 0, none⟩ (.int .u32 x)).setCell ⟨g, 1, none⟩ (.int .i64 b)) g t (pc x b) := (h.put 0 _).put 1 _
theorem kept_two {W w : World} {g : Nat} {x b : Value} (k : Kept Nothing W w) (hg : W.heap.size ≤ g) : Kept Nothing W ((w.setCell ⟨g, 0, none⟩ x).setCell ⟨g, 1, none⟩ b) :=
  (k.setCell (p := ⟨g, 0, none⟩) (fun h => absurd h (by simp; omega)) _).setCell (p := ⟨g, 1, none⟩) (fun h => absurd h (by simp; omega)) _
theorem TB.six {W w : World} {p4 p5 : Nat} {x b y c : Int} {G : TG} (h : TB W p4 p5 x b y c G w) (hn : G.n = 0) {a : Nat} (ha : G.a9 = some a) (hp4 : p4 < W.heap.size) (hp5 : p5 < W.heap.size) :
    TB W p4 p5 x b y c { G with n := 1 } ((w.setCell ⟨a, 0, none⟩ (.int .u32 x)).setCell ⟨a, 1, none⟩ (.int .i64 b)) := by
  obtain ⟨h1, h2, h3, h4, h5, h6, h7, h8⟩ := h
  have hb := (h2 a ha).2
  rw [if_neg (by omega)] at hb
  have hw := (h2 a ha).1
  refine ⟨kept_two h1 hw, fun a' e => ?_, fun a' e => ?_, h4, fun _ => by rw [ha]; rfl, fun e => absurd e (by simp), (h7.far (by simp; omega) _).far (by simp; omega) _, (h8.far (by simp; omega) _).far (by simp; omega) _⟩
  · obtain rfl : a = a' := Option.some.inj (ha.symm.trans e)
    exact ⟨hw, put_pc hb⟩
  · have hne := h4 a a' ha e
    have hb' := (h3 a' e).2
    rw [if_neg (by omega)] at hb'
    refine ⟨(h3 a' e).1, ?_⟩
    show Blk _ _ _ (if 2 ≤ 1 then _ else _)
    rw [if_neg (by omega)]
    exact (hb'.far (fun e => hne e.symm) _).far (fun e => hne e.symm) _
theorem TB.seven {W w : World} {p4 p5 : Nat} {x b y c : Int} {G : TG} (h : TB W p4 p5 x b y c G w) (hn : G.n = 1) {a : Nat} (ha : G.a10 = some a) (hp4 : p4 < W.heap.size) (hp5 : p5 < W.heap.size) :
    TB W p4 p5 x b y c { G with n := 2 } ((w.setCell ⟨a, 0, none⟩ (.int .u32 y)).setCell ⟨a, 1, none⟩ (.int .i64 c)) := by
  obtain ⟨h1, h2, h3, h4, h5, h6, h7, h8⟩ := h
  have hb := (h3 a ha).2
  rw [if_neg (by omega)] at hb
  have hw := (h3 a ha).1
  refine ⟨kept_two h1 hw, fun a' e => ?_, fun a' e => ?_, h4, fun _ => h5 (by omega), fun _ => by rw [ha]; rfl, (h7.far (by simp; omega) _).far (by simp; omega) _, (h8.far (by simp; omega) _).far (by simp; omega) _⟩
  · have hne := h4 a' a e ha
    have hb' := (h2 a' e).2
    rw [if_pos (by omega)] at hb'
    refine ⟨(h2 a' e).1, ?_⟩
    show Blk _ _ _ (if 1 ≤ 2 then _ else _)
    rw [if_pos (by omega)]
    exact (hb'.far hne _).far hne _
  · obtain rfl : a = a' := Option.some.inj (ha.symm.trans e)
    exact ⟨hw, put_pc hb⟩
end Go.Proofs.YtfjhpeijlhlaeaaDoor
