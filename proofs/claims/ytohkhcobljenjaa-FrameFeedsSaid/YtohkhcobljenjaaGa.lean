
/-
  What a message's form is: the program's Message.Bytes, one drawn region with seven calls of a writer.
-/
import Derived.Test.YtohkhcobljenjaaFp
import Derived.Test.YtohkhcobljenjaaWt
import Derived.Test.YtohkhcobljenjaaRx
import Derived.Test.YtohkhcobljenjaaIv
import Derived.Deep.DeepCutAuto
import Derived.Deep.CutBlock
import Derived.Outline
namespace Go.Proofs.Ytohkhcobljenjaa
open Go.RowKit

/-- The writer's ghost: how far it is, its blocks, its place. -/
structure WG where
  n : Nat
  F : Nat → Prop
  p : Nat
/-- What is laid at each stage. -/
def layAt (m : Msg) : Nat → WS
  | 0 | 1 => ⟨[], [], 0⟩
  | 2 => (⟨[], [], 0⟩ : WS).lay (List.replicate 16 255)
  | 3 => ((⟨[], [], 0⟩ : WS).lay (List.replicate 16 255)).lay (twos [19 + m.2.length])
  | 4 => (((⟨[], [], 0⟩ : WS).lay (List.replicate 16 255)).lay (twos [19 + m.2.length])).lay [m.1]
  | _ => ((((⟨[], [], 0⟩ : WS).lay (List.replicate 16 255)).lay (twos [19 + m.2.length])).lay [m.1]).lay m.2

def stages : List (Nat × Nat) := [(0, 1), (3, 2), (7, 3), (11, 4), (14, 5)]
def WJ (listed : Array Bool) (G : WG) : Prop := ∀ x ∈ stages, listed.getD x.1 false = decide (x.2 ≤ G.n)
theorem WJ.other {listed : Array Bool} {G G' : WG} {i : Nat} (h : WJ listed G) (hi : ∀ x ∈ stages, x.1 ≠ i) (hn : G'.n = G.n) : WJ (listed.setIfInBounds i true) G' := fun x hx => by
  rw [getD_set_ne false (fun e => hi x hx e.symm), h x hx, hn]
theorem getD_false {listed : Array Bool} {i n : Nat} (hs : listed.size = n) (hi : i < n) (h : listed.getD i true = false) : listed.getD i false = false := by
  have hlt : i < listed.size := by omega
  rw [Array.getD_eq_getD_getElem?, Array.getElem?_eq_getElem hlt] at h ⊢
  exact h
theorem getD_set_self {listed : Array Bool} {i n : Nat} (hs : listed.size = n) (hi : i < n) : (listed.setIfInBounds i true).getD i false = true := by
  have hlt : i < listed.size := by omega
  simp [hlt]
/-- A step of the chain. -/
theorem WJ.next {listed : Array Bool} {G G' : WG} {i m : Nat} (h : WJ listed G) (hs : listed.size = 20) (hi : (i, m + 1) ∈ stages) (h0 : listed.getD i true = false) (hp : m = 0 ∨ ∃ j, (j, m) ∈ stages ∧ listed.getD j false = true) (hn : G'.n = m + 1) : G.n = m ∧ WJ (listed.setIfInBounds i true) G' := by
  have hi20 : i < 20 := by
    simp [stages] at hi
    omega
  have e1 := h _ hi
  rw [getD_false hs hi20 h0] at e1
  have h1 : ¬ (m + 1 ≤ G.n) := by simpa using e1.symm
  have h2 : m ≤ G.n := by
    rcases hp with rfl | ⟨j, hj, hl⟩
    · omega
    · have := h _ hj
      rw [hl] at this
      simpa using this.symm
  have hg : G.n = m := by omega
  refine ⟨hg, fun x hx => ?_⟩
  by_cases hxi : x.1 = i
  · have hx2 : x.2 = m + 1 := by
      simp [stages] at hx hi
      obtain ⟨a, b⟩ := x
      simp only [Prod.mk.injEq] at hx hi hxi ⊢
      omega
    rw [hxi, getD_set_self hs hi20, hn, hx2]
    simp
  · rw [getD_set_ne false (fun e => hxi e.symm), h x hx, hn, hg]
    have : x.2 ≠ m + 1 := by
      simp [stages] at hx hi
      obtain ⟨a, b⟩ := x
      simp only [Prod.mk.injEq] at hx hi hxi ⊢
      omega
    rw [decide_eq_decide]
    omega

def WR (G : WG) (w : World) (G' : WG) (w' : World) : Prop := (1 ≤ G.n → 1 ≤ G'.n ∧ G'.p = G.p) ∧ Kept G.F w w' ∧ Sub w G'.F G.F
def Lies (G : WG) (w : World) (v : Value) (l : List UInt8) : Prop := Bs w v l ∧ Off G.F v
theorem Lies.step {G G' : WG} {w w' : World} {v : Value} {l : List UInt8} (h : Lies G w v l) (r : WR G w G' w') : Lies G' w' v l := ⟨h.1.off r.2.1 h.2, h.2.sub h.1.by r.2.2⟩
def LiesU (G : WG) (w : World) (v : Value) (l : List Nat) : Prop := Us w 58 .u16 v l ∧ (1 ≤ l.length) ∧ ∃ b A c, v = .slice (some ⟨b, A, none⟩) l.length c ∧ ¬ G.F b ∧ b < w.heap.size ∧ ∃ cs f, w.heap[b]? = some (.cells cs 58 f)
def At (G : WG) (v : Value) : Prop := 1 ≤ G.n ∧ v = .pointer (some ⟨G.p, 0, none⟩)

/-- What each operation of the region leaves in its slot. -/
def WF (box : Nat) (m : Msg) (bv : Value) : Nat → WG → Value → World → Prop
  | 0, G, v, _ => At G v
  | 1, G, v, w => Lies G w v [255]
  | 2, G, v, w => Lies G w v (List.replicate 16 255)
  | 3, G, v, _ => At G v
  | 4, _, v, _ => v = .int .i64 (19 + (m.2.length : Int))
  | 5, _, v, _ => v = .int .u16 (19 + (m.2.length : Int))
  | 6, G, v, w => LiesU G w v [19 + m.2.length]
  | 7, G, v, _ => At G v
  | 8, _, v, _ => v = .pointer (some ⟨box, 0, none⟩)
  | 9, _, v, _ => v = .int .u8 (m.1.toNat : Int)
  | 10, G, v, w => Lies G w v [m.1]
  | 11, G, v, _ => At G v
  | 12, _, v, _ => v = .pointer (some ⟨box, 1, none⟩)
  | 13, _, v, _ => v = bv
  | 14, G, v, _ => At G v
  | 15, G, v, w => ∃ x, v = .tuple #[x, .int .i64 0] ∧ Lies G w x (layAt m 5).l
  | 16, G, v, w => Lies G w v (layAt m 5).l
  | 17, _, v, _ => v = .int .i64 0
  | 18, G, v, w => Lies G w v (layAt m 5).l
  | 19, _, v, _ => v = .int .i64 0
  | _, _, _, _ => True
theorem At.step {G G' : WG} {w w' : World} {v : Value} (h : At G v) (r : WR G w G' w') : At G' v := by
  obtain ⟨h1, h2⟩ := r.1 h.1
  exact ⟨h1, by rw [h2]; exact h.2⟩
theorem LiesU.step {G G' : WG} {w w' : World} {v : Value} {l : List Nat} (h : LiesU G w v l) (r : WR G w G' w') : LiesU G' w' v l := by
  obtain ⟨hu, h1, b, o, c, rfl, hf, hb, cs, f, hc⟩ := h
  have hc' := (r.2.1.block b hb hf).trans hc
  refine ⟨?_, h1, b, o, c, rfl, fun x => ?_, Nat.lt_of_lt_of_le hb r.2.1.size, cs, f, hc'⟩
  · obtain ⟨A', c', hv, ha, hm, hr⟩ := hu
    injection hv with e1 e2 e3
    subst e3
    refine ⟨some ⟨b, o, none⟩, c, rfl, ha, hm, fun h0 => ?_⟩
    obtain ⟨b2, o2, cs2, f2, e4, hh, hcs⟩ := hr h0
    rw [← e1] at e4
    injection e4 with e4
    injection e4 with e5 e6
    subst e5 e6
    exact ⟨b, o, cs2, f2, rfl, (r.2.1.block b hb hf).trans hh, hcs⟩
  · rcases r.2.2 b x with y | y
    · exact hf y
    · omega
theorem WF.step {box : Nat} {m : Msg} {bv : Value} (k : Nat) (G : WG) (w : World) (G' : WG) (w' : World) (v : Value) (r : WR G w G' w') (h : WF box m bv k G v w) : WF box m bv k G' v w' := by
  unfold WF at h ⊢
  split at h
  all_goals first | exact At.step h r | exact Lies.step h r | exact LiesU.step h r | exact h | (obtain ⟨x, h1, h2⟩ := h; exact ⟨x, h1, h2.step r⟩) | trivial
theorem WR.refl (G : WG) (w : World) : WR G w G w := ⟨fun h => ⟨h, rfl⟩, Kept.refl _ _, Sub.refl _ _⟩
theorem layAt_all (m : Msg) : ∀ j, (layAt m j).e = 0 ∧ (layAt m j).hs = [] ∧ (layAt m j).l.length ≤ 19 + m.2.length := by
  intro j
  match j with
  | 0 | 1 | 2 | 3 | 4 | n + 5 => simp [layAt, WS.lay, twos, two]; try omega
theorem layAt_done (m : Msg) : (layAt m 5).done = ((layAt m 5).l, 0) := by
  obtain ⟨h1, h2, _⟩ := layAt_all m 5
  unfold WS.done
  rw [if_pos h1, if_pos h2]

theorem own_new {w : World} {base n : Nat} {e : TypeId} {size : Nat} {v : Value} {xs : List Value} (h : w.ownsRow base e size v n xs) : ∀ a n c, v = .slice (some a) n c → base ≤ a.block := fun a n c hv => by
  subst hv
  exact (h.lt a.block rfl).1
end Go.Proofs.Ytohkhcobljenjaa
