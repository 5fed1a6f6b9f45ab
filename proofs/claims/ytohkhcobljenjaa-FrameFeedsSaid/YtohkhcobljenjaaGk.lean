
/-
  The document's Read of chapter 3: what a whole stream tells.
-/
import Derived.Test.YtohkhcobljenjaaGb
import Derived.Test.YtohkhcobljenjaaCb
import Derived.Test.YtohkhcobljenjaaIy
import Derived.BigRegion
import Derived.Laws.BitsLemmas
import Derived.BigQuiet
namespace Go.Proofs.Ytohkhcobljenjaa
open Go.RowKit

theorem full5 {w : World} {p : Nat} {t : TypeId} {a b c d e : Value} (h : Blk w p t #[a, b, c, d, e]) :
    (w.cell? ⟨p, 0, none⟩ = some a ∧ w.cell? ⟨p, 1, none⟩ = some b ∧ w.cell? ⟨p, 2, none⟩ = some c ∧ w.cell? ⟨p, 3, none⟩ = some d ∧ w.cell? ⟨p, 4, none⟩ = some e) ∧ w.frozen? ⟨p, 0, none⟩ = false ∧ w.frozen? ⟨p, 1, none⟩ = false ∧ w.frozen? ⟨p, 2, none⟩ = false ∧ w.frozen? ⟨p, 3, none⟩ = false ∧ w.frozen? ⟨p, 4, none⟩ = false :=
  ⟨⟨h.cell 0, h.cell 1, h.cell 2, h.cell 3, h.cell 4⟩, h.free 0, h.free 1, h.free 2, h.free 3, h.free 4⟩
theorem rm_info : (Try.prog.info? 51).map (fun i => (i.zero, i.size, i.bytes)) = some (some (.agg #[.int .u8 0, .slice none 0 0]), 2, 32) := by kernel_rfl
theorem slice_mid (A : Option Addr) (n c lo hi : Nat) (h1 : lo ≤ hi) (h2 : hi ≤ c) (zl zh : Int) (hl : zl = (lo : Int)) (hh : zh = (hi : Int)) (w : World) :
    (Instr.slice 25 (.slice A n c) (some (.int .i64 zl)) (some (.int .i64 zh)) none).run Try.prog w = .ok (.slice (if c = lo then A else A.map (·.add lo)) (hi - lo) (c - lo)) w := by
  have hz := Try.sizeOf5
  have he : Try.prog.elem 25 = 5 := by kernel_rfl
  subst hl hh
  rw [run_slice_lh w 25 A n c (by kernel_rfl) .i64 .i64 lo hi (by omega) (by omega) (by omega), he, hz]
  simp [sliced]

/-- What lies in memory: the result's box, the stream's (its messages' slice mv), the row lv of messages. -/
structure StM (w : World) (mv lv : Value) (M : List Cp) (xs : List Value) (u : World) : Prop where
  b1 : Blk u w.heap.size 32 #[.slice none 0 0, .int .i64 0, .int .i64 0, .slice none 0 0, .int .i64 0]
  b2 : Blk u (w.heap.size + 1) 32 #[mv, .int .i64 0, .int .i64 0, .slice none 0 0, .int .i64 0]
  own : u.ownsRow (w.heap.size + 1 + 1) 51 2 lv M.length xs
  cells : Cells (By w) xs M
  kept : Kept Nothing w u
theorem StM.old {w u u' : World} {mv lv : Value} {M : List Cp} {xs : List Value} (h : StM w mv lv M xs u) (k : Kept Nothing u u') : StM w mv lv M xs u' :=
  ⟨h.b1.kept k (fun x => x), h.b2.kept k (fun x => x), ow_kept h.own k (fun _ _ x => x), h.cells, h.kept.trans k⟩
theorem StM.push {w u u1 w7 : World} {mv lv v' : Value} {M : List Cp} {xs : List Value} (h : StM w mv lv M xs u) (k0 : Kept Nothing u u1) {c : Cp} {cv : Value}
    (hg : u1.grownBy w7 lv.ownBlock) (ho7 : w7.ownsRow (w.heap.size + 1 + 1) 51 2 v' (M.length + 1) (xs ++ [by8 c.1, cv])) (hc : By w cv c.2) :
    StM w mv v' (M ++ [c]) (xs ++ [by8 c.1, cv]) w7 := by
  have kg : Kept (fun k => lv.ownBlock = some k) u1 w7 := (Kept.refl _ u1).grown hg (fun _ hk _ => hk)
  have o1 := ow_kept h.own k0 (fun _ _ x => x)
  refine ⟨(h.b1.kept k0 (fun x => x)).kept kg (fun e => by have := (o1.lt _ e).1; omega), (h.b2.kept k0 (fun x => x)).kept kg (fun e => by have := (o1.lt _ e).1; omega), by rw [List.length_append]; exact ho7, Cells.snoc hc h.cells, (h.kept.trans k0).grown hg (fun i hi hlt => by have := (h.own.lt i hi).1; omega)⟩
theorem StM.put {w u : World} {mv lv : Value} {M : List Cp} {xs : List Value} (h : StM w mv lv M xs u) : StM w lv lv M xs (u.setCell ⟨w.heap.size + 1, 0, none⟩ lv) :=
  ⟨h.b1.far (by show w.heap.size ≠ w.heap.size + 1; omega) _, h.b2.put 0 lv, ow_kept h.own (Kept.own u _ 0 lv) (ow_far h.own h.b2 (by decide)), h.cells, h.kept.setCell (p := ⟨w.heap.size + 1, 0, none⟩) (fun h => absurd h (by simp)) lv⟩

theorem ga_off {listed : Array Bool} {i n : Nat} (hs : listed.size = n) (hi : i < n) (h : listed.getD i true = false) : listed.getD i false = false := by
  have hlt : i < listed.size := by omega
  rw [Array.getD_eq_getD_getElem?, Array.getElem?_eq_getElem hlt] at h ⊢
  exact h
theorem ga_on {listed : Array Bool} {i n : Nat} (hs : listed.size = n) (hi : i < n) : (listed.setIfInBounds i true).getD i false = true := by
  have hlt : i < listed.size := by omega
  simp [hlt]
theorem ga_mono {l : Array Bool} {i j : Nat} (h : l.getD j false = true) : (l.setIfInBounds i true).getD j false = true := by
  by_cases e : i = j
  · subst e
    have hlt : i < l.size := by
      by_cases hlt : i < l.size
      · exact hlt
      · rw [Array.getD_eq_getD_getElem?, Array.getElem?_eq_none (by omega)] at h; cases h
    exact ga_on rfl hlt
  · rw [getD_set_ne false (fun x => e x)]; exact h
theorem ga_same {l : Array Bool} {i j : Nat} (h : (l.setIfInBounds i true).getD j false = true) (e : i ≠ j) : l.getD j false = true := by
  rwa [getD_set_ne false e] at h
/-- How far the region is: laid, appended, stored; the new list. -/
structure GM3 where
  n : Nat
  v : Value
def GJ3 (l : Array Bool) (G : GM3) : Prop := l.getD 11 false = decide (1 ≤ G.n) ∧ l.getD 12 false = decide (2 ≤ G.n) ∧ l.getD 14 false = decide (3 ≤ G.n) ∧ (l.getD 14 false = true → l.getD 1 false = true)
theorem GJ3.first {l : Array Bool} {G : GM3} (h : GJ3 l G) (hs : l.size = 15) (h0 : l.getD 1 true = false) : G.n < 3 := by
  have e := ga_off hs (by decide) h0
  by_cases hn : 3 ≤ G.n
  · have := h.2.2.2 (by rw [h.2.2.1]; simpa using hn)
    rw [this] at e; cases e
  · omega
theorem GJ3.other {l : Array Bool} {G : GM3} {i : Nat} (h : GJ3 l G) (h1 : i ≠ 11) (h2 : i ≠ 12) (h3 : i ≠ 14) : GJ3 (l.setIfInBounds i true) G := by
  refine ⟨?_, ?_, ?_, fun e => ga_mono (h.2.2.2 (ga_same e h3))⟩
  · rw [getD_set_ne false h1]; exact h.1
  · rw [getD_set_ne false h2]; exact h.2.1
  · rw [getD_set_ne false h3]; exact h.2.2.1
theorem GJ3.alloc {l : Array Bool} {G : GM3} (h : GJ3 l G) (hs : l.size = 15) (h0 : l.getD 11 true = false) : G.n = 0 ∧ ∀ v, GJ3 (l.setIfInBounds 11 true) ⟨1, v⟩ := by
  have e := ga_off hs (by decide) h0
  rw [h.1] at e
  have hn : G.n = 0 := by
    have : ¬ 1 ≤ G.n := by simpa using e
    omega
  refine ⟨hn, fun v => ⟨?_, ?_, ?_, fun e => ga_mono (h.2.2.2 (ga_same e (by decide)))⟩⟩
  · rw [ga_on hs (by decide)]; rfl
  · rw [getD_set_ne false (by decide), h.2.1, hn]; rfl
  · rw [getD_set_ne false (by decide), h.2.2.1, hn]; rfl
theorem GJ3.app {l : Array Bool} {G : GM3} (h : GJ3 l G) (hs : l.size = 15) (h0 : l.getD 12 true = false) (h1 : l.getD 11 false = true) : G.n = 1 ∧ ∀ v, GJ3 (l.setIfInBounds 12 true) ⟨2, v⟩ := by
  have e := ga_off hs (by decide) h0
  rw [h.2.1] at e
  have e1 := h1
  rw [h.1] at e1
  have hn : G.n = 1 := by
    have : ¬ 2 ≤ G.n := by simpa using e
    have : 1 ≤ G.n := by simpa using e1
    omega
  refine ⟨hn, fun v => ⟨?_, ?_, ?_, fun e => ga_mono (h.2.2.2 (ga_same e (by decide)))⟩⟩
  · rw [getD_set_ne false (by decide), h1]; rfl
  · rw [ga_on hs (by decide)]; rfl
  · rw [getD_set_ne false (by decide), h.2.2.1, hn]; rfl
theorem GJ3.store {l : Array Bool} {G : GM3} (h : GJ3 l G) (hs : l.size = 15) (h0 : l.getD 14 true = false) (h1 : l.getD 12 false = true) (h2 : l.getD 1 false = true) : G.n = 2 ∧ ∀ v, GJ3 (l.setIfInBounds 14 true) ⟨3, v⟩ := by
  have e := ga_off hs (by decide) h0
  rw [h.2.2.1] at e
  have e1 := h1
  rw [h.2.1] at e1
  have hn : G.n = 2 := by
    have : ¬ 3 ≤ G.n := by simpa using e
    have : 2 ≤ G.n := by simpa using e1
    omega
  refine ⟨hn, fun v => ⟨?_, ?_, ?_, fun _ => ga_mono h2⟩⟩
  · rw [getD_set_ne false (by decide), h.1, hn]; rfl
  · rw [getD_set_ne false (by decide), h1]; rfl
  · rw [ga_on hs (by decide)]; rfl
def GR3 (G : GM3) (_ : World) (G' : GM3) (_ : World) : Prop := 2 ≤ G.n → 2 ≤ G'.n ∧ G'.v = G.v
def GB3 (w wr : World) (mv : Value) (M : List Cp) (c : Cp) (cv : Value) (xs : List Value) (G : GM3) (u : World) : Prop :=
  (G.n = 0 → u = wr.drew) ∧ (G.n = 1 → u = wr.drew.alloc (.cells #[by8 c.1, cv] 51)) ∧ (G.n = 2 → StM w mv G.v (M ++ [c]) (xs ++ [by8 c.1, cv]) u) ∧ (3 ≤ G.n → StM w G.v G.v (M ++ [c]) (xs ++ [by8 c.1, cv]) u) ∧ (G.n < 3 → Blk u (w.heap.size + 1) 32 #[mv, .int .i64 0, .int .i64 0, .slice none 0 0, .int .i64 0])
theorem GB3.alloc {w wr u : World} {mv cv : Value} {M : List Cp} {c : Cp} {xs : List Value} {G : GM3} (h : GB3 w wr mv M c cv xs G u) (hn : G.n = 0) : GB3 w wr mv M c cv xs ⟨1, undef⟩ (wr.drew.alloc (.cells #[by8 c.1, cv] 51)) := by
  have e := h.1 hn
  subst e
  exact ⟨fun e => absurd (show 1 = 0 from e) (by decide), fun _ => rfl, fun e => absurd (show 1 = 2 from e) (by decide), fun e => absurd (show 3 ≤ 1 from e) (by decide), fun _ => (h.2.2.2.2 (by omega)).alloc _⟩
theorem GB3.app {w wr w7 : World} {mv cv v' : Value} {M : List Cp} {c : Cp} {xs : List Value} (hs : StM w mv mv M xs wr)
    (hg : (wr.drew.alloc (.cells #[by8 c.1, cv] 51)).grownBy w7 mv.ownBlock) (ho : w7.ownsRow (w.heap.size + 1 + 1) 51 2 v' (M.length + 1) (xs ++ [by8 c.1, cv])) (hc : By w cv c.2) :
    GB3 w wr mv M c cv xs ⟨2, v'⟩ w7 := by
  have h := hs.push (((Kept.refl Nothing wr).drew).alloc _) hg ho hc
  exact ⟨fun e => absurd (show 2 = 0 from e) (by decide), fun e => absurd (show 2 = 1 from e) (by decide), fun _ => h, fun e => absurd (show 3 ≤ 2 from e) (by decide), fun _ => h.b2⟩
theorem GB3.store {w wr u : World} {mv cv v' : Value} {M : List Cp} {c : Cp} {xs : List Value} (h : StM w mv v' (M ++ [c]) (xs ++ [by8 c.1, cv]) u) :
    GB3 w wr mv M c cv xs ⟨3, v'⟩ (u.setCell ⟨w.heap.size + 1, 0, none⟩ v') :=
  ⟨fun e => absurd (show 3 = 0 from e) (by decide), fun e => absurd (show 3 = 1 from e) (by decide), fun e => absurd (show 3 = 2 from e) (by decide), fun _ => h.put, fun e => absurd (show 3 < 3 from e) (by decide)⟩
def GF3 (L : List Value) (k : Nat) (G : GM3) (v : Value) (_ : World) : Prop := if k = 12 then (2 ≤ G.n ∧ v = G.v) else if k = 14 then True else ∀ x, L[k]? = some x → v = x
theorem gf_v {L : List Value} {G : GM3} {v : Value} {w : World} (h : GF3 L 12 G v w) : 2 ≤ G.n ∧ v = G.v := h
theorem gf_mv {L : List Value} {v' v : Value} {w : World} (h : v = v') : GF3 L 12 ⟨2, v'⟩ v w := ⟨Nat.le_refl 2, h⟩
theorem gf_val {L : List Value} {k : Nat} {G : GM3} {v : Value} {w : World} (hk : k ≠ 12) (hk2 : k ≠ 14) (h : GF3 L k G v w) : ∀ x, L[k]? = some x → v = x := by
  unfold GF3 at h
  rwa [if_neg hk, if_neg hk2] at h
theorem gf_mk {L : List Value} {k : Nat} {G : GM3} {v : Value} {w : World} (hk : k ≠ 12) (hk2 : k ≠ 14) (hL : L[k]? = some v) : GF3 L k G v w := by
  unfold GF3
  rw [if_neg hk, if_neg hk2]
  exact fun x hx => Option.some.inj (hL.symm.trans hx)
theorem GF3.step {L : List Value} (k : Nat) (G : GM3) (w : World) (G' : GM3) (w' : World) (v : Value) (r : GR3 G w G' w') (h : GF3 L k G v w) : GF3 L k G' v w' := by
  unfold GF3 at h ⊢
  split
  · next e => rw [if_pos e] at h; obtain ⟨h1, h2⟩ := r h.1; exact ⟨h1, by rw [h2]; exact h.2⟩
  · next e => rw [if_neg e] at h; exact h
def gk_l (w wr : World) (b : List UInt8) (A : Option Addr) (c a n : Nat) (t : UInt8) (M : List Cp) (A5 : Option Addr) (c5 : Nat) (PA : Option Addr) (pn pc : Nat) : List Value := [.pointer (some ⟨w.heap.size + 1, 0, none⟩), .slice A5 M.length c5, .int .u8 (t.toNat : Int), .slice A b.length c, .int .i64 (a : Int), .int .i64 ((a : Int) + 19), .int .i64 (a : Int), .int .i64 (n : Int), .int .i64 ((a : Int) + (n : Int)), .slice PA pn pc, .agg #[.int .u8 (t.toNat : Int), .slice PA pn pc], .slice (some ⟨wr.heap.size, 0, none⟩) 1 1, undef, .pointer (some ⟨w.heap.size + 1, 0, none⟩), undef]
theorem By.at {w : World} {A : Option Addr} {n c : Nat} {l : List UInt8} (h : By w (.slice A n c) l) (h0 : 0 < n) : ∃ b o, A = some ⟨b, o, none⟩ ∧ ∀ i, i < n → w.cell? ⟨b, o + i, none⟩ = some (by8 (l.getD i 0)) := by
  obtain ⟨A', c', hv, _, _, hs⟩ := h
  injection hv with h1 h2 h3
  subst h1 h2 h3
  cases A with
  | none => have := hs.2.1 rfl; omega
  | some a =>
    have h1 : ∀ i, i < l.length → w.cell? (a.add i) = some (by8 (l.getD i 0)) := fun i hi => hs.2.2.1 a rfl i _ (getD_bys l i hi)
    obtain ⟨b, o, spot⟩ := a
    have hsp : spot = none := by simpa [Addr.add] using World.cell?_spot (h1 0 h0)
    subst hsp
    exact ⟨b, o, rfl, fun i hi => by have := h1 i hi; rwa [add_none] at this⟩
theorem drop_getD (b : List UInt8) (a i : Nat) : (b.drop a).getD i 0 = b.getD (a + i) 0 := by
  simp only [List.getD_eq_getElem?_getD, List.getElem?_drop]
theorem marked_of {d : List UInt8} (hd : 16 ≤ d.length) (h : ∀ i, i < 16 → d.getD i 0 = 255) : Fr.marked d = true := by
  unfold Fr.marked
  rw [beq_iff_eq]
  refine List.ext_getElem (by simp; omega) (fun i h1 h2 => ?_)
  rw [List.getElem_take, List.getElem_replicate]
  have hi : i < 16 := by simp at h2; exact h2
  have := h i hi
  rwa [List.getD_eq_getElem?_getD, List.getElem?_eq_getElem (by omega), Option.getD_some] at this
theorem unmarked_of {d : List UInt8} {i : Nat} (hi : i < 16) (_ : 16 ≤ d.length) (h : d.getD i 0 ≠ 255) : Fr.judge d = (1, []) := by
  have : Fr.marked d = false := by
    cases hm : Fr.marked d with
    | false => rfl
    | true =>
      unfold Fr.marked at hm
      rw [beq_iff_eq] at hm
      have h2 := congrArg (fun l => l.getD i 0) hm
      simp only [List.getD_eq_getElem?_getD, List.getElem?_take_of_lt hi, List.getElem?_replicate, hi, if_true, Option.getD_some] at h2
      rw [List.getD_eq_getElem?_getD] at h
      exact absurd h2 h
  unfold Fr.judge
  rw [if_pos this]

theorem kept3_5 {w : World} {p : Nat} (a0 a1 a2 a3 a4 : Value) : Kept (Only p) w (((((w.setCell ⟨p, 0, none⟩ a0).setCell ⟨p, 1, none⟩ a1).setCell ⟨p, 2, none⟩ a2).setCell ⟨p, 3, none⟩ a3).setCell ⟨p, 4, none⟩ a4) :=
  ((((Kept.own w p 0 a0).trans (Kept.own _ p 1 a1)).trans (Kept.own _ p 2 a2)).trans (Kept.own _ p 3 a3)).trans (Kept.own _ p 4 a4)
theorem fin3_5 {w : World} {p : Nat} {t : TypeId} {x0 x1 x2 x3 x4 : Value} (h : Blk w p t #[x0, x1, x2, x3, x4]) (a0 a1 a2 a3 a4 : Value) :
    (((((w.setCell ⟨p, 0, none⟩ a0).setCell ⟨p, 1, none⟩ a1).setCell ⟨p, 2, none⟩ a2).setCell ⟨p, 3, none⟩ a3).setCell ⟨p, 4, none⟩ a4).cell? ⟨p, 0, none⟩ = some a0 ∧
    (((((w.setCell ⟨p, 0, none⟩ a0).setCell ⟨p, 1, none⟩ a1).setCell ⟨p, 2, none⟩ a2).setCell ⟨p, 3, none⟩ a3).setCell ⟨p, 4, none⟩ a4).cell? ⟨p, 1, none⟩ = some a1 ∧
    (((((w.setCell ⟨p, 0, none⟩ a0).setCell ⟨p, 1, none⟩ a1).setCell ⟨p, 2, none⟩ a2).setCell ⟨p, 3, none⟩ a3).setCell ⟨p, 4, none⟩ a4).cell? ⟨p, 2, none⟩ = some a2 ∧
    (((((w.setCell ⟨p, 0, none⟩ a0).setCell ⟨p, 1, none⟩ a1).setCell ⟨p, 2, none⟩ a2).setCell ⟨p, 3, none⟩ a3).setCell ⟨p, 4, none⟩ a4).cell? ⟨p, 3, none⟩ = some a3 ∧
    (((((w.setCell ⟨p, 0, none⟩ a0).setCell ⟨p, 1, none⟩ a1).setCell ⟨p, 2, none⟩ a2).setCell ⟨p, 3, none⟩ a3).setCell ⟨p, 4, none⟩ a4).cell? ⟨p, 4, none⟩ = some a4 :=
  have hb := ((((h.put 0 a0).put 1 a1).put 2 a2).put 3 a3).put 4 a4
  ⟨hb.cell 0, hb.cell 1, hb.cell 2, hb.cell 3, hb.cell 4⟩

/-- What the document's Read tells of a stream. -/
def RdPost (w : World) (b : List UInt8) (e : Ending) (w' : World) : Prop :=
  ∃ mv dv, e = .returned (.agg #[mv, .int .i64 (codeOf (Fr.run b).2.s), .int .i64 ((Fr.run b).2.s : Int), dv, .int .i64 ((Fr.run b).2.l.length : Int)]) ∧ Cps w' mv (Fr.run b).1 ∧ By w' dv (Fr.run b).2.d ∧ Kept Nothing w w'
/-- How far it is. -/
def Rd3 (b : List UInt8) (a : Nat) (M : List Cp) : Prop := a ≤ b.length ∧ M.length ≤ a ∧ Fr.run b = (M ++ (Fr.run (b.drop a)).1, (Fr.run (b.drop a)).2)
theorem Rd3.start (b : List UInt8) : Rd3 b 0 [] := ⟨Nat.zero_le _, Nat.le_refl _, by simp⟩
theorem Rd3.next {b : List UInt8} {a : Nat} {M : List Cp} (h : Rd3 b a M) (hj : (Fr.judge (b.drop a)).1 = 0) (hl : Fr.len (b.drop a) ≤ (b.drop a).length) :
    Rd3 b (a + Fr.len (b.drop a)) (M ++ [(Fr.kind (b.drop a), (b.drop (a + 19)).take (Fr.len (b.drop a) - 19))]) := by
  obtain ⟨h1, h2, h3⟩ := h
  have hs := Fr.run_step hj hl
  have h19 := (Fr.judge_zero hj).2.2.1
  have hd := List.length_drop (i := a) (l := b)
  refine ⟨by omega, by simp; omega, ?_⟩
  rw [h3, hs, List.drop_drop, List.drop_take, List.drop_drop]
  simp
/-- The end: what is kept. -/
theorem rd_end {w u : World} {mv : Value} {M : List Cp} {xs : List Value} {b : List UInt8} {s : Nat} {dv : Value} {d l : List UInt8} (hc : Cells (By w) xs M) (ho : u.ownsRow (w.heap.size + 1 + 1) 51 2 mv M.length xs) (hk : Kept Nothing w u)
    (hr : Fr.run b = (M, ⟨l, s, d⟩)) (hd : By u dv d) (zw z zs : Int) (hn : (l.length : Int) = zw) (hz : codeOf s = z) (hzs : (s : Int) = zs) :
    RdPost w b (.returned (.agg #[mv, .int .i64 z, .int .i64 zs, dv, .int .i64 zw])) u := by
  subst hz hzs hn
  exact ⟨mv, dv, by rw [hr], by rw [hr]; exact Cps.of_own ho (hc.mono (fun v l h0 => h0.old hk)), by rw [hr]; exact hd, hk⟩
theorem StM.fin {w u u' : World} {mv lv : Value} {M : List Cp} {xs : List Value} (h : StM w mv lv M xs u) (k : Kept (fun k => k = w.heap.size ∨ k = w.heap.size + 1) u u') :
    u'.ownsRow (w.heap.size + 1 + 1) 51 2 lv M.length xs ∧ Kept Nothing w u' := by
  refine ⟨ow_kept h.own k (fun g hg => ?_), h.kept.trans_new k (fun i hi x => ?_)⟩
  · rintro (e | e)
    · exact ow_far h.own h.b1 (by decide) g hg e
    · exact ow_far h.own h.b2 (by decide) g hg e
  · rcases x with e | e <;> omega
theorem Rd3.bad {b : List UInt8} {a : Nat} {M : List Cp} (h : Rd3 b a M) {s : Nat} {dd : List UInt8} (hj : Fr.judge (b.drop a) = (s, dd)) (hs : s ≠ 0) (h19 : a + 19 ≤ b.length) : Fr.run b = (M, ⟨[], s, dd⟩) := by
  have := Fr.run_bad (b := b.drop a) (by simp; omega) (by rw [hj]; exact hs)
  rw [h.2.2, this, hj]
  simp
theorem Rd3.ends {b : List UInt8} {a : Nat} {M : List Cp} (h : Rd3 b a M) (h19 : b.length < a + 19) : Fr.run b = (M, ⟨b.drop a, 0, []⟩) := by
  rw [h.2.2, Fr.run_short (by simp; omega)]
  simp
theorem Rd3.waits {b : List UInt8} {a : Nat} {M : List Cp} (h : Rd3 b a M) (hj : (Fr.judge (b.drop a)).1 = 0) (h19 : a + 19 ≤ b.length) (hl : b.length < a + Fr.len (b.drop a)) : Fr.run b = (M, ⟨b.drop a, 0, []⟩) := by
  rw [h.2.2, Fr.run_wait (by simp; omega) hj (by simp; omega)]
  simp

/-- A fault told: its subcode s, its data dv. -/
structure StB (w : World) (mv : Value) (M : List Cp) (xs : List Value) (s : Int) (dv : Value) (u : World) : Prop where
  b1 : Blk u w.heap.size 32 #[.slice none 0 0, .int .i64 0, .int .i64 0, .slice none 0 0, .int .i64 0]
  b2 : Blk u (w.heap.size + 1) 32 #[mv, .int .i64 1, .int .i64 s, dv, .int .i64 0]
  own : u.ownsRow (w.heap.size + 1 + 1) 51 2 mv M.length xs
  cells : Cells (By w) xs M
  kept : Kept Nothing w u
  new : ∀ a n c, dv = .slice (some a) n c → w.heap.size + 1 < a.block
theorem StM.fault {w u : World} {mv : Value} {M : List Cp} {xs : List Value} (h : StM w mv mv M xs u) (s : Int) : StB w mv M xs s (.slice none 0 0) ((u.setCell ⟨w.heap.size + 1, 1, none⟩ (.int .i64 1)).setCell ⟨w.heap.size + 1, 2, none⟩ (.int .i64 s)) := by
  have k := (Kept.own u (w.heap.size + 1) 1 (.int .i64 1)).trans (Kept.own _ (w.heap.size + 1) 2 (.int .i64 s))
  have hF := h.fin (k.mono (fun k (e : k = w.heap.size + 1) => Or.inr e))
  exact ⟨(h.b1.far (p := ⟨w.heap.size + 1, 1, none⟩) (by show w.heap.size ≠ w.heap.size + 1; omega) _).far (p := ⟨w.heap.size + 1, 2, none⟩) (by show w.heap.size ≠ w.heap.size + 1; omega) _, (h.b2.put 1 _).put 2 _, hF.1, h.cells, hF.2, fun a n c e => by cases e⟩
theorem StB.data {w u u1 : World} {mv : Value} {M : List Cp} {xs : List Value} {s : Int} (h : StB w mv M xs s (.slice none 0 0) u) (k0 : Kept Nothing u u1) (l : List UInt8) (n : Nat) (hl : l.length = n) (h1 : n ≤ 2) (cs : Array Value) (hcs : cs = (bys l).toArray) :
    StB w mv M xs s (.slice (some ⟨u1.heap.size, 0, none⟩) n n) ((u1.setCell ⟨w.heap.size + 1, 3, none⟩ (.slice (some ⟨u1.heap.size, 0, none⟩) n n)).alloc (.cells cs 5)) ∧
    By ((u1.setCell ⟨w.heap.size + 1, 3, none⟩ (.slice (some ⟨u1.heap.size, 0, none⟩) n n)).alloc (.cells cs 5)) (.slice (some ⟨u1.heap.size, 0, none⟩) n n) l := by
  subst hl hcs
  have b2 := h.b2.kept k0 (fun x => x)
  have hlt := b2.lt
  have b1 := (h.b1.kept k0 (fun x => x)).far (p := ⟨w.heap.size + 1, 3, none⟩) (by show w.heap.size ≠ w.heap.size + 1; omega) (.slice (some ⟨u1.heap.size, 0, none⟩) l.length l.length)
  have own := ow_kept (ow_kept h.own k0 (fun _ _ x => x)) (Kept.own _ (w.heap.size + 1) 3 (.slice (some ⟨u1.heap.size, 0, none⟩) l.length l.length)) (ow_far (ow_kept h.own k0 (fun _ _ x => x)) b2 (by decide))
  have hk := (h.kept.trans k0).setCell (p := ⟨w.heap.size + 1, 3, none⟩) (fun h => absurd h (by simp)) (.slice (some ⟨u1.heap.size, 0, none⟩) l.length l.length)
  have b2 := b2.put 3 (.slice (some ⟨u1.heap.size, 0, none⟩) l.length l.length)
  have hsz : (u1.setCell ⟨w.heap.size + 1, 3, none⟩ (.slice (some ⟨u1.heap.size, 0, none⟩) l.length l.length)).heap.size = u1.heap.size := by simp
  generalize u1.setCell ⟨w.heap.size + 1, 3, none⟩ (.slice (some ⟨u1.heap.size, 0, none⟩) l.length l.length) = u2 at *
  have hd := Blk.fresh u2 5 (bys l).toArray
  rw [hsz] at hd
  refine ⟨⟨b1.alloc _, b2.alloc _, ow_kept own ((Kept.refl Nothing _).alloc _) (fun _ _ x => x), h.cells, hk.alloc _, fun a n c e => ?_⟩, ?_⟩
  · injection e with e
    injection e with e
    subst e
    exact hlt
  · refine Bs.by ⟨_, _, rfl, Nat.le_refl _, by simp [maxLen]; omega, fun h0 => ⟨_, _, _, _, rfl, hd, fun i hi => ?_⟩⟩
    rw [Nat.zero_add, ← getD_bys l i hi]
    simp
theorem StB.drew {w u : World} {mv : Value} {M : List Cp} {xs : List Value} {s : Int} {dv : Value} (h : StB w mv M xs s dv u) : StB w mv M xs s dv u.drew :=
  ⟨h.b1.drew, h.b2.drew, ow_kept h.own ((Kept.refl Nothing u).drew) (fun _ _ x => x), h.cells, h.kept.drew, h.new⟩
theorem StB.ends {w u : World} {mv : Value} {M : List Cp} {xs : List Value} {b d : List UInt8} {s : Nat} {z : Int} {dv : Value} (h : StB w mv M xs z dv u) (hz : (s : Int) = z) (hs : s ≠ 0) (hd : By u dv d) (hr : Fr.run b = (M, ⟨[], s, d⟩)) :
    RdPost w b (.returned (.agg #[mv, .int .i64 1, .int .i64 z, dv, .int .i64 0])) (((((u.setCell ⟨w.heap.size, 0, none⟩ mv).setCell ⟨w.heap.size, 1, none⟩ (.int .i64 1)).setCell ⟨w.heap.size, 2, none⟩ (.int .i64 z)).setCell ⟨w.heap.size, 3, none⟩ dv).setCell ⟨w.heap.size, 4, none⟩ (.int .i64 0)) := by
  have k := kept3_5 (w := u) (p := w.heap.size) mv (.int .i64 1) (.int .i64 z) dv (.int .i64 0)
  refine rd_end h.cells (ow_kept h.own k (ow_far h.own h.b1 (by decide))) (h.kept.trans_new k (fun i hi (x : i = w.heap.size) => by omega)) hr ?_ _ _ _ rfl (if_neg hs) hz
  obtain ⟨A, c, rfl, _, _⟩ := hd.form
  refine hd.kept k (fun a e _ (x : a.block = w.heap.size) => ?_)
  subst e
  have := h.new a _ _ rfl
  omega

set_option maxRecDepth 20000 in
set_option maxHeartbeats 8000000 in
theorem rr3_read (v : Value) (b : List UInt8) (w : World) (hv : By w v b) (hb : b.length ≤ 1000000) :
    Calls Try.prog 9 #[v] w (RdPost w b) := by
  obtain ⟨A, c, rfl, hc, hm⟩ := hv.form
  obtain ⟨i0, hi, hz0, hz1, hz2⟩ := info_parts rm_info
  have HV := Lib.hid hv
  clear hv
  unfold maxLen at hm
  go_enter Try.func9, Try.ntmps9
  go_wp2
  go_loopw [4] (fun at_ wr => ∃ (a : Nat) (M : List Cp) (mv : Value) (xs : List Value), at_ = .int .i64 (a : Int) ∧ Hid (Rd3 b a M) ∧ Hid (StM w mv mv M xs wr)) (fun at_ _ => b.length - (intOf at_).toNat)
  case atStart =>
    refine ⟨0, [], .slice none 0 0, [], rfl, Lib.hid (Rd3.start b), Lib.hid ⟨(Blk.fresh w _ _).alloc _, ?_, World.ownsRow_nil _ _ _ _, trivial, ((Kept.refl _ w).alloc _).alloc _⟩⟩
    have := Blk.fresh (w.alloc (.cells #[.slice none 0 0, .int .i64 0, .int .i64 0, .slice none 0 0, .int .i64 0] 32)) 32 #[.slice none 0 0, .int .i64 0, .int .i64 0, .slice none 0 0, .int .i64 0]
    rwa [World.size_alloc] at this
  case round =>
    obtain ⟨a, M, mv, xs, rfl, HR, HS⟩ := hrel
    have ha := HR.out.1
    have hMa := HR.out.2.1
    obtain ⟨A5, c5, rfl, hn5, hm5⟩ := ow_form HS.out.own
    obtain ⟨⟨p0, p1, p2, p3, p4⟩, f0, f1, f2, f3, f4⟩ := full5 HS.out.b2
    obtain ⟨⟨t0, t1, t2, t3, t4⟩, g0, g1, g2, g3, g4⟩ := full5 HS.out.b1
    have hbl := HS.out.b2.lt
    have hai : (0 : Int) ≤ (a : Int) := by omega
    by_cases h19 : a + 19 ≤ b.length
    · have h19i : (a : Int) + 19 ≤ (b.length : Int) := by omega
      obtain ⟨bk, o, rfl, hcell⟩ := HV.out.at (by omega)
      have HC := Lib.hid (fun i (h : i < b.length) => HS.out.kept.cell_some (hcell i h) (fun x => x))
      have HC0 := Lib.hid hcell
      clear hcell
      have hdl := List.length_drop (i := a) (l := b)
      go_wp2
      go_loopw [5] (fun i_ wq => ∃ (i : Nat), i ≤ 16 ∧ i_ = .int .i64 (i : Int) ∧ Hid (∀ j, j < i → (b.drop a).getD j 0 = 255) ∧ wr = wq) (fun i_ _ => 16 - (intOf i_).toNat)
      case atStart => exact ⟨0, by omega, rfl, Lib.hid (fun j hj => absurd hj (Nat.not_lt_zero _)), rfl⟩
      case round =>
        obtain ⟨i, hi16, rfl, HM, rfl⟩ := hrel
        by_cases hlt : i < 16
        · have hlti : (i : Int) < 16 := by omega
          obtain ⟨p, hp⟩ : ∃ p : Nat, a + i = p := ⟨_, rfl⟩
          have hpi : (a : Int) + (i : Int) = (p : Int) := by omega
          have cc := HC.out p (by omega)
          have hpb : (p : Int) < (b.length : Int) := by omega
          have hx : (b.drop a).getD i 0 = b.getD p 0 := by rw [drop_getD, hp]
          have hxl := (b.getD p 0).toNat_lt
          generalize b.getD p 0 = x at cc hx hxl
          have cc2 : wr.cell? ⟨bk, o + p, none⟩ = some (.int .u8 (x.toNat : Int)) := cc
          clear cc hp
          by_cases h255 : x = 255
          · subst h255
            have HX := Lib.hid hx
            clear hx hxl
            go_wp2
            refine ⟨⟨i + 1, by omega, by go_num, Lib.hid (fun j hj => ?_), trivial⟩, by simp [intOf]; omega⟩
            by_cases hji : j = i
            · subst hji; exact HX.out
            · exact HM.out j (by omega)
          · have hne : ((x.toNat : Int) == 255) = false := by
              simp only [beq_eq_false_iff_ne, ne_eq]
              intro e
              exact h255 (UInt8.toNat_inj.1 (by have h : (255 : UInt8).toNat = 255 := rfl; omega))
            have HX := Lib.hid (fun e => h255 (hx.symm.trans e))
            clear hx hxl h255
            have hB := Lib.hid (HR.out.bad (unmarked_of hlt (by omega) HX.out) (by decide) h19)
            have q1 := (HS.out.b1.far (p := ⟨w.heap.size + 1, 1, none⟩) (by show w.heap.size ≠ w.heap.size + 1; omega) (.int .i64 1)).far (p := ⟨w.heap.size + 1, 2, none⟩) (by show w.heap.size ≠ w.heap.size + 1; omega) (.int .i64 1)
            have HQ := Lib.hid q1
            clear q1
            go_wp2
            have hF := StM.fin HS.out ((((Kept.own wr (w.heap.size + 1) 1 (.int .i64 1)).trans (Kept.own _ (w.heap.size + 1) 2 (.int .i64 1))).mono (fun k (e : k = w.heap.size + 1) => Or.inr e)).trans ((kept3_5 (p := w.heap.size) (.slice A5 M.length c5) (.int .i64 1) (.int .i64 1) (.slice none 0 0) (.int .i64 0)).mono (fun k (e : k = w.heap.size) => Or.inl e)))
            obtain ⟨y0, y1, y2, y3, y4⟩ := fin3_5 HQ.out (.slice A5 M.length c5) (.int .i64 1) (.int .i64 1) (.slice none 0 0) (.int .i64 0)
            exact bodyPost_ret (v := .agg #[.slice A5 M.length c5, .int .i64 1, .int .i64 1, .slice none 0 0, .int .i64 0]) (by simp [results, Try.results9, go_sem, y0, y1, y2, y3, y4]) rfl (rd_end HS.out.cells hF.1 hF.2 hB.out (Bs.nil _).by _ _ _ rfl rfl rfl)
        · obtain rfl : i = 16 := by omega
          go_wp2
          have hmk := marked_of (d := b.drop a) (by omega) HM.out
          have cx := HC.out (a + 16) (by omega)
          have cy := HC.out (a + 17) (by omega)
          have ct := HC.out (a + 18) (by omega)
          have hLN : Fr.len (b.drop a) = 256 * (b.getD (a + 16) 0).toNat + (b.getD (a + 17) 0).toNat := by unfold Fr.len; rw [drop_getD, drop_getD]
          have hKD : Fr.kind (b.drop a) = b.getD (a + 18) 0 := by unfold Fr.kind; rw [drop_getD]
          have hJU : Fr.judge (b.drop a) = if Fr.len (b.drop a) < 19 ∨ 4096 < Fr.len (b.drop a) then (2, [b.getD (a + 16) 0, b.getD (a + 17) 0]) else if (Fr.kind (b.drop a)).toNat < 1 ∨ 5 < (Fr.kind (b.drop a)).toNat then (3, [Fr.kind (b.drop a)]) else if Fr.fits (Fr.kind (b.drop a)).toNat (Fr.len (b.drop a)) = false then (2, [b.getD (a + 16) 0, b.getD (a + 17) 0]) else (0, []) := by
            unfold Fr.judge
            rw [if_neg (by rw [hmk]; simp), drop_getD, drop_getD]
          have HNX := Lib.hid (fun h1 h2 => HR.out.next (a := a) h1 h2)
          have HBD := Lib.hid (fun s dd h1 h2 => HR.out.bad (s := s) (dd := dd) h1 h2 h19)
          have HWT := Lib.hid (fun h1 h2 => HR.out.waits h1 h19 h2)
          have hxl := (b.getD (a + 16) 0).toNat_lt
          have hyl := (b.getD (a + 17) 0).toNat_lt
          have htl := (b.getD (a + 18) 0).toNat_lt
          rw [hKD] at hJU HNX
          have hcx := HC0.out (a + 16) (by omega)
          have hcy := HC0.out (a + 17) (by omega)
          generalize b.getD (a + 16) 0 = x at *
          generalize b.getD (a + 17) 0 = y at *
          generalize b.getD (a + 18) 0 = t at *
          obtain ⟨p, hp⟩ : ∃ p : Nat, a + 16 = p := ⟨_, rfl⟩
          obtain ⟨q, hq⟩ : ∃ q : Nat, a + 17 = q := ⟨_, rfl⟩
          obtain ⟨r, hr⟩ : ∃ r : Nat, a + 18 = r := ⟨_, rfl⟩
          rw [hp] at cx hcx
          rw [hq] at cy hcy
          have HCX := Lib.hid hcx
          have HCY := Lib.hid hcy
          clear hcx hcy
          rw [hr] at ct
          have hpi : (a : Int) + 16 = (p : Int) := by omega
          have hqi : (a : Int) + 17 = (q : Int) := by omega
          have hri : (a : Int) + 18 = (r : Int) := by omega
          have hpb : (p : Int) < (b.length : Int) := by omega
          have hqb : (q : Int) < (b.length : Int) := by omega
          have hrb : (r : Int) < (b.length : Int) := by omega
          replace cx : wr.cell? ⟨bk, o + p, none⟩ = some (.int .u8 (x.toNat : Int)) := cx
          replace cy : wr.cell? ⟨bk, o + q, none⟩ = some (.int .u8 (y.toNat : Int)) := cy
          replace ct : wr.cell? ⟨bk, o + r, none⟩ = some (.int .u8 (t.toNat : Int)) := ct
          generalize Fr.len (b.drop a) = n at *
          have hni : 256 * (x.toNat : Int) + (y.toNat : Int) = (n : Int) := by omega
          have HJ := Lib.hid hJU
          have hxi : (0 : Int) ≤ (x.toNat : Int) := by omega
          have hyi : (0 : Int) ≤ (y.toNat : Int) := by omega
          have HLN := Lib.hid hLN
          clear hp hq hr hJU hKD hmk HM hLN
          by_cases hsh : n < 19 ∨ 4096 < n
          · have hBE := Lib.hid (HBD.out 2 [x, y] (HJ.out.trans (if_pos hsh)) (by decide))
            clear HBD HNX HWT HJ
            by_cases hn19 : (n : Int) < 19
            · clear hsh
              go_quiet (fail)
              go_upto_region 22 with fail
              have hB := (HS.out.old ((Kept.refl Nothing wr).drewN nq)).fault 2
              generalize ((wr.drewN nq).setCell ⟨w.heap.size + 1, 1, none⟩ (.int .i64 1)).setCell ⟨w.heap.size + 1, 2, none⟩ (.int .i64 2) = W2 at hB ⊢
              have cx2 : W2.cell? ⟨bk, o + p, none⟩ = some (.int .u8 (x.toNat : Int)) := hB.kept.cell_some HCX.out (fun x => x)
              have cy2 : W2.cell? ⟨bk, o + q, none⟩ = some (.int .u8 (y.toNat : Int)) := hB.kept.cell_some HCY.out (fun x => x)
              clear HS p0 p1 p2 p3 p4 f0 f1 f2 f3 f4 t0 t1 t2 t3 t4 g0 g1 g2 g3 g4 cx cy ct hbl HC
              obtain ⟨⟨p0, p1, p2, p3, p4⟩, f0, f1, f2, f3, f4⟩ := full5 hB.b2
              have hbl := hB.b2.lt
              have HB := Lib.hid hB
              clear hB
              go_region
              obtain ⟨hB3, hD3⟩ := HB.out.data (Kept.refl Nothing W2) [x, y] 2 rfl (by omega) #[.int .u8 (x.toNat : Int), .int .u8 (y.toNat : Int)] rfl
              replace hB3 := hB3.drew
              replace hD3 := hD3.old ((Kept.refl Nothing _).drew)
              generalize ((W2.setCell ⟨w.heap.size + 1, 3, none⟩ (.slice (some ⟨W2.heap.size, 0, none⟩) 2 2)).alloc (.cells #[.int .u8 (x.toNat : Int), .int .u8 (y.toNat : Int)] 5)).drew = W3 at hB3 hD3 ⊢
              clear p0 p1 p2 p3 p4 f0 f1 f2 f3 f4 hbl cx2 cy2
              obtain ⟨⟨p0, p1, p2, p3, p4⟩, -⟩ := full5 hB3.b2
              obtain ⟨⟨t0, t1, t2, t3, t4⟩, g0, g1, g2, g3, g4⟩ := full5 hB3.b1
              have HB3 := Lib.hid hB3
              have HD3 := Lib.hid hD3
              clear hB3 hD3
              generalize W2.heap.size = gz at *
              go_wp2
              obtain ⟨y0, y1, y2, y3, y4⟩ := fin3_5 HB3.out.b1 (.slice A5 M.length c5) (.int .i64 1) (.int .i64 2) (.slice (some ⟨gz, 0, none⟩) 2 2) (.int .i64 0)
              exact bodyPost_ret (v := .agg #[.slice A5 M.length c5, .int .i64 1, .int .i64 2, .slice (some ⟨gz, 0, none⟩) 2 2, .int .i64 0]) (by simp [results, Try.results9, go_sem, y0, y1, y2, y3, y4]) rfl (HB3.out.ends rfl (by decide) HD3.out hBE.out)
            · have hn40 : (n : Int) > 4096 := by omega
              clear hsh
              go_quiet (fail)
              go_upto_region 22 with fail
              have hB := (HS.out.old ((Kept.refl Nothing wr).drewN nq)).fault 2
              generalize ((wr.drewN nq).setCell ⟨w.heap.size + 1, 1, none⟩ (.int .i64 1)).setCell ⟨w.heap.size + 1, 2, none⟩ (.int .i64 2) = W2 at hB ⊢
              have cx2 : W2.cell? ⟨bk, o + p, none⟩ = some (.int .u8 (x.toNat : Int)) := hB.kept.cell_some HCX.out (fun x => x)
              have cy2 : W2.cell? ⟨bk, o + q, none⟩ = some (.int .u8 (y.toNat : Int)) := hB.kept.cell_some HCY.out (fun x => x)
              clear HS p0 p1 p2 p3 p4 f0 f1 f2 f3 f4 t0 t1 t2 t3 t4 g0 g1 g2 g3 g4 cx cy ct hbl HC
              obtain ⟨⟨p0, p1, p2, p3, p4⟩, f0, f1, f2, f3, f4⟩ := full5 hB.b2
              have hbl := hB.b2.lt
              have HB := Lib.hid hB
              clear hB
              go_region
              obtain ⟨hB3, hD3⟩ := HB.out.data (Kept.refl Nothing W2) [x, y] 2 rfl (by omega) #[.int .u8 (x.toNat : Int), .int .u8 (y.toNat : Int)] rfl
              replace hB3 := hB3.drew
              replace hD3 := hD3.old ((Kept.refl Nothing _).drew)
              generalize ((W2.setCell ⟨w.heap.size + 1, 3, none⟩ (.slice (some ⟨W2.heap.size, 0, none⟩) 2 2)).alloc (.cells #[.int .u8 (x.toNat : Int), .int .u8 (y.toNat : Int)] 5)).drew = W3 at hB3 hD3 ⊢
              clear p0 p1 p2 p3 p4 f0 f1 f2 f3 f4 hbl cx2 cy2
              obtain ⟨⟨p0, p1, p2, p3, p4⟩, -⟩ := full5 hB3.b2
              obtain ⟨⟨t0, t1, t2, t3, t4⟩, g0, g1, g2, g3, g4⟩ := full5 hB3.b1
              have HB3 := Lib.hid hB3
              have HD3 := Lib.hid hD3
              clear hB3 hD3
              generalize W2.heap.size = gz at *
              go_wp2
              obtain ⟨y0, y1, y2, y3, y4⟩ := fin3_5 HB3.out.b1 (.slice A5 M.length c5) (.int .i64 1) (.int .i64 2) (.slice (some ⟨gz, 0, none⟩) 2 2) (.int .i64 0)
              exact bodyPost_ret (v := .agg #[.slice A5 M.length c5, .int .i64 1, .int .i64 2, .slice (some ⟨gz, 0, none⟩) 2 2, .int .i64 0]) (by simp [results, Try.results9, go_sem, y0, y1, y2, y3, y4]) rfl (HB3.out.ends rfl (by decide) HD3.out hBE.out)
          · have hn19 : ¬ (n : Int) < 19 := by omega
            have hn40 : ¬ (n : Int) > 4096 := by omega
            have HJ2 := Lib.hid (HJ.out.trans (if_neg hsh))
            clear hsh HJ
            by_cases ht1 : t.toNat < 1 ∨ 5 < t.toNat
            · have hBE := Lib.hid (HBD.out 3 [t] (HJ2.out.trans (if_pos ht1)) (by decide))
              clear HBD HNX HWT HJ2
              by_cases ht0 : t = 0
              · subst ht0
                replace ct : wr.cell? ⟨bk, o + r, none⟩ = some (.int .u8 0) := ct
                clear ht1 htl
                go_quiet (fail)
                go_upto_region 17 with fail
                have hB := (HS.out.old ((Kept.refl Nothing wr).drewN nq)).fault 3
                generalize ((wr.drewN nq).setCell ⟨w.heap.size + 1, 1, none⟩ (.int .i64 1)).setCell ⟨w.heap.size + 1, 2, none⟩ (.int .i64 3) = W2 at hB ⊢
                clear HS p0 p1 p2 p3 p4 f0 f1 f2 f3 f4 t0 t1 t2 t3 t4 g0 g1 g2 g3 g4 cx cy ct hbl HC
                obtain ⟨⟨p0, p1, p2, p3, p4⟩, f0, f1, f2, f3, f4⟩ := full5 hB.b2
                have hbl := hB.b2.lt
                have HB := Lib.hid hB
                clear hB
                go_upto_region 18 with fail
                obtain ⟨hB3, hD3⟩ := HB.out.data (Kept.refl Nothing W2) [0] 1 rfl (by omega) #[.int .u8 0] rfl
                generalize (W2.setCell ⟨w.heap.size + 1, 3, none⟩ (.slice (some ⟨W2.heap.size, 0, none⟩) 1 1)).alloc (.cells #[.int .u8 0] 5) = W3 at hB3 hD3 ⊢
                clear p0 p1 p2 p3 p4 f0 f1 f2 f3 f4 hbl
                obtain ⟨⟨p0, p1, p2, p3, p4⟩, -⟩ := full5 hB3.b2
                obtain ⟨⟨t0, t1, t2, t3, t4⟩, g0, g1, g2, g3, g4⟩ := full5 hB3.b1
                have HB3 := Lib.hid hB3
                have HD3 := Lib.hid hD3
                clear hB3 hD3
                generalize W2.heap.size = gz at *
                go_wp2
                obtain ⟨y0, y1, y2, y3, y4⟩ := fin3_5 HB3.out.b1 (.slice A5 M.length c5) (.int .i64 1) (.int .i64 3) (.slice (some ⟨gz, 0, none⟩) 1 1) (.int .i64 0)
                exact bodyPost_ret (v := .agg #[.slice A5 M.length c5, .int .i64 1, .int .i64 3, .slice (some ⟨gz, 0, none⟩) 1 1, .int .i64 0]) (by simp [results, Try.results9, go_sem, y0, y1, y2, y3, y4]) rfl (HB3.out.ends rfl (by decide) HD3.out hBE.out)
              · have ht1' : ¬ (t.toNat : Int) < 1 := by
                  intro e
                  exact ht0 (UInt8.toNat_inj.1 (by have h : (0 : UInt8).toNat = 0 := rfl; omega))
                have ht5 : (t.toNat : Int) > 5 := by omega
                clear ht1 ht0
                go_quiet (fail)
                go_upto_region 17 with fail
                have hB := (HS.out.old ((Kept.refl Nothing wr).drewN nq)).fault 3
                generalize ((wr.drewN nq).setCell ⟨w.heap.size + 1, 1, none⟩ (.int .i64 1)).setCell ⟨w.heap.size + 1, 2, none⟩ (.int .i64 3) = W2 at hB ⊢
                clear HS p0 p1 p2 p3 p4 f0 f1 f2 f3 f4 t0 t1 t2 t3 t4 g0 g1 g2 g3 g4 cx cy ct hbl HC
                obtain ⟨⟨p0, p1, p2, p3, p4⟩, f0, f1, f2, f3, f4⟩ := full5 hB.b2
                have hbl := hB.b2.lt
                have HB := Lib.hid hB
                clear hB
                go_upto_region 18 with fail
                obtain ⟨hB3, hD3⟩ := HB.out.data (Kept.refl Nothing W2) [t] 1 rfl (by omega) #[.int .u8 (t.toNat : Int)] rfl
                generalize (W2.setCell ⟨w.heap.size + 1, 3, none⟩ (.slice (some ⟨W2.heap.size, 0, none⟩) 1 1)).alloc (.cells #[.int .u8 (t.toNat : Int)] 5) = W3 at hB3 hD3 ⊢
                clear p0 p1 p2 p3 p4 f0 f1 f2 f3 f4 hbl
                obtain ⟨⟨p0, p1, p2, p3, p4⟩, -⟩ := full5 hB3.b2
                obtain ⟨⟨t0, t1, t2, t3, t4⟩, g0, g1, g2, g3, g4⟩ := full5 hB3.b1
                have HB3 := Lib.hid hB3
                have HD3 := Lib.hid hD3
                clear hB3 hD3
                generalize W2.heap.size = gz at *
                go_wp2
                obtain ⟨y0, y1, y2, y3, y4⟩ := fin3_5 HB3.out.b1 (.slice A5 M.length c5) (.int .i64 1) (.int .i64 3) (.slice (some ⟨gz, 0, none⟩) 1 1) (.int .i64 0)
                exact bodyPost_ret (v := .agg #[.slice A5 M.length c5, .int .i64 1, .int .i64 3, .slice (some ⟨gz, 0, none⟩) 1 1, .int .i64 0]) (by simp [results, Try.results9, go_sem, y0, y1, y2, y3, y4]) rfl (HB3.out.ends rfl (by decide) HD3.out hBE.out)
            · have ht0 : ¬ (t.toNat : Int) < 1 := by omega
              have ht5 : ¬ (t.toNat : Int) > 5 := by omega
              have HWR := Lib.hid (r3_wrong t.toNat n (by omega))
              have HJ3 := Lib.hid (HJ2.out.trans (if_neg ht1))
              clear ht1 HJ2
              cases hft : Fr.fits t.toNat n with
              | false =>
                have hBE := Lib.hid (HBD.out 2 [x, y] (HJ3.out.trans (if_pos hft)) (by decide))
                rw [hft] at HWR
                clear hft HNX HWT HBD HJ3
                go_quiet (fail)
                go_upto_region 22 with (go_at_call 20; refine (HWR.out _).mono ?_; rintro e w1 ⟨rfl, rfl⟩)
                have hB := (HS.out.old ((Kept.refl Nothing wr).drewN nq)).fault 2
                generalize ((wr.drewN nq).setCell ⟨w.heap.size + 1, 1, none⟩ (.int .i64 1)).setCell ⟨w.heap.size + 1, 2, none⟩ (.int .i64 2) = W2 at hB ⊢
                have cx2 : W2.cell? ⟨bk, o + p, none⟩ = some (.int .u8 (x.toNat : Int)) := hB.kept.cell_some HCX.out (fun x => x)
                have cy2 : W2.cell? ⟨bk, o + q, none⟩ = some (.int .u8 (y.toNat : Int)) := hB.kept.cell_some HCY.out (fun x => x)
                clear HS p0 p1 p2 p3 p4 f0 f1 f2 f3 f4 t0 t1 t2 t3 t4 g0 g1 g2 g3 g4 cx cy ct hbl HC
                obtain ⟨⟨p0, p1, p2, p3, p4⟩, f0, f1, f2, f3, f4⟩ := full5 hB.b2
                have hbl := hB.b2.lt
                have HB := Lib.hid hB
                clear hB
                go_region
                obtain ⟨hB3, hD3⟩ := HB.out.data (Kept.refl Nothing W2) [x, y] 2 rfl (by omega) #[.int .u8 (x.toNat : Int), .int .u8 (y.toNat : Int)] rfl
                replace hB3 := hB3.drew
                replace hD3 := hD3.old ((Kept.refl Nothing _).drew)
                generalize ((W2.setCell ⟨w.heap.size + 1, 3, none⟩ (.slice (some ⟨W2.heap.size, 0, none⟩) 2 2)).alloc (.cells #[.int .u8 (x.toNat : Int), .int .u8 (y.toNat : Int)] 5)).drew = W3 at hB3 hD3 ⊢
                clear p0 p1 p2 p3 p4 f0 f1 f2 f3 f4 hbl cx2 cy2
                obtain ⟨⟨p0, p1, p2, p3, p4⟩, -⟩ := full5 hB3.b2
                obtain ⟨⟨t0, t1, t2, t3, t4⟩, g0, g1, g2, g3, g4⟩ := full5 hB3.b1
                have HB3 := Lib.hid hB3
                have HD3 := Lib.hid hD3
                clear hB3 hD3
                generalize W2.heap.size = gz at *
                go_wp2
                obtain ⟨y0, y1, y2, y3, y4⟩ := fin3_5 HB3.out.b1 (.slice A5 M.length c5) (.int .i64 1) (.int .i64 2) (.slice (some ⟨gz, 0, none⟩) 2 2) (.int .i64 0)
                exact bodyPost_ret (v := .agg #[.slice A5 M.length c5, .int .i64 1, .int .i64 2, .slice (some ⟨gz, 0, none⟩) 2 2, .int .i64 0]) (by simp [results, Try.results9, go_sem, y0, y1, y2, y3, y4]) rfl (HB3.out.ends rfl (by decide) HD3.out hBE.out)
              | true =>
                have hJ0 := HJ3.out.trans (if_neg (by rw [hft]; simp))
                have HN0 := Lib.hid (HNX.out (by rw [hJ0]))
                have HW0 := Lib.hid (HWT.out (by rw [hJ0]))
                rw [hft] at HWR
                clear hft hJ0 HNX HWT HBD HJ3
                by_cases hbe : b.length < a + n
                · have hE := Lib.hid (HW0.out hbe)
                  have hbei : (a : Int) + (n : Int) > (b.length : Int) := by omega
                  clear hbe HN0 HW0
                  go_quiet (fail)
                  go_upto_region 27 with (go_at_call 20; refine (HWR.out _).mono ?_; rintro e w1 ⟨rfl, rfl⟩)
                  have hS := HS.out.old ((Kept.refl Nothing wr).drewN nq)
                  generalize wr.drewN nq = W2 at hS ⊢
                  clear HS p0 p1 p2 p3 p4 f0 f1 f2 f3 f4 t0 t1 t2 t3 t4 g0 g1 g2 g3 g4 cx cy ct hbl HC
                  obtain ⟨⟨p0, p1, p2, p3, p4⟩, f0, f1, f2, f3, f4⟩ := full5 hS.b2
                  obtain ⟨⟨t0, t1, t2, t3, t4⟩, g0, g1, g2, g3, g4⟩ := full5 hS.b1
                  have HS2 := Lib.hid hS
                  have q1 := hS.b1.far (p := ⟨w.heap.size + 1, 4, none⟩) (by show w.heap.size ≠ w.heap.size + 1; omega) (.int .i64 ((b.length : Int) - (a : Int)))
                  have HQ := Lib.hid q1
                  clear q1 hS
                  go_wp2
                  have hF := StM.fin HS2.out ((((Kept.own W2 (w.heap.size + 1) 4 (.int .i64 ((b.length : Int) - (a : Int)))).mono (fun k (e : k = w.heap.size + 1) => Or.inr e)).trans ((kept3_5 (p := w.heap.size) (.slice A5 M.length c5) (.int .i64 0) (.int .i64 0) (.slice none 0 0) (.int .i64 ((b.length : Int) - (a : Int)))).mono (fun k (e : k = w.heap.size) => Or.inl e))))
                  obtain ⟨y0, y1, y2, y3, y4⟩ := fin3_5 HQ.out (.slice A5 M.length c5) (.int .i64 0) (.int .i64 0) (.slice none 0 0) (.int .i64 ((b.length : Int) - (a : Int)))
                  exact bodyPost_ret (v := .agg #[.slice A5 M.length c5, .int .i64 0, .int .i64 0, .slice none 0 0, .int .i64 ((b.length : Int) - (a : Int))]) (by simp [results, Try.results9, go_sem, y0, y1, y2, y3, y4]) rfl (rd_end HS2.out.cells hF.1 hF.2 hE.out (Bs.nil _).by _ _ _ (by rw [List.length_drop]; omega) rfl rfl)
                · have hHN := Lib.hid (HN0.out (by omega))
                  have hbei : ¬ ((a : Int) + (n : Int) > (b.length : Int)) := by omega
                  clear HN0 HW0
                  go_quiet (fail)
                  go_upto_region 25 with (go_at_call 20; refine (HWR.out _).mono ?_; rintro e w1 ⟨rfl, rfl⟩)
                  have hS := HS.out.old ((Kept.refl Nothing wr).drewN nq)
                  generalize wr.drewN nq = wv at hS ⊢
                  clear HS p0 p1 p2 p3 p4 f0 f1 f2 f3 f4 t0 t1 t2 t3 t4 g0 g1 g2 g3 g4 cx cy ct hbl HC HC0 HCX HCY
                  have HS := Lib.hid hS
                  have hnn : 19 ≤ n := by omega
                  have HBy := HV.out.piece (k := a + 19) (m := n - 19) (by omega)
                  have hSL := slice_mid (some ⟨bk, o, none⟩) b.length c (a + 19) (a + n) (by omega) (by omega) ((a : Int) + 19) ((a : Int) + (n : Int)) (by omega) (by omega)
                  have ePN : a + n - (a + 19) = n - 19 := by omega
                  rw [ePN] at hSL
                  have HLn := Lib.hid (show M.length + 1 ≤ maxLen ∧ (M.length + 1) * 32 ≤ 140737488355328 by unfold maxLen; omega)
                  generalize (if c = a + 19 then (some ⟨bk, o, none⟩ : Option Addr) else (some ⟨bk, o, none⟩ : Option Addr).map (·.add (a + 19))) = PA at hSL HBy
                  generalize c - (a + 19) = pc at hSL HBy
                  obtain ⟨pn, hpn⟩ : ∃ pn, n - 19 = pn := ⟨_, rfl⟩
                  rw [hpn] at hSL HBy hHN
                  replace HBy := Lib.hid HBy
                  have HPN := Lib.hid hpn
                  have HHN := hHN
                  have HNB := Lib.hid hbe
                  have HNN := Lib.hid hnn
                  clear hHN hS hpn ePN hbe hnn hn19 hn40 ht0 ht5 hni hpi hqi hri hpb hqb hrb
                  have hw1 : IntKind.i64.wrap ((a : Int) + 19) = (a : Int) + 19 := by rw [IntKind.wrap_i64]; omega
                  have hw2 : IntKind.i64.wrap ((a : Int) + (n : Int)) = (a : Int) + (n : Int) := by rw [IntKind.wrap_i64]; omega
                  refine wp_region_facts1 (GB3 w wv (.slice A5 M.length c5) M (t, (b.drop (a + 19)).take pn) (.slice PA pn pc) xs) GJ3 (GF3 (gk_l w wv b (some ⟨bk, o, none⟩) c a n t M A5 c5 PA pn pc)) GR3 (by kernel_rfl) (by decide) (by intro d hd; simp [dsts] at hd ⊢; omega) (by rfl) (ready_nil (by kernel_rfl)) GF3.step ?_ ?_ ?_
                  · exact ⟨⟨0, undef⟩, ⟨rfl, rfl, rfl, fun h => by cases h⟩, fun _ => rfl, fun e => absurd e (by decide), fun e => absurd e (by decide), fun e => absurd e (by decide), fun _ => HS.out.b2.drew⟩
                  · refine OwesAll1.cons ?_ (OwesAll1.cons ?_ (OwesAll1.cons ?_ (OwesAll1.cons ?_ (OwesAll1.cons ?_ (OwesAll1.cons ?_ (OwesAll1.cons ?_ (OwesAll1.cons ?_ (OwesAll1.cons ?_ (OwesAll1.cons ?_ (OwesAll1.cons ?_ (OwesAll1.cons ?_ (OwesAll1.cons ?_ (OwesAll1.cons ?_ (OwesAll1.cons ?_ OwesAll1.nil))))))))))))))
                    · intro listed G u ac hsz hun haf hJ hB hK hfar hoff
                      have v3 : ac.tmps.getD 3 undef = .pointer (some ⟨w.heap.size + 1, 0, none⟩) := hfar 3 (by decide)
                      have w3 := v3
                      rw [Array.getD_eq_getD_getElem?] at w3
                      have J' := Lib.hid (hJ.other (i := 0) (by decide) (by decide) (by decide))
                      have HB := Lib.hid hB
                      clear hK haf hfar hJ hun hsz hoff hB
                      go_simp
                      exact ⟨_, rfl, G, fun h => ⟨h, rfl⟩, HB.out, J'.out, gf_mk (by decide) (by decide) rfl⟩
                    · intro listed G u ac hsz hun haf hJ hB hK hfar hoff
                      have v96 : ac.tmps.getD 96 undef = .pointer (some ⟨w.heap.size + 1, 0, none⟩) := gf_val (k := 0) (by decide) (by decide) (hK 0 _ 96 rfl rfl (haf ⟨0, .data⟩ (Array.mem_of_getElem? (i := 0) rfl) rfl)) _ rfl
                      have w96 := v96
                      rw [Array.getD_eq_getD_getElem?] at w96
                      have a0 := (hB.2.2.2.2 (hJ.first hsz hun)).cell 0
                      have J' := Lib.hid (hJ.other (i := 1) (by decide) (by decide) (by decide))
                      have HB := Lib.hid hB
                      clear hK haf hfar hJ hun hsz hoff hB
                      go_simp
                      exact ⟨_, rfl, G, fun h => ⟨h, rfl⟩, HB.out, J'.out, gf_mk (by decide) (by decide) rfl⟩
                    · intro listed G u ac hsz hun haf hJ hB hK hfar hoff
                      have v7 : ac.tmps.getD 7 undef = .int .u8 (t.toNat : Int) := hfar 7 (by decide)
                      have w7 := v7
                      rw [Array.getD_eq_getD_getElem?] at w7
                      have J' := Lib.hid (hJ.other (i := 2) (by decide) (by decide) (by decide))
                      have HB := Lib.hid hB
                      clear hK haf hfar hJ hun hsz hoff hB
                      go_simp
                      exact ⟨_, rfl, G, fun h => ⟨h, rfl⟩, HB.out, J'.out, gf_mk (by decide) (by decide) rfl⟩
                    · intro listed G u ac hsz hun haf hJ hB hK hfar hoff
                      have v0 : ac.tmps.getD 0 undef = .slice (some ⟨bk, o, none⟩) b.length c := hfar 0 (by decide)
                      have w0 := v0
                      rw [Array.getD_eq_getD_getElem?] at w0
                      have J' := Lib.hid (hJ.other (i := 3) (by decide) (by decide) (by decide))
                      have HB := Lib.hid hB
                      clear hK haf hfar hJ hun hsz hoff hB
                      go_simp
                      exact ⟨_, rfl, G, fun h => ⟨h, rfl⟩, HB.out, J'.out, gf_mk (by decide) (by decide) rfl⟩
                    · intro listed G u ac hsz hun haf hJ hB hK hfar hoff
                      have v4 : ac.tmps.getD 4 undef = .int .i64 (a : Int) := hfar 4 (by decide)
                      have w4 := v4
                      rw [Array.getD_eq_getD_getElem?] at w4
                      have J' := Lib.hid (hJ.other (i := 4) (by decide) (by decide) (by decide))
                      have HB := Lib.hid hB
                      clear hK haf hfar hJ hun hsz hoff hB
                      go_simp
                      exact ⟨_, rfl, G, fun h => ⟨h, rfl⟩, HB.out, J'.out, gf_mk (by decide) (by decide) rfl⟩
                    · intro listed G u ac hsz hun haf hJ hB hK hfar hoff
                      have v100 : ac.tmps.getD 100 undef = .int .i64 (a : Int) := gf_val (k := 4) (by decide) (by decide) (hK 4 _ 100 rfl rfl (haf ⟨4, .data⟩ (Array.mem_of_getElem? (i := 0) rfl) rfl)) _ rfl
                      have w100 := v100
                      rw [Array.getD_eq_getD_getElem?] at w100
                      have J' := Lib.hid (hJ.other (i := 5) (by decide) (by decide) (by decide))
                      have HB := Lib.hid hB
                      clear hK haf hfar hJ hun hsz hoff hB
                      go_simp
                      exact ⟨_, rfl, G, fun h => ⟨h, rfl⟩, HB.out, J'.out, gf_mk (by decide) (by decide) rfl⟩
                    · intro listed G u ac hsz hun haf hJ hB hK hfar hoff
                      have v4 : ac.tmps.getD 4 undef = .int .i64 (a : Int) := hfar 4 (by decide)
                      have w4 := v4
                      rw [Array.getD_eq_getD_getElem?] at w4
                      have J' := Lib.hid (hJ.other (i := 6) (by decide) (by decide) (by decide))
                      have HB := Lib.hid hB
                      clear hK haf hfar hJ hun hsz hoff hB
                      go_simp
                      exact ⟨_, rfl, G, fun h => ⟨h, rfl⟩, HB.out, J'.out, gf_mk (by decide) (by decide) rfl⟩
                    · intro listed G u ac hsz hun haf hJ hB hK hfar hoff
                      have v6 : ac.tmps.getD 6 undef = .int .i64 (n : Int) := hfar 6 (by decide)
                      have w6 := v6
                      rw [Array.getD_eq_getD_getElem?] at w6
                      have J' := Lib.hid (hJ.other (i := 7) (by decide) (by decide) (by decide))
                      have HB := Lib.hid hB
                      clear hK haf hfar hJ hun hsz hoff hB
                      go_simp
                      exact ⟨_, rfl, G, fun h => ⟨h, rfl⟩, HB.out, J'.out, gf_mk (by decide) (by decide) rfl⟩
                    · intro listed G u ac hsz hun haf hJ hB hK hfar hoff
                      have v102 : ac.tmps.getD 102 undef = .int .i64 (a : Int) := gf_val (k := 6) (by decide) (by decide) (hK 6 _ 102 rfl rfl (haf ⟨6, .data⟩ (Array.mem_of_getElem? (i := 0) rfl) rfl)) _ rfl
                      have w102 := v102
                      rw [Array.getD_eq_getD_getElem?] at w102
                      have v103 : ac.tmps.getD 103 undef = .int .i64 (n : Int) := gf_val (k := 7) (by decide) (by decide) (hK 7 _ 103 rfl rfl (haf ⟨7, .data⟩ (Array.mem_of_getElem? (i := 1) rfl) rfl)) _ rfl
                      have w103 := v103
                      rw [Array.getD_eq_getD_getElem?] at w103
                      have J' := Lib.hid (hJ.other (i := 8) (by decide) (by decide) (by decide))
                      have HB := Lib.hid hB
                      clear hK haf hfar hJ hun hsz hoff hB
                      go_simp
                      exact ⟨_, rfl, G, fun h => ⟨h, rfl⟩, HB.out, J'.out, gf_mk (by decide) (by decide) rfl⟩
                    · intro listed G u ac hsz hun haf hJ hB hK hfar hoff
                      have v99 : ac.tmps.getD 99 undef = .slice (some ⟨bk, o, none⟩) b.length c := gf_val (k := 3) (by decide) (by decide) (hK 3 _ 99 rfl rfl (haf ⟨3, .data⟩ (Array.mem_of_getElem? (i := 0) rfl) rfl)) _ rfl
                      have w99 := v99
                      rw [Array.getD_eq_getD_getElem?] at w99
                      have v101 : ac.tmps.getD 101 undef = .int .i64 ((a : Int) + 19) := gf_val (k := 5) (by decide) (by decide) (hK 5 _ 101 rfl rfl (haf ⟨5, .data⟩ (Array.mem_of_getElem? (i := 1) rfl) rfl)) _ rfl
                      have w101 := v101
                      rw [Array.getD_eq_getD_getElem?] at w101
                      have v104 : ac.tmps.getD 104 undef = .int .i64 ((a : Int) + (n : Int)) := gf_val (k := 8) (by decide) (by decide) (hK 8 _ 104 rfl rfl (haf ⟨8, .data⟩ (Array.mem_of_getElem? (i := 2) rfl) rfl)) _ rfl
                      have w104 := v104
                      rw [Array.getD_eq_getD_getElem?] at w104
                      have J' := Lib.hid (hJ.other (i := 9) (by decide) (by decide) (by decide))
                      have HB := Lib.hid hB
                      clear hK haf hfar hJ hun hsz hoff hB
                      go_simp
                      exact ⟨_, rfl, G, fun h => ⟨h, rfl⟩, HB.out, J'.out, gf_mk (by decide) (by decide) rfl⟩
                    · intro listed G u ac hsz hun haf hJ hB hK hfar hoff
                      have v98 : ac.tmps.getD 98 undef = .int .u8 (t.toNat : Int) := gf_val (k := 2) (by decide) (by decide) (hK 2 _ 98 rfl rfl (haf ⟨2, .data⟩ (Array.mem_of_getElem? (i := 0) rfl) rfl)) _ rfl
                      have w98 := v98
                      rw [Array.getD_eq_getD_getElem?] at w98
                      have v105 : ac.tmps.getD 105 undef = .slice PA pn pc := gf_val (k := 9) (by decide) (by decide) (hK 9 _ 105 rfl rfl (haf ⟨9, .data⟩ (Array.mem_of_getElem? (i := 1) rfl) rfl)) _ rfl
                      have w105 := v105
                      rw [Array.getD_eq_getD_getElem?] at w105
                      have J' := Lib.hid (hJ.other (i := 10) (by decide) (by decide) (by decide))
                      have HB := Lib.hid hB
                      clear hK haf hfar hJ hun hsz hoff hB
                      go_simp
                      exact ⟨_, rfl, G, fun h => ⟨h, rfl⟩, HB.out, J'.out, gf_mk (by decide) (by decide) rfl⟩
                    · intro listed G u ac hsz hun haf hJ hB hK hfar hoff
                      have v106 : ac.tmps.getD 106 undef = .agg #[.int .u8 (t.toNat : Int), .slice PA pn pc] := gf_val (k := 10) (by decide) (by decide) (hK 10 _ 106 rfl rfl (haf ⟨10, .data⟩ (Array.mem_of_getElem? (i := 0) rfl) rfl)) _ rfl
                      have w106 := v106
                      rw [Array.getD_eq_getD_getElem?] at w106
                      obtain ⟨hn, hJ2⟩ := hJ.alloc hsz hun
                      have J' := Lib.hid hJ2
                      have HA := Lib.hid (hB.alloc hn)
                      have hu := hB.1 hn
                      clear hK haf hfar hJ hun hsz hoff hB hJ2
                      subst hu
                      go_simp
                      exact ⟨_, rfl, ⟨1, undef⟩, fun h => absurd h (by omega), HA.out, J'.out undef, gf_mk (by decide) (by decide) rfl⟩
                    · intro listed G u ac hsz hun haf hJ hB hK hfar hoff
                      have v97 : ac.tmps.getD 97 undef = .slice A5 M.length c5 := gf_val (k := 1) (by decide) (by decide) (hK 1 _ 97 rfl rfl (haf ⟨1, .data⟩ (Array.mem_of_getElem? (i := 0) rfl) rfl)) _ rfl
                      have w97 := v97
                      rw [Array.getD_eq_getD_getElem?] at w97
                      have v107 : ac.tmps.getD 107 undef = .slice (some ⟨wv.heap.size, 0, none⟩) 1 1 := gf_val (k := 11) (by decide) (by decide) (hK 11 _ 107 rfl rfl (haf ⟨11, .data⟩ (Array.mem_of_getElem? (i := 1) rfl) rfl)) _ rfl
                      have w107 := v107
                      rw [Array.getD_eq_getD_getElem?] at w107
                      obtain ⟨hn, hJ2⟩ := hJ.app hsz hun (haf ⟨11, .data⟩ (Array.mem_of_getElem? (i := 1) rfl) rfl)
                      have J' := Lib.hid hJ2
                      have hu := hB.2.1 hn
                      clear hK haf hfar hJ hun hsz hoff hJ2 hB
                      subst hu
                      refine wp_app _ (.tmp 97) (.tmp 107) 30 (by rfl) (w.heap.size + 1 + 1) 51 i0 _ 2 32 Try.underlying30 hi hz0 hz1 hz2 rfl (by decide) (.slice A5 M.length c5) M.length xs v97 (ow_kept HS.out.own (((Kept.refl Nothing wv).drew).alloc _) (fun _ _ x => x)) (some ⟨wv.heap.size, 0, none⟩) 1 1 [.int .u8 (t.toNat : Int), .slice PA pn pc] v107 (src_new wv.drew _ #[.int .u8 (t.toNat : Int), .slice PA pn pc] 2 1 rfl (by simp [Value.oneCell'])) HLn.out.1 HLn.out.2 (by have := HS.out.b2.lt; simp; omega) ?_
                      intro v' w7 ho hg hat
                      exact ⟨_, ⟨2, v'⟩, rfl, fun h => absurd h (by omega), GB3.app HS.out hg ho HBy.out, J'.out v', gf_mv rfl⟩
                    · intro listed G u ac hsz hun haf hJ hB hK hfar hoff
                      have v3 : ac.tmps.getD 3 undef = .pointer (some ⟨w.heap.size + 1, 0, none⟩) := hfar 3 (by decide)
                      have w3 := v3
                      rw [Array.getD_eq_getD_getElem?] at w3
                      have J' := Lib.hid (hJ.other (i := 13) (by decide) (by decide) (by decide))
                      have HB := Lib.hid hB
                      clear hK haf hfar hJ hun hsz hoff hB
                      go_simp
                      exact ⟨_, rfl, G, fun h => ⟨h, rfl⟩, HB.out, J'.out, gf_mk (by decide) (by decide) rfl⟩
                    · intro listed G u ac hsz hun haf hJ hB hK hfar hoff
                      have p108 := gf_v (hK 12 _ 108 rfl rfl (haf ⟨12, .data⟩ (Array.mem_of_getElem? (i := 1) rfl) rfl))
                      have v108 := p108.2
                      have v109 : ac.tmps.getD 109 undef = .pointer (some ⟨w.heap.size + 1, 0, none⟩) := gf_val (k := 13) (by decide) (by decide) (hK 13 _ 109 rfl rfl (haf ⟨13, .data⟩ (Array.mem_of_getElem? (i := 0) rfl) rfl)) _ rfl
                      have w109 := v109
                      rw [Array.getD_eq_getD_getElem?] at w109
                      obtain ⟨hn, hJ2⟩ := hJ.store hsz hun (haf ⟨12, .data⟩ (Array.mem_of_getElem? (i := 1) rfl) rfl) (haf ⟨1, .phase⟩ (Array.mem_of_getElem? (i := 4) rfl) rfl)
                      have J' := Lib.hid hJ2
                      have hs2 := hB.2.2.1 hn
                      have HB := Lib.hid hs2
                      obtain ⟨AG, cG, eG, _, _⟩ := ow_form hs2.own
                      rw [eG] at v108
                      have w108 := v108
                      rw [Array.getD_eq_getD_getElem?] at w108
                      obtain ⟨⟨a0, a1, a2, a3, a4⟩, a5, a6, a7, a8, a9⟩ := full5 hs2.b2
                      have hbl := hs2.b2.lt
                      have EG := Lib.hid eG
                      have HN2 := Lib.hid hn
                      clear hK haf hfar hJ hun hsz hoff hB hJ2 hs2 eG p108 hn
                      go_simp
                      exact ⟨undef, ⟨3, G.v⟩, fun _ => ⟨(by show 2 ≤ 3; omega), rfl⟩, by (have hz : Value.slice AG (M.length + 1) cG = G.v := by (rw [EG.out]; simp)); rw [hz]; exact GB3.store HB.out, J'.out G.v, trivial⟩
                  · intro vals G w6 hB hJ hV
                    have hn2 : 3 ≤ G.n := by
                      have h1 : decide (3 ≤ G.n) = true := by rw [← hJ.2.2.1]; rfl
                      simpa using h1
                    have HP1 := Lib.hid (hB.2.2.2.1 hn2)
                    clear hB hJ hV hn2
                    generalize G.v = gv at *
                    simp [putAll, Act.put, Array.setIfInBounds]
                    clear hSL hw1 hw2 hi hz0 hz1 hz2
                    have hbe := HNB.out
                    have hbei2 : (a : Int) + (n : Int) ≤ (b.length : Int) := by omega
                    go_wp2
                    go_roundw
                    case rel => exact ⟨a + n, _, gv, _, by go_num, HHN, HP1⟩
                    case measure =>
                      have := HNN.out
                      simp [intOf]
                      omega
    · have h19i : ¬ ((a : Int) + 19 ≤ (b.length : Int)) := by omega
      have hE := Lib.hid (HR.out.ends (by omega))
      have q1 := HS.out.b1.far (p := ⟨w.heap.size + 1, 4, none⟩) (by show w.heap.size ≠ w.heap.size + 1; omega) (.int .i64 ((b.length : Int) - (a : Int)))
      have HQ := Lib.hid q1
      clear q1 hi hz0 hz1 hz2
      go_wp2
      have hF := StM.fin HS.out ((((Kept.own wr (w.heap.size + 1) 4 (.int .i64 ((b.length : Int) - (a : Int)))).mono (fun k (e : k = w.heap.size + 1) => Or.inr e)).trans ((kept3_5 (p := w.heap.size) (.slice A5 M.length c5) (.int .i64 0) (.int .i64 0) (.slice none 0 0) (.int .i64 ((b.length : Int) - (a : Int)))).mono (fun k (e : k = w.heap.size) => Or.inl e))))
      obtain ⟨y0, y1, y2, y3, y4⟩ := fin3_5 HQ.out (.slice A5 M.length c5) (.int .i64 0) (.int .i64 0) (.slice none 0 0) (.int .i64 ((b.length : Int) - (a : Int)))
      exact bodyPost_ret (v := .agg #[.slice A5 M.length c5, .int .i64 0, .int .i64 0, .slice none 0 0, .int .i64 ((b.length : Int) - (a : Int))]) (by simp [results, Try.results9, go_sem, y0, y1, y2, y3, y4]) rfl (rd_end HS.out.cells hF.1 hF.2 hE.out (Bs.nil _).by _ _ _ (by rw [List.length_drop]; omega) rfl rfl)

end Go.Proofs.Ytohkhcobljenjaa
