
/-
  Capabilities that lie off some blocks: what is written into those leaves them as they were.
-/
import Derived.Test.YtohgkibpcgfihaaDoorDa
namespace Go.Proofs.YtohgkibpcgfihaaDoor
open Go.RowKit

def OffB (P : Nat → Prop) (v : Value) : Prop := ∀ a n c, v = .slice (some a) n c → 0 < n → ¬ P a.block
/-- The slice value v reads as the capabilities l, and none of it lies in P. -/
def CpsO (P : Nat → Prop) (w : World) (v : Value) (l : List Cp) : Prop :=
  ∃ A c, v = .slice A l.length c ∧ l.length ≤ c ∧ c ≤ maxLen ∧ (0 < l.length → ∃ b o, A = some ⟨b, o, none⟩ ∧ ¬ P b ∧ ∀ i (h : i < l.length), w.cell? ⟨b, o + i * 2, none⟩ = some (by8 l[i].1) ∧ ∃ u, w.cell? ⟨b, o + i * 2 + 1, none⟩ = some u ∧ By w u l[i].2 ∧ OffB P u)
theorem By.off {P : Nat → Prop} {w w' : World} {v : Value} {l : List UInt8} (h : By w v l) (ho : OffB P v) (k : Kept P w w') : By w' v l := by
  obtain ⟨A, c, rfl, _, _⟩ := h.form
  exact h.kept k (fun a ha h0 e => ho a _ _ (by rw [ha]) h0 e)
theorem CpsO.cps {P : Nat → Prop} {w : World} {v : Value} {l : List Cp} (h : CpsO P w v l) : Cps w v l := by
  obtain ⟨A, c, hv, hc, hm, hr⟩ := h
  refine ⟨A, c, hv, hc, hm, fun h0 => ?_⟩
  obtain ⟨b, o, hA, _, hi⟩ := hr h0
  exact ⟨b, o, hA, fun i hl => ⟨(hi i hl).1, (hi i hl).2.imp fun u hu => ⟨hu.1, hu.2.1⟩⟩⟩
theorem CpsO.off {P : Nat → Prop} {w w' : World} {v : Value} {l : List Cp} (h : CpsO P w v l) (k : Kept P w w') : CpsO P w' v l := by
  obtain ⟨A, c, hv, hc, hm, hr⟩ := h
  refine ⟨A, c, hv, hc, hm, fun h0 => ?_⟩
  obtain ⟨b, o, hA, hb, hi⟩ := hr h0
  refine ⟨b, o, hA, hb, fun i hl => ⟨k.cell_some (hi i hl).1 hb, ?_⟩⟩
  obtain ⟨u, h1, h2, h3⟩ := (hi i hl).2
  exact ⟨u, k.cell_some h1 hb, h2.off h3 k, h3⟩
theorem CpsO.old {P : Nat → Prop} {w w' : World} {v : Value} {l : List Cp} (h : CpsO P w v l) (k : Kept Nothing w w') : CpsO P w' v l := h.off (k.mono (fun _ x => x.elim))
theorem CpsO.form {P : Nat → Prop} {w : World} {v : Value} {l : List Cp} (h : CpsO P w v l) : ∃ A c, v = .slice A l.length c ∧ l.length ≤ c ∧ c ≤ maxLen := h.cps.form
theorem CpsO.nil (P : Nat → Prop) (w : World) : CpsO P w (.slice none 0 0) [] := ⟨none, 0, rfl, Nat.le_refl _, by simp [maxLen], fun h => absurd h (by simp)⟩
theorem CpsO.less {P Q : Nat → Prop} {w : World} {v : Value} {l : List Cp} (h : CpsO P w v l) (hq : ∀ k, Q k → P k) : CpsO Q w v l := by
  obtain ⟨A, c, hv, hc, hm, hr⟩ := h
  refine ⟨A, c, hv, hc, hm, fun h0 => ?_⟩
  obtain ⟨b, o, hA, hb, hi⟩ := hr h0
  refine ⟨b, o, hA, fun x => hb (hq _ x), fun i hl => ⟨(hi i hl).1, ?_⟩⟩
  obtain ⟨u, h1, h2, h3⟩ := (hi i hl).2
  exact ⟨u, h1, h2, fun a n c e h0 x => h3 a n c e h0 (hq _ x)⟩
/-- What lay before the blocks of P. -/
theorem By.lt_of {w : World} {v : Value} {l : List UInt8} (h : By w v l) {a : Addr} {n c : Nat} (e : v = .slice (some a) n c) (h0 : 0 < n) : a.block < w.heap.size := by
  obtain ⟨A, c', rfl, _, _⟩ := h.form
  injection e with e1 e2 e3
  subst e1 e2
  exact h.src.lt (by rw [length_bys]; exact h0)
theorem By.offb {P : Nat → Prop} {w : World} {v : Value} {l : List UInt8} (h : By w v l) (hp : ∀ k, P k → w.heap.size ≤ k) : OffB P v := fun a n c e h0 x => by
  have h1 := h.lt_of e h0
  have h2 := hp _ x
  omega
theorem Cps.offo {P : Nat → Prop} {w : World} {v : Value} {l : List Cp} (h : Cps w v l) (hp : ∀ k, P k → w.heap.size ≤ k) : CpsO P w v l := by
  obtain ⟨A, c, hv, hc, hm, hr⟩ := h
  refine ⟨A, c, hv, hc, hm, fun h0 => ?_⟩
  obtain ⟨b, o, hA, hi⟩ := hr h0
  have hb := World.block_lt_of_cell? _ _ (hi 0 h0).1
  simp only at hb
  refine ⟨b, o, hA, fun x => by have := hp _ x; omega, fun i hl => ⟨(hi i hl).1, ?_⟩⟩
  obtain ⟨u, h1, h2⟩ := (hi i hl).2
  exact ⟨u, h1, h2, h2.offb hp⟩
/-- Of a row that the call has made, over bytes that lie off P. -/
theorem CpsO.of_own {P : Nat → Prop} {w : World} {base : Nat} {e : TypeId} {v : Value} {l : List Cp} {xs : List Value} (h : w.ownsRow base e 2 v l.length xs) (hx : Cells (fun u m => By w u m ∧ OffB P u) xs l) (hp : ∀ k, P k → k < base) : CpsO P w v l := by
  obtain ⟨A, c, hv0, hn, hm⟩ := ow_form h
  have h' := h
  obtain ⟨_, h2⟩ := h
  refine ⟨A, c, hv0, hn, hm, fun h0 => ?_⟩
  rcases h2 with ⟨rfl, h0'⟩ | ⟨g, cap, cur, hv, _, hg, _, _, _, ht⟩
  · omega
  · have hgb : base ≤ g := by
      have := (h'.lt g (by rw [hv]; rfl)).1
      exact this
    rw [hv] at hv0
    injection hv0 with hA
    refine ⟨g, 0, hA.symm, fun x => by have := hp _ x; omega, fun i hi => ?_⟩
    obtain ⟨h1, u, h2, h3, h4⟩ := hx.at i hi
    have cell : ∀ j, j < l.length * 2 → w.cell? ⟨g, 0 + j, none⟩ = xs[j]? := fun j hj => by
      rw [cell_of_row w g _ cur e (0, 0) hg, ← ht, List.getElem?_take_of_lt hj, Array.getElem?_toList, Nat.zero_add]
    have e1 := cell (i * 2) (by omega)
    have e2 := cell (i * 2 + 1) (by omega)
    exact ⟨by rw [e1, h1], u, by rw [Nat.add_assoc, e2, h2], h3, h4⟩
/-- Bytes of their own type lie off what is of another. -/
theorem Bs.offb {P : Nat → Prop} {w : World} {v : Value} {l : List UInt8} (h : Bs w v l) (hp : NoBytes w P) : OffB P v := fun a n c e h0 x => by
  obtain ⟨A, c', hv, _, _, hr⟩ := h
  rw [hv] at e
  injection e with e1 e2 e3
  obtain ⟨b, o, cs, f, hA, hh, _⟩ := hr (by omega)
  rw [hA] at e1
  injection e1 with e1
  subst e1
  exact hp _ x cs f hh
/-- A block of its own: the cells behind writing all of it, and its type. -/
theorem full5 {w : World} {p : Nat} {t : TypeId} {a b c d e : Value} (h : Blk w p t #[a, b, c, d, e]) :
    (w.cell? ⟨p, 0, none⟩ = some a ∧ w.cell? ⟨p, 1, none⟩ = some b ∧ w.cell? ⟨p, 2, none⟩ = some c ∧ w.cell? ⟨p, 3, none⟩ = some d ∧ w.cell? ⟨p, 4, none⟩ = some e) ∧
    (w.frozen? ⟨p, 0, none⟩ = false ∧ w.frozen? ⟨p, 1, none⟩ = false ∧ w.frozen? ⟨p, 2, none⟩ = false ∧ w.frozen? ⟨p, 3, none⟩ = false ∧ w.frozen? ⟨p, 4, none⟩ = false) :=
  ⟨⟨h.cell 0, h.cell 1, h.cell 2, h.cell 3, h.cell 4⟩, h.free 0, h.free 1, h.free 2, h.free 3, h.free 4⟩
theorem full2 {w : World} {p : Nat} {t : TypeId} {a b : Value} (h : Blk w p t #[a, b]) :
    (w.cell? ⟨p, 0, none⟩ = some a ∧ w.cell? ⟨p, 1, none⟩ = some b) ∧ (w.frozen? ⟨p, 0, none⟩ = false ∧ w.frozen? ⟨p, 1, none⟩ = false) :=
  ⟨⟨h.cell 0, h.cell 1⟩, h.free 0, h.free 1⟩
theorem NoBytes.two {w : World} {p q : Nat} {t u : TypeId} {cs ds : Array Value} (h1 : Blk w p t cs) (h2 : Blk w q u ds) (ht : t ≠ 5) (hu : u ≠ 5) : NoBytes w (fun k => k = p ∨ k = q) := by
  rintro k (rfl | rfl)
  · exact NoBytes.of_blk h1 ht k rfl
  · exact NoBytes.of_blk h2 hu k rfl
theorem offn {a m n c : Nat} (h : m ≤ a) : OffB (fun k => k < m) (.slice (some ⟨a, 0, none⟩) n c) := fun a' n' c' e _ x => by
  injection e with e
  injection e with e
  subst e
  exact absurd x (Nat.not_lt.2 h)
set_option maxRecDepth 20000 in
set_option maxHeartbeats 2000000 in
theorem cp_ours_new (n : Nat) (h : n < 4294967296) (w : World) (hr : RdC w) :
    Calls Tryd.prog 63 #[.int .u32 (n : Int)] w fun e w' => ∃ (g : Nat) (cs : Array Value), e = .returned (.slice (some ⟨g, 0, none⟩) 3 3) ∧ Blk w' g 66 cs ∧ cs.size = 6 ∧ Cells (fun u m => By w' u m ∧ OffB (fun k => k < w.heap.size) u) cs.toList (oursL n) ∧ w.heap.size ≤ g ∧ Kept Nothing w w' := by
  have HW := Lib.hid (fun w => cp_wordOf n h w)
  have HR := Lib.hid hr
  have hl : (be4 n).length = 4 := rfl
  obtain ⟨y0, y1, y2, y3, hy⟩ := four_of hl
  have hyc : (bys (be4 n)).toArray = #[.int .u8 (y0.toNat : Int), .int .u8 (y1.toNat : Int), .int .u8 (y2.toNat : Int), .int .u8 (y3.toNat : Int)] := by rw [hy]; rfl
  rw [hyc] at HW
  obtain ⟨g0, g1, g2, g3⟩ := hr
  have hgw := World.block_lt_of_cell? _ _ g0
  simp only at hgw
  clear hl hyc
  have HY := Lib.hid hy
  clear hy
  go_enter Tryd.func63, Tryd.ntmps63
  go_upto_region 1 with fail
  go_cut [3, 4] (fun p q wx => ∃ a b, p = .pointer (some ⟨a, 0, none⟩) ∧ q = .pointer (some ⟨b, 0, none⟩) ∧ Cells4 wx a [0, 1, 0, 1] ∧ Cells4 wx b [y0, y1, y2, y3] ∧ w.heap.size ≤ a ∧ w.heap.size ≤ b ∧ Kept Nothing w wx)
  case first =>
   go_wp2
   go_region_law (first
    | (go_simp; go_at_call 82; refine (HW.out _).mono ?_; rintro e w2 ⟨rfl, hk2⟩; (obtain ⟨KK, hx⟩ := grow2 (w := w) (Or.inl ⟨hk2, rfl⟩)); (obtain ⟨⟨⟨x0, x4⟩, ⟨x1, x5⟩, ⟨x2, x6⟩, x3, x7⟩, ⟨y0', y4'⟩, ⟨y1', y5'⟩, ⟨y2', y6'⟩, y3', y7'⟩ := hx); (have hlt : w.heap.size + 1 < w2.heap.size := World.block_lt_of_cell? _ _ y0'); (obtain ⟨z0, z1, z2, z3⟩ := HR.out.kept KK); (have hgl := World.block_lt_of_cell? _ _ z0); (have HK2 := Lib.hid KK); clear hk2 KK)
    | (go_simp; go_at_call 82; refine (HW.out _).mono ?_; rintro e w2 ⟨rfl, hk2⟩; (obtain ⟨KK, hx⟩ := grow1 (w := w) ⟨hk2, rfl⟩); (obtain ⟨⟨x0, x4⟩, ⟨x1, x5⟩, ⟨x2, x6⟩, x3, x7⟩ := hx); (have hlt : w.heap.size < w2.heap.size := World.block_lt_of_cell? _ _ x0); (obtain ⟨z0, z1, z2, z3⟩ := HR.out.kept KK); (have hgl := World.block_lt_of_cell? _ _ z0); (have HK2 := Lib.hid KK); clear hk2 KK)
    | (go_simp; go_at_call 82; refine (HW.out _).mono ?_; rintro e w2 ⟨rfl, hk2⟩; (have KK : Kept Nothing w w2 := ((Kept.refl Nothing w).drew).trans hk2); (obtain ⟨z0, z1, z2, z3⟩ := HR.out.kept KK); (have hgl := World.block_lt_of_cell? _ _ z0); (have HK2 := Lib.hid KK); clear hk2 KK))
   all_goals
    go_wp2
    go_meet
    refine ⟨_, _, rfl, rfl, ⟨?_, ?_, ?_, ?_⟩, ⟨?_, ?_, ?_, ?_⟩, ?_, ?_, ?_⟩
    all_goals try (first | exact Nat.le_refl _ | (have hs2 := HK2.out.size; first | omega | (simp; done) | (simp; omega)))
    all_goals try (simp only [List.getD_cons_zero, List.getD_cons_succ, by8]; go_simp; done)
    all_goals
      repeat (first | with_reducible exact HK2.out | with_reducible apply Kept.alloc | (with_reducible apply Kept.setCell _ (fun h => absurd h (by simp))))
  case rest =>
    obtain ⟨a, b, rfl, rfl, h4a, h4b, hga, hgb, hk⟩ := hcut
    have hla := World.block_lt_of_cell? _ _ h4a.1
    have hlb := World.block_lt_of_cell? _ _ h4b.1
    simp only at hla hlb
    have HA := Lib.hid h4a.by
    have HB := Lib.hid h4b.by
    have HK := Lib.hid hk
    clear h4a h4b hk
    go_wp2
    go_region
    all_goals
      go_wp2
      go_ret
      have k1 := (Kept.refl Nothing wc).alloc (.cells #[.int .u8 1, .slice (some ⟨a, 0, none⟩) 4 4, .int .u8 2, .slice none 0 0, .int .u8 65, .slice (some ⟨b, 0, none⟩) 4 4] 66)
      refine ⟨wc.heap.size, _, rfl, (Blk.fresh wc 66 #[.int .u8 1, .slice (some ⟨a, 0, none⟩) 4 4, .int .u8 2, .slice none 0 0, .int .u8 65, .slice (some ⟨b, 0, none⟩) 4 4]).drew, rfl, ⟨rfl, ⟨(HA.out.old k1).old ((Kept.refl Nothing _).drew), offn hga⟩, rfl, ⟨(Bs.nil _).by, fun a n c e _ => by cases e⟩, rfl, ?_, trivial⟩, HK.out.size, (HK.out.trans k1).drew⟩
      refine ⟨?_, offn hgb⟩
      show By _ _ (be4 n)
      rw [HY.out]
      exact (HB.out.old k1).old ((Kept.refl Nothing _).drew)
theorem CpsO.of_blk {P : Nat → Prop} {w : World} {g : Nat} {t : TypeId} {cs : Array Value} {l : List Cp} (h : Blk w g t cs) (hc : Cells (fun u m => By w u m ∧ OffB P u) cs.toList l) (hm : l.length ≤ maxLen) (hg : ¬ P g) : CpsO P w (.slice (some ⟨g, 0, none⟩) l.length l.length) l := by
  refine ⟨_, _, rfl, Nat.le_refl _, hm, fun h0 => ⟨g, 0, rfl, hg, fun i hi => ?_⟩⟩
  obtain ⟨h1, u, h2, h3, h4⟩ := hc.at i hi
  rw [h.cell, h.cell, Nat.zero_add]
  rw [Array.getElem?_toList] at h1 h2
  exact ⟨h1, u, h2, h3, h4⟩
theorem cp_ours_off (n : Nat) (h : n < 4294967296) (w : World) (hr : RdC w) :
    Calls Tryd.prog 63 #[.int .u32 (n : Int)] w fun e w' => ∃ rv, e = .returned rv ∧ CpsO (fun k => k < w.heap.size) w' rv (oursL n) ∧ Kept Nothing w w' :=
  (cp_ours_new n h w hr).mono fun _ _ ⟨_, _, he, hb, _, hc, hg, hk⟩ => ⟨_, he, CpsO.of_blk (l := oursL n) hb hc (by simp [oursL, maxLen]) (Nat.not_lt.2 hg), hk⟩
end Go.Proofs.YtohgkibpcgfihaaDoor
