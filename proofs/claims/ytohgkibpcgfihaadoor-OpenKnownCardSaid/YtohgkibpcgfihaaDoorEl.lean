
/-
  What an OPEN's form is: the program's Put, one drawn region with seven calls of a writer.
-/
import Derived.Test.YtohgkibpcgfihaaDoorEd
import Derived.Test.YtohgkibpcgfihaaDoorIv
namespace Go.Proofs.YtohgkibpcgfihaaDoor
open Go.RowKit

theorem pa_off {listed : Array Bool} {i n : Nat} (hs : listed.size = n) (hi : i < n) (h : listed.getD i true = false) : listed.getD i false = false := by
  have hlt : i < listed.size := by omega
  rw [Array.getD_eq_getD_getElem?, Array.getElem?_eq_getElem hlt] at h ⊢
  exact h
theorem pa_on {listed : Array Bool} {i n : Nat} (hs : listed.size = n) (hi : i < n) : (listed.setIfInBounds i true).getD i false = true := by
  have hlt : i < listed.size := by omega
  simp [hlt]
/-- The writer's ghost: how far it is, its blocks, its place. -/
structure PG where
  n : Nat
  F : Nat → Prop
  p : Nat
/-- What is laid at each stage. -/
def layP (o : Opn) (cb : List UInt8) : Nat → WS
  | 0 | 1 => ⟨[], [], 0⟩
  | 2 => (⟨[], [], 0⟩ : WS).lay [UInt8.ofNat o.ver]
  | 3 => ((⟨[], [], 0⟩ : WS).lay [UInt8.ofNat o.ver]).lay (twos [o.asn, o.hold])
  | 4 => (((⟨[], [], 0⟩ : WS).lay [UInt8.ofNat o.ver]).lay (twos [o.asn, o.hold])).lay (fours [o.id])
  | 5 => ((((⟨[], [], 0⟩ : WS).lay [UInt8.ofNat o.ver]).lay (twos [o.asn, o.hold])).lay (fours [o.id])).hold 1
  | 6 => (((((⟨[], [], 0⟩ : WS).lay [UInt8.ofNat o.ver]).lay (twos [o.asn, o.hold])).lay (fours [o.id])).hold 1).lay cb
  | _ => ((((((⟨[], [], 0⟩ : WS).lay [UInt8.ofNat o.ver]).lay (twos [o.asn, o.hold])).lay (fours [o.id])).hold 1).lay cb).fill
theorem fours_be4 (n : Nat) : fours [n] = be4 n := by
  have e : ∀ a b : Nat, a % 256 = b % 256 → UInt8.ofNat a = UInt8.ofNat b := fun a b h => UInt8.toNat_inj.1 (by rw [UInt8.toNat_ofNat', UInt8.toNat_ofNat']; exact h)
  show [UInt8.ofNat (n / 65536 / 256), UInt8.ofNat (n / 65536), UInt8.ofNat (n % 65536 / 256), UInt8.ofNat (n % 65536)] = [UInt8.ofNat (n / 16777216), UInt8.ofNat (n / 65536), UInt8.ofNat (n / 256), UInt8.ofNat n]
  rw [e (n / 65536 / 256) (n / 16777216) (by omega), e (n % 65536 / 256) (n / 256) (by omega), e (n % 65536) n (by omega)]
theorem layP6 (o : Opn) (cb : List UInt8) : layP o cb 6 = ⟨[UInt8.ofNat o.ver] ++ twos [o.asn, o.hold] ++ fours [o.id] ++ [0] ++ cb, [(1, 10)], 0⟩ := by
  simp [layP, WS.lay, WS.hold, twos, two, fours]
theorem layP7 (o : Opn) (cb : List UInt8) (h : cb.length ≤ 255) : layP o cb 7 = ⟨UInt8.ofNat o.ver :: two o.asn ++ two o.hold ++ be4 o.id ++ UInt8.ofNat cb.length :: cb, [], 0⟩ := by
  show (layP o cb 6).fill = _
  rw [layP6, ← fours_be4]
  have hn : ¬ 256 ≤ cb.length := by omega
  simp [WS.fill, WS.tell, twos, two, fours, hn]
theorem layP_len (o : Opn) (cb : List UInt8) (h : cb.length ≤ 255) : ∀ j, (layP o cb j).l.length ≤ 300 ∧ (layP o cb j).hs.length ≤ 1 := by
  intro j
  match j with
  | 0 | 1 => simp [layP]
  | 2 | 3 | 4 | 5 => simp [layP, WS.lay, WS.hold, twos, two, fours]
  | 6 => rw [layP6]; simp [twos, two, fours]; omega
  | n + 7 =>
    have e : layP o cb (n + 7) = layP o cb 7 := rfl
    rw [e, layP7 o cb h]; simp [two, be4]; omega
theorem layP_done (o : Opn) (cb : List UInt8) (h : cb.length ≤ 255) : (layP o cb 7).done = (UInt8.ofNat o.ver :: two o.asn ++ two o.hold ++ be4 o.id ++ UInt8.ofNat cb.length :: cb, 0) := by
  rw [layP7 o cb h]; rfl

theorem Cp.bytes_short {l : List Cp} (h : (Cp.bytes l).2 = 0) : (Cp.bytes l).1.length ≤ 255 := by
  obtain ⟨_, ⟨h1, h2⟩ | ⟨h1, h2, h3⟩⟩ := Cp.bytes_ok h
  · rw [h2]; simp
  · rw [h3]; simp; omega
def pstages : List (Nat × Nat) := [(0, 1), (4, 2), (10, 3), (14, 4), (15, 5), (17, 6), (18, 7)]
def PJ (listed : Array Bool) (G : PG) : Prop := ∀ x ∈ pstages, listed.getD x.1 false = decide (x.2 ≤ G.n)
theorem PJ.other {listed : Array Bool} {G G' : PG} {i : Nat} (h : PJ listed G) (hi : ∀ x ∈ pstages, x.1 ≠ i) (hn : G'.n = G.n) : PJ (listed.setIfInBounds i true) G' := fun x hx => by
  rw [getD_set_ne false (fun e => hi x hx e.symm), h x hx, hn]
/-- A step of the chain. -/
theorem PJ.next {listed : Array Bool} {G G' : PG} {i m : Nat} (h : PJ listed G) (hs : listed.size = 24) (hi : (i, m + 1) ∈ pstages) (h0 : listed.getD i true = false) (hp : m = 0 ∨ ∃ j, (j, m) ∈ pstages ∧ listed.getD j false = true) (hn : G'.n = m + 1) : G.n = m ∧ PJ (listed.setIfInBounds i true) G' := by
  have hi20 : i < 24 := by
    simp [pstages] at hi
    omega
  have e1 := h _ hi
  rw [pa_off hs hi20 h0] at e1
  have h1 : ¬ (m + 1 ≤ G.n) := by simpa using e1.symm
  have h2 : m ≤ G.n := by
    rcases hp with rfl | ⟨j, hj, hl⟩
    · omega
    · have := h _ hj
      rw [hl] at this
      simpa using this.symm
  have hg : G.n = m := by omega
  refine ⟨hg, fun x hx => ?_⟩
  by_cases hxi : x.1 = i
  · have hx2 : x.2 = m + 1 := by
      simp [pstages] at hx hi
      obtain ⟨a, b⟩ := x
      simp only [Prod.mk.injEq] at hx hi hxi ⊢
      omega
    rw [hxi, pa_on hs hi20, hn, hx2]
    simp
  · rw [getD_set_ne false (fun e => hxi e.symm), h x hx, hn, hg]
    have : x.2 ≠ m + 1 := by
      simp [pstages] at hx hi
      obtain ⟨a, b⟩ := x
      simp only [Prod.mk.injEq] at hx hi hxi ⊢
      omega
    rw [decide_eq_decide]
    omega

theorem p_newly {S : Nat → Prop} {w w1 w2 : World} (h : Kept Nothing w w1) (k : Kept S w1 w2) (hs : ∀ i, S i → w.heap.size ≤ i) : Kept Nothing w w2 := h.late k hs
def PR (G : PG) (w : World) (G' : PG) (w' : World) : Prop := (1 ≤ G.n → 1 ≤ G'.n ∧ G'.p = G.p) ∧ Kept G.F w w' ∧ Sub w G'.F G.F
def PB (W : World) (box : Nat) (o : Opn) (cb : List UInt8) (cv : Value) (G : PG) (w : World) : Prop :=
  box < W.heap.size ∧ Kept Nothing W w ∧ (∀ k, G.F k → W.heap.size ≤ k) ∧ (G.n = 0 → G.F = Nothing) ∧ (1 ≤ G.n → Wr w G.F G.p (layP o cb G.n)) ∧ Blk w box 28 #[.int .u8 (o.ver : Int), .int .u16 (o.asn : Int), .int .u16 (o.hold : Int), .int .u32 (o.id : Int), cv]
theorem p_bsoff {S : Nat → Prop} {w w' : World} {v : Value} {l : List UInt8} (h : Bs w v l) (k : Kept S w w') (hs : OffB S v) : Bs w' v l := by
  obtain ⟨A, c, hv, hc, hm, hr⟩ := h
  refine ⟨A, c, hv, hc, hm, fun h0 => ?_⟩
  obtain ⟨b, o, cs, f, hA, hb, hi⟩ := hr h0
  exact ⟨b, o, cs, f, hA, (k.block b (Array.getElem?_eq_some_iff.1 hb).1 (fun x => hs ⟨b, o, none⟩ _ _ (by rw [hv, hA]) h0 x)).trans hb, hi⟩
theorem p_sub {w : World} {F F' : Nat → Prop} {v : Value} {l : List UInt8} (h : OffB F v) (hb : By w v l) (hs : Sub w F' F) : OffB F' v := fun a n c e h0 x => by
  rcases hs _ x with y | y
  · exact h a n c e h0 y
  · exact hb.offb (P := fun k => w.heap.size ≤ k) (fun _ h => h) a n c e h0 y
def PLies (G : PG) (w : World) (v : Value) (l : List UInt8) : Prop := Bs w v l ∧ OffB G.F v
theorem PLies.step {G G' : PG} {w w' : World} {v : Value} {l : List UInt8} (h : PLies G w v l) (r : PR G w G' w') : PLies G' w' v l := ⟨p_bsoff h.1 r.2.1 h.2, p_sub h.2 h.1.by r.2.2⟩
def PLiesU (ty : TypeId) (kd : IntKind) (G : PG) (w : World) (v : Value) (l : List Nat) : Prop := Us w ty kd v l ∧ (1 ≤ l.length) ∧ ∃ b A c, v = .slice (some ⟨b, A, none⟩) l.length c ∧ ¬ G.F b ∧ b < w.heap.size ∧ ∃ cs f, w.heap[b]? = some (.cells cs ty f)
def PAt (G : PG) (v : Value) : Prop := 1 ≤ G.n ∧ v = .pointer (some ⟨G.p, 0, none⟩)
theorem PAt.step {G G' : PG} {w w' : World} {v : Value} (h : PAt G v) (r : PR G w G' w') : PAt G' v := by
  obtain ⟨h1, h2⟩ := r.1 h.1
  exact ⟨h1, by rw [h2]; exact h.2⟩
theorem PLiesU.step {ty : TypeId} {kd : IntKind} {G G' : PG} {w w' : World} {v : Value} {l : List Nat} (h : PLiesU ty kd G w v l) (r : PR G w G' w') : PLiesU ty kd G' w' v l := by
  obtain ⟨hu, h1, b, o, c, rfl, hf, hb, cs, f, hc⟩ := h
  have hc' := (r.2.1.block b hb hf).trans hc
  refine ⟨?_, h1, b, o, c, rfl, fun x => ?_, Nat.lt_of_lt_of_le hb r.2.1.size, cs, f, hc'⟩
  · obtain ⟨A', c', hv, ha, hm, hr⟩ := hu
    injection hv with e1 e2 e3
    subst e3
    refine ⟨some ⟨b, o, none⟩, c, rfl, ha, hm, fun h0 => ?_⟩
    obtain ⟨b2, o2, cs2, f2, e4, hh, hcs⟩ := hr h0
    rw [← e1] at e4
    injection e4 with e4
    injection e4 with e5 e6
    subst e5 e6
    exact ⟨b, o, cs2, f2, rfl, (r.2.1.block b hb hf).trans hh, hcs⟩
  · rcases r.2.2 b x with y | y
    · exact hf y
    · omega
theorem PB.lt {W w : World} {box : Nat} {o : Opn} {cb : List UInt8} {cv : Value} {G : PG} (h : PB W box o cb cv G w) : ∀ k, G.F k → k < w.heap.size := fun k hk => by
  obtain ⟨_, _, _, h0, h1, _⟩ := h
  by_cases hn : G.n = 0
  · rw [h0 hn] at hk; exact hk.elim
  · exact (h1 (by omega)).lt hk
theorem PB.box {W w : World} {box : Nat} {o : Opn} {cb : List UInt8} {cv : Value} {G : PG} (h : PB W box o cb cv G w) : ¬ G.F box := fun x => by
  have := h.2.2.1 _ x
  have := h.1
  omega
theorem p_quiet {W w w' : World} {box : Nat} {o : Opn} {cb : List UInt8} {cv : Value} {G : PG} (h : PB W box o cb cv G w) (k : Kept Nothing w w') : PR G w G w' ∧ PB W box o cb cv G w' :=
  ⟨⟨fun x => ⟨x, rfl⟩, k.mono (fun _ x => x.elim), Sub.refl _ _⟩, h.1, h.2.1.trans k, h.2.2.1, h.2.2.2.1, fun x => (h.2.2.2.2.1 x).kept k (fun _ _ y => y), h.2.2.2.2.2.kept k (fun y => y)⟩
theorem p_chain {W w w' : World} {box j : Nat} {o : Opn} {cb : List UInt8} {cv : Value} {G : PG} {F' : Nat → Prop} (h : PB W box o cb cv G w) (_hn : G.n = j) (_hj : 1 ≤ j) (hw : Wr w' F' G.p (layP o cb (j + 1))) (k : Kept G.F w w') (hs : Sub w F' G.F) :
    PR G w ⟨j + 1, F', G.p⟩ w' ∧ PB W box o cb cv ⟨j + 1, F', G.p⟩ w' := by
  refine ⟨⟨fun _ => ⟨Nat.le_add_left _ _, rfl⟩, k, hs⟩, h.1, p_newly h.2.1 k h.2.2.1, fun i hi => ?_, fun e => absurd e (Nat.succ_ne_zero _), fun _ => hw, h.2.2.2.2.2.kept k h.box⟩
  rcases hs i hi with x | x
  · exact h.2.2.1 i x
  · exact Nat.le_trans h.2.1.size x
theorem PR.refl (G : PG) (w : World) : PR G w G w := ⟨fun h => ⟨h, rfl⟩, Kept.refl _ _, Sub.refl _ _⟩
theorem p_new {W w w' : World} {box : Nat} {o : Opn} {cb : List UInt8} {cv v : Value} {G : PG} {l : List UInt8} (h : PB W box o cb cv G w) (hb : Bs w' v l) (hn : ∀ a n c, v = .slice (some a) n c → w.heap.size ≤ a.block) : PLies G w' v l :=
  ⟨hb, fun a n c e _ x => by have h1 := hn a n c e; have h2 := h.lt _ x; omega⟩

def PF (box : Nat) (o : Opn) (cb : List UInt8) (cv : Value) : Nat → PG → Value → World → Prop
  | 0, G, v, _ => PAt G v
  | 1, _, v, _ => v = .pointer (some ⟨box, 0, none⟩)
  | 2, _, v, _ => v = .int .u8 (o.ver : Int)
  | 3, G, v, w => PLies G w v [UInt8.ofNat o.ver]
  | 4, G, v, _ => PAt G v
  | 5, _, v, _ => v = .pointer (some ⟨box, 1, none⟩)
  | 6, _, v, _ => v = .int .u16 (o.asn : Int)
  | 7, _, v, _ => v = .pointer (some ⟨box, 2, none⟩)
  | 8, _, v, _ => v = .int .u16 (o.hold : Int)
  | 9, G, v, w => PLiesU 23 .u16 G w v [o.asn, o.hold]
  | 10, G, v, _ => PAt G v
  | 11, _, v, _ => v = .pointer (some ⟨box, 3, none⟩)
  | 12, _, v, _ => v = .int .u32 (o.id : Int)
  | 13, G, v, w => PLiesU 24 .u32 G w v [o.id]
  | 14, G, v, _ => PAt G v
  | 15, G, v, _ => PAt G v
  | 16, _, v, _ => v = cv
  | 17, G, v, _ => PAt G v
  | 18, G, v, _ => PAt G v
  | 19, G, v, w => ∃ x, v = .tuple #[x, .int .i64 0] ∧ PLies G w x (layP o cb 7).l
  | 20, G, v, w => PLies G w v (layP o cb 7).l
  | 21, _, v, _ => v = .int .i64 0
  | 22, G, v, w => PLies G w v (layP o cb 7).l
  | 23, _, v, _ => v = .int .i64 0
  | _, _, _, _ => True
theorem PF.step {box : Nat} {o : Opn} {cb : List UInt8} {cv : Value} (k : Nat) (G : PG) (w : World) (G' : PG) (w' : World) (v : Value) (r : PR G w G' w') (h : PF box o cb cv k G v w) : PF box o cb cv k G' v w' := by
  unfold PF at h ⊢
  split at h
  all_goals first | exact PAt.step h r | exact PLies.step h r | exact PLiesU.step h r | exact h | (obtain ⟨x, h1, h2⟩ := h; exact ⟨x, h1, h2.step r⟩) | trivial

theorem p_made1 (W : World) (k : Nat) (hk : W.heap.size = k) (x : Int) (a : UInt8) (hx : x = (a.toNat : Int)) : Bs (W.alloc (.cells #[.int .u8 x] 5)) (.slice (some ⟨k, 0, none⟩) 1 1) [a] := by
  subst hk hx
  exact Bs.made (l := [a]) (Blk.fresh W _ _) rfl (by simp [maxLen])
theorem p_lo (n : Nat) (h : n < 256) : (n : Int) = ((UInt8.ofNat n).toNat : Int) := by rw [UInt8.toNat_ofNat']; omega
theorem p_at0 (w : World) (k n c : Nat) (h : w.heap.size ≤ k) : ∀ a m d, Value.slice (some ⟨k, 0, none⟩) n c = .slice (some a) m d → w.heap.size ≤ a.block := fun a n' c' e => by
  injection e with e1 e2 e3
  injection e1 with e1
  subst e1
  exact h
theorem p_own {w : World} {base n : Nat} {e : TypeId} {size : Nat} {v : Value} {xs : List Value} (h : w.ownsRow base e size v n xs) : ∀ a n c, v = .slice (some a) n c → base ≤ a.block := fun a n c hv => by
  subst hv
  exact (h.lt a.block rfl).1
theorem p_done (p : Nat) (F : Nat → Prop) (s : WS) (w : World) (h : Wr w F p s) :
    Calls Tryd.prog 49 #[.pointer (some ⟨p, 0, none⟩)] w fun r w' => ∃ v, r = .returned (.tuple #[v, .int .i64 s.done.2]) ∧ Bs w' v s.done.1 ∧ (∀ a n c, v = .slice (some a) n c → w.heap.size ≤ a.block) ∧ Kept Nothing w w' := by
  have hE := Lib.hid (wr_err p F s w h)
  by_cases he : s.e = 0
  · have hn : (s.e != 0) = false := by simpa using he
    have hmx := h.ok.2.1
    obtain ⟨bv, hv, _, hb, h1, h2, hok⟩ := h
    obtain ⟨⟨-, c1, c2, -⟩, -⟩ := cells4 hb
    obtain ⟨A0, cc0, rfl, _, _⟩ := own_form h1
    obtain ⟨A1, cc1, rfl, _, _⟩ := own_form h2
    by_cases h0 : s.hs = []
    · have HF : Hid (s.done = (s.l, 0)) := by show _ = _; unfold WS.done; rw [if_pos he, if_pos h0]
      rw [HF.out]
      have HC := Lib.hid (sl_clone _ s.l w (Bs.of_own h1).by hmx)
      rw [h0] at c2
      simp only [List.length_nil] at c2
      clear HF he h0 hb h1 h2 hok
      go_enter Tryd.func49, Tryd.ntmps49
      go_wp2_with fail
      refine hE.out.mono ?_
      rintro e w' ⟨rfl, rfl⟩
      go_wp2_with fail
      refine HC.out.mono ?_
      rintro e w1 ⟨v, rfl, ho, hk⟩
      have HO := Lib.hid ho
      clear ho
      go_wp2
      go_ret2
      exact ⟨v, rfl, Bs.of_own HO.out, p_own HO.out, hk⟩
    · have HF : Hid (s.done = ([], 26)) := by show _ = _; unfold WS.done; rw [if_pos he, if_neg h0]
      rw [HF.out]
      have hl : 0 < s.hs.length := List.length_pos_iff.2 h0
      have hlI : (0 : Int) < s.hs.length := by omega
      clear HF he h0 hb h1 h2 hok
      go_enter Tryd.func49, Tryd.ntmps49
      go_wp2_with fail
      refine hE.out.mono ?_
      rintro e w' ⟨rfl, rfl⟩
      go_wp2
      go_ret2
      exact ⟨_, rfl, Bs.nil _, (fun a n c e => by cases e), Kept.refl _ _⟩
  · have HF : Hid (s.done = ([], s.e)) := if_neg he
    rw [HF.out]
    have hn : (s.e != 0) = true := by simpa using he
    clear HF he h
    go_enter Tryd.func49, Tryd.ntmps49
    go_wp2_with fail
    refine hE.out.mono ?_
    rintro e w' ⟨rfl, rfl⟩
    go_wp2
    go_ret2
    exact ⟨_, rfl, Bs.nil _, (fun a n c e => by cases e), Kept.refl _ _⟩


set_option maxRecDepth 100000 in
set_option maxHeartbeats 16000000 in
theorem op_put (o : Opn) (ho : o.fine) (v : Value) (W : World) (hv : Cps W v o.caps) (hl : o.caps.length ≤ 1000000) :
    Calls Tryd.prog 15 #[.agg #[.int .u8 (o.ver : Int), .int .u16 (o.asn : Int), .int .u16 (o.hold : Int), .int .u32 (o.id : Int), v]] W fun r w' => ∃ v', r = .returned (.tuple #[v', .int .i64 (o.put.2 : Nat)]) ∧ Bs w' v' o.put.1 ∧ Kept Nothing W w' := by
  obtain ⟨A, c, rfl, hc, hm⟩ := hv.form
  have HO := Lib.hid ho
  have KA := (Kept.refl Nothing W).alloc (.cells #[.int .u8 (o.ver : Int), .int .u16 (o.asn : Int), .int .u16 (o.hold : Int), .int .u32 (o.id : Int), .slice A o.caps.length c] 28)
  have HC := Lib.hid (cp_bytes _ o.caps _ (hv.old KA) hl)
  have B0 := Lib.hid (Blk.fresh W 28 #[.int .u8 (o.ver : Int), .int .u16 (o.asn : Int), .int .u16 (o.hold : Int), .int .u32 (o.id : Int), .slice A o.caps.length c])
  have K0 := Lib.hid KA
  have HCL := Lib.hid (fun h => Cp.bytes_short (l := o.caps) h)
  have hP0 : (Cp.bytes o.caps).2 ≠ 0 → o.put = ([], (Cp.bytes o.caps).2) := fun h => if_pos h
  have hP1 : (Cp.bytes o.caps).2 = 0 → o.put = (UInt8.ofNat o.ver :: two o.asn ++ two o.hold ++ be4 o.id ++ UInt8.ofNat (Cp.bytes o.caps).1.length :: (Cp.bytes o.caps).1, 0) := fun h => if_neg (by rw [h]; simp)
  clear hv ho KA
  generalize Cp.bytes o.caps = R at *
  obtain ⟨cb, e⟩ := R
  simp only at HC HCL hP0 hP1
  obtain ⟨PU, HPU⟩ : ∃ PU, Hid (o.put = PU) := ⟨_, Lib.hid rfl⟩
  rw [HPU.out] at hP0 hP1 ⊢
  have HP0 := Lib.hid hP0
  have HP1 := Lib.hid hP1
  clear hP0 hP1 HPU
  go_enter Tryd.func15, Tryd.ntmps15
  go_wp2_with fail
  refine HC.out.mono ?_
  rintro e1 W1 ⟨cv, rfl, hb, hk⟩
  have K1 := Lib.hid (K0.out.trans hk)
  have B1 := Lib.hid (B0.out.kept hk (fun x => x))
  obtain ⟨Ac, cc, rfl, hcc, hcm⟩ := hb.form
  have HY := Lib.hid hb.by
  clear hb hk K0 B0 HC
  by_cases he : e = 0
  · subst he
    replace HCL := Lib.hid (HCL.out rfl)
    have HDN : Hid ((layP o cb 7).done = ((layP o cb 7).l, 0)) := Lib.hid (by rw [layP_done o cb HCL.out, layP7 o cb HCL.out])
    have HL : Hid ((layP o cb 7).l = UInt8.ofNat o.ver :: two o.asn ++ two o.hold ++ be4 o.id ++ UInt8.ofNat cb.length :: cb) := Lib.hid (by rw [layP7 o cb HCL.out])
    obtain rfl := HP1.out rfl
    clear HP0 HP1
    go_wp2_with fail
    refine wp_region_facts (PB W1 W.heap.size o cb (.slice A o.caps.length c)) PJ (PF W.heap.size o cb (.slice Ac cb.length cc)) PR (by kernel_rfl) (by decide) (by intro d hd; simp [dsts] at hd ⊢; omega) (by rfl) (ready_nil (by kernel_rfl)) PF.step ?_ ?_ ?_
    · refine ⟨⟨0, Nothing, 0⟩, fun x hx => ?_, ?_⟩
      · simp only [pstages, List.mem_cons, List.not_mem_nil, or_false] at hx
        rcases hx with rfl | rfl | rfl | rfl | rfl | rfl | rfl <;> rfl
      · exact ⟨B1.out.lt, (Kept.refl _ _).drew, fun k x => x.elim, fun _ => rfl, fun x => absurd x (by decide), B1.out.drew⟩
    · refine OwesAll.cons ?_ (OwesAll.cons ?_ (OwesAll.cons ?_ (OwesAll.cons ?_ (OwesAll.cons ?_ (OwesAll.cons ?_ (OwesAll.cons ?_ (OwesAll.cons ?_ (OwesAll.cons ?_ (OwesAll.cons ?_ (OwesAll.cons ?_ (OwesAll.cons ?_ (OwesAll.cons ?_ (OwesAll.cons ?_ (OwesAll.cons ?_ (OwesAll.cons ?_ (OwesAll.cons ?_ (OwesAll.cons ?_ (OwesAll.cons ?_ (OwesAll.cons ?_ (OwesAll.cons ?_ (OwesAll.cons ?_ (OwesAll.cons ?_ (OwesAll.cons ?_ OwesAll.nil)))))))))))))))))))))))
      · intro listed G w a hsz hun haf hJ hB hK hfar
        have hg := (hJ.next (m := 0) (i := 0) hsz (by decide) hun (.inl rfl) (G' := ⟨1, Nothing, 0⟩) rfl).1
        have J' := Lib.hid (fun (F' : Nat → Prop) (p' : Nat) => (hJ.next (m := 0) (i := 0) hsz (by decide) hun (.inl rfl) (G' := ⟨1, F', p'⟩) rfl).2)
        clear hK haf hfar hJ hun hsz
        have HB := Lib.hid hB
        clear hB
        have HG := Lib.hid hg
        clear hg
        go_simp
        refine (wr_lay w).mono ?_
        rintro e w' ⟨p, F, rfl, hw, hk, hs⟩
        have hB := HB.out
        have h0 := hB.2.2.2.1 HG.out
        have hg := HG.out
        refine ⟨_, rfl, ⟨1, F, p⟩, ⟨fun x => by omega, by rw [h0]; exact hk, by rw [h0]; exact hs⟩, ⟨hB.1, hB.2.1.trans hk, fun k x => ?_, fun e => absurd e (Nat.succ_ne_zero 0), fun _ => hw, hB.2.2.2.2.2.kept hk (fun y => y)⟩, J'.out F p, ⟨Nat.le_refl 1, rfl⟩⟩
        rcases hs k x with y | y
        · exact y.elim
        · exact Nat.le_trans hB.2.1.size y
      · intro listed G w a hsz hun haf hJ hB hK hfar
        have k1 : a.tmps.getD 1 undef = .pointer (some ⟨W.heap.size, 0, none⟩) := hfar 1 (by decide)
        have J' := Lib.hid (hJ.other (i := 1) (G' := G) (by decide) rfl)
        clear hK haf hfar hJ hun hsz
        have HB := Lib.hid hB
        clear hB
        go_simp
        exact ⟨_, rfl, G, PR.refl _ _, HB.out, J'.out, rfl⟩
      · intro listed G w a hsz hun haf hJ hB hK hfar
        have k16 := hK 1 _ 16 rfl rfl (haf ⟨1, .data⟩ (Array.mem_of_getElem? (i := 0) rfl) rfl)
        have k16' : a.tmps.getD 16 undef = .pointer (some ⟨W.heap.size, 0, none⟩) := k16
        clear k16
        have c0 : w.cell? ⟨W.heap.size, 0, none⟩ = some (.int .u8 (o.ver : Int)) := hB.2.2.2.2.2.cell 0
        have J' := Lib.hid (hJ.other (i := 2) (G' := G) (by decide) rfl)
        clear hK haf hfar hJ hun hsz
        have HB := Lib.hid hB
        clear hB
        go_simp
        exact ⟨_, rfl, G, PR.refl _ _, HB.out, J'.out, rfl⟩
      · intro listed G w a hsz hun haf hJ hB hK hfar
        have k17 := hK 2 _ 17 rfl rfl (haf ⟨2, .data⟩ (Array.mem_of_getElem? (i := 0) rfl) rfl)
        have k17' : a.tmps.getD 17 undef = .int .u8 (o.ver : Int) := k17
        clear k17
        have k17q : a.tmps[17]?.getD undef = .int .u8 (o.ver : Int) := by rw [← Array.getD_eq_getD_getElem?]; exact k17'
        have J' := Lib.hid (hJ.other (i := 3) (G' := G) (by decide) rfl)
        clear hK haf hfar hJ hun hsz
        have HB := Lib.hid hB
        clear hB
        go_simp
        have kq := (Kept.refl Nothing w).alloc (.cells #[.int .u8 (o.ver : Int)] 5)
        obtain ⟨r1, r2⟩ := p_quiet HB.out kq
        exact ⟨_, rfl, G, r1, r2, J'.out, p_new HB.out (p_made1 w _ rfl (o.ver : Int) (UInt8.ofNat o.ver) (p_lo o.ver HO.out.1)) (p_at0 w _ _ _ (Nat.le_refl _))⟩
      · intro listed G w a hsz hun haf hJ hB hK hfar
        have k15 := hK 0 _ 15 rfl rfl (haf ⟨0, .data⟩ (Array.mem_of_getElem? (i := 0) rfl) rfl)
        have k15' : a.tmps.getD 15 undef = .pointer (some ⟨G.p, 0, none⟩) := k15.2
        clear k15
        have k18 := hK 3 _ 18 rfl rfl (haf ⟨3, .data⟩ (Array.mem_of_getElem? (i := 1) rfl) rfl)
        have hg := (hJ.next (m := 1) (i := 4) hsz (by decide) hun (.inr ⟨0, by decide, (haf ⟨0, .data⟩ (Array.mem_of_getElem? (i := 0) rfl) rfl)⟩) (G' := ⟨2, Nothing, 0⟩) rfl).1
        have J' := Lib.hid (fun (F' : Nat → Prop) (p' : Nat) => (hJ.next (m := 1) (i := 4) hsz (by decide) hun (.inr ⟨0, by decide, (haf ⟨0, .data⟩ (Array.mem_of_getElem? (i := 0) rfl) rfl)⟩) (G' := ⟨2, F', p'⟩) rfl).2)
        clear hK haf hfar hJ hun hsz
        have HB := Lib.hid hB
        clear hB
        obtain ⟨hk18, -⟩ : PLies G w (a.tmps.getD 18 undef) [UInt8.ofNat o.ver] := k18
        have Bk18 := Lib.hid hk18
        generalize hvk18 : a.tmps.getD 18 undef = vk18 at *
        clear hk18
        have hw := HB.out.2.2.2.2.1 (by omega)
        rw [hg] at hw
        have HW := Lib.hid hw
        have HG := Lib.hid hg
        obtain ⟨hL, hL2⟩ := layP_len o cb HCL.out 1
        clear hw hg
        go_simp
        refine (wr_byte G.p G.F _ vk18 _ w HW.out Bk18.out.by (by simp only [List.length_cons, List.length_nil]; omega)).mono ?_
        rintro e w' ⟨F', rfl, hw', hk, hs⟩
        obtain ⟨r1, r2⟩ := p_chain (F' := F') HB.out HG.out (by decide) hw' hk hs
        exact ⟨_, rfl, ⟨2, F', G.p⟩, r1, r2, J'.out F' G.p, ⟨by show 1 ≤ 2; decide, rfl⟩⟩
      · intro listed G w a hsz hun haf hJ hB hK hfar
        have k1 : a.tmps.getD 1 undef = .pointer (some ⟨W.heap.size, 0, none⟩) := hfar 1 (by decide)
        have J' := Lib.hid (hJ.other (i := 5) (G' := G) (by decide) rfl)
        clear hK haf hfar hJ hun hsz
        have HB := Lib.hid hB
        clear hB
        go_simp
        exact ⟨_, rfl, G, PR.refl _ _, HB.out, J'.out, rfl⟩
      · intro listed G w a hsz hun haf hJ hB hK hfar
        have k20 := hK 5 _ 20 rfl rfl (haf ⟨5, .data⟩ (Array.mem_of_getElem? (i := 0) rfl) rfl)
        have k20' : a.tmps.getD 20 undef = .pointer (some ⟨W.heap.size, 1, none⟩) := k20
        clear k20
        have c1 : w.cell? ⟨W.heap.size, 1, none⟩ = some (.int .u16 (o.asn : Int)) := hB.2.2.2.2.2.cell 1
        have J' := Lib.hid (hJ.other (i := 6) (G' := G) (by decide) rfl)
        clear hK haf hfar hJ hun hsz
        have HB := Lib.hid hB
        clear hB
        go_simp
        exact ⟨_, rfl, G, PR.refl _ _, HB.out, J'.out, rfl⟩
      · intro listed G w a hsz hun haf hJ hB hK hfar
        have k1 : a.tmps.getD 1 undef = .pointer (some ⟨W.heap.size, 0, none⟩) := hfar 1 (by decide)
        have J' := Lib.hid (hJ.other (i := 7) (G' := G) (by decide) rfl)
        clear hK haf hfar hJ hun hsz
        have HB := Lib.hid hB
        clear hB
        go_simp
        exact ⟨_, rfl, G, PR.refl _ _, HB.out, J'.out, rfl⟩
      · intro listed G w a hsz hun haf hJ hB hK hfar
        have k22 := hK 7 _ 22 rfl rfl (haf ⟨7, .data⟩ (Array.mem_of_getElem? (i := 0) rfl) rfl)
        have k22' : a.tmps.getD 22 undef = .pointer (some ⟨W.heap.size, 2, none⟩) := k22
        clear k22
        have c2 : w.cell? ⟨W.heap.size, 2, none⟩ = some (.int .u16 (o.hold : Int)) := hB.2.2.2.2.2.cell 2
        have J' := Lib.hid (hJ.other (i := 8) (G' := G) (by decide) rfl)
        clear hK haf hfar hJ hun hsz
        have HB := Lib.hid hB
        clear hB
        go_simp
        exact ⟨_, rfl, G, PR.refl _ _, HB.out, J'.out, rfl⟩
      · intro listed G w a hsz hun haf hJ hB hK hfar
        have k21 := hK 6 _ 21 rfl rfl (haf ⟨6, .data⟩ (Array.mem_of_getElem? (i := 0) rfl) rfl)
        have k21' : a.tmps.getD 21 undef = .int .u16 (o.asn : Int) := k21
        clear k21
        have k21q : a.tmps[21]?.getD undef = .int .u16 (o.asn : Int) := by rw [← Array.getD_eq_getD_getElem?]; exact k21'
        have k23 := hK 8 _ 23 rfl rfl (haf ⟨8, .data⟩ (Array.mem_of_getElem? (i := 1) rfl) rfl)
        have k23' : a.tmps.getD 23 undef = .int .u16 (o.hold : Int) := k23
        clear k23
        have k23q : a.tmps[23]?.getD undef = .int .u16 (o.hold : Int) := by rw [← Array.getD_eq_getD_getElem?]; exact k23'
        have J' := Lib.hid (hJ.other (i := 9) (G' := G) (by decide) rfl)
        clear hK haf hfar hJ hun hsz
        have HB := Lib.hid hB
        clear hB
        go_simp
        have kq := (Kept.refl Nothing w).alloc (.cells #[.int .u16 (o.asn : Int), .int .u16 (o.hold : Int)] 23)
        obtain ⟨r1, r2⟩ := p_quiet HB.out kq
        refine ⟨_, rfl, G, r1, r2, J'.out, ⟨?_, by simp, w.heap.size, 0, 2, rfl, fun x => by have := HB.out.lt _ x; omega, by rw [World.size_alloc]; omega, _, _, Blk.fresh w 23 _⟩⟩
        exact Us.made (k := .u16) (l := [o.asn, o.hold]) (Blk.fresh w 23 #[.int .u16 (o.asn : Int), .int .u16 (o.hold : Int)]) (by simp) (by simp [maxLen])
      · intro listed G w a hsz hun haf hJ hB hK hfar
        have k19 := hK 4 _ 19 rfl rfl (haf ⟨4, .data⟩ (Array.mem_of_getElem? (i := 0) rfl) rfl)
        have k19' : a.tmps.getD 19 undef = .pointer (some ⟨G.p, 0, none⟩) := k19.2
        clear k19
        have k24 := hK 9 _ 24 rfl rfl (haf ⟨9, .data⟩ (Array.mem_of_getElem? (i := 1) rfl) rfl)
        have hg := (hJ.next (m := 2) (i := 10) hsz (by decide) hun (.inr ⟨4, by decide, (haf ⟨4, .data⟩ (Array.mem_of_getElem? (i := 0) rfl) rfl)⟩) (G' := ⟨3, Nothing, 0⟩) rfl).1
        have J' := Lib.hid (fun (F' : Nat → Prop) (p' : Nat) => (hJ.next (m := 2) (i := 10) hsz (by decide) hun (.inr ⟨4, by decide, (haf ⟨4, .data⟩ (Array.mem_of_getElem? (i := 0) rfl) rfl)⟩) (G' := ⟨3, F', p'⟩) rfl).2)
        clear hK haf hfar hJ hun hsz
        have HB := Lib.hid hB
        clear hB
        obtain ⟨hk24, -⟩ : PLiesU 23 .u16 G w (a.tmps.getD 24 undef) [o.asn, o.hold] := k24
        have Bk24 := Lib.hid hk24
        generalize hvk24 : a.tmps.getD 24 undef = vk24 at *
        clear hk24
        have hw := HB.out.2.2.2.2.1 (by omega)
        rw [hg] at hw
        have HW := Lib.hid hw
        have HG := Lib.hid hg
        obtain ⟨hL, hL2⟩ := layP_len o cb HCL.out 2
        clear hw hg
        go_simp
        refine (wr_two G.p G.F _ vk24 _ w HW.out Bk24.out (by intro x hx; simp only [List.mem_cons, List.not_mem_nil, or_false] at hx; exact hx.elim (fun e => by rw [e]; exact HO.out.2.1) (fun e => by rw [e]; exact HO.out.2.2.1)) (by simp only [List.length_cons, List.length_nil]; omega)).mono ?_
        rintro e w' ⟨F', rfl, hw', hk, hs⟩
        obtain ⟨r1, r2⟩ := p_chain (F' := F') HB.out HG.out (by decide) hw' hk hs
        exact ⟨_, rfl, ⟨3, F', G.p⟩, r1, r2, J'.out F' G.p, ⟨by show 1 ≤ 3; decide, rfl⟩⟩
      · intro listed G w a hsz hun haf hJ hB hK hfar
        have k1 : a.tmps.getD 1 undef = .pointer (some ⟨W.heap.size, 0, none⟩) := hfar 1 (by decide)
        have J' := Lib.hid (hJ.other (i := 11) (G' := G) (by decide) rfl)
        clear hK haf hfar hJ hun hsz
        have HB := Lib.hid hB
        clear hB
        go_simp
        exact ⟨_, rfl, G, PR.refl _ _, HB.out, J'.out, rfl⟩
      · intro listed G w a hsz hun haf hJ hB hK hfar
        have k26 := hK 11 _ 26 rfl rfl (haf ⟨11, .data⟩ (Array.mem_of_getElem? (i := 0) rfl) rfl)
        have k26' : a.tmps.getD 26 undef = .pointer (some ⟨W.heap.size, 3, none⟩) := k26
        clear k26
        have c3 : w.cell? ⟨W.heap.size, 3, none⟩ = some (.int .u32 (o.id : Int)) := hB.2.2.2.2.2.cell 3
        have J' := Lib.hid (hJ.other (i := 12) (G' := G) (by decide) rfl)
        clear hK haf hfar hJ hun hsz
        have HB := Lib.hid hB
        clear hB
        go_simp
        exact ⟨_, rfl, G, PR.refl _ _, HB.out, J'.out, rfl⟩
      · intro listed G w a hsz hun haf hJ hB hK hfar
        have k27 := hK 12 _ 27 rfl rfl (haf ⟨12, .data⟩ (Array.mem_of_getElem? (i := 0) rfl) rfl)
        have k27' : a.tmps.getD 27 undef = .int .u32 (o.id : Int) := k27
        clear k27
        have k27q : a.tmps[27]?.getD undef = .int .u32 (o.id : Int) := by rw [← Array.getD_eq_getD_getElem?]; exact k27'
        have J' := Lib.hid (hJ.other (i := 13) (G' := G) (by decide) rfl)
        clear hK haf hfar hJ hun hsz
        have HB := Lib.hid hB
        clear hB
        go_simp
        have kq := (Kept.refl Nothing w).alloc (.cells #[.int .u32 (o.id : Int)] 24)
        obtain ⟨r1, r2⟩ := p_quiet HB.out kq
        refine ⟨_, rfl, G, r1, r2, J'.out, ⟨?_, by simp, w.heap.size, 0, 1, rfl, fun x => by have := HB.out.lt _ x; omega, by rw [World.size_alloc]; omega, _, _, Blk.fresh w 24 _⟩⟩
        exact Us.made (k := .u32) (l := [o.id]) (Blk.fresh w 24 #[.int .u32 (o.id : Int)]) (by simp) (by simp [maxLen])
      · intro listed G w a hsz hun haf hJ hB hK hfar
        have k25 := hK 10 _ 25 rfl rfl (haf ⟨10, .data⟩ (Array.mem_of_getElem? (i := 0) rfl) rfl)
        have k25' : a.tmps.getD 25 undef = .pointer (some ⟨G.p, 0, none⟩) := k25.2
        clear k25
        have k28 := hK 13 _ 28 rfl rfl (haf ⟨13, .data⟩ (Array.mem_of_getElem? (i := 1) rfl) rfl)
        have hg := (hJ.next (m := 3) (i := 14) hsz (by decide) hun (.inr ⟨10, by decide, (haf ⟨10, .data⟩ (Array.mem_of_getElem? (i := 0) rfl) rfl)⟩) (G' := ⟨4, Nothing, 0⟩) rfl).1
        have J' := Lib.hid (fun (F' : Nat → Prop) (p' : Nat) => (hJ.next (m := 3) (i := 14) hsz (by decide) hun (.inr ⟨10, by decide, (haf ⟨10, .data⟩ (Array.mem_of_getElem? (i := 0) rfl) rfl)⟩) (G' := ⟨4, F', p'⟩) rfl).2)
        clear hK haf hfar hJ hun hsz
        have HB := Lib.hid hB
        clear hB
        obtain ⟨hk28, -⟩ : PLiesU 24 .u32 G w (a.tmps.getD 28 undef) [o.id] := k28
        have Bk28 := Lib.hid hk28
        generalize hvk28 : a.tmps.getD 28 undef = vk28 at *
        clear hk28
        have hw := HB.out.2.2.2.2.1 (by omega)
        rw [hg] at hw
        have HW := Lib.hid hw
        have HG := Lib.hid hg
        obtain ⟨hL, hL2⟩ := layP_len o cb HCL.out 3
        clear hw hg
        go_simp
        refine (wr_four G.p G.F _ vk28 _ w HW.out Bk28.out (by intro x hx; rw [List.mem_singleton] at hx; subst hx; exact HO.out.2.2.2) (by simp only [List.length_cons, List.length_nil]; omega)).mono ?_
        rintro e w' ⟨F', rfl, hw', hk, hs⟩
        obtain ⟨r1, r2⟩ := p_chain (F' := F') HB.out HG.out (by decide) hw' hk hs
        exact ⟨_, rfl, ⟨4, F', G.p⟩, r1, r2, J'.out F' G.p, ⟨by show 1 ≤ 4; decide, rfl⟩⟩
      · intro listed G w a hsz hun haf hJ hB hK hfar
        have k29 := hK 14 _ 29 rfl rfl (haf ⟨14, .data⟩ (Array.mem_of_getElem? (i := 0) rfl) rfl)
        have k29' : a.tmps.getD 29 undef = .pointer (some ⟨G.p, 0, none⟩) := k29.2
        clear k29
        have hg := (hJ.next (m := 4) (i := 15) hsz (by decide) hun (.inr ⟨14, by decide, (haf ⟨14, .data⟩ (Array.mem_of_getElem? (i := 0) rfl) rfl)⟩) (G' := ⟨5, Nothing, 0⟩) rfl).1
        have J' := Lib.hid (fun (F' : Nat → Prop) (p' : Nat) => (hJ.next (m := 4) (i := 15) hsz (by decide) hun (.inr ⟨14, by decide, (haf ⟨14, .data⟩ (Array.mem_of_getElem? (i := 0) rfl) rfl)⟩) (G' := ⟨5, F', p'⟩) rfl).2)
        clear hK haf hfar hJ hun hsz
        have HB := Lib.hid hB
        clear hB
        have hw := HB.out.2.2.2.2.1 (by omega)
        rw [hg] at hw
        have HW := Lib.hid hw
        have HG := Lib.hid hg
        obtain ⟨hL, hL2⟩ := layP_len o cb HCL.out 4
        clear hw hg
        go_simp
        refine (wr_hold G.p G.F _ 1 w HW.out (by omega) (by omega)).mono ?_
        rintro e w' ⟨F', rfl, hw', hk, hs⟩
        obtain ⟨r1, r2⟩ := p_chain (F' := F') HB.out HG.out (by decide) hw' hk hs
        exact ⟨_, rfl, ⟨5, F', G.p⟩, r1, r2, J'.out F' G.p, ⟨by show 1 ≤ 5; decide, rfl⟩⟩
      · intro listed G w a hsz hun haf hJ hB hK hfar
        have k4 : a.tmps.getD 4 undef = .slice Ac cb.length cc := hfar 4 (by decide)
        have J' := Lib.hid (hJ.other (i := 16) (G' := G) (by decide) rfl)
        clear hK haf hfar hJ hun hsz
        have HB := Lib.hid hB
        clear hB
        go_simp
        exact ⟨_, rfl, G, PR.refl _ _, HB.out, J'.out, rfl⟩
      · intro listed G w a hsz hun haf hJ hB hK hfar
        have k30 := hK 15 _ 30 rfl rfl (haf ⟨15, .data⟩ (Array.mem_of_getElem? (i := 0) rfl) rfl)
        have k30' : a.tmps.getD 30 undef = .pointer (some ⟨G.p, 0, none⟩) := k30.2
        clear k30
        have k31 := hK 16 _ 31 rfl rfl (haf ⟨16, .data⟩ (Array.mem_of_getElem? (i := 1) rfl) rfl)
        have k31' : a.tmps.getD 31 undef = .slice Ac cb.length cc := k31
        clear k31
        have hg := (hJ.next (m := 5) (i := 17) hsz (by decide) hun (.inr ⟨15, by decide, (haf ⟨15, .data⟩ (Array.mem_of_getElem? (i := 0) rfl) rfl)⟩) (G' := ⟨6, Nothing, 0⟩) rfl).1
        have J' := Lib.hid (fun (F' : Nat → Prop) (p' : Nat) => (hJ.next (m := 5) (i := 17) hsz (by decide) hun (.inr ⟨15, by decide, (haf ⟨15, .data⟩ (Array.mem_of_getElem? (i := 0) rfl) rfl)⟩) (G' := ⟨6, F', p'⟩) rfl).2)
        clear hK haf hfar hJ hun hsz
        have HB := Lib.hid hB
        clear hB
        have hw := HB.out.2.2.2.2.1 (by omega)
        rw [hg] at hw
        have HW := Lib.hid hw
        have HG := Lib.hid hg
        obtain ⟨hL, hL2⟩ := layP_len o cb HCL.out 5
        clear hw hg
        go_simp
        refine (wr_byte G.p G.F _ (.slice Ac cb.length cc) _ w HW.out (HY.out.old HB.out.2.1) (by have := HCL.out; omega)).mono ?_
        rintro e w' ⟨F', rfl, hw', hk, hs⟩
        obtain ⟨r1, r2⟩ := p_chain (F' := F') HB.out HG.out (by decide) hw' hk hs
        exact ⟨_, rfl, ⟨6, F', G.p⟩, r1, r2, J'.out F' G.p, ⟨by show 1 ≤ 6; decide, rfl⟩⟩
      · intro listed G w a hsz hun haf hJ hB hK hfar
        have k32 := hK 17 _ 32 rfl rfl (haf ⟨17, .data⟩ (Array.mem_of_getElem? (i := 0) rfl) rfl)
        have k32' : a.tmps.getD 32 undef = .pointer (some ⟨G.p, 0, none⟩) := k32.2
        clear k32
        have hg := (hJ.next (m := 6) (i := 18) hsz (by decide) hun (.inr ⟨17, by decide, (haf ⟨17, .data⟩ (Array.mem_of_getElem? (i := 0) rfl) rfl)⟩) (G' := ⟨7, Nothing, 0⟩) rfl).1
        have J' := Lib.hid (fun (F' : Nat → Prop) (p' : Nat) => (hJ.next (m := 6) (i := 18) hsz (by decide) hun (.inr ⟨17, by decide, (haf ⟨17, .data⟩ (Array.mem_of_getElem? (i := 0) rfl) rfl)⟩) (G' := ⟨7, F', p'⟩) rfl).2)
        clear hK haf hfar hJ hun hsz
        have HB := Lib.hid hB
        clear hB
        have hw := HB.out.2.2.2.2.1 (by omega)
        rw [hg] at hw
        have HW := Lib.hid hw
        have HG := Lib.hid hg
        obtain ⟨hL, hL2⟩ := layP_len o cb HCL.out 6
        clear hw hg
        go_simp
        refine (wr_fill G.p G.F _ w HW.out).mono ?_
        rintro e w' ⟨F', rfl, hw', hk, hs⟩
        obtain ⟨r1, r2⟩ := p_chain (F' := F') HB.out HG.out (by decide) hw' hk hs
        exact ⟨_, rfl, ⟨7, F', G.p⟩, r1, r2, J'.out F' G.p, ⟨by show 1 ≤ 7; decide, rfl⟩⟩
      · intro listed G w a hsz hun haf hJ hB hK hfar
        have k33 := hK 18 _ 33 rfl rfl (haf ⟨18, .data⟩ (Array.mem_of_getElem? (i := 0) rfl) rfl)
        have k33' : a.tmps.getD 33 undef = .pointer (some ⟨G.p, 0, none⟩) := k33.2
        clear k33
        have h5 : 7 ≤ G.n := by
          have := hJ (18, 7) (by decide)
          rw [haf ⟨18, .data⟩ (Array.mem_of_getElem? (i := 0) rfl) rfl] at this
          simpa using this.symm
        have J' := Lib.hid (hJ.other (i := 19) (G' := G) (by decide) rfl)
        clear hK haf hfar hJ hun hsz
        have HB := Lib.hid hB
        clear hB
        have hw := HB.out.2.2.2.2.1 (by omega)
        have e5 : layP o cb G.n = layP o cb 7 := by
          obtain ⟨q, hq⟩ : ∃ q, G.n = q + 7 := ⟨G.n - 7, by omega⟩
          rw [hq]; rfl
        rw [e5] at hw
        have HW := Lib.hid hw
        clear hw e5 h5
        go_simp
        refine (p_done G.p G.F _ w HW.out).mono ?_
        rintro e w' ⟨v', rfl, hb, hn, hk⟩
        have hz := HDN.out
        rw [hz] at hb ⊢
        obtain ⟨r1, r2⟩ := p_quiet HB.out hk
        exact ⟨_, rfl, G, r1, r2, J'.out, ⟨v', rfl, p_new HB.out hb hn⟩⟩
      · intro listed G w a hsz hun haf hJ hB hK hfar
        have k34 := hK 19 _ 34 rfl rfl (haf ⟨19, .data⟩ (Array.mem_of_getElem? (i := 0) rfl) rfl)
        have J' := Lib.hid (hJ.other (i := 20) (G' := G) (by decide) rfl)
        clear hK haf hfar hJ hun hsz
        have HB := Lib.hid hB
        clear hB
        obtain ⟨x34, e34, hl34⟩ := k34
        have L34 := Lib.hid hl34
        clear hl34
        go_simp
        exact ⟨_, rfl, G, PR.refl _ _, HB.out, J'.out, L34.out⟩
      · intro listed G w a hsz hun haf hJ hB hK hfar
        have k34 := hK 19 _ 34 rfl rfl (haf ⟨19, .data⟩ (Array.mem_of_getElem? (i := 0) rfl) rfl)
        have J' := Lib.hid (hJ.other (i := 21) (G' := G) (by decide) rfl)
        clear hK haf hfar hJ hun hsz
        have HB := Lib.hid hB
        clear hB
        obtain ⟨x34, e34, hl34⟩ := k34
        have L34 := Lib.hid hl34
        clear hl34
        go_simp
        exact ⟨_, rfl, G, PR.refl _ _, HB.out, J'.out, rfl⟩
      · intro listed G w a hsz hun haf hJ hB hK hfar
        have k35 := hK 20 _ 35 rfl rfl (haf ⟨20, .data⟩ (Array.mem_of_getElem? (i := 0) rfl) rfl)
        have J' := Lib.hid (hJ.other (i := 22) (G' := G) (by decide) rfl)
        clear hK haf hfar hJ hun hsz
        have HB := Lib.hid hB
        clear hB
        have k35' : PLies G w (a.tmps.getD 35 undef) (layP o cb 7).l := k35
        have k35q : PLies G w (a.tmps[35]?.getD undef) (layP o cb 7).l := by rw [← Array.getD_eq_getD_getElem?]; exact k35'
        have L35 := Lib.hid k35q
        clear k35 k35' k35q
        go_simp
        exact ⟨_, rfl, G, PR.refl _ _, HB.out, J'.out, L35.out⟩
      · intro listed G w a hsz hun haf hJ hB hK hfar
        have k36 := hK 21 _ 36 rfl rfl (haf ⟨21, .data⟩ (Array.mem_of_getElem? (i := 0) rfl) rfl)
        have k36' : a.tmps.getD 36 undef = .int .i64 0 := k36
        clear k36
        have J' := Lib.hid (hJ.other (i := 23) (G' := G) (by decide) rfl)
        clear hK haf hfar hJ hun hsz
        have HB := Lib.hid hB
        clear hB
        go_simp
        exact ⟨_, rfl, G, PR.refl _ _, HB.out, J'.out, rfl⟩
    · intro vals G w hB hJ hV
      have e22 : PLies G w (vals 22) (layP o cb 7).l := hV 22 _ 2 rfl rfl
      have e23 : vals 23 = .int .i64 0 := hV 23 _ 3 rfl rfl
      have KF := Lib.hid (K1.out.trans hB.2.1)
      have L22 := Lib.hid e22
      clear hB hJ hV e22
      simp [putAll, Act.put, Array.setIfInBounds, e23]
      clear e23
      generalize vals 22 = v22 at *
      go_wp2
      go_ret2
      have HZ := L22.out.1
      rw [HL.out] at HZ
      exact ⟨_, rfl, HZ, KF.out⟩
  · obtain rfl := HP0.out he
    clear HP0 HP1
    have hei : ((e : Int) != 0) = true := by simp; omega
    clear HY B1 HCL
    go_wp2
    go_ret2
    exact ⟨_, rfl, Bs.nil _, K1.out⟩
end Go.Proofs.YtohgkibpcgfihaaDoor
