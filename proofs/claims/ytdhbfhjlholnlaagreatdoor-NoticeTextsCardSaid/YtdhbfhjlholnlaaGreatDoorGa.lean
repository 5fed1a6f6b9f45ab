
/-
  What a message's form is: the program's Message.Bytes, one drawn region with seven calls of a writer.
-/
import Derived.Test.YtdhbfhjlholnlaaGreatDoorFp
import Derived.Test.YtdhbfhjlholnlaaGreatDoorWt
import Derived.Test.YtdhbfhjlholnlaaGreatDoorRx
import Derived.Test.YtdhbfhjlholnlaaGreatDoorIv
import Derived.Deep.DeepCutAuto
import Derived.Deep.CutBlock
import Derived.Outline
namespace Go.Proofs.YtdhbfhjlholnlaaGreatDoor
open Go.RowKit

/-- The writer's ghost: how far it is, its blocks, its place. -/
structure WG where
  n : Nat
  F : Nat → Prop
  p : Nat
/-- What is laid at each stage. -/
def layAt (m : Msg) : Nat → WS
  | 0 | 1 => ⟨[], [], 0⟩
  | 2 => (⟨[], [], 0⟩ : WS).lay (List.replicate 16 255)
  | 3 => ((⟨[], [], 0⟩ : WS).lay (List.replicate 16 255)).lay (twos [19 + m.2.length])
  | 4 => (((⟨[], [], 0⟩ : WS).lay (List.replicate 16 255)).lay (twos [19 + m.2.length])).lay [m.1]
  | _ => ((((⟨[], [], 0⟩ : WS).lay (List.replicate 16 255)).lay (twos [19 + m.2.length])).lay [m.1]).lay m.2

def stages : List (Nat × Nat) := [(0, 1), (3, 2), (7, 3), (11, 4), (14, 5)]
def WJ (listed : Array Bool) (G : WG) : Prop := ∀ x ∈ stages, listed.getD x.1 false = decide (x.2 ≤ G.n)
theorem WJ.other {listed : Array Bool} {G G' : WG} {i : Nat} (h : WJ listed G) (hi : ∀ x ∈ stages, x.1 ≠ i) (hn : G'.n = G.n) : WJ (listed.setIfInBounds i true) G' := fun x hx => by
  rw [getD_set_ne false (fun e => hi x hx e.symm), h x hx, hn]
theorem getD_false {listed : Array Bool} {i n : Nat} (hs : listed.size = n) (hi : i < n) (h : listed.getD i true = false) : listed.getD i false = false := by
  have hlt : i < listed.size := by omega
  rw [Array.getD_eq_getD_getElem?, Array.getElem?_eq_getElem hlt] at h ⊢
  exact h
theorem getD_set_self {listed : Array Bool} {i n : Nat} (hs : listed.size = n) (hi : i < n) : (listed.setIfInBounds i true).getD i false = true := by
  have hlt : i < listed.size := by omega
  simp [hlt]
/-- A step of the chain. -/
theorem WJ.next {listed : Array Bool} {G G' : WG} {i m : Nat} (h : WJ listed G) (hs : listed.size = 20) (hi : (i, m + 1) ∈ stages) (h0 : listed.getD i true = false) (hp : m = 0 ∨ ∃ j, (j, m) ∈ stages ∧ listed.getD j false = true) (hn : G'.n = m + 1) : G.n = m ∧ WJ (listed.setIfInBounds i true) G' := by
  have hi20 : i < 20 := by
    simp [stages] at hi
    omega
  have e1 := h _ hi
  rw [getD_false hs hi20 h0] at e1
  have h1 : ¬ (m + 1 ≤ G.n) := by simpa using e1.symm
  have h2 : m ≤ G.n := by
    rcases hp with rfl | ⟨j, hj, hl⟩
    · omega
    · have := h _ hj
      rw [hl] at this
      simpa using this.symm
  have hg : G.n = m := by omega
  refine ⟨hg, fun x hx => ?_⟩
  by_cases hxi : x.1 = i
  · have hx2 : x.2 = m + 1 := by
      simp [stages] at hx hi
      obtain ⟨a, b⟩ := x
      simp only [Prod.mk.injEq] at hx hi hxi ⊢
      omega
    rw [hxi, getD_set_self hs hi20, hn, hx2]
    simp
  · rw [getD_set_ne false (fun e => hxi e.symm), h x hx, hn, hg]
    have : x.2 ≠ m + 1 := by
      simp [stages] at hx hi
      obtain ⟨a, b⟩ := x
      simp only [Prod.mk.injEq] at hx hi hxi ⊢
      omega
    rw [decide_eq_decide]
    omega

def WR (G : WG) (w : World) (G' : WG) (w' : World) : Prop := (1 ≤ G.n → 1 ≤ G'.n ∧ G'.p = G.p) ∧ Kept G.F w w' ∧ Sub w G'.F G.F
def WB (W : World) (box : Nat) (m : Msg) (bv : Value) (G : WG) (w : World) : Prop :=
  box < W.heap.size ∧ Kept Nothing W w ∧ (∀ k, G.F k → W.heap.size ≤ k) ∧ (G.n = 0 → G.F = Nothing) ∧ (1 ≤ G.n → Wr w G.F G.p (layAt m G.n)) ∧ Blk w box 65 #[.int .u8 (m.1.toNat : Int), bv]
def Lies (G : WG) (w : World) (v : Value) (l : List UInt8) : Prop := Bs w v l ∧ Off G.F v
theorem Lies.step {G G' : WG} {w w' : World} {v : Value} {l : List UInt8} (h : Lies G w v l) (r : WR G w G' w') : Lies G' w' v l := ⟨h.1.off r.2.1 h.2, h.2.sub h.1.by r.2.2⟩
def LiesU (G : WG) (w : World) (v : Value) (l : List Nat) : Prop := Us w 37 .u16 v l ∧ (1 ≤ l.length) ∧ ∃ b A c, v = .slice (some ⟨b, A, none⟩) l.length c ∧ ¬ G.F b ∧ b < w.heap.size ∧ ∃ cs f, w.heap[b]? = some (.cells cs 37 f)
def At (G : WG) (v : Value) : Prop := 1 ≤ G.n ∧ v = .pointer (some ⟨G.p, 0, none⟩)

/-- What each operation of the region leaves in its slot. -/
def WF (box : Nat) (m : Msg) (bv : Value) : Nat → WG → Value → World → Prop
  | 0, G, v, _ => At G v
  | 1, G, v, w => Lies G w v [255]
  | 2, G, v, w => Lies G w v (List.replicate 16 255)
  | 3, G, v, _ => At G v
  | 4, _, v, _ => v = .int .i64 (19 + (m.2.length : Int))
  | 5, _, v, _ => v = .int .u16 (19 + (m.2.length : Int))
  | 6, G, v, w => LiesU G w v [19 + m.2.length]
  | 7, G, v, _ => At G v
  | 8, _, v, _ => v = .pointer (some ⟨box, 0, none⟩)
  | 9, _, v, _ => v = .int .u8 (m.1.toNat : Int)
  | 10, G, v, w => Lies G w v [m.1]
  | 11, G, v, _ => At G v
  | 12, _, v, _ => v = .pointer (some ⟨box, 1, none⟩)
  | 13, _, v, _ => v = bv
  | 14, G, v, _ => At G v
  | 15, G, v, w => ∃ x, v = .tuple #[x, .int .i64 0] ∧ Lies G w x (layAt m 5).l
  | 16, G, v, w => Lies G w v (layAt m 5).l
  | 17, _, v, _ => v = .int .i64 0
  | 18, G, v, w => Lies G w v (layAt m 5).l
  | 19, _, v, _ => v = .int .i64 0
  | _, _, _, _ => True
theorem At.step {G G' : WG} {w w' : World} {v : Value} (h : At G v) (r : WR G w G' w') : At G' v := by
  obtain ⟨h1, h2⟩ := r.1 h.1
  exact ⟨h1, by rw [h2]; exact h.2⟩
theorem LiesU.step {G G' : WG} {w w' : World} {v : Value} {l : List Nat} (h : LiesU G w v l) (r : WR G w G' w') : LiesU G' w' v l := by
  obtain ⟨hu, h1, b, o, c, rfl, hf, hb, cs, f, hc⟩ := h
  have hc' := (r.2.1.block b hb hf).trans hc
  refine ⟨?_, h1, b, o, c, rfl, fun x => ?_, Nat.lt_of_lt_of_le hb r.2.1.size, cs, f, hc'⟩
  · obtain ⟨A', c', hv, ha, hm, hr⟩ := hu
    injection hv with e1 e2 e3
    subst e3
    refine ⟨some ⟨b, o, none⟩, c, rfl, ha, hm, fun h0 => ?_⟩
    obtain ⟨b2, o2, cs2, f2, e4, hh, hcs⟩ := hr h0
    rw [← e1] at e4
    injection e4 with e4
    injection e4 with e5 e6
    subst e5 e6
    exact ⟨b, o, cs2, f2, rfl, (r.2.1.block b hb hf).trans hh, hcs⟩
  · rcases r.2.2 b x with y | y
    · exact hf y
    · omega
theorem WF.step {box : Nat} {m : Msg} {bv : Value} (k : Nat) (G : WG) (w : World) (G' : WG) (w' : World) (v : Value) (r : WR G w G' w') (h : WF box m bv k G v w) : WF box m bv k G' v w' := by
  unfold WF at h ⊢
  split at h
  all_goals first | exact At.step h r | exact Lies.step h r | exact LiesU.step h r | exact h | (obtain ⟨x, h1, h2⟩ := h; exact ⟨x, h1, h2.step r⟩) | trivial
theorem WB.lt {W w : World} {box : Nat} {m : Msg} {bv : Value} {G : WG} (h : WB W box m bv G w) : ∀ k, G.F k → k < w.heap.size := fun k hk => by
  obtain ⟨_, _, _, h0, h1, _⟩ := h
  by_cases hn : G.n = 0
  · rw [h0 hn] at hk; exact hk.elim
  · exact (h1 (by omega)).lt hk
theorem WB.box {W w : World} {box : Nat} {m : Msg} {bv : Value} {G : WG} (h : WB W box m bv G w) : ¬ G.F box := fun x => by
  have := h.2.2.1 _ x
  have := h.1
  omega
theorem quiet_step {W w w' : World} {box : Nat} {m : Msg} {bv : Value} {G : WG} (h : WB W box m bv G w) (k : Kept Nothing w w') : WR G w G w' ∧ WB W box m bv G w' :=
  ⟨⟨fun x => ⟨x, rfl⟩, k.mono (fun _ x => x.elim), Sub.refl _ _⟩, h.1, h.2.1.trans k, h.2.2.1, h.2.2.2.1, fun x => (h.2.2.2.2.1 x).kept k (fun _ _ y => y), h.2.2.2.2.2.kept k (fun y => y)⟩
theorem chain_step {W w w' : World} {box j : Nat} {m : Msg} {bv : Value} {G : WG} {F' : Nat → Prop} (h : WB W box m bv G w) (_hn : G.n = j) (_hj : 1 ≤ j) (hw : Wr w' F' G.p (layAt m (j + 1))) (k : Kept G.F w w') (hs : Sub w F' G.F) :
    WR G w ⟨j + 1, F', G.p⟩ w' ∧ WB W box m bv ⟨j + 1, F', G.p⟩ w' := by
  refine ⟨⟨fun _ => ⟨Nat.le_add_left _ _, rfl⟩, k, hs⟩, h.1, h.2.1.newly k h.2.2.1, fun i hi => ?_, fun e => absurd e (Nat.succ_ne_zero _), fun _ => hw, h.2.2.2.2.2.kept k h.box⟩
  rcases hs i hi with x | x
  · exact h.2.2.1 i x
  · exact Nat.le_trans h.2.1.size x
theorem WR.refl (G : WG) (w : World) : WR G w G w := ⟨fun h => ⟨h, rfl⟩, Kept.refl _ _, Sub.refl _ _⟩
theorem lies_new {W w w' : World} {box : Nat} {m : Msg} {bv v : Value} {G : WG} {l : List UInt8} (h : WB W box m bv G w) (hb : Bs w' v l) (hn : ∀ a n c, v = .slice (some a) n c → w.heap.size ≤ a.block) : Lies G w' v l :=
  ⟨hb, fun a n c e _ x => by have h1 := hn a n c e; have h2 := h.lt _ x; omega⟩
theorem layAt_all (m : Msg) : ∀ j, (layAt m j).e = 0 ∧ (layAt m j).hs = [] ∧ (layAt m j).l.length ≤ 19 + m.2.length := by
  intro j
  match j with
  | 0 | 1 | 2 | 3 | 4 | n + 5 => simp [layAt, WS.lay, twos, two]; try omega
theorem layAt_done (m : Msg) : (layAt m 5).done = ((layAt m 5).l, 0) := by
  obtain ⟨h1, h2, _⟩ := layAt_all m 5
  unfold WS.done
  rw [if_pos h1, if_pos h2]

theorem own_new {w : World} {base n : Nat} {e : TypeId} {size : Nat} {v : Value} {xs : List Value} (h : w.ownsRow base e size v n xs) : ∀ a n c, v = .slice (some a) n c → base ≤ a.block := fun a n c hv => by
  subst hv
  exact (h.lt a.block rfl).1
theorem wr_done2 (p : Nat) (F : Nat → Prop) (s : WS) (w : World) (h : Wr w F p s) :
    Calls Tryz.prog 40 #[.pointer (some ⟨p, 0, none⟩)] w fun r w' => ∃ v, r = .returned (.tuple #[v, .int .i64 s.done.2]) ∧ Bs w' v s.done.1 ∧ (∀ a n c, v = .slice (some a) n c → w.heap.size ≤ a.block) ∧ Kept Nothing w w' := by
  have hE := Lib.hid (wr_err p F s w h)
  by_cases he : s.e = 0
  · have hn : (s.e != 0) = false := by simpa using he
    have hmx := h.ok.2.1
    obtain ⟨bv, hv, _, hb, h1, h2, hok⟩ := h
    obtain ⟨⟨-, c1, c2, -⟩, -⟩ := cells4 hb
    obtain ⟨A0, cc0, rfl, _, _⟩ := own_form h1
    obtain ⟨A1, cc1, rfl, _, _⟩ := own_form h2
    by_cases h0 : s.hs = []
    · have HF : Hid (s.done = (s.l, 0)) := by show _ = _; unfold WS.done; rw [if_pos he, if_pos h0]
      rw [HF.out]
      have HC := Lib.hid (sl_clone _ s.l w (Bs.of_own h1).by hmx)
      rw [h0] at c2
      simp only [List.length_nil] at c2
      clear HF he h0 hb h1 h2 hok
      go_enter Tryz.func40, Tryz.ntmps40
      go_wp2_with fail
      refine hE.out.mono ?_
      rintro e w' ⟨rfl, rfl⟩
      go_wp2_with fail
      refine HC.out.mono ?_
      rintro e w1 ⟨v, rfl, ho, hk⟩
      have HO := Lib.hid ho
      clear ho
      go_wp2
      go_ret2
      exact ⟨v, rfl, Bs.of_own HO.out, own_new HO.out, hk⟩
    · have HF : Hid (s.done = ([], 26)) := by show _ = _; unfold WS.done; rw [if_pos he, if_neg h0]
      rw [HF.out]
      have hl : 0 < s.hs.length := List.length_pos_iff.2 h0
      have hlI : (0 : Int) < s.hs.length := by omega
      clear HF he h0 hb h1 h2 hok
      go_enter Tryz.func40, Tryz.ntmps40
      go_wp2_with fail
      refine hE.out.mono ?_
      rintro e w' ⟨rfl, rfl⟩
      go_wp2
      go_ret2
      exact ⟨_, rfl, Bs.nil _, (fun a n c e => by cases e), Kept.refl _ _⟩
  · have HF : Hid (s.done = ([], s.e)) := if_neg he
    rw [HF.out]
    have hn : (s.e != 0) = true := by simpa using he
    clear HF he h
    go_enter Tryz.func40, Tryz.ntmps40
    go_wp2_with fail
    refine hE.out.mono ?_
    rintro e w' ⟨rfl, rfl⟩
    go_wp2
    go_ret2
    exact ⟨_, rfl, Bs.nil _, (fun a n c e => by cases e), Kept.refl _ _⟩

set_option maxRecDepth 100000 in
set_option maxHeartbeats 16000000 in
theorem msg_bytes (m : Msg) (bv : Value) (W : World) (h : By W bv m.2) (hb : m.2.length ≤ 5000) :
    Calls Tryz.prog 19 #[.agg #[.int .u8 (m.1.toNat : Int), bv]] W fun r w' => ∃ v', r = .returned (.tuple #[v', .int .i64 (Fr.bytes m).2]) ∧ Bs w' v' (Fr.bytes m).1 ∧ Kept Nothing W w' := by
  obtain ⟨A, c, rfl, hc, hm⟩ := h.form
  have HF := Lib.hid (fun w => fr_fits m.1.toNat (19 + m.2.length) w)
  have KA := Lib.hid ((Kept.refl Nothing W).alloc (.cells #[.int .u8 (m.1.toNat : Int), .slice A m.2.length c] 65))
  have e19 : ((19 + m.2.length : Nat) : Int) = 19 + (m.2.length : Int) := by omega
  rw [e19] at HF
  by_cases h1 : Fr.fits m.1.toNat (19 + m.2.length) = false
  · have hB : Fr.bytes m = ([], 1) := if_pos h1
    rw [hB]
    rw [h1] at HF
    clear h1 hB h e19
    go_enter Tryz.func19, Tryz.ntmps19
    go_wp2_with fail
    refine (HF.out _).mono ?_
    rintro e w' ⟨rfl, rfl⟩
    go_wp2
    go_ret2
    exact ⟨_, rfl, Bs.nil _, KA.out⟩
  · have h1' : Fr.fits m.1.toNat (19 + m.2.length) = true := by simpa using h1
    by_cases h2 : 4096 < 19 + m.2.length
    · have hB : Fr.bytes m = ([], 3) := by unfold Fr.bytes; rw [if_neg h1, if_pos h2]
      rw [hB]
      rw [h1'] at HF
      have h2' : (4096 : Int) < 19 + (m.2.length : Int) := by omega
      clear h1 h1' hB h e19
      go_enter Tryz.func19, Tryz.ntmps19
      go_wp2_with fail
      refine (HF.out _).mono ?_
      rintro e w' ⟨rfl, rfl⟩
      go_wp2
      go_ret2
      exact ⟨_, rfl, Bs.nil _, KA.out⟩
    · have hB : Fr.bytes m = ((layAt m 5).l, 0) := by
        unfold Fr.bytes
        rw [if_neg h1, if_neg h2]
        simp [layAt, WS.lay, twos, two]
      rw [hB]
      rw [h1'] at HF
      have h2' : 19 + (m.2.length : Int) ≤ 4096 := by omega
      have HY := Lib.hid (h.old KA.out)
      clear h1 h1' hB h e19 h2
      go_enter Tryz.func19, Tryz.ntmps19
      go_wp2_with fail
      refine (HF.out _).mono ?_
      rintro e w' ⟨rfl, rfl⟩
      go_wp2_with fail
      generalize hW1 : W.alloc (.cells #[.int .u8 (m.1.toNat : Int), .slice A m.2.length c] 65) = W1 at *
      refine wp_region_facts (WB W1 W.heap.size m (.slice A m.2.length c)) WJ (WF W.heap.size m (.slice A m.2.length c)) WR (by kernel_rfl) (by decide) (by intro d hd; simp [dsts] at hd ⊢; omega) (by rfl) (ready_nil (by kernel_rfl)) WF.step ?_ ?_ ?_
      · refine ⟨⟨0, Nothing, 0⟩, fun x hx => ?_, ?_⟩
        · simp only [stages, List.mem_cons, List.not_mem_nil, or_false] at hx
          rcases hx with rfl | rfl | rfl | rfl | rfl <;> rfl
        · refine ⟨?_, (Kept.refl _ _).drew, fun k x => x.elim, fun _ => rfl, fun x => absurd x (by decide), ?_⟩
          · rw [← hW1, World.size_alloc]; omega
          · exact Blk.drew (by rw [← hW1]; exact Blk.fresh W 65 _)
      · refine OwesAll.cons ?_ (OwesAll.cons ?_ (OwesAll.cons ?_ (OwesAll.cons ?_ (OwesAll.cons ?_ (OwesAll.cons ?_ (OwesAll.cons ?_ (OwesAll.cons ?_ (OwesAll.cons ?_ (OwesAll.cons ?_ (OwesAll.cons ?_ (OwesAll.cons ?_ (OwesAll.cons ?_ (OwesAll.cons ?_ (OwesAll.cons ?_ (OwesAll.cons ?_ (OwesAll.cons ?_ (OwesAll.cons ?_ (OwesAll.cons ?_ (OwesAll.cons ?_ OwesAll.nil)))))))))))))))))))
        · intro listed G w a hsz hun haf hJ hB hK hfar
          have hg := (hJ.next (m := 0) (i := 0) hsz (by decide) hun (.inl rfl) (G' := ⟨1, Nothing, 0⟩) rfl).1
          have J' := Lib.hid (fun (F' : Nat → Prop) (p' : Nat) => (hJ.next (m := 0) (i := 0) hsz (by decide) hun (.inl rfl) (G' := ⟨1, F', p'⟩) rfl).2)
          clear hK haf hfar hJ hun hsz
          have HB := Lib.hid hB
          clear hB
          have HG := Lib.hid hg
          clear hg
          go_simp
          refine (wr_lay w).mono ?_
          rintro e w' ⟨p, F, rfl, hw, hk, hs⟩
          have hB := HB.out
          have h0 := hB.2.2.2.1 HG.out
          have hg := HG.out
          refine ⟨_, rfl, ⟨1, F, p⟩, ⟨fun x => by omega, by rw [h0]; exact hk, by rw [h0]; exact hs⟩, ⟨hB.1, hB.2.1.trans hk, fun k x => ?_, fun e => absurd e (Nat.succ_ne_zero 0), fun _ => hw, hB.2.2.2.2.2.kept hk (fun y => y)⟩, J'.out F p, ⟨Nat.le_refl 1, rfl⟩⟩
          rcases hs k x with y | y
          · exact y.elim
          · exact Nat.le_trans hB.2.1.size y
        · intro listed G w a hsz hun haf hJ hB hK hfar
          have J' := Lib.hid (hJ.other (i := 1) (G' := G) (by decide) rfl)
          clear hK haf hfar hJ hun hsz
          have HB := Lib.hid hB
          clear hB
          go_simp
          have kq := (Kept.refl Nothing w).alloc (.cells #[.int .u8 255] 5)
          obtain ⟨r1, r2⟩ := quiet_step HB.out kq
          exact ⟨_, rfl, G, r1, r2, J'.out, lies_new HB.out (made1 w _ rfl 255 255 rfl) (New.at0 w _ _ _ (Nat.le_refl _))⟩
        · intro listed G w a hsz hun haf hJ hB hK hfar
          have k17 := hK 1 _ 17 rfl rfl (haf ⟨1, .data⟩ (Array.mem_of_getElem? (i := 0) rfl) rfl)
          have J' := Lib.hid (hJ.other (i := 2) (G' := G) (by decide) rfl)
          clear hK haf hfar hJ hun hsz
          have HB := Lib.hid hB
          clear hB
          obtain ⟨hb17, ho17⟩ : Lies G w (a.tmps.getD 17 undef) [255] := k17
          have B17 := Lib.hid hb17
          generalize hv17 : a.tmps.getD 17 undef = v17 at *
          clear hb17 ho17
          go_simp
          refine (sl_repeat v17 255 16 w B17.out.by (by decide) (by decide)).mono ?_
          rintro e w' ⟨v', rfl, hb, hn, hk⟩
          obtain ⟨r1, r2⟩ := quiet_step HB.out hk
          exact ⟨_, rfl, G, r1, r2, J'.out, lies_new HB.out hb hn⟩
        · intro listed G w a hsz hun haf hJ hB hK hfar
          have k16 := hK 0 _ 16 rfl rfl (haf ⟨0, .data⟩ (Array.mem_of_getElem? (i := 0) rfl) rfl)
          have k16' : a.tmps.getD 16 undef = .pointer (some ⟨G.p, 0, none⟩) := k16.2
          have k18 := hK 2 _ 18 rfl rfl (haf ⟨2, .data⟩ (Array.mem_of_getElem? (i := 1) rfl) rfl)
          have hg := (hJ.next (m := 1) (i := 3) hsz (by decide) hun (.inr ⟨0, by decide, (haf ⟨0, .data⟩ (Array.mem_of_getElem? (i := 0) rfl) rfl)⟩) (G' := ⟨2, Nothing, 0⟩) rfl).1
          have J' := Lib.hid (fun (F' : Nat → Prop) (p' : Nat) => (hJ.next (m := 1) (i := 3) hsz (by decide) hun (.inr ⟨0, by decide, (haf ⟨0, .data⟩ (Array.mem_of_getElem? (i := 0) rfl) rfl)⟩) (G' := ⟨2, F', p'⟩) rfl).2)
          clear hK haf hfar hJ hun hsz
          have HB := Lib.hid hB
          clear hB
          obtain ⟨hk18, -⟩ : Lies G w (a.tmps.getD 18 undef) (List.replicate 16 255) := k18
          have Bk18 := Lib.hid hk18
          generalize hvk18 : a.tmps.getD 18 undef = vk18 at *
          clear hk18
          have hw := HB.out.2.2.2.2.1 (by omega)
          rw [hg] at hw
          have HW := Lib.hid hw
          have HG := Lib.hid hg
          have hL := (layAt_all m 1).2.2
          clear hw hg
          go_simp
          refine (wr_byte G.p G.F _ vk18 _ w HW.out Bk18.out.by (by rw [List.length_replicate]; omega)).mono ?_
          rintro e w' ⟨F', rfl, hw', hk, hs⟩
          obtain ⟨r1, r2⟩ := chain_step (F' := F') HB.out HG.out (by decide) hw' hk hs
          exact ⟨_, rfl, ⟨2, F', G.p⟩, r1, r2, J'.out F' G.p, ⟨by show 1 ≤ 2; decide, rfl⟩⟩
        · intro listed G w a hsz hun haf hJ hB hK hfar
          have k4 := hfar 4 (by decide)
          have k4' : a.tmps.getD 4 undef = .int .i64 (19 + (m.2.length : Int)) := k4
          clear k4
          have J' := Lib.hid (hJ.other (i := 4) (G' := G) (by decide) rfl)
          clear hK haf hfar hJ hun hsz
          have HB := Lib.hid hB
          clear hB
          go_simp
          exact ⟨_, rfl, G, WR.refl _ _, HB.out, J'.out, rfl⟩
        · intro listed G w a hsz hun haf hJ hB hK hfar
          have k20 := hK 4 _ 20 rfl rfl (haf ⟨4, .data⟩ (Array.mem_of_getElem? (i := 0) rfl) rfl)
          have k20' : a.tmps.getD 20 undef = .int .i64 (19 + (m.2.length : Int)) := k20
          have hwr : IntKind.u16.wrap (19 + (m.2.length : Int)) = 19 + (m.2.length : Int) := by
            have e1 : IntKind.u16.wrap (19 + (m.2.length : Int)) = (19 + (m.2.length : Int)) % 65536 := by simp [IntKind.wrap, IntKind.bits, IntKind.signed]
            rw [e1]; omega
          have HWR := Lib.hid hwr
          clear hwr
          have J' := Lib.hid (hJ.other (i := 5) (G' := G) (by decide) rfl)
          clear hK haf hfar hJ hun hsz
          have HB := Lib.hid hB
          clear hB
          clear k20
          go_simp
          exact ⟨_, rfl, G, WR.refl _ _, HB.out, J'.out, by show Value.int _ _ = Value.int _ _; rw [HWR.out]⟩
        · intro listed G w a hsz hun haf hJ hB hK hfar
          have k21 := hK 5 _ 21 rfl rfl (haf ⟨5, .data⟩ (Array.mem_of_getElem? (i := 0) rfl) rfl)
          have k21' : a.tmps.getD 21 undef = .int .u16 (19 + (m.2.length : Int)) := k21
          have J' := Lib.hid (hJ.other (i := 6) (G' := G) (by decide) rfl)
          clear hK haf hfar hJ hun hsz
          have HB := Lib.hid hB
          clear hB
          clear k21
          have k21q : a.tmps[21]?.getD undef = .int .u16 (19 + (m.2.length : Int)) := by rw [← Array.getD_eq_getD_getElem?]; exact k21'
          go_simp
          have kq := (Kept.refl Nothing w).alloc (.cells #[.int .u16 (19 + (m.2.length : Int))] 37)
          obtain ⟨r1, r2⟩ := quiet_step HB.out kq
          refine ⟨_, rfl, G, r1, r2, J'.out, ⟨?_, by simp, w.heap.size, 0, 1, rfl, fun x => by have := HB.out.lt _ x; omega, by rw [World.size_alloc]; omega, _, _, Blk.fresh w 37 _⟩⟩
          exact Us.made (k := .u16) (l := [19 + m.2.length]) (Blk.fresh w 37 #[.int .u16 (19 + (m.2.length : Int))]) (by simp) (by simp [maxLen])
        · intro listed G w a hsz hun haf hJ hB hK hfar
          have k19 := hK 3 _ 19 rfl rfl (haf ⟨3, .data⟩ (Array.mem_of_getElem? (i := 0) rfl) rfl)
          have k19' : a.tmps.getD 19 undef = .pointer (some ⟨G.p, 0, none⟩) := k19.2
          have k22 := hK 6 _ 22 rfl rfl (haf ⟨6, .data⟩ (Array.mem_of_getElem? (i := 1) rfl) rfl)
          have hg := (hJ.next (m := 2) (i := 7) hsz (by decide) hun (.inr ⟨3, by decide, (haf ⟨3, .data⟩ (Array.mem_of_getElem? (i := 0) rfl) rfl)⟩) (G' := ⟨3, Nothing, 0⟩) rfl).1
          have J' := Lib.hid (fun (F' : Nat → Prop) (p' : Nat) => (hJ.next (m := 2) (i := 7) hsz (by decide) hun (.inr ⟨3, by decide, (haf ⟨3, .data⟩ (Array.mem_of_getElem? (i := 0) rfl) rfl)⟩) (G' := ⟨3, F', p'⟩) rfl).2)
          clear hK haf hfar hJ hun hsz
          have HB := Lib.hid hB
          clear hB
          obtain ⟨hk22, -⟩ : LiesU G w (a.tmps.getD 22 undef) [19 + m.2.length] := k22
          have Bk22 := Lib.hid hk22
          generalize hvk22 : a.tmps.getD 22 undef = vk22 at *
          clear hk22
          have hw := HB.out.2.2.2.2.1 (by omega)
          rw [hg] at hw
          have HW := Lib.hid hw
          have HG := Lib.hid hg
          have hL := (layAt_all m 2).2.2
          clear hw hg
          go_simp
          refine (wr_two G.p G.F _ vk22 _ w HW.out Bk22.out (by intro x hx; rw [List.mem_singleton] at hx; omega) (by simp only [List.length_cons, List.length_nil]; omega)).mono ?_
          rintro e w' ⟨F', rfl, hw', hk, hs⟩
          obtain ⟨r1, r2⟩ := chain_step (F' := F') HB.out HG.out (by decide) hw' hk hs
          exact ⟨_, rfl, ⟨3, F', G.p⟩, r1, r2, J'.out F' G.p, ⟨by show 1 ≤ 3; decide, rfl⟩⟩
        · intro listed G w a hsz hun haf hJ hB hK hfar
          have k1 : a.tmps.getD 1 undef = .pointer (some ⟨W.heap.size, 0, none⟩) := hfar 1 (by decide)
          have J' := Lib.hid (hJ.other (i := 8) (G' := G) (by decide) rfl)
          clear hK haf hfar hJ hun hsz
          have HB := Lib.hid hB
          clear hB
          go_simp
          exact ⟨_, rfl, G, WR.refl _ _, HB.out, J'.out, rfl⟩
        · intro listed G w a hsz hun haf hJ hB hK hfar
          have k24 := hK 8 _ 24 rfl rfl (haf ⟨8, .data⟩ (Array.mem_of_getElem? (i := 0) rfl) rfl)
          have k24' : a.tmps.getD 24 undef = .pointer (some ⟨W.heap.size, 0, none⟩) := k24
          have c0 : w.cell? ⟨W.heap.size, 0, none⟩ = some (.int .u8 (m.1.toNat : Int)) := hB.2.2.2.2.2.cell 0
          have J' := Lib.hid (hJ.other (i := 9) (G' := G) (by decide) rfl)
          clear hK haf hfar hJ hun hsz
          have HB := Lib.hid hB
          clear hB
          clear k24
          go_simp
          exact ⟨_, rfl, G, WR.refl _ _, HB.out, J'.out, rfl⟩
        · intro listed G w a hsz hun haf hJ hB hK hfar
          have k25 := hK 9 _ 25 rfl rfl (haf ⟨9, .data⟩ (Array.mem_of_getElem? (i := 0) rfl) rfl)
          have k25' : a.tmps.getD 25 undef = .int .u8 (m.1.toNat : Int) := k25
          have J' := Lib.hid (hJ.other (i := 10) (G' := G) (by decide) rfl)
          clear hK haf hfar hJ hun hsz
          have HB := Lib.hid hB
          clear hB
          clear k25
          have k25q : a.tmps[25]?.getD undef = .int .u8 (m.1.toNat : Int) := by rw [← Array.getD_eq_getD_getElem?]; exact k25'
          go_simp
          have kq := (Kept.refl Nothing w).alloc (.cells #[.int .u8 (m.1.toNat : Int)] 5)
          obtain ⟨r1, r2⟩ := quiet_step HB.out kq
          exact ⟨_, rfl, G, r1, r2, J'.out, lies_new HB.out (made1 w _ rfl (m.1.toNat : Int) m.1 rfl) (New.at0 w _ _ _ (Nat.le_refl _))⟩
        · intro listed G w a hsz hun haf hJ hB hK hfar
          have k23 := hK 7 _ 23 rfl rfl (haf ⟨7, .data⟩ (Array.mem_of_getElem? (i := 0) rfl) rfl)
          have k23' : a.tmps.getD 23 undef = .pointer (some ⟨G.p, 0, none⟩) := k23.2
          have k26 := hK 10 _ 26 rfl rfl (haf ⟨10, .data⟩ (Array.mem_of_getElem? (i := 1) rfl) rfl)
          have hg := (hJ.next (m := 3) (i := 11) hsz (by decide) hun (.inr ⟨7, by decide, (haf ⟨7, .data⟩ (Array.mem_of_getElem? (i := 0) rfl) rfl)⟩) (G' := ⟨4, Nothing, 0⟩) rfl).1
          have J' := Lib.hid (fun (F' : Nat → Prop) (p' : Nat) => (hJ.next (m := 3) (i := 11) hsz (by decide) hun (.inr ⟨7, by decide, (haf ⟨7, .data⟩ (Array.mem_of_getElem? (i := 0) rfl) rfl)⟩) (G' := ⟨4, F', p'⟩) rfl).2)
          clear hK haf hfar hJ hun hsz
          have HB := Lib.hid hB
          clear hB
          obtain ⟨hk26, -⟩ : Lies G w (a.tmps.getD 26 undef) [m.1] := k26
          have Bk26 := Lib.hid hk26
          generalize hvk26 : a.tmps.getD 26 undef = vk26 at *
          clear hk26
          have hw := HB.out.2.2.2.2.1 (by omega)
          rw [hg] at hw
          have HW := Lib.hid hw
          have HG := Lib.hid hg
          have hL := (layAt_all m 3).2.2
          clear hw hg
          go_simp
          refine (wr_byte G.p G.F _ vk26 _ w HW.out Bk26.out.by (by simp only [List.length_cons, List.length_nil]; omega)).mono ?_
          rintro e w' ⟨F', rfl, hw', hk, hs⟩
          obtain ⟨r1, r2⟩ := chain_step (F' := F') HB.out HG.out (by decide) hw' hk hs
          exact ⟨_, rfl, ⟨4, F', G.p⟩, r1, r2, J'.out F' G.p, ⟨by show 1 ≤ 4; decide, rfl⟩⟩
        · intro listed G w a hsz hun haf hJ hB hK hfar
          have k1 : a.tmps.getD 1 undef = .pointer (some ⟨W.heap.size, 0, none⟩) := hfar 1 (by decide)
          have J' := Lib.hid (hJ.other (i := 12) (G' := G) (by decide) rfl)
          clear hK haf hfar hJ hun hsz
          have HB := Lib.hid hB
          clear hB
          go_simp
          exact ⟨_, rfl, G, WR.refl _ _, HB.out, J'.out, rfl⟩
        · intro listed G w a hsz hun haf hJ hB hK hfar
          have k28 := hK 12 _ 28 rfl rfl (haf ⟨12, .data⟩ (Array.mem_of_getElem? (i := 0) rfl) rfl)
          have k28' : a.tmps.getD 28 undef = .pointer (some ⟨W.heap.size, 1, none⟩) := k28
          have c1 : w.cell? ⟨W.heap.size, 1, none⟩ = some (.slice A m.2.length c) := hB.2.2.2.2.2.cell 1
          have J' := Lib.hid (hJ.other (i := 13) (G' := G) (by decide) rfl)
          clear hK haf hfar hJ hun hsz
          have HB := Lib.hid hB
          clear hB
          clear k28
          go_simp
          exact ⟨_, rfl, G, WR.refl _ _, HB.out, J'.out, rfl⟩
        · intro listed G w a hsz hun haf hJ hB hK hfar
          have k27 := hK 11 _ 27 rfl rfl (haf ⟨11, .data⟩ (Array.mem_of_getElem? (i := 0) rfl) rfl)
          have k27' : a.tmps.getD 27 undef = .pointer (some ⟨G.p, 0, none⟩) := k27.2
          have k29 := hK 13 _ 29 rfl rfl (haf ⟨13, .data⟩ (Array.mem_of_getElem? (i := 1) rfl) rfl)
          have k29' : a.tmps.getD 29 undef = .slice A m.2.length c := k29
          clear k29
          have hg := (hJ.next (m := 4) (i := 14) hsz (by decide) hun (.inr ⟨11, by decide, (haf ⟨11, .data⟩ (Array.mem_of_getElem? (i := 0) rfl) rfl)⟩) (G' := ⟨5, Nothing, 0⟩) rfl).1
          have J' := Lib.hid (fun (F' : Nat → Prop) (p' : Nat) => (hJ.next (m := 4) (i := 14) hsz (by decide) hun (.inr ⟨11, by decide, (haf ⟨11, .data⟩ (Array.mem_of_getElem? (i := 0) rfl) rfl)⟩) (G' := ⟨5, F', p'⟩) rfl).2)
          clear hK haf hfar hJ hun hsz
          have HB := Lib.hid hB
          clear hB
          have hw := HB.out.2.2.2.2.1 (by omega)
          rw [hg] at hw
          have HW := Lib.hid hw
          have HG := Lib.hid hg
          have hL := (layAt_all m 4).2.2
          clear hw hg
          go_simp
          refine (wr_byte G.p G.F _ (.slice A m.2.length c) m.2 w HW.out (HY.out.old HB.out.2.1) (by omega)).mono ?_
          rintro e w' ⟨F', rfl, hw', hk, hs⟩
          obtain ⟨r1, r2⟩ := chain_step (F' := F') HB.out HG.out (by decide) hw' hk hs
          exact ⟨_, rfl, ⟨5, F', G.p⟩, r1, r2, J'.out F' G.p, ⟨by show 1 ≤ 5; decide, rfl⟩⟩
        · intro listed G w a hsz hun haf hJ hB hK hfar
          have k30 := hK 14 _ 30 rfl rfl (haf ⟨14, .data⟩ (Array.mem_of_getElem? (i := 0) rfl) rfl)
          have k30' : a.tmps.getD 30 undef = .pointer (some ⟨G.p, 0, none⟩) := k30.2
          have h5 : 5 ≤ G.n := by
            have := hJ (14, 5) (by decide)
            rw [haf ⟨14, .data⟩ (Array.mem_of_getElem? (i := 0) rfl) rfl] at this
            simpa using this.symm
          have J' := Lib.hid (hJ.other (i := 15) (G' := G) (by decide) rfl)
          clear hK haf hfar hJ hun hsz
          have HB := Lib.hid hB
          clear hB
          have hw := HB.out.2.2.2.2.1 (by omega)
          have e5 : layAt m G.n = layAt m 5 := by
            obtain ⟨q, hq⟩ : ∃ q, G.n = q + 5 := ⟨G.n - 5, by omega⟩
            rw [hq]; rfl
          rw [e5] at hw
          have HW := Lib.hid hw
          clear hw e5 h5
          go_simp
          refine (wr_done2 G.p G.F _ w HW.out).mono ?_
          rintro e w' ⟨v', rfl, hb, hn, hk⟩
          rw [layAt_done] at hb ⊢
          obtain ⟨r1, r2⟩ := quiet_step HB.out hk
          exact ⟨_, rfl, G, r1, r2, J'.out, ⟨v', rfl, lies_new HB.out hb hn⟩⟩
        · intro listed G w a hsz hun haf hJ hB hK hfar
          have k31 := hK 15 _ 31 rfl rfl (haf ⟨15, .data⟩ (Array.mem_of_getElem? (i := 0) rfl) rfl)
          have J' := Lib.hid (hJ.other (i := 16) (G' := G) (by decide) rfl)
          clear hK haf hfar hJ hun hsz
          have HB := Lib.hid hB
          clear hB
          obtain ⟨x31, e31, hl31⟩ := k31
          have L31 := Lib.hid hl31
          clear hl31
          go_simp
          exact ⟨_, rfl, G, WR.refl _ _, HB.out, J'.out, L31.out⟩
        · intro listed G w a hsz hun haf hJ hB hK hfar
          have k31 := hK 15 _ 31 rfl rfl (haf ⟨15, .data⟩ (Array.mem_of_getElem? (i := 0) rfl) rfl)
          have J' := Lib.hid (hJ.other (i := 17) (G' := G) (by decide) rfl)
          clear hK haf hfar hJ hun hsz
          have HB := Lib.hid hB
          clear hB
          obtain ⟨x31, e31, hl31⟩ := k31
          have L31 := Lib.hid hl31
          clear hl31
          go_simp
          exact ⟨_, rfl, G, WR.refl _ _, HB.out, J'.out, rfl⟩
        · intro listed G w a hsz hun haf hJ hB hK hfar
          have k32 := hK 16 _ 32 rfl rfl (haf ⟨16, .data⟩ (Array.mem_of_getElem? (i := 0) rfl) rfl)
          have k32' : Lies G w (a.tmps.getD 32 undef) (layAt m 5).l := k32
          have J' := Lib.hid (hJ.other (i := 18) (G' := G) (by decide) rfl)
          clear hK haf hfar hJ hun hsz
          have HB := Lib.hid hB
          clear hB
          have k32q : Lies G w (a.tmps[32]?.getD undef) (layAt m 5).l := by rw [← Array.getD_eq_getD_getElem?]; exact k32'
          have L32 := Lib.hid k32q
          clear k32 k32' k32q
          go_simp
          exact ⟨_, rfl, G, WR.refl _ _, HB.out, J'.out, L32.out⟩
        · intro listed G w a hsz hun haf hJ hB hK hfar
          have k33 := hK 17 _ 33 rfl rfl (haf ⟨17, .data⟩ (Array.mem_of_getElem? (i := 0) rfl) rfl)
          have k33' : a.tmps.getD 33 undef = .int .i64 0 := k33
          have J' := Lib.hid (hJ.other (i := 19) (G' := G) (by decide) rfl)
          clear hK haf hfar hJ hun hsz
          have HB := Lib.hid hB
          clear hB
          clear k33
          go_simp
          exact ⟨_, rfl, G, WR.refl _ _, HB.out, J'.out, rfl⟩
      · intro vals G w hB hJ hV
        have e18 : Lies G w (vals 18) (layAt m 5).l := hV 18 _ 2 rfl rfl
        have e19 : vals 19 = .int .i64 0 := hV 19 _ 3 rfl rfl
        have KF := Lib.hid (KA.out.trans hB.2.1)
        have L18 := Lib.hid e18
        clear hB hJ hV e18
        simp [putAll, Act.put, Array.setIfInBounds, e19]
        clear e19
        generalize vals 18 = v18 at *
        go_wp2
        go_ret2
        exact ⟨_, rfl, L18.out.1, KF.out⟩
end Go.Proofs.YtdhbfhjlholnlaaGreatDoor
