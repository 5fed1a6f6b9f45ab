
/-
  What the calls of package scroll's writer do: Fill.
-/
import Derived.Test.YtdeblmolgmadiaaGreatDoorWh
import Derived.Deep.LoopGhost
namespace Go.Proofs.YtdeblmolgmadiaaGreatDoor
open Go.RowKit

theorem own_open {w : World} {base e size : Nat} {v : Value} {n : Nat} {xs : List Value} (h : w.ownsRow base e size v n xs) (h0 : 0 < n) :
    ∃ g cap cur, v = .slice (some ⟨g, 0, none⟩) n cap ∧ Blk w g e cur ∧ n ≤ cap ∧ cap ≤ maxLen ∧ cur.size = cap * size ∧ cur.toList.take (n * size) = xs := by
  rcases h.2 with ⟨rfl, h2⟩ | ⟨g, cap, cur, rfl, _, hh, hn, hm, hs, ht⟩
  · omega
  · exact ⟨g, cap, cur, rfl, hh, hn, hm, hs, ht⟩
theorem own_set {w : World} {e : TypeId} {g n c : Nat} {l : List UInt8} (h : w.ownsRow 0 e 1 (.slice (some ⟨g, 0, none⟩) n c) n (bys l)) {j : Nat} (hj : j < n) (b : UInt8) :
    (w.setCell ⟨g, j, none⟩ (by8 b)).ownsRow 0 e 1 (.slice (some ⟨g, 0, none⟩) n c) n (bys (l.set j b)) := by
  obtain ⟨g', cap, cur, hv, hb, hn, hm, hs, ht⟩ := own_open h (by omega)
  injection hv with h1 h2 h3
  injection h1 with h1
  injection h1 with h1
  subst h1 h3
  have hlen := h.1
  rw [length_bys] at hlen
  refine ⟨by rw [length_bys, List.length_set]; exact hlen, .inr ⟨g, c, _, rfl, Nat.zero_le _, hb.put j _, hn, hm, by simpa using hs, ?_⟩⟩
  unfold bys at ht ⊢
  rw [List.map_set, ← ht, Array.toList_setIfInBounds, List.take_set]

theorem by8_of {x : Int} {m : Nat} (h : x = ((m % 256 : Nat) : Int)) : (.int .u8 x : Value) = by8 (UInt8.ofNat m) := by
  unfold by8
  rw [h, UInt8.toNat_ofNat']

theorem own_shrink {w : World} {base e size g n c : Nat} {xs : List Value} (h : w.ownsRow base e size (.slice (some ⟨g, 0, none⟩) n c) n xs) {m : Nat} (hm : m ≤ n) :
    w.ownsRow base e size (.slice (some ⟨g, 0, none⟩) m c) m (xs.take (m * size)) := by
  rcases h.2 with ⟨h1, _⟩ | ⟨g', cap, cur, hv, hb, hh, hn, hx, hs, ht⟩
  · cases h1
  · injection hv with h1 h2 h3
    injection h1 with h1
    injection h1 with h1
    subst h1 h3
    have hle : m * size ≤ n * size := Nat.mul_le_mul_right _ hm
    refine ⟨by rw [List.length_take, h.1]; omega, .inr ⟨g, c, cur, rfl, hb, hh, by omega, hx, hs, ?_⟩⟩
    rw [← ht, List.take_take, Nat.min_eq_left hle]

/-- Behind Fill's stores. -/
theorem Wr.put_fill {F : Nat → Prop} {w W : World} {p g c q c2 : Nat} {l l' : List UInt8} {hs : List (Nat × Nat)} {x : Nat × Nat} (hF : F = wown p (.slice (some ⟨g, 0, none⟩) l.length c) (.slice (some ⟨q, 0, none⟩) (hs ++ [x]).length c2))
    (hb : Blk W p 165 #[.bool true, .slice (some ⟨g, 0, none⟩) l.length c, .slice (some ⟨q, 0, none⟩) (hs ++ [x]).length c2, .int .i64 0])
    (hl : l'.length = l.length) (h1 : W.ownsRow 0 5 1 (.slice (some ⟨g, 0, none⟩) l.length c) l.length (bys l'))
    (h2 : W.ownsRow 0 238 2 (.slice (some ⟨q, 0, none⟩) (hs ++ [x]).length c2) (hs ++ [x]).length (hcs (hs ++ [x]))) (hok : WS.ok ⟨l', hs, 0⟩) (hk : Kept F w W) :
    ∃ F', Wr (W.setCell ⟨p, 2, none⟩ (.slice (some ⟨q, 0, none⟩) hs.length c2)) F' p ⟨l', hs, 0⟩ ∧ Kept F w (W.setCell ⟨p, 2, none⟩ (.slice (some ⟨q, 0, none⟩) hs.length c2)) ∧ Sub w F' F := by
  rw [← hl] at hF hb h1
  have h3 := own_shrink h2 (m := hs.length) (by simp)
  rw [hcs_append, ← length_hcs, List.take_left] at h3
  obtain ⟨F', a1, a2, a3⟩ := Wr.put2 (s := ⟨l', hs ++ [x], 0⟩) (hs := hs) hF hb h1 h2 hok rfl rfl h3 (Kept.refl _ W) (.inl rfl)
  exact ⟨F', a1, hk.sub (Sub.refl _ _) a2, fun k hk2 => (a3 k hk2).imp (fun x => x) (fun x => Nat.le_trans hk.size x)⟩

set_option maxHeartbeats 800000 in
theorem wr_fill1 (p : Nat) (F : Nat → Prop) (l : List UInt8) (hs : List (Nat × Nat)) (b : Nat) (w : World) (h : Wr w F p ⟨l, hs ++ [(1, b + 1)], 0⟩) (hn : l.length - (b + 1) < 256) :
    Calls Tryz.prog 144 #[.pointer (some ⟨p, 0, none⟩)] w fun r w' => ∃ F', r = .returned (.pointer (some ⟨p, 0, none⟩)) ∧ Wr w' F' p ⟨WS.tell l (b + 1) (l.length - (b + 1)) 1, hs, 0⟩ ∧ Kept F w w' ∧ Sub w F' F := by
  have hE := Lib.hid (wr_err p F _ w h)
  have HR := Lib.hid h
  obtain ⟨hh1, hh2, hh3⟩ := h.ok.1 (1, b + 1) (by simp)
  simp only at hh1 hh2 hh3
  have hmx : l.length ≤ 1099511627776 := h.ok.2.1
  have hdx : hs.length < 1099511627776 := by have h9 : (hs ++ [(1, b + 1)]).length ≤ 1099511627776 := h.ok.2.2; rw [List.length_append] at h9; exact h9
  obtain ⟨bv, hv, hFF, hb, h1, h2, hok⟩ := h
  simp only at hb h1 h2
  obtain ⟨g, cap, cur, rfl, hg, hg1, hg2, hg3, hg4⟩ := own_open h1 (by omega)
  obtain ⟨q, cap2, cur2, rfl, hq, hq1, hq2, hq3, hq4⟩ := own_open h2 (by simp)
  obtain ⟨⟨-, c1, c2, -⟩, -, f2, -⟩ := cells4 hb
  have e0 : w.cell? ⟨q, hs.length * 2, none⟩ = some (.int .i64 1) := by
    rw [hq.cell, ← Array.getElem?_toList, ← List.getElem?_take_of_lt (j := (hs ++ [(1, b + 1)]).length * 2) (by simp), hq4, hcs_append, List.getElem?_append_right (by rw [length_hcs]; omega)]
    rw [length_hcs, Nat.sub_self]; rfl
  have e1 : w.cell? ⟨q, hs.length * 2 + 1, none⟩ = some (.int .i64 ((b : Int) + 1)) := by
    rw [hq.cell, ← Array.getElem?_toList, ← List.getElem?_take_of_lt (j := (hs ++ [(1, b + 1)]).length * 2) (by simp; omega), hq4, hcs_append, List.getElem?_append_right (by rw [length_hcs]; omega)]
    rw [length_hcs, Nat.add_sub_cancel_left]; rfl
  simp only [List.length_append, List.length_cons, List.length_nil, Nat.zero_add] at c2 hq1
  have eb : w.cell? ⟨g, b, none⟩ = some (by8 (l.getD b 0)) := by
    rw [hg.cell, ← getD_bys l b (by omega), ← hg4, List.getElem?_take_of_lt (by omega), Array.getElem?_toList]
  have fb : w.frozen? ⟨g, b, none⟩ = false := hg.free b
  have hgp : g ≠ p := hg.apart hb (by decide)
  have hgp' : p ≠ g := hgp.symm
  have hgq : g ≠ q := hg.apart hq (by decide)
  have HOK : Hid (WS.ok ⟨WS.tell l (b + 1) (l.length - (b + 1)) 1, hs, 0⟩) := by
    refine ⟨fun x hx => ?_, by rw [WS.length_tell]; exact hmx, Nat.le_of_lt hdx⟩
    rw [WS.length_tell]
    exact hok.1 x (List.mem_append_left _ hx)
  have hd0 : (0 : Int) ≤ hs.length := Int.natCast_nonneg _
  have hd1 : decide ((hs.length : Int) < 0) = false := by simp
  have hlt := hb.lt
  have glt := hg.lt
  have qlt := hq.lt
  have H1 := Lib.hid h1
  have H2 := Lib.hid h2
  have HB := Lib.hid hb
  have HFF := Lib.hid hFF
  clear hq3 hq4 hg3 hg4 h1 h2 hFF hok hh1
  go_enter Tryz.func144, Tryz.ntmps144
  go_wp2_with fail
  refine hE.out.mono ?_
  rintro e w' ⟨rfl, rfl⟩
  go_wp2
  go_quiet (fail)
  go_wp2
  refine wp_loop_rounds 2 ?_
  rw [rounds_succ]
  go_wp2
  go_region
  all_goals go_wp2
  rw [rounds_succ]
  go_wp2
  have hV : (.int .u8 ((l.length : Int) - ((b : Int) + 1)) : Value) = by8 (UInt8.ofNat (l.length - (b + 1))) := by8_of (by omega)
  have kk : Kept Nothing w ((w.alloc (Obj.cells #[.int .i64 1, .int .i64 ((b : Int) + 1)] 238)).drewN (nq + 1)) := ((Kept.refl _ w).alloc _).drewN _
  have kg := Kept.own ((w.alloc (Obj.cells #[.int .i64 1, .int .i64 ((b : Int) + 1)] 238)).drewN (nq + 1)) g b (by8 (UInt8.ofNat (l.length - (b + 1))))
  rw [hV]
  have r1 := own_set (own_kept H1.out kk (fun _ _ x => x)) (j := b) (by omega) (UInt8.ofNat (l.length - (b + 1)))
  have r2 := own_kept (own_kept H2.out kk (fun _ _ x => x)) kg (fun k hk e => hgq (by rw [show g = k from e.symm]; simpa [Value.ownBlock] using hk.symm))
  have r3 := (HB.out.kept kk (fun x => x)).kept kg (fun e => hgp e.symm)
  obtain ⟨F', a1, a2, a3⟩ := Wr.put_fill (w := w) (l' := WS.tell l (b + 1) (l.length - (b + 1)) 1) HFF.out r3 (WS.length_tell _ _ _ _) (by simpa [WS.tell] using r1) r2 HOK.out ((kk.mono (fun _ x => x.elim)).trans (kg.mono (fun k e => by rw [HFF.out]; exact .inr (.inl (by rw [show k = g from e]; rfl)))))
  go_ret
  exact ⟨F', rfl, a1, a2, a3⟩

set_option maxHeartbeats 800000 in
theorem wr_fill2 (p : Nat) (F : Nat → Prop) (l : List UInt8) (hs : List (Nat × Nat)) (b : Nat) (w : World) (h : Wr w F p ⟨l, hs ++ [(2, b + 2)], 0⟩) (hn : l.length - (b + 2) < 65536) :
    Calls Tryz.prog 144 #[.pointer (some ⟨p, 0, none⟩)] w fun r w' => ∃ F', r = .returned (.pointer (some ⟨p, 0, none⟩)) ∧ Wr w' F' p ⟨WS.tell l (b + 2) (l.length - (b + 2)) 2, hs, 0⟩ ∧ Kept F w w' ∧ Sub w F' F := by
  have hE := Lib.hid (wr_err p F _ w h)
  have HR := Lib.hid h
  obtain ⟨hh1, hh2, hh3⟩ := h.ok.1 (2, b + 2) (by simp)
  simp only at hh1 hh2 hh3
  have hmx : l.length ≤ 1099511627776 := h.ok.2.1
  have hdx : hs.length < 1099511627776 := by have h9 : (hs ++ [(2, b + 2)]).length ≤ 1099511627776 := h.ok.2.2; rw [List.length_append] at h9; exact h9
  obtain ⟨bv, hv, hFF, hb, h1, h2, hok⟩ := h
  simp only at hb h1 h2
  obtain ⟨g, cap, cur, rfl, hg, hg1, hg2, hg3, hg4⟩ := own_open h1 (by omega)
  obtain ⟨q, cap2, cur2, rfl, hq, hq1, hq2, hq3, hq4⟩ := own_open h2 (by simp)
  obtain ⟨⟨-, c1, c2, -⟩, -, f2, -⟩ := cells4 hb
  have e0 : w.cell? ⟨q, hs.length * 2, none⟩ = some (.int .i64 2) := by
    rw [hq.cell, ← Array.getElem?_toList, ← List.getElem?_take_of_lt (j := (hs ++ [(2, b + 2)]).length * 2) (by simp), hq4, hcs_append, List.getElem?_append_right (by rw [length_hcs]; omega)]
    rw [length_hcs, Nat.sub_self]; rfl
  have e1 : w.cell? ⟨q, hs.length * 2 + 1, none⟩ = some (.int .i64 ((b : Int) + 2)) := by
    rw [hq.cell, ← Array.getElem?_toList, ← List.getElem?_take_of_lt (j := (hs ++ [(2, b + 2)]).length * 2) (by simp; omega), hq4, hcs_append, List.getElem?_append_right (by rw [length_hcs]; omega)]
    rw [length_hcs, Nat.add_sub_cancel_left]; rfl
  simp only [List.length_append, List.length_cons, List.length_nil, Nat.zero_add] at c2 hq1
  have eb : w.cell? ⟨g, b, none⟩ = some (by8 (l.getD b 0)) := by
    rw [hg.cell, ← getD_bys l b (by omega), ← hg4, List.getElem?_take_of_lt (by omega), Array.getElem?_toList]
  have fb : w.frozen? ⟨g, b, none⟩ = false := hg.free b
  have eb1 : w.cell? ⟨g, b + 1, none⟩ = some (by8 (l.getD (b + 1) 0)) := by
    rw [hg.cell, ← getD_bys l (b + 1) (by omega), ← hg4, List.getElem?_take_of_lt (by omega), Array.getElem?_toList]
  have fb1 : w.frozen? ⟨g, b + 1, none⟩ = false := hg.free (b + 1)
  have hgp : g ≠ p := hg.apart hb (by decide)
  have hgp' : p ≠ g := hgp.symm
  have hgq : g ≠ q := hg.apart hq (by decide)
  have HOK : Hid (WS.ok ⟨WS.tell l (b + 2) (l.length - (b + 2)) 2, hs, 0⟩) := by
    refine ⟨fun x hx => ?_, by rw [WS.length_tell]; exact hmx, Nat.le_of_lt hdx⟩
    rw [WS.length_tell]
    exact hok.1 x (List.mem_append_left _ hx)
  have hd0 : (0 : Int) ≤ hs.length := Int.natCast_nonneg _
  have hd1 : decide ((hs.length : Int) < 0) = false := by simp
  have hlt := hb.lt
  have glt := hg.lt
  have qlt := hq.lt
  have H1 := Lib.hid h1
  have H2 := Lib.hid h2
  have HB := Lib.hid hb
  have HFF := Lib.hid hFF
  clear hq3 hq4 hg3 hg4 h1 h2 hFF hok hh1
  go_enter Tryz.func144, Tryz.ntmps144
  go_wp2_with fail
  refine hE.out.mono ?_
  rintro e w' ⟨rfl, rfl⟩
  go_wp2
  go_quiet (fail)
  go_wp2
  refine wp_loop_rounds 3 ?_
  rw [rounds_succ]
  go_wp2
  go_region
  all_goals go_wp2
  rw [rounds_succ]
  go_wp2
  go_region
  all_goals go_wp2
  rw [rounds_succ]
  go_wp2
  have hV0 : (.int .u8 (((l.length : Int) - ((b : Int) + 2)) % 256) : Value) = by8 (UInt8.ofNat (l.length - (b + 2))) := by8_of (by omega)
  have hV1 : (.int .u8 (((l.length : Int) - ((b : Int) + 2)) / 256) : Value) = by8 (UInt8.ofNat ((l.length - (b + 2)) / 256)) := by8_of (by omega)
  have kk : Kept Nothing w ((w.alloc (Obj.cells #[.int .i64 2, .int .i64 ((b : Int) + 2)] 238)).drewN (nq + 1)) := ((Kept.refl _ w).alloc _).drewN _
  rw [hV0, hV1]
  have r1 := own_kept H1.out kk (fun _ _ x => x)
  have r2 := own_kept H2.out kk (fun _ _ x => x)
  have r3 := HB.out.kept kk (fun x => x)
  generalize (w.alloc (Obj.cells #[.int .i64 2, .int .i64 ((b : Int) + 2)] 238)).drewN (nq + 1) = w2 at *
  have kg := (Kept.own w2 g (b + 1) (by8 (UInt8.ofNat (l.length - (b + 2))))).trans (Kept.own _ g b (by8 (UInt8.ofNat ((l.length - (b + 2)) / 256))))
  have s1 := own_set (own_set r1 (j := b + 1) (by omega) (UInt8.ofNat (l.length - (b + 2)))) (j := b) (by omega) (UInt8.ofNat ((l.length - (b + 2)) / 256))
  have s2 := own_kept r2 kg (fun k hk e => hgq (by rw [show g = k from e.symm]; simpa [Value.ownBlock] using hk.symm))
  have s3 := r3.kept kg (fun e => hgp e.symm)
  obtain ⟨F', a1, a2, a3⟩ := Wr.put_fill (w := w) (l' := WS.tell l (b + 2) (l.length - (b + 2)) 2) HFF.out s3 (WS.length_tell _ _ _ _) (by simpa [WS.tell] using s1) s2 HOK.out ((kk.mono (fun _ x => x.elim)).trans (kg.mono (fun k e => by rw [HFF.out]; exact .inr (.inl (by rw [show k = g from e]; rfl)))))
  go_ret
  exact ⟨F', rfl, a1.drewN 1, a2.drewN 1, a3⟩

theorem wr_fill_long (p : Nat) (F : Nat → Prop) (l : List UInt8) (hs : List (Nat × Nat)) (x : Nat × Nat) (w : World) (h : Wr w F p ⟨l, hs ++ [x], 0⟩) (hn : 256 ^ x.1 ≤ l.length - x.2) :
    Calls Tryz.prog 144 #[.pointer (some ⟨p, 0, none⟩)] w fun r w' => ∃ F', r = .returned (.pointer (some ⟨p, 0, none⟩)) ∧ Wr w' F' p ⟨l, hs ++ [x], 3⟩ ∧ Kept F w w' ∧ Sub w F' F := by
  have hE := Lib.hid (wr_err p F _ w h)
  have HR := Lib.hid h
  obtain ⟨hh1, hh2, hh3⟩ := h.ok.1 x (by simp)
  have hmx : l.length ≤ 1099511627776 := h.ok.2.1
  have hdx : hs.length < 1099511627776 := by have h9 : (hs ++ [x]).length ≤ 1099511627776 := h.ok.2.2; rw [List.length_append] at h9; exact h9
  obtain ⟨bv, hv, hFF, hb, h1, h2, hok⟩ := h
  simp only at hb h1 h2 hh3
  obtain ⟨d, b⟩ := x
  simp only at hn hh1 hh2 hh3
  obtain ⟨A0, cap, rfl, hg1, hg2⟩ := own_form h1
  obtain ⟨q, cap2, cur2, rfl, hq, hq1, hq2, hq3, hq4⟩ := own_open h2 (by simp)
  obtain ⟨⟨-, c1, c2, -⟩, -, f2, -⟩ := cells4 hb
  have e0 : w.cell? ⟨q, hs.length * 2, none⟩ = some (.int .i64 (d : Int)) := by
    rw [hq.cell, ← Array.getElem?_toList, ← List.getElem?_take_of_lt (j := (hs ++ [(d, b)]).length * 2) (by simp), hq4, hcs_append, List.getElem?_append_right (by rw [length_hcs]; omega)]
    rw [length_hcs, Nat.sub_self]; rfl
  have e1 : w.cell? ⟨q, hs.length * 2 + 1, none⟩ = some (.int .i64 (b : Int)) := by
    rw [hq.cell, ← Array.getElem?_toList, ← List.getElem?_take_of_lt (j := (hs ++ [(d, b)]).length * 2) (by simp; omega), hq4, hcs_append, List.getElem?_append_right (by rw [length_hcs]; omega)]
    rw [length_hcs, Nat.add_sub_cancel_left]; rfl
  simp only [List.length_append, List.length_cons, List.length_nil, Nat.zero_add] at c2 hq1
  have hd0 : (0 : Int) ≤ hs.length := Int.natCast_nonneg _
  have hd1 : decide ((hs.length : Int) < 0) = false := by simp
  have hlt := hb.lt
  have qlt := hq.lt
  clear hq3 hq4 h1 h2 hFF hok hb hq
  rcases hh1 with rfl | rfl
  all_goals
    go_enter Tryz.func144, Tryz.ntmps144
    go_wp2_with fail
    refine hE.out.mono ?_
    rintro e w' ⟨rfl, rfl⟩
    go_wp2
    go_quiet (fail)
    have hgt : (0 : Int) < ((l.length : Int) - (b : Int)) / 256 := by omega
    first
      | have hgt2 : (0 : Int) < ((l.length : Int) - (b : Int)) / 65536 := by omega
      | skip
    go_wp2_with fail
    have kk := fun (o : Obj) => ((Kept.refl Nothing w).alloc o).drewN nq
    refine (wr_note p F _ 3 _ (by exact HR.out.kept (kk _) (fun _ _ x => x))).mono ?_
    rintro e w2 ⟨rfl, hr, hk⟩
    have HR2 := Lib.hid hr
    clear hr
    go_wp2
    go_ret
    exact ⟨F, rfl, HR2.out, ((kk _).mono (fun _ x => x.elim)).trans hk, Sub.refl _ _⟩

theorem wr_fill (p : Nat) (F : Nat → Prop) (s : WS) (w : World) (h : Wr w F p s) :
    Calls Tryz.prog 144 #[.pointer (some ⟨p, 0, none⟩)] w fun r w' => ∃ F', r = .returned (.pointer (some ⟨p, 0, none⟩)) ∧ Wr w' F' p s.fill ∧ Kept F w w' ∧ Sub w F' F := by
  by_cases he : s.e = 0
  · rcases List.eq_nil_or_concat s.hs with h0 | ⟨hs, x, h0⟩
    · have HF : Hid (s.fill = s.note 26) := by show _ = _; unfold WS.fill; rw [if_pos he, h0]; rfl
      rw [HF.out]
      have hE := Lib.hid (wr_err p F s w h)
      have HN := Lib.hid (wr_note p F s 26 w h)
      have hn : (s.e != 0) = false := by simpa using he
      obtain ⟨bv, hv, hFF, hb, h1, h2, hok⟩ := h
      obtain ⟨⟨-, -, c2, -⟩, -⟩ := cells4 hb
      obtain ⟨A1, cc1, rfl, _, _⟩ := own_form h2
      rw [h0] at c2
      simp only [List.length_nil] at c2
      clear HF he h0 hb h1 h2 hok hFF
      go_enter Tryz.func144, Tryz.ntmps144
      go_wp2_with fail
      refine hE.out.mono ?_
      rintro e w' ⟨rfl, rfl⟩
      go_wp2_with fail
      refine HN.out.mono ?_
      rintro e w1 ⟨rfl, hr, hk⟩
      have HR := Lib.hid hr
      clear hr
      go_wp2
      go_ret
      exact ⟨F, rfl, HR.out, hk, Sub.refl _ _⟩
    · obtain ⟨l, hs', e⟩ := s
      obtain rfl : e = 0 := he
      simp only [List.concat_eq_append] at h0
      subst h0
      have hx := h.ok.1 x (by simp)
      simp only at hx
      by_cases hn : 256 ^ x.1 ≤ l.length - x.2
      · have HF : WS.fill ⟨l, hs ++ [x], 0⟩ = ⟨l, hs ++ [x], 3⟩ := by unfold WS.fill; simp [hn, WS.note]
        rw [HF]
        exact wr_fill_long p F l hs x w h hn
      · have HF : WS.fill ⟨l, hs ++ [x], 0⟩ = ⟨WS.tell l x.2 (l.length - x.2) x.1, hs, 0⟩ := by unfold WS.fill; simp [hn]
        rw [HF]
        obtain ⟨d, b⟩ := x
        simp only at hx hn ⊢
        obtain ⟨h1, h2, h3⟩ := hx
        rcases h1 with rfl | rfl
        · obtain ⟨b, rfl⟩ : ∃ b', b = b' + 1 := ⟨b - 1, by omega⟩
          exact wr_fill1 p F l hs b w h (by omega)
        · obtain ⟨b, rfl⟩ : ∃ b', b = b' + 2 := ⟨b - 2, by omega⟩
          exact wr_fill2 p F l hs b w h (by omega)
  · have HF : Hid (s.fill = s) := if_neg he
    rw [HF.out]
    have hE := Lib.hid (wr_err p F s w h)
    have hn : (s.e != 0) = true := by simpa using he
    have HR := Lib.hid h
    clear HF he h
    go_enter Tryz.func144, Tryz.ntmps144
    go_wp2_with fail
    refine hE.out.mono ?_
    rintro e w' ⟨rfl, rfl⟩
    go_wp2
    go_ret
    exact ⟨F, rfl, HR.out, Kept.refl _ _, Sub.refl _ _⟩
end Go.Proofs.YtdeblmolgmadiaaGreatDoor
