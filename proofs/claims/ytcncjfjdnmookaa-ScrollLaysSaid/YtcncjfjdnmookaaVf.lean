/-
  What the calls of the document's own writer (package consulateref01) do: Fill.
-/
import Derived.Test.YtcncjfjdnmookaaVh
namespace Go.Proofs.Ytcncjfjdnmookaa
open Go.RowKit

/-- The last hold, in its row. -/
theorem rcs_last {w : World} {hv : Value} {hs : List (Nat × Nat)} {x : Nat × Nat} (h : w.ownsRow 0 86 2 hv (hs ++ [x]).length (rcs (hs ++ [x]))) :
    ∃ g c, hv = .slice (some ⟨g, 0, none⟩) (hs.length + 1) c ∧ hs.length + 1 ≤ c ∧ c ≤ maxLen ∧ g < w.heap.size ∧ w.cell? ⟨g, hs.length * 2, none⟩ = some (.int .i64 ((x.2 - x.1 : Nat) : Int)) ∧ w.cell? ⟨g, hs.length * 2 + 1, none⟩ = some (.int .i64 (x.1 : Int)) := by
  obtain ⟨g, cap, cur, rfl, hq, hq1, hq2, hq3, hq4⟩ := own_open h (by simp)
  simp only [List.length_append, List.length_cons, List.length_nil, Nat.zero_add] at hq1 ⊢
  refine ⟨g, cap, rfl, hq1, hq2, hq.lt, ?_, ?_⟩
  · rw [hq.cell, ← Array.getElem?_toList, ← List.getElem?_take_of_lt (j := (hs ++ [x]).length * 2) (by simp), hq4, rcs_append, List.getElem?_append_right (by rw [length_rcs]; omega)]
    rw [length_rcs, Nat.sub_self]; rfl
  · rw [hq.cell, ← Array.getElem?_toList, ← List.getElem?_take_of_lt (j := (hs ++ [x]).length * 2) (by simp; omega), hq4, rcs_append, List.getElem?_append_right (by rw [length_rcs]; omega)]
    rw [length_rcs, Nat.add_sub_cancel_left]; rfl

/-- Behind Fill's stores. -/
theorem Vr.put_fill {F : Nat → Prop} {w W : World} {q g c g2 c2 : Nat} {l l' : List UInt8} {hs : List (Nat × Nat)} {x : Nat × Nat} (hF : F = wown q (.slice (some ⟨g, 0, none⟩) l.length c) (.slice (some ⟨g2, 0, none⟩) (hs.length + 1) c2))
    (hb : Blk W q 45 #[.slice (some ⟨g, 0, none⟩) l.length c, .slice (some ⟨g2, 0, none⟩) (hs.length + 1) c2, .int .i64 0])
    (hl : l'.length = l.length) (h1 : W.ownsRow 0 5 1 (.slice (some ⟨g, 0, none⟩) l.length c) l.length (bys l'))
    (h2 : W.ownsRow 0 86 2 (.slice (some ⟨g2, 0, none⟩) (hs.length + 1) c2) (hs ++ [x]).length (rcs (hs ++ [x]))) (hok : WS.small ⟨l', hs, 0⟩) (hk : Kept F w W) :
    ∃ F', Vr (W.setCell ⟨q, 1, none⟩ (.slice (some ⟨g2, 0, none⟩) hs.length c2)) F' q ⟨l', hs, 0⟩ ∧ Kept F w (W.setCell ⟨q, 1, none⟩ (.slice (some ⟨g2, 0, none⟩) hs.length c2)) ∧ Sub w F' F := by
  rw [← hl] at hF hb h1
  have e1 : (hs ++ [x]).length = hs.length + 1 := by simp
  have h2' := h2
  rw [e1] at h2'
  have h3 := own_shrink h2' (m := hs.length) (by omega)
  rw [rcs_append, ← length_rcs, List.take_left] at h3
  obtain ⟨-, F', a1, a2, a3⟩ := Vr.put1 (s := ⟨l', hs ++ [x], 0⟩) (hs := hs) hb h1 (by rw [e1]; exact h2') hok rfl rfl h3 (Kept.refl _ W) (.inl rfl)
  rw [← hF] at a2 a3
  exact ⟨F', a1, hk.sub (Sub.refl _ _) a2, fun k hk2 => (a3 k hk2).imp (fun x => x) (fun x => Nat.le_trans hk.size x)⟩

set_option maxHeartbeats 1600000 in
theorem vr_fill1 (q : Nat) (F : Nat → Prop) (l : List UInt8) (hs : List (Nat × Nat)) (b : Nat) (w : World) (h : Vr w F q ⟨l, hs ++ [(1, b + 1)], 0⟩) (hbl : b + 1 ≤ l.length) (hn : l.length - (b + 1) < 256) :
    Calls Try.prog 26 #[.pointer (some ⟨q, 0, none⟩)] w fun r w' => ∃ F', r = .returned (.tuple #[]) ∧ Vr w' F' q ⟨WS.tell l (b + 1) (l.length - (b + 1)) 1, hs, 0⟩ ∧ Kept F w w' ∧ Sub w F' F := by
  have hmx : l.length ≤ 1099511627776 := h.ok.1
  have hdx : hs.length < 1099511627776 := by have h9 : (hs ++ [(1, b + 1)]).length ≤ 1099511627776 := h.ok.2; rw [List.length_append] at h9; exact h9
  have HOK : Hid (WS.small ⟨WS.tell l (b + 1) (l.length - (b + 1)) 1, hs, 0⟩) := ⟨by rw [WS.length_tell]; exact hmx, Nat.le_of_lt hdx⟩
  obtain ⟨bv, hv, hFF, hb, h1, h2, hok⟩ := h
  simp only at hb h1 h2
  obtain ⟨g, cap, cur, rfl, hg, hg1, hg2, hg3, hg4⟩ := own_open h1 (by omega)
  obtain ⟨g2, c2, rfl, hc1, hc2, glt2, e0, e1⟩ := rcs_last h2
  simp only [Nat.add_sub_cancel] at e0
  obtain ⟨⟨c0, c1, c3⟩, -, f1, -⟩ := v_cells hb
  have eb : w.cell? ⟨g, b, none⟩ = some (by8 (l.getD b 0)) := by
    rw [hg.cell, ← getD_bys l b (by omega), ← hg4, List.getElem?_take_of_lt (by omega), Array.getElem?_toList]
  have fb : w.frozen? ⟨g, b, none⟩ = false := hg.free b
  have hgq : g ≠ q := hg.apart hb (by decide)
  have hgq' : q ≠ g := hgq.symm
  have hgg : g ≠ g2 := by
    obtain ⟨cs, hh⟩ := own_lt h2 (g := g2) rfl
    exact hg.apart (t' := 86) hh (by decide)
  have hd0 : ((hs.length : Int) + 1 == 0) = false := by simp; omega
  have hd2 : (0 : Int) ≤ hs.length := Int.natCast_nonneg _
  have hlt := hb.lt
  have glt := hg.lt
  have H1 := Lib.hid h1
  have H2 := Lib.hid h2
  have HB := Lib.hid hb
  have HFF := Lib.hid hFF
  have hgt : decide (255 < l.length - (b + 1)) = false := by simp; omega
  unfold maxLen at hc2 hg2
  clear hg3 hg4 h1 h2 hFF hok hb hg
  go_enter Try.func26, Try.ntmps26
  go_wp2
  go_region
  all_goals go_wp2
  all_goals go_quiet (fail)
  all_goals go_wp2
  all_goals go_region
  all_goals go_wp2
  all_goals go_region
  all_goals go_wp2
  have hV : (.int .u8 ((l.length : Int) - (b : Int) - 1) : Value) = by8 (UInt8.ofNat (l.length - (b + 1))) := by8_of (by omega)
  have kk : Kept Nothing w ((w.alloc (Obj.cells #[.int .i64 (b : Int), .int .i64 1] 86)).drewN (1 + nq + 1)) := ((Kept.refl _ w).alloc _).drewN _
  rw [hV]
  have r1 := own_kept H1.out kk (fun _ _ x => x)
  have r2 := own_kept H2.out kk (fun _ _ x => x)
  have r3 := HB.out.kept kk (fun x => x)
  generalize (w.alloc (Obj.cells #[.int .i64 (b : Int), .int .i64 1] 86)).drewN (1 + nq + 1) = w2 at *
  have kg := Kept.own w2 g b (by8 (UInt8.ofNat (l.length - (b + 1))))
  have s1 := own_set r1 (j := b) (by omega) (UInt8.ofNat (l.length - (b + 1)))
  have s2 := own_kept r2 kg (fun k hk e => hgg (by rw [show g = k from e.symm]; simpa [Value.ownBlock] using hk.symm))
  have s3 := r3.kept kg (fun e => hgq e.symm)
  obtain ⟨F', a1, a2, a3⟩ := Vr.put_fill (w := w) (l' := WS.tell l (b + 1) (l.length - (b + 1)) 1) HFF.out s3 (WS.length_tell _ _ _ _) (by simpa [WS.tell] using s1) s2 HOK.out ((kk.mono (fun _ x => x.elim)).trans (kg.mono (fun k e => by rw [HFF.out]; exact .inr (.inl (by rw [show k = g from e]; rfl)))))
  go_end0
  exact ⟨F', rfl, a1.drewN 1, a2.drewN 1, a3⟩

set_option maxHeartbeats 1600000 in
theorem vr_fill2 (q : Nat) (F : Nat → Prop) (l : List UInt8) (hs : List (Nat × Nat)) (b : Nat) (w : World) (h : Vr w F q ⟨l, hs ++ [(2, b + 2)], 0⟩) (hbl : b + 2 ≤ l.length) (hn : l.length - (b + 2) < 65536) :
    Calls Try.prog 26 #[.pointer (some ⟨q, 0, none⟩)] w fun r w' => ∃ F', r = .returned (.tuple #[]) ∧ Vr w' F' q ⟨WS.tell l (b + 2) (l.length - (b + 2)) 2, hs, 0⟩ ∧ Kept F w w' ∧ Sub w F' F := by
  have hmx : l.length ≤ 1099511627776 := h.ok.1
  have hdx : hs.length < 1099511627776 := by have h9 : (hs ++ [(2, b + 2)]).length ≤ 1099511627776 := h.ok.2; rw [List.length_append] at h9; exact h9
  have HOK : Hid (WS.small ⟨WS.tell l (b + 2) (l.length - (b + 2)) 2, hs, 0⟩) := ⟨by rw [WS.length_tell]; exact hmx, Nat.le_of_lt hdx⟩
  obtain ⟨bv, hv, hFF, hb, h1, h2, hok⟩ := h
  simp only at hb h1 h2
  obtain ⟨g, cap, cur, rfl, hg, hg1, hg2, hg3, hg4⟩ := own_open h1 (by omega)
  obtain ⟨g2, c2, rfl, hc1, hc2, glt2, e0, e1⟩ := rcs_last h2
  simp only [Nat.add_sub_cancel] at e0
  obtain ⟨⟨c0, c1, c3⟩, -, f1, -⟩ := v_cells hb
  have eb : w.cell? ⟨g, b, none⟩ = some (by8 (l.getD b 0)) := by
    rw [hg.cell, ← getD_bys l b (by omega), ← hg4, List.getElem?_take_of_lt (by omega), Array.getElem?_toList]
  have fb : w.frozen? ⟨g, b, none⟩ = false := hg.free b
  have eb1 : w.cell? ⟨g, b + 1, none⟩ = some (by8 (l.getD (b + 1) 0)) := by
    rw [hg.cell, ← getD_bys l (b + 1) (by omega), ← hg4, List.getElem?_take_of_lt (by omega), Array.getElem?_toList]
  have fb1 : w.frozen? ⟨g, b + 1, none⟩ = false := hg.free (b + 1)
  have hgq : g ≠ q := hg.apart hb (by decide)
  have hgq' : q ≠ g := hgq.symm
  have hgg : g ≠ g2 := by
    obtain ⟨cs, hh⟩ := own_lt h2 (g := g2) rfl
    exact hg.apart (t' := 86) hh (by decide)
  have hd0 : ((hs.length : Int) + 1 == 0) = false := by simp; omega
  have hd2 : (0 : Int) ≤ hs.length := Int.natCast_nonneg _
  have hlt := hb.lt
  have glt := hg.lt
  have H1 := Lib.hid h1
  have H2 := Lib.hid h2
  have HB := Lib.hid hb
  have HFF := Lib.hid hFF
  have hgt : decide (65535 < l.length - (b + 2)) = false := by simp; omega
  unfold maxLen at hc2 hg2
  clear hg3 hg4 h1 h2 hFF hok hb hg
  go_enter Try.func26, Try.ntmps26
  go_wp2
  go_region
  all_goals go_wp2
  all_goals go_quiet (fail)
  all_goals go_wp2
  all_goals go_region
  all_goals go_wp2
  all_goals go_region
  all_goals go_wp2
  all_goals go_region
  all_goals go_wp2
  have hV0 : (.int .u8 (((l.length : Int) - (b : Int) - 2) % 256) : Value) = by8 (UInt8.ofNat (l.length - (b + 2))) := by8_of (by omega)
  have hV1 : (.int .u8 (((l.length : Int) - (b : Int) - 2) / 256) : Value) = by8 (UInt8.ofNat ((l.length - (b + 2)) / 256)) := by8_of (by omega)
  have kk : Kept Nothing w ((w.alloc (Obj.cells #[.int .i64 (b : Int), .int .i64 2] 86)).drewN (1 + nq + 1)) := ((Kept.refl _ w).alloc _).drewN _
  rw [hV0, hV1]
  have r1 := own_kept H1.out kk (fun _ _ x => x)
  have r2 := own_kept H2.out kk (fun _ _ x => x)
  have r3 := HB.out.kept kk (fun x => x)
  generalize (w.alloc (Obj.cells #[.int .i64 (b : Int), .int .i64 2] 86)).drewN (1 + nq + 1) = w2 at *
  have kg := (Kept.own w2 g b (by8 (UInt8.ofNat ((l.length - (b + 2)) / 256)))).trans (Kept.own _ g (b + 1) (by8 (UInt8.ofNat (l.length - (b + 2)))))
  have s1 := own_set (own_set r1 (j := b) (by omega) (UInt8.ofNat ((l.length - (b + 2)) / 256))) (j := b + 1) (by omega) (UInt8.ofNat (l.length - (b + 2)))
  rw [List.set_comm _ _ (by omega)] at s1
  have s2 := own_kept r2 kg (fun k hk e => hgg (by rw [show g = k from e.symm]; simpa [Value.ownBlock] using hk.symm))
  have s3 := r3.kept kg (fun e => hgq e.symm)
  obtain ⟨F', a1, a2, a3⟩ := Vr.put_fill (w := w) (l' := WS.tell l (b + 2) (l.length - (b + 2)) 2) HFF.out s3 (WS.length_tell _ _ _ _) (by simpa [WS.tell] using s1) s2 HOK.out ((kk.mono (fun _ x => x.elim)).trans (kg.mono (fun k e => by rw [HFF.out]; exact .inr (.inl (by rw [show k = g from e]; rfl)))))
  go_end0
  exact ⟨F', rfl, a1.drewN 2, a2.drewN 2, a3⟩

set_option maxHeartbeats 1600000 in
theorem vr_fill_long (q : Nat) (F : Nat → Prop) (l : List UInt8) (hs : List (Nat × Nat)) (x : Nat × Nat) (w : World) (h : Vr w F q ⟨l, hs ++ [x], 0⟩) (hx : (x.1 = 1 ∨ x.1 = 2) ∧ x.1 ≤ x.2 ∧ x.2 ≤ l.length) (hn : 256 ^ x.1 ≤ l.length - x.2) :
    Calls Try.prog 26 #[.pointer (some ⟨q, 0, none⟩)] w fun r w' => ∃ F', r = .returned (.tuple #[]) ∧ Vr w' F' q ⟨l, hs ++ [x], 3⟩ ∧ Kept F w w' ∧ Sub w F' F := by
  have HV := Lib.hid h
  have hmx : l.length ≤ 1099511627776 := h.ok.1
  have hdx : hs.length < 1099511627776 := by have h9 : (hs ++ [x]).length ≤ 1099511627776 := h.ok.2; rw [List.length_append] at h9; exact h9
  obtain ⟨bv, hv, hFF, hb, h1, h2, hok⟩ := h
  simp only at hb h1 h2
  obtain ⟨A0, cap, rfl, _, _⟩ := own_form h1
  obtain ⟨g2, c2, rfl, hc1, hc2, glt2, e0, e1⟩ := rcs_last h2
  obtain ⟨⟨c0, c1, c3⟩, -, -, f2⟩ := v_cells hb
  obtain ⟨d, b⟩ := x
  obtain ⟨hd, hdb, hbl⟩ := hx
  simp only at hd hdb hbl hn e0 e1
  have hd0 : ((hs.length : Int) + 1 == 0) = false := by simp; omega
  have hd2 : (0 : Int) ≤ hs.length := Int.natCast_nonneg _
  have hlt := hb.lt
  unfold maxLen at hc2
  clear h1 h2 hFF hok hb
  rcases hd with rfl | rfl
  · obtain ⟨b, rfl⟩ : ∃ b', b = b' + 1 := ⟨b - 1, by omega⟩
    simp only [Nat.add_sub_cancel] at e0
    have hgt : (255 : Int) < (l.length : Int) - (b : Int) - 1 := by omega
    clear hn
    go_enter Try.func26, Try.ntmps26
    go_wp2
    go_region
    all_goals go_wp2
    all_goals go_quiet (fail)
    all_goals
      go_wp2
      refine bodyPost_ret (results_none rfl _ _ _) rfl ?_
      have kk := ((Kept.refl Nothing w).alloc (.cells #[.int .i64 (b : Int), .int .i64 1] 86)).drewN (1 + nq)
      have hp := (HV.out.kept kk (fun _ _ x => x)).put2 3
      exact ⟨F, rfl, hp.1, (kk.mono (fun _ x => x.elim)).trans hp.2, Sub.refl _ _⟩
  · obtain ⟨b, rfl⟩ : ∃ b', b = b' + 2 := ⟨b - 2, by omega⟩
    simp only [Nat.add_sub_cancel] at e0
    have hgt : (65535 : Int) < (l.length : Int) - (b : Int) - 2 := by omega
    clear hn
    go_enter Try.func26, Try.ntmps26
    go_wp2
    go_region
    all_goals go_wp2
    all_goals go_quiet (fail)
    all_goals
      go_wp2
      refine bodyPost_ret (results_none rfl _ _ _) rfl ?_
      have kk := ((Kept.refl Nothing w).alloc (.cells #[.int .i64 (b : Int), .int .i64 2] 86)).drewN (1 + nq)
      have hp := (HV.out.kept kk (fun _ _ x => x)).put2 3
      exact ⟨F, rfl, hp.1, (kk.mono (fun _ x => x.elim)).trans hp.2, Sub.refl _ _⟩

theorem vr_fill (q : Nat) (F : Nat → Prop) (s : WS) (w : World) (h : Vr w F q s) (hok : s.ok) :
    Calls Try.prog 26 #[.pointer (some ⟨q, 0, none⟩)] w fun r w' => ∃ F', r = .returned (.tuple #[]) ∧ Vr w' F' q s.fill ∧ Kept F w w' ∧ Sub w F' F := by
  by_cases he : s.e = 0
  · rcases List.eq_nil_or_concat s.hs with h0 | ⟨hs, x, h0⟩
    · have HF : Hid (s.fill = { s with e := 26 }) := by
        show _ = _
        have hl : s.hs.getLast? = none := by rw [h0]; rfl
        unfold WS.fill
        rw [if_pos he, hl]
        exact if_pos he
      rw [HF.out]
      have HV := Lib.hid h
      have hn : (s.e != 0) = false := by simpa using he
      obtain ⟨bv, hv, hFF, hb, h1, h2, _⟩ := h
      obtain ⟨⟨-, c1, c2⟩, -, -, f2⟩ := v_cells hb
      obtain ⟨A1, cc1, rfl, _, _⟩ := own_form h2
      rw [h0] at c1
      simp only [List.length_nil] at c1
      clear HF he h0 hb h1 h2 hok hFF
      go_enter Try.func26, Try.ntmps26
      go_wp2
      refine bodyPost_ret (results_none rfl _ _ _) rfl ?_
      exact ⟨F, rfl, (HV.out.put2 26).1, (HV.out.put2 26).2, Sub.refl _ _⟩
    · obtain ⟨l, hs', e⟩ := s
      obtain rfl : e = 0 := he
      simp only [List.concat_eq_append] at h0
      subst h0
      have hx := hok.1 x (by simp)
      simp only at hx
      by_cases hn : 256 ^ x.1 ≤ l.length - x.2
      · have HF : WS.fill ⟨l, hs ++ [x], 0⟩ = ⟨l, hs ++ [x], 3⟩ := by unfold WS.fill; simp [hn, WS.note]
        rw [HF]
        exact vr_fill_long q F l hs x w h hx hn
      · have HF : WS.fill ⟨l, hs ++ [x], 0⟩ = ⟨WS.tell l x.2 (l.length - x.2) x.1, hs, 0⟩ := by unfold WS.fill; simp [hn]
        rw [HF]
        obtain ⟨d, b⟩ := x
        simp only at hx hn ⊢
        obtain ⟨h1, h2, h3⟩ := hx
        rcases h1 with rfl | rfl
        · obtain ⟨b, rfl⟩ : ∃ b', b = b' + 1 := ⟨b - 1, by omega⟩
          exact vr_fill1 q F l hs b w h h3 (by omega)
        · obtain ⟨b, rfl⟩ : ∃ b', b = b' + 2 := ⟨b - 2, by omega⟩
          exact vr_fill2 q F l hs b w h h3 (by omega)
  · have HF : Hid (s.fill = s) := if_neg he
    rw [HF.out]
    have hn : (s.e != 0) = true := by simpa using he
    have HV := Lib.hid h
    obtain ⟨bv, hv, hFF, hb, _⟩ := h
    obtain ⟨⟨-, -, c2⟩, -⟩ := v_cells hb
    clear HF he hb hFF hok
    go_enter Try.func26, Try.ntmps26
    go_wp2
    refine bodyPost_ret (results_none rfl _ _ _) rfl ?_
    exact ⟨F, rfl, HV.out, Kept.refl _ _, Sub.refl _ _⟩
end Go.Proofs.Ytcncjfjdnmookaa
