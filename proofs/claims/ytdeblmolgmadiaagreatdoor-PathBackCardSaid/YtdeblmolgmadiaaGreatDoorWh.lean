
/-
  What the calls of package scroll's writer do: Hold.
-/
import Derived.Test.YtdeblmolgmadiaaGreatDoorWr
namespace Go.Proofs.YtdeblmolgmadiaaGreatDoor
open Go.RowKit

theorem hold_info : (Tryz.prog.info? 238).map (fun i => (i.zero, i.size, i.bytes)) = some (some (.agg #[.int .i64 0, .int .i64 0]), 2, 16) := by kernel_rfl
theorem make1 : ∀ w : World, (Instr.makeSlice 28 (.int .i64 1) (.int .i64 1)).run Tryz.prog w = .ok (.slice (some ⟨w.heap.size, 0, none⟩) 1 1) (w.alloc (.cells #[.int .u8 0] 5)) := fun _ => by kernel_rfl
theorem make2 : ∀ w : World, (Instr.makeSlice 28 (.int .i64 2) (.int .i64 2)).run Tryz.prog w = .ok (.slice (some ⟨w.heap.size, 0, none⟩) 2 2) (w.alloc (.cells #[.int .u8 0, .int .u8 0] 5)) := fun _ => by kernel_rfl

theorem hcs_append (a b : List (Nat × Nat)) : hcs (a ++ b) = hcs a ++ hcs b := List.flatMap_append

/-- Behind append's store of the holds. -/
theorem Wr.put2 {F : Nat → Prop} {w w1 : World} {p : Nat} {s : WS} {bv hv hv' : Value} {hs : List (Nat × Nat)} (hF : F = wown p bv hv) (hb : Blk w p 165 #[.bool true, bv, hv, .int .i64 s.e])
    (h1 : w.ownsRow 0 5 1 bv s.l.length (bys s.l)) (h2 : w.ownsRow 0 238 2 hv s.hs.length (hcs s.hs)) (hok : WS.ok { s with hs := hs })
    {n : Nat} {xs : List Value} (hn : n = hs.length) (hx : xs = hcs hs) (ho : w1.ownsRow 0 238 2 hv' n xs) (kg : Kept (fun k => hv.ownBlock = some k) w w1) (hat : hv'.ownBlock = hv.ownBlock ∨ ∃ g, hv'.ownBlock = some g ∧ w.heap.size ≤ g) :
    ∃ F', Wr (w1.setCell ⟨p, 2, none⟩ hv') F' p { s with hs := hs } ∧ Kept F w (w1.setCell ⟨p, 2, none⟩ hv') ∧ Sub w F' F := by
  subst hF hn hx
  have nb : ∀ g, hv.ownBlock = some g → g ≠ p := fun g hg => by
    obtain ⟨cs, hh⟩ := own_lt h2 hg
    exact (hb.apart (t' := 238) hh (by decide)).symm
  have hb1 := hb.kept kg (fun e => nb p e rfl)
  have h11 := own_kept h1 kg (fun g hg e => by
    obtain ⟨cs, hh⟩ := own_lt h1 hg
    obtain ⟨cs', hh'⟩ := own_lt h2 e
    rw [hh] at hh'
    injection hh' with hh'
    injection hh' with _ ht
    exact absurd ht (by decide))
  have k1 := Kept.own w1 p 2 hv'
  refine ⟨wown p bv hv', ⟨bv, hv', rfl, hb1.put 2 _, own_kept h11 k1 (fun g hg e => ?_), own_kept ho k1 (fun g hg e => ?_), hok⟩, ?_, ?_⟩
  · obtain ⟨cs, hh⟩ := own_lt h11 hg
    exact hb1.apart (t' := 5) hh (by decide) e.symm
  · obtain ⟨cs, hh⟩ := own_lt ho hg
    exact hb1.apart (t' := 238) hh (by decide) e.symm
  · exact (kg.mono (fun k hk => .inr (.inr hk))).trans (k1.mono (fun k e => .inl e))
  · intro k hk
    rcases hk with hk | hk | hk
    · exact .inl (.inl hk)
    · exact .inl (.inr (.inl hk))
    · rcases hat with h | ⟨g, h, hg⟩
      · rw [h] at hk; exact .inl (.inr (.inr hk))
      · rw [h] at hk
        injection hk with hk
        exact .inr (by omega)
theorem Wr.staysH {w w1 : World} {p : Nat} {hv : Value} {hs : List (Nat × Nat)} {cs : Array Value} (hb : Blk w p 165 cs) (h1 : w.ownsRow 0 238 2 hv hs.length (hcs hs)) (kg : Kept (fun k => hv.ownBlock = some k) w w1) : Blk w1 p 165 cs :=
  hb.kept kg (fun e => by
    obtain ⟨cs', hh⟩ := own_lt h1 e
    exact hb.apart (t' := 238) hh (by decide) rfl)

theorem Bs.made {w : World} {b : Nat} {l : List UInt8} {cs : Array Value} (h : Blk w b 5 cs) (hl : cs.toList = bys l) (hm : l.length ≤ maxLen) : Bs w (.slice (some ⟨b, 0, none⟩) l.length l.length) l :=
  ⟨_, _, rfl, Nat.le_refl _, hm, fun _ => ⟨b, 0, cs, _, rfl, h, fun i hi => by rw [Nat.zero_add, ← getD_bys l i hi, ← hl, Array.getElem?_toList]⟩⟩

theorem cells_src {w : World} {b : Nat} {t : TypeId} {cs : Array Value} (h : Blk w b t cs) {size m : Nat} (hl : cs.size = m * size) (h1 : ∀ u ∈ cs.toList, u.oneCell' = true) : Src w size (some ⟨b, 0, none⟩) m cs.toList := by
  refine ⟨by simpa using hl, (fun h => by cases h), fun a ha j u hu => ?_, h1⟩
  injection ha with ha
  subst ha
  rw [add_none, Nat.zero_add, h.cell j, ← hu, Array.getElem?_toList]
theorem src_new2 (w : World) (t : TypeId) (a b : Value) (ha : a.oneCell' = true) (hb : b.oneCell' = true) : Src (w.alloc (.cells #[a, b] t)).drew 2 (some ⟨w.heap.size, 0, none⟩) 1 [a, b] :=
  cells_src (cs := #[a, b]) (Blk.fresh w t #[a, b]).drew rfl (by intro u hu; simp at hu; rcases hu with rfl | rfl <;> assumption)

theorem Sub.less {S F F' : Nat → Prop} {w w1 : World} (k : Kept S w w1) (h : Sub w1 F' F) : Sub w F' F := fun i hi => (h i hi).imp (fun x => x) (fun x => Nat.le_trans k.size x)

theorem WS.hold_eq {s : WS} (he : s.e = 0) {n : Nat} (hn : n = 1 ∨ n = 2) : s.hold (n : Int) = { s with l := s.l ++ List.replicate n 0, hs := s.hs ++ [(n, s.l.length + n)] } := by
  unfold WS.hold
  rw [if_pos (by omega), if_pos he]
  simp

set_option maxHeartbeats 800000 in
theorem wr_hold1 (p : Nat) (F : Nat → Prop) (s : WS) (w : World) (h : Wr w F p s) (he : s.e = 0) (hl : s.l.length + 2 ≤ 1099511627776) (hd : s.hs.length < 1099511627776) :
    Calls Tryz.prog 143 #[.pointer (some ⟨p, 0, none⟩), .int .i64 1] w fun r w' => ∃ F', r = .returned (.pointer (some ⟨p, 0, none⟩)) ∧ Wr w' F' p (s.hold 1) ∧ Kept F w w' ∧ Sub w F' F := by
  have hE := Lib.hid (wr_err p F s w h)
  have hn : (s.e == 0) = true := by simpa using he
  have HF : Hid (s.hold 1 = { s with l := s.l ++ List.replicate 1 0, hs := s.hs ++ [(1, s.l.length + 1)] }) := WS.hold_eq he (n := 1) (by decide)
  have HOK := Lib.hid (WS.hold_ok h.ok (n := 1) hl hd)
  rw [HF.out] at HOK ⊢
  have hmk := make1
  obtain ⟨i1, hi, hz0, hz1, hz2⟩ := info_parts hold_info
  have k0 := (Kept.refl Nothing w).alloc (.cells #[.int .u8 0] 5)
  have HB0 := Lib.hid (wr_byte p F s _ (List.replicate 1 0) _ (h.kept k0 (fun _ _ x => x)) (Bs.made (Blk.fresh w 5 #[.int .u8 0]) rfl (by decide)).by (by simp; omega))
  have HLE : Hid (s.lay (List.replicate 1 0) = { s with l := s.l ++ List.replicate 1 0 }) := if_pos he
  rw [HLE.out] at HB0
  have HDD : Hid (s.hs.length + 1 ≤ maxLen ∧ (s.hs.length + 1) * 16 ≤ 140737488355328) := ⟨by unfold maxLen; omega, by omega⟩
  clear HF HLE he h
  go_enter Tryz.func143, Tryz.ntmps143
  go_wp2_with fail
  refine hE.out.mono ?_
  rintro e w' ⟨rfl, rfl⟩
  go_wp2_with fail
  refine HB0.out.mono ?_
  rintro e w2 ⟨F2, rfl, hw2, hk2, hs2⟩
  have HK2 := Lib.hid hk2
  have HS2 := Lib.hid hs2
  obtain ⟨bv, hv, hFF, hb, h1, h2, hok⟩ := hw2
  obtain ⟨⟨-, c1, c2, -⟩, -, f2, -⟩ := cells4 hb
  obtain ⟨A0, cc0, rfl, _, _⟩ := own_form h1
  obtain ⟨A1, cc1, rfl, _, _⟩ := own_form h2
  have H1 := Lib.hid h1
  have H2 := Lib.hid h2
  have HB := Lib.hid hb
  have HFF := Lib.hid hFF
  simp only [List.length_append, List.length_replicate] at c1 c2
  have hlt := hb.lt
  clear hk2 hs2 h1 h2 hb hFF hok HB0 hE hmk
  go_wp2
  go_region_law (first | (refine step_app _ (by rfl) _ _ 163 (by rfl) 0 238 i1 _ 2 16 Tryz.underlying163 hi hz0 hz1 hz2 rfl (by decide) (.slice A1 s.hs.length cc1) s.hs.length (hcs s.hs) (by rfl) (own_kept H2.out (((Kept.refl Nothing w2).alloc _).drew) (fun _ _ x => x)) (some ⟨w2.heap.size, 0, none⟩) 1 1 [.int .i64 1, .int .i64 ((s.l.length : Int) + 1)] (by rfl) (src_new2 w2 _ _ _ rfl rfl) HDD.out.1 HDD.out.2 (Nat.zero_le _) ?_; intro v' w3 ho hg hat; (have KG := Lib.hid (Kept.grown (((Kept.refl (fun k => (Value.slice A1 s.hs.length cc1).ownBlock = some k) w2).alloc _).drew) hg (fun k hk _ => hk))); (have HO := Lib.hid ho); (have HA := Lib.hid hat); (obtain ⟨⟨-, -, d2, -⟩, -, g2, -⟩ := cells4 (Wr.staysH HB.out H2.out KG.out)); (obtain ⟨A2, cc2, rfl, _, _⟩ := own_form ho); clear ho hg hat))
  all_goals
    go_wp2
    obtain ⟨F', a1, a2, a3⟩ := Wr.put2 (s := { s with l := s.l ++ List.replicate 1 0 }) (hs := s.hs ++ [(1, s.l.length + 1)]) HFF.out HB.out H1.out H2.out HOK.out List.length_append.symm (by rw [hcs_append]; rfl) HO.out KG.out (HA.out.imp (fun e => e) (fun e => ⟨_, e, by simp⟩))
    go_ret
    exact ⟨F', rfl, a1, Kept.sub (((Kept.refl F w).alloc _).trans HK2.out) (Sub.less k0 HS2.out) a2, Sub.trans (Sub.less k0 HS2.out) a3 (Nat.le_trans k0.size HK2.out.size)⟩

set_option maxHeartbeats 800000 in
theorem wr_hold2 (p : Nat) (F : Nat → Prop) (s : WS) (w : World) (h : Wr w F p s) (he : s.e = 0) (hl : s.l.length + 2 ≤ 1099511627776) (hd : s.hs.length < 1099511627776) :
    Calls Tryz.prog 143 #[.pointer (some ⟨p, 0, none⟩), .int .i64 2] w fun r w' => ∃ F', r = .returned (.pointer (some ⟨p, 0, none⟩)) ∧ Wr w' F' p (s.hold 2) ∧ Kept F w w' ∧ Sub w F' F := by
  have hE := Lib.hid (wr_err p F s w h)
  have hn : (s.e == 0) = true := by simpa using he
  have HF : Hid (s.hold 2 = { s with l := s.l ++ List.replicate 2 0, hs := s.hs ++ [(2, s.l.length + 2)] }) := WS.hold_eq he (n := 2) (by decide)
  have HOK := Lib.hid (WS.hold_ok h.ok (n := 2) hl hd)
  rw [HF.out] at HOK ⊢
  have hmk := make2
  obtain ⟨i1, hi, hz0, hz1, hz2⟩ := info_parts hold_info
  have k0 := (Kept.refl Nothing w).alloc (.cells #[.int .u8 0, .int .u8 0] 5)
  have HB0 := Lib.hid (wr_byte p F s _ (List.replicate 2 0) _ (h.kept k0 (fun _ _ x => x)) (Bs.made (Blk.fresh w 5 #[.int .u8 0, .int .u8 0]) rfl (by decide)).by (by simp; omega))
  have HLE : Hid (s.lay (List.replicate 2 0) = { s with l := s.l ++ List.replicate 2 0 }) := if_pos he
  rw [HLE.out] at HB0
  have HDD : Hid (s.hs.length + 1 ≤ maxLen ∧ (s.hs.length + 1) * 16 ≤ 140737488355328) := ⟨by unfold maxLen; omega, by omega⟩
  clear HF HLE he h
  go_enter Tryz.func143, Tryz.ntmps143
  go_wp2_with fail
  refine hE.out.mono ?_
  rintro e w' ⟨rfl, rfl⟩
  go_wp2_with fail
  refine HB0.out.mono ?_
  rintro e w2 ⟨F2, rfl, hw2, hk2, hs2⟩
  have HK2 := Lib.hid hk2
  have HS2 := Lib.hid hs2
  obtain ⟨bv, hv, hFF, hb, h1, h2, hok⟩ := hw2
  obtain ⟨⟨-, c1, c2, -⟩, -, f2, -⟩ := cells4 hb
  obtain ⟨A0, cc0, rfl, _, _⟩ := own_form h1
  obtain ⟨A1, cc1, rfl, _, _⟩ := own_form h2
  have H1 := Lib.hid h1
  have H2 := Lib.hid h2
  have HB := Lib.hid hb
  have HFF := Lib.hid hFF
  simp only [List.length_append, List.length_replicate] at c1 c2
  have hlt := hb.lt
  clear hk2 hs2 h1 h2 hb hFF hok HB0 hE hmk
  go_wp2
  go_region_law (first | (refine step_app _ (by rfl) _ _ 163 (by rfl) 0 238 i1 _ 2 16 Tryz.underlying163 hi hz0 hz1 hz2 rfl (by decide) (.slice A1 s.hs.length cc1) s.hs.length (hcs s.hs) (by rfl) (own_kept H2.out (((Kept.refl Nothing w2).alloc _).drew) (fun _ _ x => x)) (some ⟨w2.heap.size, 0, none⟩) 1 1 [.int .i64 2, .int .i64 ((s.l.length : Int) + 2)] (by rfl) (src_new2 w2 _ _ _ rfl rfl) HDD.out.1 HDD.out.2 (Nat.zero_le _) ?_; intro v' w3 ho hg hat; (have KG := Lib.hid (Kept.grown (((Kept.refl (fun k => (Value.slice A1 s.hs.length cc1).ownBlock = some k) w2).alloc _).drew) hg (fun k hk _ => hk))); (have HO := Lib.hid ho); (have HA := Lib.hid hat); (obtain ⟨⟨-, -, d2, -⟩, -, g2, -⟩ := cells4 (Wr.staysH HB.out H2.out KG.out)); (obtain ⟨A2, cc2, rfl, _, _⟩ := own_form ho); clear ho hg hat))
  all_goals
    go_wp2
    obtain ⟨F', a1, a2, a3⟩ := Wr.put2 (s := { s with l := s.l ++ List.replicate 2 0 }) (hs := s.hs ++ [(2, s.l.length + 2)]) HFF.out HB.out H1.out H2.out HOK.out List.length_append.symm (by rw [hcs_append]; rfl) HO.out KG.out (HA.out.imp (fun e => e) (fun e => ⟨_, e, by simp⟩))
    go_ret
    exact ⟨F', rfl, a1, Kept.sub (((Kept.refl F w).alloc _).trans HK2.out) (Sub.less k0 HS2.out) a2, Sub.trans (Sub.less k0 HS2.out) a3 (Nat.le_trans k0.size HK2.out.size)⟩

theorem wr_hold (p : Nat) (F : Nat → Prop) (s : WS) (n : Int) (w : World) (h : Wr w F p s) (hl : s.l.length + 2 ≤ 1099511627776) (hd : s.hs.length < 1099511627776) :
    Calls Tryz.prog 143 #[.pointer (some ⟨p, 0, none⟩), .int .i64 n] w fun r w' => ∃ F', r = .returned (.pointer (some ⟨p, 0, none⟩)) ∧ Wr w' F' p (s.hold n) ∧ Kept F w w' ∧ Sub w F' F := by
  by_cases h12 : n = 1 ∨ n = 2
  · by_cases he : s.e = 0
    · rcases h12 with rfl | rfl
      · exact wr_hold1 p F s w h he hl hd
      · exact wr_hold2 p F s w h he hl hd
    · have HF : Hid (s.hold n = s) := by show _ = _; unfold WS.hold; rw [if_pos h12, if_neg he]
      rw [HF.out]
      have hE := Lib.hid (wr_err p F s w h)
      have hn : (s.e == 0) = false := by simpa using he
      have HR := Lib.hid h
      clear HF he h
      rcases h12 with rfl | rfl <;>
      · go_enter Tryz.func143, Tryz.ntmps143
        go_wp2_with fail
        refine hE.out.mono ?_
        rintro e w' ⟨rfl, rfl⟩
        go_wp2
        go_ret
        exact ⟨F, rfl, HR.out, Kept.refl _ _, Sub.refl _ _⟩
  · have HF : Hid (s.hold n = s.note 1) := if_neg h12
    rw [HF.out]
    have HN := Lib.hid (wr_note p F s 1 w h)
    have h1 : (n != 1) = true := by simp only [bne_iff_ne]; omega
    have h2 : (n != 2) = true := by simp only [bne_iff_ne]; omega
    have hn : ((s.note 1).e == 0) = false := by
      unfold WS.note
      split
      · rfl
      · next h => simpa using h
    clear HF h h12
    go_enter Tryz.func143, Tryz.ntmps143
    go_wp2_with fail
    refine HN.out.mono ?_
    rintro e w1 ⟨rfl, hr, hk⟩
    have hE := Lib.hid (wr_err p F _ w1 hr)
    have HR := Lib.hid hr
    have HK := Lib.hid hk
    clear hr hk
    go_wp2_with fail
    refine hE.out.mono ?_
    rintro e w' ⟨rfl, rfl⟩
    go_wp2
    go_ret
    exact ⟨F, rfl, HR.out, HK.out, Sub.refl _ _⟩
end Go.Proofs.YtdeblmolgmadiaaGreatDoor
