
/-
  attrs: attributes of other types, as plain data; is, may, same.
-/
import Derived.Test.YteofbpdogmajoaaGreatDoorZc
import Derived.Deep.LoopGhost
import Derived.Laws.IdiomStrings
import Derived.Laws.BytesString
import Derived.Test.YteofbpdogmajoaaGreatDoorZb
namespace Go.Proofs.YteofbpdogmajoaaGreatDoor
open Go.RowKit

theorem wr_err (p : Nat) (F : Nat → Prop) (s : WS) (w : World) (h : Wr w F p s) :
    Calls Tryz.prog 108 #[.pointer (some ⟨p, 0, none⟩)] w fun r w' => r = .returned (.int .i64 s.e) ∧ w = w' := by
  obtain ⟨bv, hv, _, hb, _⟩ := h
  obtain ⟨⟨h0, -, -, h3⟩, -⟩ := cells4 hb
  clear hb
  go_enter Tryz.func108, Tryz.ntmps108
  go_wp2
  go_ret
  exact ⟨rfl, rfl⟩

theorem wr_note (p : Nat) (F : Nat → Prop) (s : WS) (x : Int) (w : World) (h : Wr w F p s) :
    Calls Tryz.prog 147 #[.pointer (some ⟨p, 0, none⟩), .int .i64 x] w fun r w' => r = .returned (.tuple #[]) ∧ Wr w' F p (s.note x) ∧ Kept F w w' := by
  have hE := Lib.hid (wr_err p F s w h)
  have HR := Lib.hid h
  obtain ⟨bv, hv, _, hb, _⟩ := h
  obtain ⟨⟨-, -, -, h3⟩, -, -, f3⟩ := cells4 hb
  clear hb
  by_cases he : s.e = 0
  · have HF : Hid (s.note x = { s with e := x }) := if_pos he
    have hn : (s.e == 0) = true := by simpa using he
    rw [HF.out]
    clear HF he
    go_enter Tryz.func147, Tryz.ntmps147
    go_wp2_with (go_at_call 108; refine (hE.out).mono ?_; rintro e w' ⟨rfl, rfl⟩)
    go_end0
    exact ⟨rfl, HR.out.put3 x⟩
  · have hn : (s.e == 0) = false := by simpa using he
    have HF : Hid (s.note x = s) := if_neg he
    rw [HF.out]
    clear HF he
    go_enter Tryz.func147, Tryz.ntmps147
    go_wp2_with (go_at_call 108; refine (hE.out).mono ?_; rintro e w' ⟨rfl, rfl⟩)
    go_end0
    exact ⟨rfl, HR.out, Kept.refl _ _⟩

theorem wr_lay (w : World) :
    Calls Tryz.prog 50 #[] w fun r w' => ∃ p F, r = .returned (.pointer (some ⟨p, 0, none⟩)) ∧ Wr w' F p ⟨[], [], 0⟩ ∧ Kept Nothing w w' ∧ Sub w F Nothing := by
  go_enter Tryz.func50, Tryz.ntmps50
  go_wp2
  go_ret
  refine ⟨w.heap.size, _, rfl, ⟨.slice none 0 0, .slice none 0 0, rfl, Blk.fresh w _ _, World.ownsRow_nil _ _ _ _, World.ownsRow_nil _ _ _ _, ⟨(fun _ h => by cases h), Nat.zero_le _, Nat.zero_le _⟩⟩, (Kept.refl _ w).alloc _, fun k hk => ?_⟩
  rcases hk with rfl | hk | hk
  · exact .inr (Nat.le_refl _)
  · simp [Value.ownBlock] at hk
  · simp [Value.ownBlock] at hk

/-- Behind append's store of the bytes. -/
theorem Wr.put1 {F : Nat → Prop} {w w1 : World} {p : Nat} {s : WS} {bv hv bv' : Value} {l : List UInt8} (hF : F = wown p bv hv) (hb : Blk w p 166 #[.bool true, bv, hv, .int .i64 s.e])
    (h1 : w.ownsRow 0 5 1 bv s.l.length (bys s.l)) (h2 : w.ownsRow 0 206 2 hv s.hs.length (hcs s.hs)) (hok : WS.ok { s with l := l })
    {n : Nat} {xs : List Value} (hn : n = l.length) (hx : xs = bys l) (ho : w1.ownsRow 0 5 1 bv' n xs) (hg : w.grownBy w1 bv.ownBlock) (hat : bv'.ownBlock = bv.ownBlock ∨ bv'.ownBlock = some w.heap.size) :
    ∃ F', Wr (w1.setCell ⟨p, 1, none⟩ bv') F' p { s with l := l } ∧ Kept F w (w1.setCell ⟨p, 1, none⟩ bv') ∧ Sub w F' F := by
  subst hF hn hx
  have kg : Kept (fun k => bv.ownBlock = some k) w w1 := (Kept.refl _ w).grown hg (fun k hk _ => hk)
  have nb : ∀ g, bv.ownBlock = some g → g ≠ p := fun g hg => by
    obtain ⟨cs, hh⟩ := own_lt h1 hg
    exact (hb.apart (t' := 5) hh (by decide)).symm
  have hb1 := hb.kept kg (fun e => nb p e rfl)
  have h21 := own_kept h2 kg (fun g hg e => by
    obtain ⟨cs, hh⟩ := own_lt h2 hg
    obtain ⟨cs', hh'⟩ := own_lt h1 e
    rw [hh] at hh'
    injection hh' with hh'
    injection hh' with _ ht
    exact absurd ht (by decide))
  have k1 := Kept.own w1 p 1 bv'
  refine ⟨wown p bv' hv, ⟨bv', hv, rfl, hb1.put 1 _, own_kept ho k1 (fun g hg e => ?_), own_kept h21 k1 (fun g hg e => ?_), hok⟩, ?_, ?_⟩
  · obtain ⟨cs, hh⟩ := own_lt ho hg
    exact hb1.apart (t' := 5) hh (by decide) e.symm
  · obtain ⟨cs, hh⟩ := own_lt h21 hg
    exact hb1.apart (t' := 206) hh (by decide) e.symm
  · exact (kg.mono (fun k hk => .inr (.inl hk))).trans (k1.mono (fun k e => .inl e))
  · intro k hk
    rcases hk with hk | hk | hk
    · exact .inl (.inl hk)
    · rcases hat with h | h
      · rw [h] at hk; exact .inl (.inr (.inl hk))
      · rw [h] at hk
        injection hk with hk
        exact .inr (by omega)
    · exact .inl (.inr (.inr hk))

theorem Wr.stays {w w1 : World} {p : Nat} {bv : Value} {l : List UInt8} {cs : Array Value} (hb : Blk w p 166 cs) (h1 : w.ownsRow 0 5 1 bv l.length (bys l)) (hg : w.grownBy w1 bv.ownBlock) : Blk w1 p 166 cs :=
  hb.kept ((Kept.refl (fun k => bv.ownBlock = some k) w).grown hg (fun k hk _ => hk)) (fun e => by
    obtain ⟨cs', hh⟩ := own_lt h1 e
    exact hb.apart (t' := 5) hh (by decide) rfl)

theorem wr_byte (p : Nat) (F : Nat → Prop) (s : WS) (v : Value) (l : List UInt8) (w : World) (h : Wr w F p s) (hv : By w v l) (hl : s.l.length + l.length ≤ 1099511627776) :
    Calls Tryz.prog 104 #[.pointer (some ⟨p, 0, none⟩), v] w fun r w' => ∃ F', r = .returned (.pointer (some ⟨p, 0, none⟩)) ∧ Wr w' F' p (s.lay l) ∧ Kept F w w' ∧ Sub w F' F := by
  have hE := Lib.hid (wr_err p F s w h)
  have HR := Lib.hid h
  by_cases he : s.e = 0
  · have HOK := Lib.hid (WS.lay_ok h.ok hl)
    have HF : Hid (s.lay l = { s with l := s.l ++ l }) := if_pos he
    have hn : (s.e == 0) = true := by simpa using he
    rw [HF.out] at HOK ⊢
    obtain ⟨bv, hw, hFF, hb, h1, h2, hok⟩ := h
    obtain ⟨⟨-, c1, -, -⟩, f1, -, -⟩ := cells4 hb
    obtain ⟨A, c, rfl, _, _⟩ := hv.form
    obtain ⟨A0, cc0, rfl, _, _⟩ := own_form h1
    have HS := Lib.hid hv.src
    have H1 := Lib.hid h1
    have H2 := Lib.hid h2
    have HB := Lib.hid hb
    have HFF := Lib.hid hFF
    obtain ⟨i0, hi, hz0, hz1, hz2⟩ := info_parts u8_info
    have HL : Hid (s.l.length + l.length ≤ maxLen ∧ (s.l.length + l.length) * 1 ≤ 140737488355328) := ⟨by unfold maxLen; omega, by omega⟩
    clear HF he hv h1 h2 hb hFF hok HR
    go_enter Tryz.func104, Tryz.ntmps104
    go_wp2_with (first
      | (go_at_call 108; refine (hE.out).mono ?_; rintro e w' ⟨rfl, rfl⟩)
      | (at_builtin; refine wpList_app _ rfl _ _ 22 rfl 0 5 i0 (.int .u8 0) 1 1 Tryz.underlying22 hi hz0 hz1 hz2 rfl (by decide) (.slice A0 s.l.length cc0) s.l.length (bys s.l) rfl H1.out A l.length c (bys l) rfl HS.out HL.out.1 HL.out.2 (Nat.zero_le _) ?_; intro v' w1 hown hg hat; (have HO := Lib.hid hown); (have HG := Lib.hid hg); (have HA := Lib.hid hat); (obtain ⟨⟨-, d1, -, -⟩, g1, -, -⟩ := cells4 (Wr.stays HB.out H1.out hg)); (obtain ⟨A2, cc2, rfl, _, _⟩ := own_form hown); clear hown hg hat))
    go_ret
    obtain ⟨F', a1, a2, a3⟩ := Wr.put1 HFF.out HB.out H1.out H2.out HOK.out List.length_append.symm (bys_append _ _).symm HO.out HG.out HA.out
    exact ⟨F', rfl, a1, a2, a3⟩
  · have hn : (s.e == 0) = false := by simpa using he
    have HF : Hid (s.lay l = s) := if_neg he
    rw [HF.out]
    clear HF he hv
    go_enter Tryz.func104, Tryz.ntmps104
    go_wp2_with (go_at_call 108; refine (hE.out).mono ?_; rintro e w' ⟨rfl, rfl⟩)
    go_ret
    exact ⟨F, rfl, HR.out, Kept.refl _ _, Sub.refl _ _⟩
end Go.Proofs.YteofbpdogmajoaaGreatDoor
namespace Go.Proofs.YteofbpdogmajoaaGreatDoor
open Go.RowKit

theorem hold_info : (Tryz.prog.info? 206).map (fun i => (i.zero, i.size, i.bytes)) = some (some (.agg #[.int .i64 0, .int .i64 0]), 2, 16) := by kernel_rfl
theorem make1 : ∀ w : World, (Instr.makeSlice 22 (.int .i64 1) (.int .i64 1)).run Tryz.prog w = .ok (.slice (some ⟨w.heap.size, 0, none⟩) 1 1) (w.alloc (.cells #[.int .u8 0] 5)) := fun _ => by kernel_rfl
theorem make2 : ∀ w : World, (Instr.makeSlice 22 (.int .i64 2) (.int .i64 2)).run Tryz.prog w = .ok (.slice (some ⟨w.heap.size, 0, none⟩) 2 2) (w.alloc (.cells #[.int .u8 0, .int .u8 0] 5)) := fun _ => by kernel_rfl

theorem hcs_append (a b : List (Nat × Nat)) : hcs (a ++ b) = hcs a ++ hcs b := List.flatMap_append

/-- Behind append's store of the holds. -/
theorem Wr.put2 {F : Nat → Prop} {w w1 : World} {p : Nat} {s : WS} {bv hv hv' : Value} {hs : List (Nat × Nat)} (hF : F = wown p bv hv) (hb : Blk w p 166 #[.bool true, bv, hv, .int .i64 s.e])
    (h1 : w.ownsRow 0 5 1 bv s.l.length (bys s.l)) (h2 : w.ownsRow 0 206 2 hv s.hs.length (hcs s.hs)) (hok : WS.ok { s with hs := hs })
    {n : Nat} {xs : List Value} (hn : n = hs.length) (hx : xs = hcs hs) (ho : w1.ownsRow 0 206 2 hv' n xs) (kg : Kept (fun k => hv.ownBlock = some k) w w1) (hat : hv'.ownBlock = hv.ownBlock ∨ ∃ g, hv'.ownBlock = some g ∧ w.heap.size ≤ g) :
    ∃ F', Wr (w1.setCell ⟨p, 2, none⟩ hv') F' p { s with hs := hs } ∧ Kept F w (w1.setCell ⟨p, 2, none⟩ hv') ∧ Sub w F' F := by
  subst hF hn hx
  have nb : ∀ g, hv.ownBlock = some g → g ≠ p := fun g hg => by
    obtain ⟨cs, hh⟩ := own_lt h2 hg
    exact (hb.apart (t' := 206) hh (by decide)).symm
  have hb1 := hb.kept kg (fun e => nb p e rfl)
  have h11 := own_kept h1 kg (fun g hg e => by
    obtain ⟨cs, hh⟩ := own_lt h1 hg
    obtain ⟨cs', hh'⟩ := own_lt h2 e
    rw [hh] at hh'
    injection hh' with hh'
    injection hh' with _ ht
    exact absurd ht (by decide))
  have k1 := Kept.own w1 p 2 hv'
  refine ⟨wown p bv hv', ⟨bv, hv', rfl, hb1.put 2 _, own_kept h11 k1 (fun g hg e => ?_), own_kept ho k1 (fun g hg e => ?_), hok⟩, ?_, ?_⟩
  · obtain ⟨cs, hh⟩ := own_lt h11 hg
    exact hb1.apart (t' := 5) hh (by decide) e.symm
  · obtain ⟨cs, hh⟩ := own_lt ho hg
    exact hb1.apart (t' := 206) hh (by decide) e.symm
  · exact (kg.mono (fun k hk => .inr (.inr hk))).trans (k1.mono (fun k e => .inl e))
  · intro k hk
    rcases hk with hk | hk | hk
    · exact .inl (.inl hk)
    · exact .inl (.inr (.inl hk))
    · rcases hat with h | ⟨g, h, hg⟩
      · rw [h] at hk; exact .inl (.inr (.inr hk))
      · rw [h] at hk
        injection hk with hk
        exact .inr (by omega)
theorem Wr.staysH {w w1 : World} {p : Nat} {hv : Value} {hs : List (Nat × Nat)} {cs : Array Value} (hb : Blk w p 166 cs) (h1 : w.ownsRow 0 206 2 hv hs.length (hcs hs)) (kg : Kept (fun k => hv.ownBlock = some k) w w1) : Blk w1 p 166 cs :=
  hb.kept kg (fun e => by
    obtain ⟨cs', hh⟩ := own_lt h1 e
    exact hb.apart (t' := 206) hh (by decide) rfl)

theorem Bs.made {w : World} {b : Nat} {l : List UInt8} {cs : Array Value} (h : Blk w b 5 cs) (hl : cs.toList = bys l) (hm : l.length ≤ maxLen) : Bs w (.slice (some ⟨b, 0, none⟩) l.length l.length) l :=
  ⟨_, _, rfl, Nat.le_refl _, hm, fun _ => ⟨b, 0, cs, _, rfl, h, fun i hi => by rw [Nat.zero_add, ← getD_bys l i hi, ← hl, Array.getElem?_toList]⟩⟩

theorem cells_src {w : World} {b : Nat} {t : TypeId} {cs : Array Value} (h : Blk w b t cs) {size m : Nat} (hl : cs.size = m * size) (h1 : ∀ u ∈ cs.toList, u.oneCell' = true) : Src w size (some ⟨b, 0, none⟩) m cs.toList := by
  refine ⟨by simpa using hl, (fun h => by cases h), fun a ha j u hu => ?_, h1⟩
  injection ha with ha
  subst ha
  rw [add_none, Nat.zero_add, h.cell j, ← hu, Array.getElem?_toList]
theorem src_new2 (w : World) (t : TypeId) (a b : Value) (ha : a.oneCell' = true) (hb : b.oneCell' = true) : Src (w.alloc (.cells #[a, b] t)).drew 2 (some ⟨w.heap.size, 0, none⟩) 1 [a, b] :=
  cells_src (cs := #[a, b]) (Blk.fresh w t #[a, b]).drew rfl (by intro u hu; simp at hu; rcases hu with rfl | rfl <;> assumption)

theorem Sub.less {S F F' : Nat → Prop} {w w1 : World} (k : Kept S w w1) (h : Sub w1 F' F) : Sub w F' F := fun i hi => (h i hi).imp (fun x => x) (fun x => Nat.le_trans k.size x)

theorem WS.hold_eq {s : WS} (he : s.e = 0) {n : Nat} (hn : n = 1 ∨ n = 2) : s.hold (n : Int) = { s with l := s.l ++ List.replicate n 0, hs := s.hs ++ [(n, s.l.length + n)] } := by
  unfold WS.hold
  rw [if_pos (by omega), if_pos he]
  simp

set_option maxHeartbeats 800000 in
theorem wr_hold1 (p : Nat) (F : Nat → Prop) (s : WS) (w : World) (h : Wr w F p s) (he : s.e = 0) (hl : s.l.length + 2 ≤ 1099511627776) (hd : s.hs.length < 1099511627776) :
    Calls Tryz.prog 106 #[.pointer (some ⟨p, 0, none⟩), .int .i64 1] w fun r w' => ∃ F', r = .returned (.pointer (some ⟨p, 0, none⟩)) ∧ Wr w' F' p (s.hold 1) ∧ Kept F w w' ∧ Sub w F' F := by
  have hE := Lib.hid (wr_err p F s w h)
  have hn : (s.e == 0) = true := by simpa using he
  have HF : Hid (s.hold 1 = { s with l := s.l ++ List.replicate 1 0, hs := s.hs ++ [(1, s.l.length + 1)] }) := WS.hold_eq he (n := 1) (by decide)
  have HOK := Lib.hid (WS.hold_ok h.ok (n := 1) hl hd)
  rw [HF.out] at HOK ⊢
  have hmk := make1
  obtain ⟨i1, hi, hz0, hz1, hz2⟩ := info_parts hold_info
  have k0 := (Kept.refl Nothing w).alloc (.cells #[.int .u8 0] 5)
  have HB0 := Lib.hid (wr_byte p F s _ (List.replicate 1 0) _ (h.kept k0 (fun _ _ x => x)) (Bs.made (Blk.fresh w 5 #[.int .u8 0]) rfl (by decide)).by (by simp; omega))
  have HLE : Hid (s.lay (List.replicate 1 0) = { s with l := s.l ++ List.replicate 1 0 }) := if_pos he
  rw [HLE.out] at HB0
  have HDD : Hid (s.hs.length + 1 ≤ maxLen ∧ (s.hs.length + 1) * 16 ≤ 140737488355328) := ⟨by unfold maxLen; omega, by omega⟩
  clear HF HLE he h
  go_enter Tryz.func106, Tryz.ntmps106
  go_wp2_with fail
  refine hE.out.mono ?_
  rintro e w' ⟨rfl, rfl⟩
  go_wp2_with fail
  refine HB0.out.mono ?_
  rintro e w2 ⟨F2, rfl, hw2, hk2, hs2⟩
  have HK2 := Lib.hid hk2
  have HS2 := Lib.hid hs2
  obtain ⟨bv, hv, hFF, hb, h1, h2, hok⟩ := hw2
  obtain ⟨⟨-, c1, c2, -⟩, -, f2, -⟩ := cells4 hb
  obtain ⟨A0, cc0, rfl, _, _⟩ := own_form h1
  obtain ⟨A1, cc1, rfl, _, _⟩ := own_form h2
  have H1 := Lib.hid h1
  have H2 := Lib.hid h2
  have HB := Lib.hid hb
  have HFF := Lib.hid hFF
  simp only [List.length_append, List.length_replicate] at c1 c2
  have hlt := hb.lt
  clear hk2 hs2 h1 h2 hb hFF hok HB0 hE hmk
  go_wp2
  go_region_law (first | (refine step_app _ (by rfl) _ _ 164 (by rfl) 0 206 i1 _ 2 16 Tryz.underlying164 hi hz0 hz1 hz2 rfl (by decide) (.slice A1 s.hs.length cc1) s.hs.length (hcs s.hs) (by rfl) (own_kept H2.out (((Kept.refl Nothing w2).alloc _).drew) (fun _ _ x => x)) (some ⟨w2.heap.size, 0, none⟩) 1 1 [.int .i64 1, .int .i64 ((s.l.length : Int) + 1)] (by rfl) (src_new2 w2 _ _ _ rfl rfl) HDD.out.1 HDD.out.2 (Nat.zero_le _) ?_; intro v' w3 ho hg hat; (have KG := Lib.hid (Kept.grown (((Kept.refl (fun k => (Value.slice A1 s.hs.length cc1).ownBlock = some k) w2).alloc _).drew) hg (fun k hk _ => hk))); (have HO := Lib.hid ho); (have HA := Lib.hid hat); (obtain ⟨⟨-, -, d2, -⟩, -, g2, -⟩ := cells4 (Wr.staysH HB.out H2.out KG.out)); (obtain ⟨A2, cc2, rfl, _, _⟩ := own_form ho); clear ho hg hat))
  all_goals
    go_wp2
    obtain ⟨F', a1, a2, a3⟩ := Wr.put2 (s := { s with l := s.l ++ List.replicate 1 0 }) (hs := s.hs ++ [(1, s.l.length + 1)]) HFF.out HB.out H1.out H2.out HOK.out List.length_append.symm (by rw [hcs_append]; rfl) HO.out KG.out (HA.out.imp (fun e => e) (fun e => ⟨_, e, by simp⟩))
    go_ret
    exact ⟨F', rfl, a1, Kept.sub (((Kept.refl F w).alloc _).trans HK2.out) (Sub.less k0 HS2.out) a2, Sub.trans (Sub.less k0 HS2.out) a3 (Nat.le_trans k0.size HK2.out.size)⟩

set_option maxHeartbeats 800000 in
theorem wr_hold2 (p : Nat) (F : Nat → Prop) (s : WS) (w : World) (h : Wr w F p s) (he : s.e = 0) (hl : s.l.length + 2 ≤ 1099511627776) (hd : s.hs.length < 1099511627776) :
    Calls Tryz.prog 106 #[.pointer (some ⟨p, 0, none⟩), .int .i64 2] w fun r w' => ∃ F', r = .returned (.pointer (some ⟨p, 0, none⟩)) ∧ Wr w' F' p (s.hold 2) ∧ Kept F w w' ∧ Sub w F' F := by
  have hE := Lib.hid (wr_err p F s w h)
  have hn : (s.e == 0) = true := by simpa using he
  have HF : Hid (s.hold 2 = { s with l := s.l ++ List.replicate 2 0, hs := s.hs ++ [(2, s.l.length + 2)] }) := WS.hold_eq he (n := 2) (by decide)
  have HOK := Lib.hid (WS.hold_ok h.ok (n := 2) hl hd)
  rw [HF.out] at HOK ⊢
  have hmk := make2
  obtain ⟨i1, hi, hz0, hz1, hz2⟩ := info_parts hold_info
  have k0 := (Kept.refl Nothing w).alloc (.cells #[.int .u8 0, .int .u8 0] 5)
  have HB0 := Lib.hid (wr_byte p F s _ (List.replicate 2 0) _ (h.kept k0 (fun _ _ x => x)) (Bs.made (Blk.fresh w 5 #[.int .u8 0, .int .u8 0]) rfl (by decide)).by (by simp; omega))
  have HLE : Hid (s.lay (List.replicate 2 0) = { s with l := s.l ++ List.replicate 2 0 }) := if_pos he
  rw [HLE.out] at HB0
  have HDD : Hid (s.hs.length + 1 ≤ maxLen ∧ (s.hs.length + 1) * 16 ≤ 140737488355328) := ⟨by unfold maxLen; omega, by omega⟩
  clear HF HLE he h
  go_enter Tryz.func106, Tryz.ntmps106
  go_wp2_with fail
  refine hE.out.mono ?_
  rintro e w' ⟨rfl, rfl⟩
  go_wp2_with fail
  refine HB0.out.mono ?_
  rintro e w2 ⟨F2, rfl, hw2, hk2, hs2⟩
  have HK2 := Lib.hid hk2
  have HS2 := Lib.hid hs2
  obtain ⟨bv, hv, hFF, hb, h1, h2, hok⟩ := hw2
  obtain ⟨⟨-, c1, c2, -⟩, -, f2, -⟩ := cells4 hb
  obtain ⟨A0, cc0, rfl, _, _⟩ := own_form h1
  obtain ⟨A1, cc1, rfl, _, _⟩ := own_form h2
  have H1 := Lib.hid h1
  have H2 := Lib.hid h2
  have HB := Lib.hid hb
  have HFF := Lib.hid hFF
  simp only [List.length_append, List.length_replicate] at c1 c2
  have hlt := hb.lt
  clear hk2 hs2 h1 h2 hb hFF hok HB0 hE hmk
  go_wp2
  go_region_law (first | (refine step_app _ (by rfl) _ _ 164 (by rfl) 0 206 i1 _ 2 16 Tryz.underlying164 hi hz0 hz1 hz2 rfl (by decide) (.slice A1 s.hs.length cc1) s.hs.length (hcs s.hs) (by rfl) (own_kept H2.out (((Kept.refl Nothing w2).alloc _).drew) (fun _ _ x => x)) (some ⟨w2.heap.size, 0, none⟩) 1 1 [.int .i64 2, .int .i64 ((s.l.length : Int) + 2)] (by rfl) (src_new2 w2 _ _ _ rfl rfl) HDD.out.1 HDD.out.2 (Nat.zero_le _) ?_; intro v' w3 ho hg hat; (have KG := Lib.hid (Kept.grown (((Kept.refl (fun k => (Value.slice A1 s.hs.length cc1).ownBlock = some k) w2).alloc _).drew) hg (fun k hk _ => hk))); (have HO := Lib.hid ho); (have HA := Lib.hid hat); (obtain ⟨⟨-, -, d2, -⟩, -, g2, -⟩ := cells4 (Wr.staysH HB.out H2.out KG.out)); (obtain ⟨A2, cc2, rfl, _, _⟩ := own_form ho); clear ho hg hat))
  all_goals
    go_wp2
    obtain ⟨F', a1, a2, a3⟩ := Wr.put2 (s := { s with l := s.l ++ List.replicate 2 0 }) (hs := s.hs ++ [(2, s.l.length + 2)]) HFF.out HB.out H1.out H2.out HOK.out List.length_append.symm (by rw [hcs_append]; rfl) HO.out KG.out (HA.out.imp (fun e => e) (fun e => ⟨_, e, by simp⟩))
    go_ret
    exact ⟨F', rfl, a1, Kept.sub (((Kept.refl F w).alloc _).trans HK2.out) (Sub.less k0 HS2.out) a2, Sub.trans (Sub.less k0 HS2.out) a3 (Nat.le_trans k0.size HK2.out.size)⟩

theorem wr_hold (p : Nat) (F : Nat → Prop) (s : WS) (n : Int) (w : World) (h : Wr w F p s) (hl : s.l.length + 2 ≤ 1099511627776) (hd : s.hs.length < 1099511627776) :
    Calls Tryz.prog 106 #[.pointer (some ⟨p, 0, none⟩), .int .i64 n] w fun r w' => ∃ F', r = .returned (.pointer (some ⟨p, 0, none⟩)) ∧ Wr w' F' p (s.hold n) ∧ Kept F w w' ∧ Sub w F' F := by
  by_cases h12 : n = 1 ∨ n = 2
  · by_cases he : s.e = 0
    · rcases h12 with rfl | rfl
      · exact wr_hold1 p F s w h he hl hd
      · exact wr_hold2 p F s w h he hl hd
    · have HF : Hid (s.hold n = s) := by show _ = _; unfold WS.hold; rw [if_pos h12, if_neg he]
      rw [HF.out]
      have hE := Lib.hid (wr_err p F s w h)
      have hn : (s.e == 0) = false := by simpa using he
      have HR := Lib.hid h
      clear HF he h
      rcases h12 with rfl | rfl <;>
      · go_enter Tryz.func106, Tryz.ntmps106
        go_wp2_with fail
        refine hE.out.mono ?_
        rintro e w' ⟨rfl, rfl⟩
        go_wp2
        go_ret
        exact ⟨F, rfl, HR.out, Kept.refl _ _, Sub.refl _ _⟩
  · have HF : Hid (s.hold n = s.note 1) := if_neg h12
    rw [HF.out]
    have HN := Lib.hid (wr_note p F s 1 w h)
    have h1 : (n != 1) = true := by simp only [bne_iff_ne]; omega
    have h2 : (n != 2) = true := by simp only [bne_iff_ne]; omega
    have hn : ((s.note 1).e == 0) = false := by
      unfold WS.note
      split
      · rfl
      · next h => simpa using h
    clear HF h h12
    go_enter Tryz.func106, Tryz.ntmps106
    go_wp2_with fail
    refine HN.out.mono ?_
    rintro e w1 ⟨rfl, hr, hk⟩
    have hE := Lib.hid (wr_err p F _ w1 hr)
    have HR := Lib.hid hr
    have HK := Lib.hid hk
    clear hr hk
    go_wp2_with fail
    refine hE.out.mono ?_
    rintro e w' ⟨rfl, rfl⟩
    go_wp2
    go_ret
    exact ⟨F, rfl, HR.out, HK.out, Sub.refl _ _⟩
end Go.Proofs.YteofbpdogmajoaaGreatDoor
namespace Go.Proofs.YteofbpdogmajoaaGreatDoor
open Go.RowKit

theorem own_open {w : World} {base e size : Nat} {v : Value} {n : Nat} {xs : List Value} (h : w.ownsRow base e size v n xs) (h0 : 0 < n) :
    ∃ g cap cur, v = .slice (some ⟨g, 0, none⟩) n cap ∧ Blk w g e cur ∧ n ≤ cap ∧ cap ≤ maxLen ∧ cur.size = cap * size ∧ cur.toList.take (n * size) = xs := by
  rcases h.2 with ⟨rfl, h2⟩ | ⟨g, cap, cur, rfl, _, hh, hn, hm, hs, ht⟩
  · omega
  · exact ⟨g, cap, cur, rfl, hh, hn, hm, hs, ht⟩
theorem own_set {w : World} {e : TypeId} {g n c : Nat} {l : List UInt8} (h : w.ownsRow 0 e 1 (.slice (some ⟨g, 0, none⟩) n c) n (bys l)) {j : Nat} (hj : j < n) (b : UInt8) :
    (w.setCell ⟨g, j, none⟩ (by8 b)).ownsRow 0 e 1 (.slice (some ⟨g, 0, none⟩) n c) n (bys (l.set j b)) := by
  obtain ⟨g', cap, cur, hv, hb, hn, hm, hs, ht⟩ := own_open h (by omega)
  injection hv with h1 h2 h3
  injection h1 with h1
  injection h1 with h1
  subst h1 h3
  have hlen := h.1
  rw [length_bys] at hlen
  refine ⟨by rw [length_bys, List.length_set]; exact hlen, .inr ⟨g, c, _, rfl, Nat.zero_le _, hb.put j _, hn, hm, by simpa using hs, ?_⟩⟩
  unfold bys at ht ⊢
  rw [List.map_set, ← ht, Array.toList_setIfInBounds, List.take_set]

theorem by8_of {x : Int} {m : Nat} (h : x = ((m % 256 : Nat) : Int)) : (.int .u8 x : Value) = by8 (UInt8.ofNat m) := by
  unfold by8
  rw [h, UInt8.toNat_ofNat']

theorem own_shrink {w : World} {base e size g n c : Nat} {xs : List Value} (h : w.ownsRow base e size (.slice (some ⟨g, 0, none⟩) n c) n xs) {m : Nat} (hm : m ≤ n) :
    w.ownsRow base e size (.slice (some ⟨g, 0, none⟩) m c) m (xs.take (m * size)) := by
  rcases h.2 with ⟨h1, _⟩ | ⟨g', cap, cur, hv, hb, hh, hn, hx, hs, ht⟩
  · cases h1
  · injection hv with h1 h2 h3
    injection h1 with h1
    injection h1 with h1
    subst h1 h3
    have hle : m * size ≤ n * size := Nat.mul_le_mul_right _ hm
    refine ⟨by rw [List.length_take, h.1]; omega, .inr ⟨g, c, cur, rfl, hb, hh, by omega, hx, hs, ?_⟩⟩
    rw [← ht, List.take_take, Nat.min_eq_left hle]

/-- Behind Fill's stores. -/
theorem Wr.put_fill {F : Nat → Prop} {w W : World} {p g c q c2 : Nat} {l l' : List UInt8} {hs : List (Nat × Nat)} {x : Nat × Nat} (hF : F = wown p (.slice (some ⟨g, 0, none⟩) l.length c) (.slice (some ⟨q, 0, none⟩) (hs ++ [x]).length c2))
    (hb : Blk W p 166 #[.bool true, .slice (some ⟨g, 0, none⟩) l.length c, .slice (some ⟨q, 0, none⟩) (hs ++ [x]).length c2, .int .i64 0])
    (hl : l'.length = l.length) (h1 : W.ownsRow 0 5 1 (.slice (some ⟨g, 0, none⟩) l.length c) l.length (bys l'))
    (h2 : W.ownsRow 0 206 2 (.slice (some ⟨q, 0, none⟩) (hs ++ [x]).length c2) (hs ++ [x]).length (hcs (hs ++ [x]))) (hok : WS.ok ⟨l', hs, 0⟩) (hk : Kept F w W) :
    ∃ F', Wr (W.setCell ⟨p, 2, none⟩ (.slice (some ⟨q, 0, none⟩) hs.length c2)) F' p ⟨l', hs, 0⟩ ∧ Kept F w (W.setCell ⟨p, 2, none⟩ (.slice (some ⟨q, 0, none⟩) hs.length c2)) ∧ Sub w F' F := by
  rw [← hl] at hF hb h1
  have h3 := own_shrink h2 (m := hs.length) (by simp)
  rw [hcs_append, ← length_hcs, List.take_left] at h3
  obtain ⟨F', a1, a2, a3⟩ := Wr.put2 (s := ⟨l', hs ++ [x], 0⟩) (hs := hs) hF hb h1 h2 hok rfl rfl h3 (Kept.refl _ W) (.inl rfl)
  exact ⟨F', a1, hk.sub (Sub.refl _ _) a2, fun k hk2 => (a3 k hk2).imp (fun x => x) (fun x => Nat.le_trans hk.size x)⟩

set_option maxHeartbeats 800000 in
theorem wr_fill1 (p : Nat) (F : Nat → Prop) (l : List UInt8) (hs : List (Nat × Nat)) (b : Nat) (w : World) (h : Wr w F p ⟨l, hs ++ [(1, b + 1)], 0⟩) (hn : l.length - (b + 1) < 256) :
    Calls Tryz.prog 107 #[.pointer (some ⟨p, 0, none⟩)] w fun r w' => ∃ F', r = .returned (.pointer (some ⟨p, 0, none⟩)) ∧ Wr w' F' p ⟨WS.tell l (b + 1) (l.length - (b + 1)) 1, hs, 0⟩ ∧ Kept F w w' ∧ Sub w F' F := by
  have hE := Lib.hid (wr_err p F _ w h)
  have HR := Lib.hid h
  obtain ⟨hh1, hh2, hh3⟩ := h.ok.1 (1, b + 1) (by simp)
  simp only at hh1 hh2 hh3
  have hmx : l.length ≤ 1099511627776 := h.ok.2.1
  have hdx : hs.length < 1099511627776 := by have h9 : (hs ++ [(1, b + 1)]).length ≤ 1099511627776 := h.ok.2.2; rw [List.length_append] at h9; exact h9
  obtain ⟨bv, hv, hFF, hb, h1, h2, hok⟩ := h
  simp only at hb h1 h2
  obtain ⟨g, cap, cur, rfl, hg, hg1, hg2, hg3, hg4⟩ := own_open h1 (by omega)
  obtain ⟨q, cap2, cur2, rfl, hq, hq1, hq2, hq3, hq4⟩ := own_open h2 (by simp)
  obtain ⟨⟨-, c1, c2, -⟩, -, f2, -⟩ := cells4 hb
  have e0 : w.cell? ⟨q, hs.length * 2, none⟩ = some (.int .i64 1) := by
    rw [hq.cell, ← Array.getElem?_toList, ← List.getElem?_take_of_lt (j := (hs ++ [(1, b + 1)]).length * 2) (by simp), hq4, hcs_append, List.getElem?_append_right (by rw [length_hcs]; omega)]
    rw [length_hcs, Nat.sub_self]; rfl
  have e1 : w.cell? ⟨q, hs.length * 2 + 1, none⟩ = some (.int .i64 ((b : Int) + 1)) := by
    rw [hq.cell, ← Array.getElem?_toList, ← List.getElem?_take_of_lt (j := (hs ++ [(1, b + 1)]).length * 2) (by simp; omega), hq4, hcs_append, List.getElem?_append_right (by rw [length_hcs]; omega)]
    rw [length_hcs, Nat.add_sub_cancel_left]; rfl
  simp only [List.length_append, List.length_cons, List.length_nil, Nat.zero_add] at c2 hq1
  have eb : w.cell? ⟨g, b, none⟩ = some (by8 (l.getD b 0)) := by
    rw [hg.cell, ← getD_bys l b (by omega), ← hg4, List.getElem?_take_of_lt (by omega), Array.getElem?_toList]
  have fb : w.frozen? ⟨g, b, none⟩ = false := hg.free b
  have hgp : g ≠ p := hg.apart hb (by decide)
  have hgp' : p ≠ g := hgp.symm
  have hgq : g ≠ q := hg.apart hq (by decide)
  have HOK : Hid (WS.ok ⟨WS.tell l (b + 1) (l.length - (b + 1)) 1, hs, 0⟩) := by
    refine ⟨fun x hx => ?_, by rw [WS.length_tell]; exact hmx, Nat.le_of_lt hdx⟩
    rw [WS.length_tell]
    exact hok.1 x (List.mem_append_left _ hx)
  have hd0 : (0 : Int) ≤ hs.length := Int.natCast_nonneg _
  have hd1 : decide ((hs.length : Int) < 0) = false := by simp
  have hlt := hb.lt
  have glt := hg.lt
  have qlt := hq.lt
  have H1 := Lib.hid h1
  have H2 := Lib.hid h2
  have HB := Lib.hid hb
  have HFF := Lib.hid hFF
  clear hq3 hq4 hg3 hg4 h1 h2 hFF hok hh1
  go_enter Tryz.func107, Tryz.ntmps107
  go_wp2_with fail
  refine hE.out.mono ?_
  rintro e w' ⟨rfl, rfl⟩
  go_wp2
  go_quiet (fail)
  go_wp2
  refine wp_loop_rounds 2 ?_
  rw [rounds_succ]
  go_wp2
  go_region
  all_goals go_wp2
  rw [rounds_succ]
  go_wp2
  have hV : (.int .u8 ((l.length : Int) - ((b : Int) + 1)) : Value) = by8 (UInt8.ofNat (l.length - (b + 1))) := by8_of (by omega)
  have kk : Kept Nothing w ((w.alloc (Obj.cells #[.int .i64 1, .int .i64 ((b : Int) + 1)] 206)).drewN (nq + 1)) := ((Kept.refl _ w).alloc _).drewN _
  have kg := Kept.own ((w.alloc (Obj.cells #[.int .i64 1, .int .i64 ((b : Int) + 1)] 206)).drewN (nq + 1)) g b (by8 (UInt8.ofNat (l.length - (b + 1))))
  rw [hV]
  have r1 := own_set (own_kept H1.out kk (fun _ _ x => x)) (j := b) (by omega) (UInt8.ofNat (l.length - (b + 1)))
  have r2 := own_kept (own_kept H2.out kk (fun _ _ x => x)) kg (fun k hk e => hgq (by rw [show g = k from e.symm]; simpa [Value.ownBlock] using hk.symm))
  have r3 := (HB.out.kept kk (fun x => x)).kept kg (fun e => hgp e.symm)
  obtain ⟨F', a1, a2, a3⟩ := Wr.put_fill (w := w) (l' := WS.tell l (b + 1) (l.length - (b + 1)) 1) HFF.out r3 (WS.length_tell _ _ _ _) (by simpa [WS.tell] using r1) r2 HOK.out ((kk.mono (fun _ x => x.elim)).trans (kg.mono (fun k e => by rw [HFF.out]; exact .inr (.inl (by rw [show k = g from e]; rfl)))))
  go_ret
  exact ⟨F', rfl, a1, a2, a3⟩

set_option maxHeartbeats 800000 in
theorem wr_fill2 (p : Nat) (F : Nat → Prop) (l : List UInt8) (hs : List (Nat × Nat)) (b : Nat) (w : World) (h : Wr w F p ⟨l, hs ++ [(2, b + 2)], 0⟩) (hn : l.length - (b + 2) < 65536) :
    Calls Tryz.prog 107 #[.pointer (some ⟨p, 0, none⟩)] w fun r w' => ∃ F', r = .returned (.pointer (some ⟨p, 0, none⟩)) ∧ Wr w' F' p ⟨WS.tell l (b + 2) (l.length - (b + 2)) 2, hs, 0⟩ ∧ Kept F w w' ∧ Sub w F' F := by
  have hE := Lib.hid (wr_err p F _ w h)
  have HR := Lib.hid h
  obtain ⟨hh1, hh2, hh3⟩ := h.ok.1 (2, b + 2) (by simp)
  simp only at hh1 hh2 hh3
  have hmx : l.length ≤ 1099511627776 := h.ok.2.1
  have hdx : hs.length < 1099511627776 := by have h9 : (hs ++ [(2, b + 2)]).length ≤ 1099511627776 := h.ok.2.2; rw [List.length_append] at h9; exact h9
  obtain ⟨bv, hv, hFF, hb, h1, h2, hok⟩ := h
  simp only at hb h1 h2
  obtain ⟨g, cap, cur, rfl, hg, hg1, hg2, hg3, hg4⟩ := own_open h1 (by omega)
  obtain ⟨q, cap2, cur2, rfl, hq, hq1, hq2, hq3, hq4⟩ := own_open h2 (by simp)
  obtain ⟨⟨-, c1, c2, -⟩, -, f2, -⟩ := cells4 hb
  have e0 : w.cell? ⟨q, hs.length * 2, none⟩ = some (.int .i64 2) := by
    rw [hq.cell, ← Array.getElem?_toList, ← List.getElem?_take_of_lt (j := (hs ++ [(2, b + 2)]).length * 2) (by simp), hq4, hcs_append, List.getElem?_append_right (by rw [length_hcs]; omega)]
    rw [length_hcs, Nat.sub_self]; rfl
  have e1 : w.cell? ⟨q, hs.length * 2 + 1, none⟩ = some (.int .i64 ((b : Int) + 2)) := by
    rw [hq.cell, ← Array.getElem?_toList, ← List.getElem?_take_of_lt (j := (hs ++ [(2, b + 2)]).length * 2) (by simp; omega), hq4, hcs_append, List.getElem?_append_right (by rw [length_hcs]; omega)]
    rw [length_hcs, Nat.add_sub_cancel_left]; rfl
  simp only [List.length_append, List.length_cons, List.length_nil, Nat.zero_add] at c2 hq1
  have eb : w.cell? ⟨g, b, none⟩ = some (by8 (l.getD b 0)) := by
    rw [hg.cell, ← getD_bys l b (by omega), ← hg4, List.getElem?_take_of_lt (by omega), Array.getElem?_toList]
  have fb : w.frozen? ⟨g, b, none⟩ = false := hg.free b
  have eb1 : w.cell? ⟨g, b + 1, none⟩ = some (by8 (l.getD (b + 1) 0)) := by
    rw [hg.cell, ← getD_bys l (b + 1) (by omega), ← hg4, List.getElem?_take_of_lt (by omega), Array.getElem?_toList]
  have fb1 : w.frozen? ⟨g, b + 1, none⟩ = false := hg.free (b + 1)
  have hgp : g ≠ p := hg.apart hb (by decide)
  have hgp' : p ≠ g := hgp.symm
  have hgq : g ≠ q := hg.apart hq (by decide)
  have HOK : Hid (WS.ok ⟨WS.tell l (b + 2) (l.length - (b + 2)) 2, hs, 0⟩) := by
    refine ⟨fun x hx => ?_, by rw [WS.length_tell]; exact hmx, Nat.le_of_lt hdx⟩
    rw [WS.length_tell]
    exact hok.1 x (List.mem_append_left _ hx)
  have hd0 : (0 : Int) ≤ hs.length := Int.natCast_nonneg _
  have hd1 : decide ((hs.length : Int) < 0) = false := by simp
  have hlt := hb.lt
  have glt := hg.lt
  have qlt := hq.lt
  have H1 := Lib.hid h1
  have H2 := Lib.hid h2
  have HB := Lib.hid hb
  have HFF := Lib.hid hFF
  clear hq3 hq4 hg3 hg4 h1 h2 hFF hok hh1
  go_enter Tryz.func107, Tryz.ntmps107
  go_wp2_with fail
  refine hE.out.mono ?_
  rintro e w' ⟨rfl, rfl⟩
  go_wp2
  go_quiet (fail)
  go_wp2
  refine wp_loop_rounds 3 ?_
  rw [rounds_succ]
  go_wp2
  go_region
  all_goals go_wp2
  rw [rounds_succ]
  go_wp2
  go_region
  all_goals go_wp2
  rw [rounds_succ]
  go_wp2
  have hV0 : (.int .u8 (((l.length : Int) - ((b : Int) + 2)) % 256) : Value) = by8 (UInt8.ofNat (l.length - (b + 2))) := by8_of (by omega)
  have hV1 : (.int .u8 (((l.length : Int) - ((b : Int) + 2)) / 256) : Value) = by8 (UInt8.ofNat ((l.length - (b + 2)) / 256)) := by8_of (by omega)
  have kk : Kept Nothing w ((w.alloc (Obj.cells #[.int .i64 2, .int .i64 ((b : Int) + 2)] 206)).drewN (nq + 1)) := ((Kept.refl _ w).alloc _).drewN _
  rw [hV0, hV1]
  have r1 := own_kept H1.out kk (fun _ _ x => x)
  have r2 := own_kept H2.out kk (fun _ _ x => x)
  have r3 := HB.out.kept kk (fun x => x)
  generalize (w.alloc (Obj.cells #[.int .i64 2, .int .i64 ((b : Int) + 2)] 206)).drewN (nq + 1) = w2 at *
  have kg := (Kept.own w2 g (b + 1) (by8 (UInt8.ofNat (l.length - (b + 2))))).trans (Kept.own _ g b (by8 (UInt8.ofNat ((l.length - (b + 2)) / 256))))
  have s1 := own_set (own_set r1 (j := b + 1) (by omega) (UInt8.ofNat (l.length - (b + 2)))) (j := b) (by omega) (UInt8.ofNat ((l.length - (b + 2)) / 256))
  have s2 := own_kept r2 kg (fun k hk e => hgq (by rw [show g = k from e.symm]; simpa [Value.ownBlock] using hk.symm))
  have s3 := r3.kept kg (fun e => hgp e.symm)
  obtain ⟨F', a1, a2, a3⟩ := Wr.put_fill (w := w) (l' := WS.tell l (b + 2) (l.length - (b + 2)) 2) HFF.out s3 (WS.length_tell _ _ _ _) (by simpa [WS.tell] using s1) s2 HOK.out ((kk.mono (fun _ x => x.elim)).trans (kg.mono (fun k e => by rw [HFF.out]; exact .inr (.inl (by rw [show k = g from e]; rfl)))))
  go_ret
  exact ⟨F', rfl, a1.drewN 1, a2.drewN 1, a3⟩

theorem wr_fill_long (p : Nat) (F : Nat → Prop) (l : List UInt8) (hs : List (Nat × Nat)) (x : Nat × Nat) (w : World) (h : Wr w F p ⟨l, hs ++ [x], 0⟩) (hn : 256 ^ x.1 ≤ l.length - x.2) :
    Calls Tryz.prog 107 #[.pointer (some ⟨p, 0, none⟩)] w fun r w' => ∃ F', r = .returned (.pointer (some ⟨p, 0, none⟩)) ∧ Wr w' F' p ⟨l, hs ++ [x], 3⟩ ∧ Kept F w w' ∧ Sub w F' F := by
  have hE := Lib.hid (wr_err p F _ w h)
  have HR := Lib.hid h
  obtain ⟨hh1, hh2, hh3⟩ := h.ok.1 x (by simp)
  have hmx : l.length ≤ 1099511627776 := h.ok.2.1
  have hdx : hs.length < 1099511627776 := by have h9 : (hs ++ [x]).length ≤ 1099511627776 := h.ok.2.2; rw [List.length_append] at h9; exact h9
  obtain ⟨bv, hv, hFF, hb, h1, h2, hok⟩ := h
  simp only at hb h1 h2 hh3
  obtain ⟨d, b⟩ := x
  simp only at hn hh1 hh2 hh3
  obtain ⟨A0, cap, rfl, hg1, hg2⟩ := own_form h1
  obtain ⟨q, cap2, cur2, rfl, hq, hq1, hq2, hq3, hq4⟩ := own_open h2 (by simp)
  obtain ⟨⟨-, c1, c2, -⟩, -, f2, -⟩ := cells4 hb
  have e0 : w.cell? ⟨q, hs.length * 2, none⟩ = some (.int .i64 (d : Int)) := by
    rw [hq.cell, ← Array.getElem?_toList, ← List.getElem?_take_of_lt (j := (hs ++ [(d, b)]).length * 2) (by simp), hq4, hcs_append, List.getElem?_append_right (by rw [length_hcs]; omega)]
    rw [length_hcs, Nat.sub_self]; rfl
  have e1 : w.cell? ⟨q, hs.length * 2 + 1, none⟩ = some (.int .i64 (b : Int)) := by
    rw [hq.cell, ← Array.getElem?_toList, ← List.getElem?_take_of_lt (j := (hs ++ [(d, b)]).length * 2) (by simp; omega), hq4, hcs_append, List.getElem?_append_right (by rw [length_hcs]; omega)]
    rw [length_hcs, Nat.add_sub_cancel_left]; rfl
  simp only [List.length_append, List.length_cons, List.length_nil, Nat.zero_add] at c2 hq1
  have hd0 : (0 : Int) ≤ hs.length := Int.natCast_nonneg _
  have hd1 : decide ((hs.length : Int) < 0) = false := by simp
  have hlt := hb.lt
  have qlt := hq.lt
  clear hq3 hq4 h1 h2 hFF hok hb hq
  rcases hh1 with rfl | rfl
  all_goals
    go_enter Tryz.func107, Tryz.ntmps107
    go_wp2_with fail
    refine hE.out.mono ?_
    rintro e w' ⟨rfl, rfl⟩
    go_wp2
    go_quiet (fail)
    have hgt : (0 : Int) < ((l.length : Int) - (b : Int)) / 256 := by omega
    first
      | have hgt2 : (0 : Int) < ((l.length : Int) - (b : Int)) / 65536 := by omega
      | skip
    go_wp2_with fail
    have kk := fun (o : Obj) => ((Kept.refl Nothing w).alloc o).drewN nq
    refine (wr_note p F _ 3 _ (by exact HR.out.kept (kk _) (fun _ _ x => x))).mono ?_
    rintro e w2 ⟨rfl, hr, hk⟩
    have HR2 := Lib.hid hr
    clear hr
    go_wp2
    go_ret
    exact ⟨F, rfl, HR2.out, ((kk _).mono (fun _ x => x.elim)).trans hk, Sub.refl _ _⟩

theorem wr_fill (p : Nat) (F : Nat → Prop) (s : WS) (w : World) (h : Wr w F p s) :
    Calls Tryz.prog 107 #[.pointer (some ⟨p, 0, none⟩)] w fun r w' => ∃ F', r = .returned (.pointer (some ⟨p, 0, none⟩)) ∧ Wr w' F' p s.fill ∧ Kept F w w' ∧ Sub w F' F := by
  by_cases he : s.e = 0
  · rcases List.eq_nil_or_concat s.hs with h0 | ⟨hs, x, h0⟩
    · have HF : Hid (s.fill = s.note 26) := by show _ = _; unfold WS.fill; rw [if_pos he, h0]; rfl
      rw [HF.out]
      have hE := Lib.hid (wr_err p F s w h)
      have HN := Lib.hid (wr_note p F s 26 w h)
      have hn : (s.e != 0) = false := by simpa using he
      obtain ⟨bv, hv, hFF, hb, h1, h2, hok⟩ := h
      obtain ⟨⟨-, -, c2, -⟩, -⟩ := cells4 hb
      obtain ⟨A1, cc1, rfl, _, _⟩ := own_form h2
      rw [h0] at c2
      simp only [List.length_nil] at c2
      clear HF he h0 hb h1 h2 hok hFF
      go_enter Tryz.func107, Tryz.ntmps107
      go_wp2_with fail
      refine hE.out.mono ?_
      rintro e w' ⟨rfl, rfl⟩
      go_wp2_with fail
      refine HN.out.mono ?_
      rintro e w1 ⟨rfl, hr, hk⟩
      have HR := Lib.hid hr
      clear hr
      go_wp2
      go_ret
      exact ⟨F, rfl, HR.out, hk, Sub.refl _ _⟩
    · obtain ⟨l, hs', e⟩ := s
      obtain rfl : e = 0 := he
      simp only [List.concat_eq_append] at h0
      subst h0
      have hx := h.ok.1 x (by simp)
      simp only at hx
      by_cases hn : 256 ^ x.1 ≤ l.length - x.2
      · have HF : WS.fill ⟨l, hs ++ [x], 0⟩ = ⟨l, hs ++ [x], 3⟩ := by unfold WS.fill; simp [hn, WS.note]
        rw [HF]
        exact wr_fill_long p F l hs x w h hn
      · have HF : WS.fill ⟨l, hs ++ [x], 0⟩ = ⟨WS.tell l x.2 (l.length - x.2) x.1, hs, 0⟩ := by unfold WS.fill; simp [hn]
        rw [HF]
        obtain ⟨d, b⟩ := x
        simp only at hx hn ⊢
        obtain ⟨h1, h2, h3⟩ := hx
        rcases h1 with rfl | rfl
        · obtain ⟨b, rfl⟩ : ∃ b', b = b' + 1 := ⟨b - 1, by omega⟩
          exact wr_fill1 p F l hs b w h (by omega)
        · obtain ⟨b, rfl⟩ : ∃ b', b = b' + 2 := ⟨b - 2, by omega⟩
          exact wr_fill2 p F l hs b w h (by omega)
  · have HF : Hid (s.fill = s) := if_neg he
    rw [HF.out]
    have hE := Lib.hid (wr_err p F s w h)
    have hn : (s.e != 0) = true := by simpa using he
    have HR := Lib.hid h
    clear HF he h
    go_enter Tryz.func107, Tryz.ntmps107
    go_wp2_with fail
    refine hE.out.mono ?_
    rintro e w' ⟨rfl, rfl⟩
    go_wp2
    go_ret
    exact ⟨F, rfl, HR.out, Kept.refl _ _, Sub.refl _ _⟩
end Go.Proofs.YteofbpdogmajoaaGreatDoor
namespace Go.Proofs.YteofbpdogmajoaaGreatDoor
open Go.RowKit

theorem wr_done (p : Nat) (F : Nat → Prop) (s : WS) (w : World) (h : Wr w F p s) :
    Calls Tryz.prog 52 #[.pointer (some ⟨p, 0, none⟩)] w fun r w' => ∃ v, r = .returned (.tuple #[v, .int .i64 s.done.2]) ∧ Bs w' v s.done.1 ∧ Kept Nothing w w' := by
  have hE := Lib.hid (wr_err p F s w h)
  by_cases he : s.e = 0
  · have hn : (s.e != 0) = false := by simpa using he
    have hmx := h.ok.2.1
    obtain ⟨bv, hv, _, hb, h1, h2, hok⟩ := h
    obtain ⟨⟨-, c1, c2, -⟩, -⟩ := cells4 hb
    obtain ⟨A0, cc0, rfl, _, _⟩ := own_form h1
    obtain ⟨A1, cc1, rfl, _, _⟩ := own_form h2
    by_cases h0 : s.hs = []
    · have HF : Hid (s.done = (s.l, 0)) := by show _ = _; unfold WS.done; rw [if_pos he, if_pos h0]
      rw [HF.out]
      have HC := Lib.hid (sl_clone _ s.l w (Bs.of_own h1).by hmx)
      rw [h0] at c2
      simp only [List.length_nil] at c2
      clear HF he h0 hb h1 h2 hok
      go_enter Tryz.func52, Tryz.ntmps52
      go_wp2_with fail
      refine hE.out.mono ?_
      rintro e w' ⟨rfl, rfl⟩
      go_wp2_with fail
      refine HC.out.mono ?_
      rintro e w1 ⟨v, rfl, ho, hk⟩
      have HO := Lib.hid ho
      clear ho
      go_wp2
      go_ret2
      exact ⟨v, rfl, Bs.of_own HO.out, hk⟩
    · have HF : Hid (s.done = ([], 26)) := by show _ = _; unfold WS.done; rw [if_pos he, if_neg h0]
      rw [HF.out]
      have hl : 0 < s.hs.length := List.length_pos_iff.2 h0
      have hlI : (0 : Int) < s.hs.length := by omega
      clear HF he h0 hb h1 h2 hok
      go_enter Tryz.func52, Tryz.ntmps52
      go_wp2_with fail
      refine hE.out.mono ?_
      rintro e w' ⟨rfl, rfl⟩
      go_wp2
      go_ret2
      exact ⟨_, rfl, Bs.nil _, Kept.refl _ _⟩
  · have HF : Hid (s.done = ([], s.e)) := if_neg he
    rw [HF.out]
    have hn : (s.e != 0) = true := by simpa using he
    clear HF he h
    go_enter Tryz.func52, Tryz.ntmps52
    go_wp2_with fail
    refine hE.out.mono ?_
    rintro e w' ⟨rfl, rfl⟩
    go_wp2
    go_ret2
    exact ⟨_, rfl, Bs.nil _, Kept.refl _ _⟩

theorem run_conv {w : World} {v : Value} {l : List UInt8} (h : By w v l) : (convert 22 9 v).run Tryz.prog w = .ok (.string ⟨l.toArray⟩) w := by
  obtain ⟨A, c, rfl, _, _⟩ := h.form
  have hs := h.src
  rw [run_convert_bytes_string w _ _ 5 A l.length c Tryz.underlying22 Tryz.underlying5 Tryz.underlying9]
  cases A with
  | none =>
    obtain rfl : l = [] := List.eq_nil_of_length_eq_zero (hs.2.1 rfl)
    rfl
  | some a =>
    have hl := run_loadCells_list (P := Tryz.prog) w a (bys l) (fun j u hu => hs.2.2.1 a rfl j u hu)
    rw [length_bys] at hl
    rw [run_bytesToString w a l.length c (l.map fun b => (b.toNat : Int)) (by rw [hl]; simp [bys, by8, Function.comp_def]), foldl_push_byteCells]
    simp

theorem by_equal (a b : Value) (l m : List UInt8) (w : World) (ha : By w a l) (hb : By w b m) :
    Calls Tryz.prog 113 #[a, b] w fun r w' => r = .returned (.bool (l == m)) ∧ w = w' := by
  have h1 := run_conv ha
  have h2 := run_conv hb
  clear ha hb
  go_enter Tryz.func113, Tryz.ntmps113
  go_wp2
  go_ret
  exact ⟨rfl, rfl⟩
end Go.Proofs.YteofbpdogmajoaaGreatDoor
namespace Go.Proofs.YteofbpdogmajoaaGreatDoor
open Go.RowKit

/-- An attribute of another type: its flags, its type, its value. -/
structure Ot where
  f : UInt8
  t : UInt8
  v : List UInt8
deriving DecidableEq

namespace Ax
def mayO (o : Ot) : Bool := !known o.t && (o.f ||| 32 == 224) && decide (o.v.length ≤ 65535)
def sameO (o p : Ot) : Bool := decide (o = p)
end Ax

/-- The slice value v reads as the attributes l. -/
def Ots (w : World) (v : Value) (l : List Ot) : Prop :=
  ∃ A c, v = .slice A l.length c ∧ l.length ≤ c ∧ c ≤ maxLen ∧ (0 < l.length → ∃ b o, A = some ⟨b, o, none⟩ ∧ ∀ i (h : i < l.length), w.cell? ⟨b, o + i * 3, none⟩ = some (by8 l[i].f) ∧ w.cell? ⟨b, o + i * 3 + 1, none⟩ = some (by8 l[i].t) ∧ ∃ u, w.cell? ⟨b, o + i * 3 + 2, none⟩ = some u ∧ By w u l[i].v)
theorem Ots.old {w w' : World} {v : Value} {l : List Ot} (h : Ots w v l) (k : Kept Nothing w w') : Ots w' v l := by
  obtain ⟨A, c, hv, hc, hm, hr⟩ := h
  refine ⟨A, c, hv, hc, hm, fun h0 => ?_⟩
  obtain ⟨b, o, hA, hi⟩ := hr h0
  refine ⟨b, o, hA, fun i hl => ⟨k.cell_some (hi i hl).1 (fun x => x), k.cell_some (hi i hl).2.1 (fun x => x), ?_⟩⟩
  obtain ⟨u, h1, h2⟩ := (hi i hl).2.2
  exact ⟨u, k.cell_some h1 (fun x => x), h2.old k⟩
theorem Ots.form {w : World} {v : Value} {l : List Ot} (h : Ots w v l) : ∃ A c, v = .slice A l.length c ∧ l.length ≤ c ∧ c ≤ maxLen := by
  obtain ⟨A, c, hv, hc, hm, _⟩ := h; exact ⟨A, c, hv, hc, hm⟩
theorem Ots.nil (w : World) : Ots w (.slice none 0 0) [] := ⟨none, 0, rfl, Nat.le_refl _, by simp [maxLen], fun h => absurd h (by simp)⟩
theorem Ots.at {w : World} {A : Option Addr} {n c : Nat} {l : List Ot} (h : Ots w (.slice A n c) l) (h0 : 0 < n) :
    ∃ b o, A = some ⟨b, o, none⟩ ∧ ∀ i (h : i < l.length), w.cell? ⟨b, o + i * 3, none⟩ = some (by8 l[i].f) ∧ w.cell? ⟨b, o + i * 3 + 1, none⟩ = some (by8 l[i].t) ∧ ∃ u, w.cell? ⟨b, o + i * 3 + 2, none⟩ = some u ∧ By w u l[i].v := by
  obtain ⟨A', c', hv, _, _, hr⟩ := h
  injection hv with h1 h2 h3
  subst h1 h2
  exact hr h0

theorem ot_is (a t : UInt8) (x : Value) (s : UInt8) (w : World) :
    Calls Tryz.prog 56 #[.agg #[.int .u8 (a.toNat : Int), .int .u8 (t.toNat : Int), x], .int .u8 (s.toNat : Int)] w fun e w' => e = .returned (.bool (decide (t = s))) ∧ Kept Nothing w w' := by
  have HK := Lib.hid ((Kept.refl Nothing w).alloc (.cells #[.int .u8 (a.toNat : Int), .int .u8 (t.toNat : Int), x] 73))
  have HE : Hid ((((t.toNat : Int)) == (s.toNat : Int)) = decide (t = s)) := Lib.hid (by
    rw [Bool.eq_iff_iff, beq_iff_eq, decide_eq_true_eq]
    constructor
    · intro h; exact UInt8.toNat_inj.1 (by omega)
    · rintro rfl; rfl)
  rw [← HE.out]
  go_enter Tryz.func56, Tryz.ntmps56
  go_wp2
  go_ret
  exact ⟨rfl, HK.out⟩

theorem ot_may (a t : UInt8) (x : Value) (l : List UInt8) (w : World) (h : By w x l) (ht : Wtd w) :
    Calls Tryz.prog 101 #[.agg #[.int .u8 (a.toNat : Int), .int .u8 (t.toNat : Int), x]] w fun e w' => e = .returned (.bool (Ax.mayO ⟨a, t, l⟩)) ∧ Kept Nothing w w' := by
  have HK := Lib.hid ((Kept.refl Nothing w).alloc (.cells #[.int .u8 (a.toNat : Int), .int .u8 (t.toNat : Int), x] 73))
  have HN := Lib.hid (known_any t _ (ht.kept HK.out))
  have HE : Hid (Ax.mayO ⟨a, t, l⟩ = (!Ax.known t && (a ||| 32 == 224) && decide (l.length ≤ 65535))) := Lib.hid rfl
  have ho : (bits .or .u8 (a.toNat : Int) 32 == 224) = (a ||| 32 == 224) := by
    have : ∀ z : Fin 256, (bits .or .u8 (z.val : Int) 32 == 224) = (UInt8.ofNat z.val ||| 32 == 224) := by decide +kernel
    have h1 := this ⟨a.toNat, a.toNat_lt⟩
    simpa using h1
  obtain ⟨A, c, rfl, _, _⟩ := h.form
  generalize Ax.mayO ⟨a, t, l⟩ = z at *
  generalize (a ||| 32 == 224) = m at *
  generalize l.length = n at *
  clear h ht
  cases hk : Ax.known t with
  | true =>
    rw [hk] at HN HE
    have hz : z = false := by rw [HE.out]; simp
    subst hz
    clear HE
    go_enter Tryz.func101, Tryz.ntmps101
    go_wp2_with (go_at_call 28; refine HN.out.mono ?_; rintro e w1 ⟨rfl, rfl⟩)
    go_ret
    exact ⟨rfl, HK.out⟩
  | false =>
    rw [hk] at HN HE
    cases m with
    | false =>
      have hz : z = false := by rw [HE.out]; simp
      subst hz
      clear HE
      go_enter Tryz.func101, Tryz.ntmps101
      go_wp2_with (go_at_call 28; refine HN.out.mono ?_; rintro e w1 ⟨rfl, rfl⟩)
      go_ret
      exact ⟨rfl, HK.out⟩
    | true =>
      have hz : z = decide ((n : Int) ≤ 65535) := by rw [HE.out]; simp; omega
      subst hz
      clear HE
      go_enter Tryz.func101, Tryz.ntmps101
      go_wp2_with (go_at_call 28; refine HN.out.mono ?_; rintro e w1 ⟨rfl, rfl⟩)
      go_ret
      exact ⟨rfl, HK.out⟩

theorem ot_same (a t : UInt8) (x : Value) (l : List UInt8) (b s : UInt8) (y : Value) (m : List UInt8) (w : World) (hx : By w x l) (hy : By w y m) :
    Calls Tryz.prog 60 #[.agg #[.int .u8 (a.toNat : Int), .int .u8 (t.toNat : Int), x], .agg #[.int .u8 (b.toNat : Int), .int .u8 (s.toNat : Int), y]] w fun e w' => e = .returned (.bool (decide ((⟨a, t, l⟩ : Ot) = ⟨b, s, m⟩))) ∧ Kept Nothing w w' := by
  have HK := Lib.hid (((Kept.refl Nothing w).alloc (.cells #[.int .u8 (a.toNat : Int), .int .u8 (t.toNat : Int), x] 73)).alloc (.cells #[.int .u8 (b.toNat : Int), .int .u8 (s.toNat : Int), y] 73))
  have HQ := Lib.hid (by_equal x y l m _ (hx.old HK.out) (hy.old HK.out))
  have HE : Hid (decide ((⟨a, t, l⟩ : Ot) = ⟨b, s, m⟩) = ((((a.toNat : Int)) == (b.toNat : Int)) && (((t.toNat : Int)) == (s.toNat : Int)) && (l == m))) := Lib.hid (by
    rw [Bool.eq_iff_iff]
    simp only [decide_eq_true_eq, Bool.and_eq_true, beq_iff_eq, Ot.mk.injEq]
    constructor
    · rintro ⟨rfl, rfl, rfl⟩; exact ⟨⟨rfl, rfl⟩, rfl⟩
    · rintro ⟨⟨h1, h2⟩, rfl⟩; exact ⟨UInt8.toNat_inj.1 (by omega), UInt8.toNat_inj.1 (by omega), rfl⟩)
  rw [HE.out]
  obtain ⟨A, c, rfl, _, _⟩ := hx.form
  obtain ⟨B, d, rfl, _, _⟩ := hy.form
  clear hx hy HE
  generalize (l == m) = e3 at *
  cases h1 : ((a.toNat : Int)) == (b.toNat : Int) with
  | false =>
    go_enter Tryz.func60, Tryz.ntmps60
    go_wp2
    go_ret
    exact ⟨rfl, HK.out⟩
  | true =>
    cases h2 : ((t.toNat : Int)) == (s.toNat : Int) with
    | false =>
      go_enter Tryz.func60, Tryz.ntmps60
      go_wp2
      go_ret
      exact ⟨rfl, HK.out⟩
    | true =>
      go_enter Tryz.func60, Tryz.ntmps60
      go_wp2_with (go_at_call 113; refine HQ.out.mono ?_; rintro e w1 ⟨rfl, rfl⟩)
      go_ret
      exact ⟨rfl, HK.out⟩
end Go.Proofs.YteofbpdogmajoaaGreatDoor
