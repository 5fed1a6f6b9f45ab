
/-
  What the calls of package scroll's writer do, each in whatever memory: by walks over their text.
-/
import Derived.Test.YtdhbfhjlholnlaaGreatDoorWs
import Derived.Test.YtdhbfhjlholnlaaGreatDoorRp
namespace Go.Proofs.YtdhbfhjlholnlaaGreatDoor
open Go.RowKit

theorem wr_err (p : Nat) (F : Nat → Prop) (s : WS) (w : World) (h : Wr w F p s) :
    Calls Tryz.prog 72 #[.pointer (some ⟨p, 0, none⟩)] w fun r w' => r = .returned (.int .i64 s.e) ∧ w = w' := by
  obtain ⟨bv, hv, _, hb, _⟩ := h
  obtain ⟨⟨h0, -, -, h3⟩, -⟩ := cells4 hb
  clear hb
  go_enter Tryz.func72, Tryz.ntmps72
  go_wp2
  go_ret
  exact ⟨rfl, rfl⟩

theorem wr_lay (w : World) :
    Calls Tryz.prog 36 #[] w fun r w' => ∃ p F, r = .returned (.pointer (some ⟨p, 0, none⟩)) ∧ Wr w' F p ⟨[], [], 0⟩ ∧ Kept Nothing w w' ∧ Sub w F Nothing := by
  go_enter Tryz.func36, Tryz.ntmps36
  go_wp2
  go_ret
  refine ⟨w.heap.size, _, rfl, ⟨.slice none 0 0, .slice none 0 0, rfl, Blk.fresh w _ _, World.ownsRow_nil _ _ _ _, World.ownsRow_nil _ _ _ _, ⟨(fun _ h => by cases h), Nat.zero_le _, Nat.zero_le _⟩⟩, (Kept.refl _ w).alloc _, fun k hk => ?_⟩
  rcases hk with rfl | hk | hk
  · exact .inr (Nat.le_refl _)
  · simp [Value.ownBlock] at hk
  · simp [Value.ownBlock] at hk

/-- Behind append's store of the bytes. -/
theorem Wr.put1 {F : Nat → Prop} {w w1 : World} {p : Nat} {s : WS} {bv hv bv' : Value} {l : List UInt8} (hF : F = wown p bv hv) (hb : Blk w p 143 #[.bool true, bv, hv, .int .i64 s.e])
    (h1 : w.ownsRow 0 5 1 bv s.l.length (bys s.l)) (h2 : w.ownsRow 0 298 2 hv s.hs.length (hcs s.hs)) (hok : WS.ok { s with l := l })
    {n : Nat} {xs : List Value} (hn : n = l.length) (hx : xs = bys l) (ho : w1.ownsRow 0 5 1 bv' n xs) (hg : w.grownBy w1 bv.ownBlock) (hat : bv'.ownBlock = bv.ownBlock ∨ bv'.ownBlock = some w.heap.size) :
    ∃ F', Wr (w1.setCell ⟨p, 1, none⟩ bv') F' p { s with l := l } ∧ Kept F w (w1.setCell ⟨p, 1, none⟩ bv') ∧ Sub w F' F := by
  subst hF hn hx
  have kg : Kept (fun k => bv.ownBlock = some k) w w1 := (Kept.refl _ w).grown hg (fun k hk _ => hk)
  have nb : ∀ g, bv.ownBlock = some g → g ≠ p := fun g hg => by
    obtain ⟨cs, hh⟩ := own_lt h1 hg
    exact (hb.apart (t' := 5) hh (by decide)).symm
  have hb1 := hb.kept kg (fun e => nb p e rfl)
  have h21 := own_kept h2 kg (fun g hg e => by
    obtain ⟨cs, hh⟩ := own_lt h2 hg
    obtain ⟨cs', hh'⟩ := own_lt h1 e
    rw [hh] at hh'
    injection hh' with hh'
    injection hh' with _ ht
    exact absurd ht (by decide))
  have k1 := Kept.own w1 p 1 bv'
  refine ⟨wown p bv' hv, ⟨bv', hv, rfl, hb1.put 1 _, own_kept ho k1 (fun g hg e => ?_), own_kept h21 k1 (fun g hg e => ?_), hok⟩, ?_, ?_⟩
  · obtain ⟨cs, hh⟩ := own_lt ho hg
    exact hb1.apart (t' := 5) hh (by decide) e.symm
  · obtain ⟨cs, hh⟩ := own_lt h21 hg
    exact hb1.apart (t' := 298) hh (by decide) e.symm
  · exact (kg.mono (fun k hk => .inr (.inl hk))).trans (k1.mono (fun k e => .inl e))
  · intro k hk
    rcases hk with hk | hk | hk
    · exact .inl (.inl hk)
    · rcases hat with h | h
      · rw [h] at hk; exact .inl (.inr (.inl hk))
      · rw [h] at hk
        injection hk with hk
        exact .inr (by omega)
    · exact .inl (.inr (.inr hk))

theorem Wr.stays {w w1 : World} {p : Nat} {bv : Value} {l : List UInt8} {cs : Array Value} (hb : Blk w p 143 cs) (h1 : w.ownsRow 0 5 1 bv l.length (bys l)) (hg : w.grownBy w1 bv.ownBlock) : Blk w1 p 143 cs :=
  hb.kept ((Kept.refl (fun k => bv.ownBlock = some k) w).grown hg (fun k hk _ => hk)) (fun e => by
    obtain ⟨cs', hh⟩ := own_lt h1 e
    exact hb.apart (t' := 5) hh (by decide) rfl)

theorem wr_byte (p : Nat) (F : Nat → Prop) (s : WS) (v : Value) (l : List UInt8) (w : World) (h : Wr w F p s) (hv : By w v l) (hl : s.l.length + l.length ≤ 1099511627776) :
    Calls Tryz.prog 37 #[.pointer (some ⟨p, 0, none⟩), v] w fun r w' => ∃ F', r = .returned (.pointer (some ⟨p, 0, none⟩)) ∧ Wr w' F' p (s.lay l) ∧ Kept F w w' ∧ Sub w F' F := by
  have hE := Lib.hid (wr_err p F s w h)
  have HR := Lib.hid h
  by_cases he : s.e = 0
  · have HOK := Lib.hid (WS.lay_ok h.ok hl)
    have HF : Hid (s.lay l = { s with l := s.l ++ l }) := if_pos he
    have hn : (s.e == 0) = true := by simpa using he
    rw [HF.out] at HOK ⊢
    obtain ⟨bv, hw, hFF, hb, h1, h2, hok⟩ := h
    obtain ⟨⟨-, c1, -, -⟩, f1, -, -⟩ := cells4 hb
    obtain ⟨A, c, rfl, _, _⟩ := hv.form
    obtain ⟨A0, cc0, rfl, _, _⟩ := own_form h1
    have HS := Lib.hid hv.src
    have H1 := Lib.hid h1
    have H2 := Lib.hid h2
    have HB := Lib.hid hb
    have HFF := Lib.hid hFF
    obtain ⟨i0, hi, hz0, hz1, hz2⟩ := info_parts u8_info
    have HL : Hid (s.l.length + l.length ≤ maxLen ∧ (s.l.length + l.length) * 1 ≤ 140737488355328) := ⟨by unfold maxLen; omega, by omega⟩
    clear HF he hv h1 h2 hb hFF hok HR
    go_enter Tryz.func37, Tryz.ntmps37
    go_wp2_with (first
      | (go_at_call 72; refine (hE.out).mono ?_; rintro e w' ⟨rfl, rfl⟩)
      | (at_builtin; refine wpList_app _ rfl _ _ 55 rfl 0 5 i0 (.int .u8 0) 1 1 Tryz.underlying55 hi hz0 hz1 hz2 rfl (by decide) (.slice A0 s.l.length cc0) s.l.length (bys s.l) rfl H1.out A l.length c (bys l) rfl HS.out HL.out.1 HL.out.2 (Nat.zero_le _) ?_; intro v' w1 hown hg hat; (have HO := Lib.hid hown); (have HG := Lib.hid hg); (have HA := Lib.hid hat); (obtain ⟨⟨-, d1, -, -⟩, g1, -, -⟩ := cells4 (Wr.stays HB.out H1.out hg)); (obtain ⟨A2, cc2, rfl, _, _⟩ := own_form hown); clear hown hg hat))
    go_ret
    obtain ⟨F', a1, a2, a3⟩ := Wr.put1 HFF.out HB.out H1.out H2.out HOK.out List.length_append.symm (bys_append _ _).symm HO.out HG.out HA.out
    exact ⟨F', rfl, a1, a2, a3⟩
  · have hn : (s.e == 0) = false := by simpa using he
    have HF : Hid (s.lay l = s) := if_neg he
    rw [HF.out]
    clear HF he hv
    go_enter Tryz.func37, Tryz.ntmps37
    go_wp2_with (go_at_call 72; refine (hE.out).mono ?_; rintro e w' ⟨rfl, rfl⟩)
    go_ret
    exact ⟨F, rfl, HR.out, Kept.refl _ _, Sub.refl _ _⟩
end Go.Proofs.YtdhbfhjlholnlaaGreatDoor
