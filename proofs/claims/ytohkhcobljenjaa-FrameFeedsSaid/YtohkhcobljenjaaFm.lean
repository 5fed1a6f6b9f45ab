
/-
  An intake of package frame in memory; what its small calls do: faulty, gathers, Waits, New, take.
-/
import Derived.Test.YtohkhcobljenjaaWr
import Derived.Test.YtohkhcobljenjaaFb
import Derived.Laws.OwnMore
import Derived.WalkLawsBesides
import Derived.Deep.DeepCutAuto
import Derived.Deep.CutBlock
namespace Go.Proofs.Ytohkhcobljenjaa
open Go.RowKit

/-- A slice whose bytes lie in none of these blocks. -/
def Off (S : Nat → Prop) (v : Value) : Prop := ∀ a n c, v = .slice (some a) n c → 0 < n → ¬ S a.block
theorem Off.nil (S : Nat → Prop) : Off S (.slice none 0 0) := fun a n c e => by cases e
theorem Off.mono {S T : Nat → Prop} {v : Value} (h : Off S v) (hs : ∀ k, T k → S k) : Off T v := fun a n c e h0 x => h a n c e h0 (hs _ x)
theorem By.off {S : Nat → Prop} {w w' : World} {v : Value} {l : List UInt8} (h : By w v l) (k : Kept S w w') (hs : Off S v) : By w' v l := by
  obtain ⟨A, c, rfl, _, _⟩ := h.form
  exact h.kept k (fun a ha h0 => hs a _ _ (by rw [ha]) h0)
/-- What was there lies in no new block. -/
theorem By.off_new {w : World} {v : Value} {l : List UInt8} (h : By w v l) {S : Nat → Prop} (hs : ∀ k, S k → w.heap.size ≤ k) : Off S v := by
  intro a n c e h0 x
  obtain ⟨A', c', hv, _, _, hr⟩ := h
  rw [hv] at e
  injection e with e1 e2 e3
  subst e1 e2 e3
  have := hr.lt (by rw [length_bys]; exact h0)
  have := hs _ x
  omega
theorem Off.sub {w : World} {F F' : Nat → Prop} {v : Value} {l : List UInt8} (h : Off F v) (hb : By w v l) (hs : Sub w F' F) : Off F' v := fun a n c e h0 x => by
  rcases hs _ x with y | y
  · exact h a n c e h0 y
  · exact hb.off_new (S := fun k => w.heap.size ≤ k) (fun _ h => h) a n c e h0 y
theorem add_block (a : Addr) (k : Nat) : (a.add k).block = a.block := by unfold Addr.add; split <;> rfl
theorem Off.piece {S : Nat → Prop} {A : Option Addr} {n c k m : Nat} (h : Off S (.slice A n c)) (hm : k + m ≤ n) : Off S (.slice (if c = k then A else A.map (·.add k)) m (c - k)) := by
  intro a n' c' e h0 x
  injection e with e1 e2 e3
  by_cases hk : c = k
  · rw [if_pos hk] at e1; exact h a n c (by rw [e1]) (by omega) x
  · rw [if_neg hk] at e1
    obtain ⟨a0, rfl, rfl⟩ := Option.map_eq_some_iff.1 e1
    rw [add_block] at x
    exact h a0 n c rfl (by omega) x

def codeOf (s : Nat) : Int := if s = 0 then 0 else 1
/-- The blocks that an intake is made of. -/
def iown (p : Nat) (bv : Value) : Nat → Prop := fun k => k = p ∨ bv.ownBlock = some k

/-- At block p lies an intake that New made: bytes l are gathered, the fault's subcode is s (0: none), its data are dv. -/
def Iq (w : World) (F : Nat → Prop) (p : Nat) (l : List UInt8) (s : Nat) (dv : Value) : Prop :=
  ∃ bv, F = iown p bv ∧ Blk w p 43 #[.bool true, bv, .int .u8 (codeOf s), .int .u8 (s : Int), dv] ∧ w.ownsRow 0 5 1 bv l.length (bys l) ∧ l.length ≤ 1099511627776 ∧ (s ≠ 0 → bv = .slice none 0 0)

theorem cellsI {w : World} {p : Nat} {t : TypeId} {a b c d e : Value} (h : Blk w p t #[a, b, c, d, e]) :
    (w.cell? ⟨p, 0, none⟩ = some a ∧ w.cell? ⟨p, 1, none⟩ = some b ∧ w.cell? ⟨p, 2, none⟩ = some c ∧ w.cell? ⟨p, 3, none⟩ = some d ∧ w.cell? ⟨p, 4, none⟩ = some e) ∧
    (w.frozen? ⟨p, 1, none⟩ = false ∧ w.frozen? ⟨p, 2, none⟩ = false ∧ w.frozen? ⟨p, 3, none⟩ = false ∧ w.frozen? ⟨p, 4, none⟩ = false) :=
  ⟨⟨h.cell 0, h.cell 1, h.cell 2, h.cell 3, h.cell 4⟩, h.free 1, h.free 2, h.free 3, h.free 4⟩

theorem Iq.kinds {w : World} {F : Nat → Prop} {p : Nat} {l : List UInt8} {s : Nat} {dv : Value} (h : Iq w F p l s dv) {k : Nat} (hk : F k) : ∃ cs t, w.heap[k]? = some (.cells cs t (0, 0)) ∧ (t = 43 ∨ t = 5) := by
  obtain ⟨bv, rfl, hb, h1, _⟩ := h
  rcases hk with rfl | hk
  · exact ⟨_, _, hb, .inl rfl⟩
  · obtain ⟨cs, hcs⟩ := own_lt h1 hk; exact ⟨cs, _, hcs, .inr rfl⟩
theorem Iq.lt {w : World} {F : Nat → Prop} {p : Nat} {l : List UInt8} {s : Nat} {dv : Value} (h : Iq w F p l s dv) {k : Nat} (hk : F k) : k < w.heap.size := by
  obtain ⟨cs, t, hh, _⟩ := h.kinds hk
  exact (Array.getElem?_eq_some_iff.1 hh).1
theorem Iq.kept {S F : Nat → Prop} {w w' : World} {p : Nat} {l : List UInt8} {s : Nat} {dv : Value} (h : Iq w F p l s dv) (k : Kept S w w') (hs : ∀ g, F g → ¬ S g) : Iq w' F p l s dv := by
  obtain ⟨bv, rfl, hb, h1, h2⟩ := h
  exact ⟨bv, rfl, hb.kept k (hs _ (.inl rfl)), own_kept h1 k (fun g hg => hs g (.inr hg)), h2⟩
theorem Iq.old {F : Nat → Prop} {w w' : World} {p : Nat} {l : List UInt8} {s : Nat} {dv : Value} (h : Iq w F p l s dv) (k : Kept Nothing w w') : Iq w' F p l s dv := h.kept k (fun _ _ x => x)
theorem Iq.self {w : World} {F : Nat → Prop} {p : Nat} {l : List UInt8} {s : Nat} {dv : Value} (h : Iq w F p l s dv) : F p := by obtain ⟨_, rfl, _⟩ := h; exact .inl rfl
theorem Iq.le {w : World} {F : Nat → Prop} {p : Nat} {l : List UInt8} {s : Nat} {dv : Value} (h : Iq w F p l s dv) : l.length ≤ 1099511627776 := by obtain ⟨_, _, _, _, h, _⟩ := h; exact h

/-- Behind a store of the bytes of another row. -/
theorem Iq.put1 {F : Nat → Prop} {w w1 : World} {p : Nat} {l l' : List UInt8} {dv bv bv' : Value} (hF : F = iown p bv) (hb : Blk w p 43 #[.bool true, bv, .int .u8 (codeOf 0), .int .u8 ((0 : Nat) : Int), dv])
    (h1 : w.ownsRow 0 5 1 bv l.length (bys l)) (hl : l'.length ≤ 1099511627776)
    {n : Nat} {xs : List Value} (hn : n = l'.length) (hx : xs = bys l') (ho : w1.ownsRow 0 5 1 bv' n xs) (hg : w.grownBy w1 bv.ownBlock) (hat : bv'.ownBlock = bv.ownBlock ∨ bv'.ownBlock = some w.heap.size) :
    ∃ F', Iq (w1.setCell ⟨p, 1, none⟩ bv') F' p l' 0 dv ∧ Kept F w (w1.setCell ⟨p, 1, none⟩ bv') ∧ Sub w F' F := by
  subst hF hn hx
  have kg : Kept (fun k => bv.ownBlock = some k) w w1 := (Kept.refl _ w).grown hg (fun k hk _ => hk)
  have nb : ∀ g, bv.ownBlock = some g → g ≠ p := fun g hg => by
    obtain ⟨cs, hh⟩ := own_lt h1 hg
    exact (hb.apart (t' := 5) hh (by decide)).symm
  have hb1 := hb.kept kg (fun e => nb p e rfl)
  have k1 := Kept.own w1 p 1 bv'
  refine ⟨iown p bv', ⟨bv', rfl, hb1.put 1 _, own_kept ho k1 (fun g hg e => ?_), hl, fun h => absurd rfl h⟩, ?_, ?_⟩
  · obtain ⟨cs, hh⟩ := own_lt ho hg
    exact hb1.apart (t' := 5) hh (by decide) e.symm
  · exact (kg.mono (fun k hk => .inr hk)).trans (k1.mono (fun k e => .inl e))
  · intro k hk
    rcases hk with hk | hk
    · exact .inl (.inl hk)
    · rcases hat with h | h
      · rw [h] at hk; exact .inl (.inr hk)
      · rw [h] at hk
        injection hk with hk
        exact .inr (by omega)
theorem Iq.stays {w w1 : World} {p : Nat} {bv : Value} {l : List UInt8} {cs : Array Value} (hb : Blk w p 43 cs) (h1 : w.ownsRow 0 5 1 bv l.length (bys l)) (hg : w.grownBy w1 bv.ownBlock) : Blk w1 p 43 cs :=
  hb.kept ((Kept.refl (fun k => bv.ownBlock = some k) w).grown hg (fun k hk _ => hk)) (fun e => by
    obtain ⟨cs', hh⟩ := own_lt h1 e
    exact hb.apart (t' := 5) hh (by decide) rfl)
/-- Behind the bytes are let go. -/
theorem Iq.clear {F : Nat → Prop} {w : World} {p : Nat} {l : List UInt8} {s : Nat} {dv : Value} (h : Iq w F p l s dv) :
    ∃ F', Iq (w.setCell ⟨p, 1, none⟩ (.slice none 0 0)) F' p [] s dv ∧ Kept F w (w.setCell ⟨p, 1, none⟩ (.slice none 0 0)) ∧ (∀ k, F' k → F k) ∧ (∀ k, F' k → k = p) := by
  obtain ⟨bv, rfl, hb, h1, h2, h3⟩ := h
  have k1 := Kept.own w p 1 (.slice none 0 0)
  refine ⟨iown p (.slice none 0 0), ⟨_, rfl, hb.put 1 _, World.ownsRow_nil _ _ _ _, Nat.zero_le _, fun _ => rfl⟩, k1.mono (fun k e => .inl e), ?_, ?_⟩
  · rintro k (rfl | hk)
    · exact .inl rfl
    · simp [Value.ownBlock] at hk
  · rintro k (rfl | hk)
    · rfl
    · simp [Value.ownBlock] at hk

theorem in_faulty (p : Nat) (F : Nat → Prop) (l : List UInt8) (s : Nat) (dv : Value) (w : World) (h : Iq w F p l s dv) :
    Calls Try.prog 19 #[.pointer (some ⟨p, 0, none⟩)] w fun r w' => r = .returned (.bool (decide (s ≠ 0))) ∧ w = w' := by
  obtain ⟨bv, _, hb, _⟩ := h
  obtain ⟨⟨-, -, h2, h3, -⟩, -⟩ := cellsI hb
  clear hb
  by_cases h0 : s = 0
  · subst h0
    go_enter Try.func19, Try.ntmps19
    go_wp2
    go_ret
    exact ⟨rfl, rfl⟩
  · have hc : codeOf s = 1 := if_neg h0
    rw [hc] at h2
    have hd : decide (s ≠ 0) = true := by simpa using h0
    rw [hd]
    clear hc hd
    go_enter Try.func19, Try.ntmps19
    go_wp2
    go_ret
    exact ⟨rfl, rfl⟩

theorem in_gathers (p : Nat) (F : Nat → Prop) (l : List UInt8) (s : Nat) (dv : Value) (w : World) (h : Iq w F p l s dv) :
    Calls Try.prog 15 #[.pointer (some ⟨p, 0, none⟩)] w fun r w' => r = .returned (.bool (decide (s = 0))) ∧ w = w' := by
  have HF := Lib.hid (in_faulty p F l s dv w h)
  obtain ⟨bv, _, hb, _⟩ := h
  obtain ⟨⟨h0, -, -, -, -⟩, -⟩ := cellsI hb
  clear hb
  go_enter Try.func15, Try.ntmps15
  go_wp2_with (go_at_call 19; refine (HF.out).mono ?_; rintro e w' ⟨rfl, rfl⟩)
  go_ret
  exact ⟨rfl, rfl⟩

theorem in_waits (p : Nat) (F : Nat → Prop) (l : List UInt8) (s : Nat) (dv : Value) (w : World) (h : Iq w F p l s dv) :
    Calls Try.prog 6 #[.pointer (some ⟨p, 0, none⟩)] w fun r w' => r = .returned (.int .i64 (l.length : Int)) ∧ w = w' := by
  obtain ⟨bv, _, hb, h1, _⟩ := h
  obtain ⟨⟨-, c1, -, -, -⟩, -⟩ := cellsI hb
  obtain ⟨A, c, rfl, _, _⟩ := own_form h1
  clear hb h1
  go_enter Try.func6, Try.ntmps6
  go_wp2
  go_ret
  exact ⟨rfl, rfl⟩

theorem in_new (w : World) :
    Calls Try.prog 4 #[] w fun r w' => ∃ p F, r = .returned (.pointer (some ⟨p, 0, none⟩)) ∧ Iq w' F p [] 0 (.slice none 0 0) ∧ Kept Nothing w w' ∧ (∀ k, F k → w.heap.size ≤ k) := by
  go_enter Try.func4, Try.ntmps4
  go_wp2
  go_ret
  refine ⟨w.heap.size, _, rfl, ⟨.slice none 0 0, rfl, Blk.fresh w _ _, World.ownsRow_nil _ _ _ _, Nat.zero_le _, fun _ => rfl⟩, (Kept.refl _ w).alloc _, fun k hk => ?_⟩
  rcases hk with rfl | hk
  · exact Nat.le_refl _
  · simp [Value.ownBlock] at hk

theorem slice_lo (A : Option Addr) (n c k : Nat) (hk : k ≤ n) (w : World) :
    (Instr.slice 25 (.slice A n c) (some (.int .i64 (k : Int))) none none).run Try.prog w = .ok (.slice (if c = k then A else A.map (·.add k)) (n - k) (c - k)) w := by
  have hz := Try.sizeOf5
  have he : Try.prog.elem 25 = 5 := by kernel_rfl
  rw [run_slice_l w 25 A n c (by kernel_rfl) .i64 k (by omega) (by omega), he, hz]
  simp [sliced]
theorem slice_hi (A : Option Addr) (n c k : Nat) (hk : k ≤ c) (w : World) :
    (Instr.slice 25 (.slice A n c) none (some (.int .i64 (k : Int))) none).run Try.prog w = .ok (.slice A k c) w := by
  have hz := Try.sizeOf5
  have he : Try.prog.elem 25 = 5 := by kernel_rfl
  rw [run_slice_h w 25 A n c (by kernel_rfl) .i64 k (by omega) (by omega), he, hz]
  cases A <;> simp [sliced, Addr.add]

/-- How many bytes are taken. -/
def taken (b l : List UInt8) (many : Nat) : Nat := min b.length (many - l.length)

set_option maxHeartbeats 400000 in
theorem in_take (p : Nat) (F : Nat → Prop) (l : List UInt8) (dv v : Value) (b : List UInt8) (many : Nat) (w : World) (h : Iq w F p l 0 dv) (hv : By w v b) (ho : Off F v) (hb : l.length + b.length ≤ 1099511627776) (hm : many ≤ 65536) :
    Calls Try.prog 16 #[.pointer (some ⟨p, 0, none⟩), v, .int .i64 (many : Int)] w fun r w' => ∃ F' v', r = .returned v' ∧ Iq w' F' p (l ++ b.take (taken b l many)) 0 dv ∧ By w' v' (b.drop (taken b l many)) ∧ By w v' (b.drop (taken b l many)) ∧ (∀ D, Off D v → Off D v') ∧ Kept F w w' ∧ Sub w F' F := by
  have ht : taken b l many ≤ b.length := Nat.min_le_left _ _
  have htI : ((taken b l many : Nat) : Int) = min (b.length : Int) (max ((many : Int) - (l.length : Int)) 0) := by unfold taken; omega
  have HT := Lib.hid htI
  clear htI
  generalize taken b l many = n at *
  obtain ⟨A, c, rfl, hc, hmc⟩ := hv.form
  obtain ⟨bv, hF, hb0, h1, hl, -⟩ := h
  obtain ⟨⟨-, c1, -, -, -⟩, f1, -⟩ := cellsI hb0
  obtain ⟨A0, cc0, rfl, _, _⟩ := own_form h1
  have HV := Lib.hid hv
  have HO := Lib.hid ho
  have HFF := Lib.hid hF
  have HB := Lib.hid hb0
  have H1 := Lib.hid h1
  clear hv ho hF hb0 h1
  go_enter Try.func16, Try.ntmps16
  go_upto_region 1 with fail
  go_cut [7] (fun x wx => x = .int .i64 (n : Int) ∧ w = wx)
  case first =>
    go_wp2
    all_goals
      go_meet
      refine ⟨?_, rfl⟩
      rw [HT.out]
      congr 1
      omega
  case rest =>
    obtain ⟨rfl, rfl⟩ := hcut
    clear HT
    obtain ⟨i0, hi, hz0, hz1, hz2⟩ := info_parts u8_info
    have s1 := slice_hi A b.length c n (by omega)
    have s2 := slice_lo A b.length c n (by omega)
    have hlt : (b.take n).length = n := by rw [List.length_take]; omega
    have HP := Lib.hid (HV.out.pre (m := n) ht)
    have HS : Hid (Src w 1 A n (bys (b.take n))) := by have := HP.out.src; rw [hlt] at this; exact this
    have HL : Hid (l.length + n ≤ maxLen ∧ (l.length + n) * 1 ≤ 140737488355328) := ⟨by unfold maxLen; omega, by omega⟩
    have HN : Hid (l.length + n = (l ++ b.take n).length) := by show _ = _; rw [List.length_append, hlt]
    have HN2 : Hid ((l ++ b.take n).length ≤ 1099511627776) := by show _ ≤ _; rw [← HN.out]; omega
    have HDP : Hid (By w (.slice (if c = n then A else A.map (·.add n)) (b.length - n) (c - n)) (b.drop n) ∧ ∀ D, Off D (.slice A b.length c) → Off D (.slice (if c = n then A else A.map (·.add n)) (b.length - n) (c - n))) := by
      refine ⟨?_, fun D hD => hD.piece (by omega)⟩
      have := HV.out.piece (k := n) (m := b.length - n) (by omega)
      rw [List.take_of_length_le (by simp)] at this
      exact this
    clear hlt HP
    generalize (if c = n then A else A.map (·.add n)) = A9 at *
    go_wp2_with fail
    go_region_law (first | (refine step_app _ (by rfl) _ _ 25 (by rfl) 0 5 i0 _ 1 1 Try.underlying25 hi hz0 hz1 hz2 rfl (by decide) (.slice A0 l.length cc0) l.length (bys l) (by rfl) (own_kept H1.out ((Kept.refl Nothing w).drew) (fun _ _ x => x)) A n c (bys (b.take n)) (by rfl) (HS.out.kept ((Kept.refl Nothing w).drew)) HL.out.1 HL.out.2 (Nat.zero_le _) ?_; intro v' w1 hown hg hat; (have HPE := Lib.hid (Iq.put1 HFF.out (HB.out.drew) (own_kept H1.out ((Kept.refl Nothing w).drew) (fun _ _ x => x)) HN2.out HN.out (bys_append _ _).symm hown hg hat)); (obtain ⟨⟨-, d1, -, -, -⟩, g1, -⟩ := cellsI (Iq.stays (HB.out.drew) (own_kept H1.out ((Kept.refl Nothing w).drew) (fun _ _ x => x)) hg)); (obtain ⟨A2, cc2, rfl, _, _⟩ := own_form hown); clear hown hg hat))
    go_wp2
    go_ret
    obtain ⟨F', q1, q2, q3⟩ := HPE.out
    have q2' : Kept F w _ := ((Kept.refl F w).drew).trans q2
    exact ⟨F', _, rfl, q1, HDP.out.1.off q2' (HDP.out.2 F HO.out), HDP.out.1, HDP.out.2, q2', q3⟩
end Go.Proofs.Ytohkhcobljenjaa
