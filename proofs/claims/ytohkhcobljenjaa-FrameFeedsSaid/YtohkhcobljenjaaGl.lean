
/-
  A copy of an intake; messages that are the document's (for the law FrameFeeds).
-/
import Derived.Test.YtohkhcobljenjaaFx
import Derived.Test.YtohkhcobljenjaaGk
namespace Go.Proofs.Ytohkhcobljenjaa
open Go.RowKit

theorem own_weak {w : World} {B B' : Nat} {e : TypeId} {size n : Nat} {v : Value} {xs : List Value} (h : w.ownsRow B e size v n xs) (hb : B' ≤ B) : w.ownsRow B' e size v n xs := by
  obtain ⟨h1, h2⟩ := h
  refine ⟨h1, ?_⟩
  rcases h2 with h | ⟨g, cap, cur, e, hg, r⟩
  · exact .inl h
  · exact .inr ⟨g, cap, cur, e, Nat.le_trans hb hg, r⟩
theorem sl_clone_nil (w : World) : Calls Try.prog 14 #[.slice none 0 0] w fun r w' => r = .returned (.slice none 0 0) ∧ w = w' := by
  have hq := fun (u : World) (a : Option Addr) (n c : Nat) => Lib.run_eql_slice_nil (P := Try.prog) u 25 5 a n c 0 0 Try.underlying25
  go_enter Try.func14, Try.ntmps14
  go_wp2
  go_ret
  exact ⟨rfl, rfl⟩

/-- What a copy is: an intake of its own, in blocks that were not there. -/
def CopyPost (w : World) (s : Fr.IS) (r : Ending) (w' : World) : Prop := ∃ (q : Nat) (F D : Nat → Prop), r = .returned (.pointer (some ⟨q, 0, none⟩)) ∧ In w' F D q s ∧ Kept Nothing w w' ∧ (∀ k, F k ∨ D k → w.heap.size ≤ k ∧ k < w'.heap.size)
theorem copy_end {w w1 w2 w3 : World} {s : Fr.IS} {bv dv v1 v2 : Value} (hk1 : Kept Nothing (w.alloc (.cells #[.bool true, bv, .int .u8 (codeOf s.s), .int .u8 (s.s : Int), dv] 43)) w1)
    (o1 : w1.ownsRow (w.heap.size + 1) 5 1 v1 s.l.length (bys s.l)) (h1 : s.s ≠ 0 → v1 = .slice none 0 0) (hl : s.l.length ≤ 1099511627776) (hok : s.ok)
    (e2 : w2 = w1.setCell ⟨w.heap.size, 1, none⟩ v1) (hk2 : Kept Nothing w2 w3) (o2 : w3.ownsRow (w.heap.size + 1) 5 1 v2 s.d.length (bys s.d)) (hne : ∀ g, v1.ownBlock = some g → v2.ownBlock ≠ some g) :
    CopyPost w s (.returned (.pointer (some ⟨w.heap.size, 0, none⟩))) (w3.setCell ⟨w.heap.size, 4, none⟩ v2) := by
  subst e2
  have b0 := (Blk.fresh w 43 #[.bool true, bv, .int .u8 (codeOf s.s), .int .u8 (s.s : Int), dv]).kept hk1 (fun x => x)
  have b1 := b0.put 1 v1
  have b2 := b1.kept hk2 (fun x => x)
  have b3 := b2.put 4 v2
  have q1 := ow_kept (ow_kept o1 (Kept.own w1 w.heap.size 1 v1) (ow_far o1 b0 (by decide))) hk2 (fun _ _ x => x)
  have q2 := ow_kept q1 (Kept.own w3 w.heap.size 4 v2) (ow_far q1 b2 (by decide))
  have q3 := ow_kept o2 (Kept.own w3 w.heap.size 4 v2) (ow_far o2 b2 (by decide))
  have hk : Kept Nothing w (w3.setCell ⟨w.heap.size, 4, none⟩ v2) := by
    have k0 := ((Kept.refl Nothing w).alloc (.cells #[.bool true, bv, .int .u8 (codeOf s.s), .int .u8 (s.s : Int), dv] 43)).trans hk1
    exact ((k0.setCell (p := ⟨w.heap.size, 1, none⟩) (fun h => absurd h (Nat.lt_irrefl _)) v1).trans hk2).setCell (p := ⟨w.heap.size, 4, none⟩) (fun h => absurd h (Nat.lt_irrefl _)) v2
  have hb3 : Blk (w3.setCell ⟨w.heap.size, 4, none⟩ v2) w.heap.size 43 #[.bool true, v1, .int .u8 (codeOf s.s), .int .u8 (s.s : Int), v2] := b3
  refine ⟨w.heap.size, iown w.heap.size v1, fun k => v2.ownBlock = some k, rfl, ⟨v2, ⟨v1, rfl, hb3, own_weak q2 (Nat.zero_le _), hl, h1⟩, (Bs.of_own q3).by, ?_, ?_, hok⟩, hk, ?_⟩
  · intro a n c e h0 x
    rcases x with x | x
    · exact ow_far q3 hb3 (by decide) a.block (by rw [e]; rfl) x
    · exact hne _ x (by rw [e]; rfl)
  · intro a n c e h0
    show v2.ownBlock = some a.block
    rw [e]; rfl
  · rintro k ((rfl | hk') | hk')
    · exact ⟨Nat.le_refl _, hb3.lt⟩
    · obtain ⟨cs, hh⟩ := own_lt q2 hk'
      exact ⟨by have := own_ge q2 hk'; omega, (Array.getElem?_eq_some_iff.1 hh).1⟩
    · obtain ⟨cs, hh⟩ := own_lt q3 hk'
      exact ⟨by have := own_ge q3 hk'; omega, (Array.getElem?_eq_some_iff.1 hh).1⟩

set_option maxHeartbeats 800000 in
theorem in_copy (p : Nat) (F D : Nat → Prop) (s : Fr.IS) (w : World) (h : In w F D p s) :
    Calls Try.prog 5 #[.pointer (some ⟨p, 0, none⟩)] w (CopyPost w s) := by
  obtain ⟨dv, hI, hD, -, -, hok⟩ := h
  have hdl : s.d.length ≤ 1099511627776 := by
    by_cases h0 : s.s = 0
    · rw [(hok.1 h0).2]; decide
    · have := (hok.2 h0).2.2; omega
  have hle := hI.le
  obtain ⟨bv, -, hb, ho, -, hn⟩ := hI
  obtain ⟨⟨c0, c1, c2, c3, c4⟩, -⟩ := cellsI hb
  obtain ⟨A, c, rfl, _, _⟩ := hD.form
  obtain ⟨Ab, cb, rfl, _, _⟩ := own_form ho
  have hlt := hb.lt
  have hBy := (Bs.of_own ho).by
  have C1 : Hid (∀ u, Kept Nothing w u → Calls Try.prog 14 #[.slice Ab s.l.length cb] u fun r w' => ∃ v', r = .returned v' ∧ w'.ownsRow u.heap.size 5 1 v' s.l.length (bys s.l) ∧ Kept Nothing u w' ∧ (s.s ≠ 0 → v' = .slice none 0 0)) := Lib.hid (fun u hu => by
    by_cases h0 : s.s = 0
    · exact (sl_clone _ _ u (hBy.old hu) hle).mono fun r w' ⟨v', e, h1, h2⟩ => ⟨v', e, h1, h2, fun x => absurd h0 x⟩
    · have e := hn h0
      have e2 := (hok.2 h0).1
      rw [e, e2]
      exact (sl_clone_nil u).mono fun r w' ⟨e, h1⟩ => ⟨_, e, World.ownsRow_nil _ _ _ _, by rw [h1]; exact Kept.refl _ _, fun _ => rfl⟩)
  have C2 : Hid (∀ u, Kept Nothing w u → Calls Try.prog 14 #[.slice A s.d.length c] u fun r w' => ∃ v', r = .returned v' ∧ w'.ownsRow u.heap.size 5 1 v' s.d.length (bys s.d) ∧ Kept Nothing u w') := Lib.hid (fun u hu => sl_clone _ _ u (hD.old hu) hdl)
  have HB := Lib.hid hb
  have tok : True := trivial
  clear hb ho hn hBy hD
  go_enter Try.func5, Try.ntmps5
  go_upto_region 4 with fail
  have k1 := (Kept.refl Nothing w).alloc (.cells #[.bool true, .slice Ab s.l.length cb, .int .u8 (codeOf s.s), .int .u8 (s.s : Int), .slice A s.d.length c] 43)
  have d1 := k1.cell_some c1 (fun x => x)
  clear c0 c2 c3
  have HW := Lib.hid (Blk.fresh w 43 #[.bool true, .slice Ab s.l.length cb, .int .u8 (codeOf s.s), .int .u8 (s.s : Int), .slice A s.d.length c])
  have K1 := Lib.hid k1
  have hsz : (w.alloc (.cells #[.bool true, .slice Ab s.l.length cb, .int .u8 (codeOf s.s), .int .u8 (s.s : Int), .slice A s.d.length c] 43)).heap.size = w.heap.size + 1 := World.size_alloc _ _
  obtain ⟨W1, hW1⟩ : ∃ W1, w.alloc (.cells #[.bool true, .slice Ab s.l.length cb, .int .u8 (codeOf s.s), .int .u8 (s.s : Int), .slice A s.d.length c] 43) = W1 := ⟨_, rfl⟩
  rw [hW1] at HW K1 hsz d1 ⊢
  have HEQ := Lib.hid hW1
  have HSZ := Lib.hid hsz
  clear k1 hW1 hsz
  go_wp2_with fail
  refine (C1.out W1 K1.out).mono ?_
  rintro e w1 ⟨v1, rfl, o1, k1, n1⟩
  obtain ⟨A1, x1, rfl, _, _⟩ := own_form o1
  have b1 := HW.out.kept k1 (fun x => x)
  obtain ⟨⟨-, e1, -, -, e4⟩, f1, -, -, f4⟩ := cellsI b1
  have d4 := (K1.out.trans k1).cell_some c4 (fun x => x)
  have hne : p ≠ w.heap.size := by omega
  have d4' : (w1.setCell ⟨w.heap.size, 1, none⟩ (.slice A1 s.l.length x1)).cell? ⟨p, 4, none⟩ = some (.slice A s.d.length c) := by
    rw [← d4]
    exact (Kept.own w1 w.heap.size 1 _).cell (World.block_lt_of_cell? _ _ d4) hne
  have hsz1 := b1.lt
  have O1 := Lib.hid o1
  have K2 := Lib.hid k1
  have N1 := Lib.hid n1
  clear o1 k1 n1
  go_upto_region 5 with fail
  have k2 : Kept Nothing w (w1.setCell ⟨w.heap.size, 1, none⟩ (.slice A1 s.l.length x1)) := (K1.out.trans K2.out).setCell (p := ⟨w.heap.size, 1, none⟩) (fun h => absurd h (Nat.lt_irrefl _)) _
  have b2 := b1.put 1 (.slice A1 s.l.length x1)
  have hsz2 : (w1.setCell ⟨w.heap.size, 1, none⟩ (.slice A1 s.l.length x1)).heap.size = w1.heap.size := by simp
  obtain ⟨w2, hw2⟩ : ∃ w2, w1.setCell ⟨w.heap.size, 1, none⟩ (.slice A1 s.l.length x1) = w2 := ⟨_, rfl⟩
  rw [hw2] at k2 b2 d4' hsz2 ⊢
  have E2 := Lib.hid hw2
  have K3 := Lib.hid k2
  clear d1 d4 e1 e4 f1 f4 b1 k2 hw2
  go_wp2_with fail
  refine (C2.out w2 K3.out).mono ?_
  rintro e w3 ⟨v2, rfl, o2, k3⟩
  obtain ⟨A2, x2, rfl, _, _⟩ := own_form o2
  have b3 := b2.kept k3 (fun x => x)
  obtain ⟨⟨-, -, -, -, g4⟩, -, -, -, h4⟩ := cellsI (show Blk _ _ _ #[_, _, _, _, _] from b3)
  have O2 := Lib.hid o2
  have K4 := Lib.hid k3
  have HS2 := Lib.hid hsz2
  clear b2 b3 o2 k3 hsz2 d4'
  go_wp2_with fail
  go_ret
  have o1 := O1.out
  rw [HSZ.out] at o1
  have o2 := O2.out
  have hge : w.heap.size + 1 ≤ w2.heap.size := by have := HS2.out; omega
  rw [← HEQ.out] at K2
  refine copy_end K2.out o1 N1.out hle hok E2.out.symm K4.out (own_weak o2 hge) (fun g h1 h2 => ?_)
  obtain ⟨cs, hh⟩ := own_lt O1.out h1
  have hl1 := (Array.getElem?_eq_some_iff.1 hh).1
  have := own_ge o2 h2
  have := HS2.out
  omega

/-- The document's messages are the intake's. -/
theorem Cps.at2 {w : World} {A : Option Addr} {n c : Nat} {l : List Cp} (h : Cps w (.slice A n c) l) {i : Nat} (hi : i < n) :
    ∃ b o x, A = some ⟨b, o, none⟩ ∧ w.cell? ⟨b, o + i * 2, none⟩ = some (.int .u8 ((l.getD i (0, [])).1.toNat : Int)) ∧ w.cell? ⟨b, o + i * 2 + 1, none⟩ = some x ∧ By w x (l.getD i (0, [])).2 := by
  obtain ⟨A', c', hv, _⟩ := h.form
  injection hv with _ e2 _
  obtain ⟨b, o, rfl, hc⟩ := h.at (by omega)
  have hl : i < l.length := by omega
  obtain ⟨h1, u, h2, h3⟩ := hc i hl
  have hd : l.getD i (0, []) = l[i] := by rw [List.getD_eq_getElem?_getD, List.getElem?_eq_getElem hl]; rfl
  rw [hd]
  exact ⟨b, o, u, rfl, h1, h2, h3⟩
theorem equal_mix {w : World} {a b : Value} {l m : List UInt8} (ha : Bs w a l) (hb : By w b m) (n : Nat) :
    Calls Try.prog 12 #[a, b] (w.drewN n) fun e w'' => e = .returned (.bool (l == m)) ∧ ∃ k, w'' = w.drewN k :=
  (by_equal a b l m _ (ha.kept ((Kept.refl Nothing w).drewN n) (NoBytes.nothing _)).by (hb.old ((Kept.refl Nothing w).drewN n))).mono fun _ _ ⟨h1, h2⟩ => ⟨h1, n, h2.symm⟩

set_option maxHeartbeats 400000 in
theorem r3_same (v1 v2 : Value) (l : List Msg) (B1 : Nat) (F1 : Nat → Prop) (w : World) (h1 : Ms w B1 F1 v1 l) (h2 : Cps w v2 l) (hl : l.length ≤ 1000000) :
    Calls Try.prog 11 #[v1, v2] w fun r w' => r = .returned (.bool true) ∧ Kept Nothing w w' := by
  obtain ⟨A1, c1, rfl, hc1, hm1⟩ := alike_len h1
  obtain ⟨A2, c2, rfl, hc2, hm2⟩ := h2.form
  have H1 := Lib.hid h1
  have H2 := Lib.hid h2
  clear h1 h2
  go_enter Try.func11, Try.ntmps11
  go_wp2_with fail
  go_loopw [13] (fun i wr => ∃ k : Nat, i = .int .i64 (k : Int) ∧ k ≤ l.length ∧ Kept Nothing w wr) (fun i _ => l.length - (intOf i).toNat)
  case atStart => exact ⟨0, rfl, Nat.zero_le _, Kept.refl _ _⟩
  case round =>
    obtain ⟨k, rfl, hk, hkk⟩ := hrel
    have KK := Lib.hid hkk
    clear hkk
    by_cases hlt : k < l.length
    · obtain ⟨b1, x1, rfl, p0, p1, hx1⟩ := (H1.out.old KK.out).at hlt
      obtain ⟨b2, o2, x2, rfl, q0, q1, hx2⟩ := (H2.out.old KK.out).at2 hlt
      have X1 := Lib.hid hx1
      have X2 := Lib.hid hx2
      have i1 : (0 : Int) ≤ (k : Int) := by omega
      have i2 : (k : Int) < (l.length : Int) := by omega
      have d1 : (((l.getD k (0, [])).1.toNat : Int) != ((l.getD k (0, [])).1.toNat : Int)) = false := by simp
      have d2 : ((l.getD k (0, [])).2 == (l.getD k (0, [])).2) = true := beq_self_eq_true _
      generalize (l.getD k (0, [])).1.toNat = t at *
      have E := Lib.hid (fun m => equal_mix X1.out X2.out m)
      rw [d2] at E
      clear hx1 hx2 d2
      go_wp2_with fail
      go_quiet ((go_at_call 12; exact E.out _))
      go_wp2
      go_roundw
      case rel => exact ⟨k + 1, by go_num, by omega, KK.out.drewN _⟩
      case measure => simp [intOf]; omega
    · go_wp2
      go_ret
      exact ⟨rfl, KK.out⟩
end Go.Proofs.Ytohkhcobljenjaa
