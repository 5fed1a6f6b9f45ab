
/-
  What the program's Bytes of chapter 5 does.
-/
import Derived.Test.YtohgkibpcgfihaaDoorCh
namespace Go.Proofs.YtohgkibpcgfihaaDoor
open Go.RowKit

/-- A writer all of whose blocks are new since W. -/
def Nw (W w : World) (p : Nat) (s : WS) : Prop := ∃ F, Wr w F p s ∧ Sub W F Nothing ∧ Kept Nothing W w
theorem Nw.old {W w w' : World} {p : Nat} {s : WS} (h : Nw W w p s) (k : Kept Nothing w w') : Nw W w' p s := by
  obtain ⟨F, h1, h2, h3⟩ := h
  exact ⟨F, h1.kept k (fun _ _ x => x), h2, h3.trans k⟩
theorem Nw.kept {W w : World} {p : Nat} {s : WS} (h : Nw W w p s) : Kept Nothing W w := by obtain ⟨_, _, _, h⟩ := h; exact h
theorem kept_news {F : Nat → Prop} {a b c : World} (h : Kept Nothing a b) (k : Kept F b c) (hs : Sub a F Nothing) : Kept Nothing a c :=
  h.trans_new k (fun i hi x => by rcases hs i x with y | y; exact y; omega)
theorem Nw.call {W w : World} {p : Nat} {s s' : WS} {f : FuncId} {args : Array Value} (h : Nw W w p s)
    (hc : ∀ F, Wr w F p s → Calls Tryd.prog f args w fun r w' => ∃ F', r = .returned (.pointer (some ⟨p, 0, none⟩)) ∧ Wr w' F' p s' ∧ Kept F w w' ∧ Sub w F' F) :
    Calls Tryd.prog f args w fun r w' => r = .returned (.pointer (some ⟨p, 0, none⟩)) ∧ Nw W w' p s' := by
  obtain ⟨F, h1, h2, h3⟩ := h
  exact (hc F h1).mono fun e w' ⟨F', he, hw, hk, hs⟩ => ⟨he, F', hw, h2.trans hs h3.size, kept_news h3 hk h2⟩
/-- What is no writer's stays, too. -/
theorem Nw.call_blk {W w : World} {p : Nat} {s s' : WS} {f : FuncId} {args : Array Value} {g : Nat} {t : TypeId} {cs : Array Value} (h : Nw W w p s) (hb : Blk w g t cs) (ht : t ≠ 123 ∧ t ≠ 5 ∧ t ≠ 128)
    (hc : ∀ F, Wr w F p s → Calls Tryd.prog f args w fun r w' => ∃ F', r = .returned (.pointer (some ⟨p, 0, none⟩)) ∧ Wr w' F' p s' ∧ Kept F w w' ∧ Sub w F' F) :
    Calls Tryd.prog f args w fun r w' => r = .returned (.pointer (some ⟨p, 0, none⟩)) ∧ Nw W w' p s' ∧ Blk w' g t cs := by
  obtain ⟨F, h1, h2, h3⟩ := h
  refine (hc F h1).mono fun e w' ⟨F', he, hw, hk, hs⟩ => ⟨he, ⟨F', hw, h2.trans hs h3.size, kept_news h3 hk h2⟩, hb.kept hk (fun x => ?_)⟩
  obtain ⟨cs', t', hh, hk'⟩ := h1.kinds x
  unfold Blk at hb
  rw [hb] at hh
  injection hh with hh
  injection hh with _ h5
  subst h5
  rcases hk' with e | e | e
  · exact ht.1 e
  · exact ht.2.1 e
  · exact ht.2.2 e

def longC (c : Cp) : Bool := decide (253 < c.2.length)
theorem cp_long (k : UInt8) (v : Value) (l : List UInt8) (w : World) (hv : By w v l) :
    Calls Tryd.prog 75 #[.agg #[by8 k, v]] w fun e w' => e = .returned (.bool (decide (253 < l.length))) ∧ Kept Nothing w w' := by
  obtain ⟨A, c, rfl, hc, hm⟩ := hv.form
  unfold by8
  have hd : decide ((253 : Int) < (l.length : Int)) = decide (253 < l.length) := by
    by_cases h : 253 < l.length
    · rw [decide_eq_true h]; simp; omega
    · rw [decide_eq_false h]; simp; omega
  have HD := Lib.hid hd
  clear hv hm hd
  go_enter Tryd.func75, Tryd.ntmps75
  go_wp2
  go_ret
  exact ⟨ret_bool (by simpa using HD.out), (Kept.refl _ w).alloc _⟩

set_option maxHeartbeats 1000000 in
theorem sl_index_long (v : Value) (l : List Cp) (w : World) (hv : Cps w v l) :
    Calls Tryd.prog 88 #[v, .func (.func 75) #[] #[]] w fun e w' => ∃ z : Int, e = .returned (.int .i64 z) ∧ decide (0 ≤ z) = l.any longC ∧ Kept Nothing w w' := by
  obtain ⟨A, c, rfl, hc, hm⟩ := hv.form
  unfold maxLen at hm
  have HV := Lib.hid hv
  clear hv
  go_enter Tryd.func88, Tryd.ntmps88
  go_wp2
  go_loopw [8] (fun i wr => ∃ k : Nat, k ≤ l.length ∧ i = .int .i64 (k : Int) ∧ Kept Nothing w wr ∧ Hid ((l.drop k).any longC = l.any longC)) (fun i _ => l.length - (intOf i).toNat)
  case atStart => exact ⟨0, Nat.zero_le _, rfl, Kept.refl _ _, Lib.hid rfl⟩
  case round =>
    obtain ⟨k, hk, rfl, hkw, HR⟩ := hrel
    by_cases hlt : k < l.length
    · obtain ⟨b, o, rfl, hcell⟩ := HV.out.at (by omega)
      obtain ⟨q0, u, q1, q2⟩ := hcell k hlt
      have c0 := hkw.cell_some q0 (fun x => x)
      have c1 := hkw.cell_some q1 (fun x => x)
      obtain ⟨A1, cc1, rfl, _, _⟩ := q2.form
      have HB := Lib.hid (q2.old hkw)
      have HD := Lib.hid (Cp.drop_next hlt)
      have HK := Lib.hid hkw
      have hR := HR.out
      rw [HD.out, List.any_cons] at hR
      generalize hP : l[k] = P at *
      obtain ⟨kd, val⟩ := P
      simp only at c0 c1 HB
      have hL : longC (kd, val) = decide (253 < val.length) := rfl
      rw [hL] at hR
      have HW := Lib.hid (cp_long kd (.slice A1 val.length cc1) val _ HB.out)
      unfold by8 at c0 HW
      clear hcell q0 q1 q2 hkw hP HD HB hL
      cases hlong : decide (253 < val.length) with
      | true =>
        rw [hlong] at hR HW
        rw [Bool.true_or] at hR
        have HR2 := Lib.hid hR
        clear hlong HR hR
        go_wp2_with (go_at_call 75; with_reducible refine (HW.out).mono ?_; rintro e w1 ⟨rfl, hk1⟩)
        go_ret
        exact ⟨_, rfl, by rw [← HR2.out]; simp, HK.out.trans hk1⟩
      | false =>
        rw [hlong] at hR HW
        rw [Bool.false_or] at hR
        have HR2 := Lib.hid hR
        clear hlong HR hR
        go_wp2_with (go_at_call 75; with_reducible refine (HW.out).mono ?_; rintro e w1 ⟨rfl, hk1⟩)
        go_roundw
        case rel => exact ⟨k + 1, by omega, by go_num, HK.out.trans hk1, HR2⟩
        case measure => simp [intOf]; omega
    · have hR := HR.out
      rw [List.drop_eq_nil_of_le (by omega)] at hR
      have HR2 := Lib.hid hR
      clear HR hR
      go_wp2
      go_ret
      exact ⟨_, rfl, by rw [← HR2.out]; rfl, hkw⟩

theorem sl_contains_long (v : Value) (l : List Cp) (w : World) (hv : Cps w v l) :
    Calls Tryd.prog 74 #[v, .func (.func 75) #[] #[]] w fun r w' => r = .returned (.bool (l.any longC)) ∧ Kept Nothing w w' := by
  have HC := Lib.hid (sl_index_long v l w hv)
  clear hv
  go_enter Tryd.func74, Tryd.ntmps74
  go_wp2_with fail
  refine HC.out.mono ?_
  rintro e w' ⟨z, rfl, hz, hk⟩
  have HZ := Lib.hid hz
  clear hz
  go_wp2
  go_ret
  exact ⟨ret_bool HZ.out, hk⟩

/-- One capability laid. -/
def WS.cap (s : WS) (c : Cp) : WS := (((s.lay [c.1]).hold 1).lay c.2).fill
theorem WS.cap_ok {l : List UInt8} {hs : List (Nat × Nat)} {c : Cp} (hc : c.2.length < 256) : (WS.mk l hs 0).cap c = WS.mk (l ++ Cp.form c) hs 0 := by
  have e1 : (WS.mk l hs 0).lay [c.1] = WS.mk (l ++ [c.1]) hs 0 := if_pos rfl
  have e2 : (WS.mk (l ++ [c.1]) hs 0).hold 1 = WS.mk (l ++ [c.1] ++ [0]) (hs ++ [(1, (l ++ [c.1]).length + 1)]) 0 := by
    unfold WS.hold
    rw [if_pos (.inl rfl), if_pos rfl]
    rfl
  have e3 : (WS.mk (l ++ [c.1] ++ [0]) (hs ++ [(1, (l ++ [c.1]).length + 1)]) 0).lay c.2 = WS.mk (l ++ [c.1] ++ [0] ++ c.2) (hs ++ [(1, (l ++ [c.1]).length + 1)]) 0 := if_pos rfl
  unfold WS.cap
  rw [e1, e2, e3]
  unfold WS.fill
  rw [if_pos rfl, List.getLast?_append]
  simp only [List.getLast?_singleton, Option.some_or]
  have hn : (l ++ [c.1] ++ [0] ++ c.2).length - ((l ++ [c.1]).length + 1) = c.2.length := by simp; omega
  rw [hn, if_neg (by show ¬ 256 ^ 1 ≤ _; omega), List.dropLast_append_of_ne_nil (by simp)]
  simp only [List.dropLast_singleton, List.append_nil]
  congr 1
  unfold WS.tell WS.tell
  rw [show (l ++ [c.1]).length + 1 - 1 - 0 = (l ++ [c.1]).length from by omega, List.append_assoc (l ++ [c.1]), List.set_append_right _ _ (Nat.le_refl _)]
  simp [Cp.form]
end Go.Proofs.YtohgkibpcgfihaaDoor
