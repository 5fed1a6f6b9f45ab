
/-
  What Check of chapter 6 does: four closures in an array.
-/
import Derived.Test.YtohgkibpcgfihaaDoorEa
import Derived.BigQuiet
import Derived.Laws.EntriesVeiled
namespace Go.Proofs.YtohgkibpcgfihaaDoor
open Go.RowKit

/-- The boxes of what Check is given. -/
def Bx (p q : Nat) (o : Opn) (v : Value) (n me : Nat) (ins : Bool) (w : World) : Prop :=
  Blk w p 28 #[.int .u8 (o.ver : Int), .int .u16 (o.asn : Int), .int .u16 (o.hold : Int), .int .u32 (o.id : Int), v] ∧
  Blk w q 44 #[.int .u32 (n : Int), .int .u32 (me : Int), .bool ins] ∧ Cps w v o.caps ∧ RdC w
theorem Bx.kept {p q : Nat} {o : Opn} {v : Value} {n me : Nat} {ins : Bool} {w w' : World} (h : Bx p q o v n me ins w) (k : Kept Nothing w w') : Bx p q o v n me ins w' :=
  ⟨h.1.kept k (fun x => x), h.2.1.kept k (fun x => x), h.2.2.1.old k, h.2.2.2.kept k⟩

theorem ck_one (p q : Nat) (o : Opn) (ho : o.fine) (hl : o.caps.length ≤ 1000000) (v : Value) (n me : Nat) (ins : Bool) (w : World) (h : Bx p q o v n me ins w) :
    Calls Tryd.prog 53 #[.pointer (some ⟨p, 0, none⟩), .pointer (some ⟨q, 0, none⟩)] w fun e w' => e = .returned (.tuple #[.int .u8 2, .bool (!(decide (o.number.1 = n) && o.number.2))]) ∧ Kept Nothing w w' := by
  obtain ⟨h1, h2, h3, h4⟩ := h
  have HH := Lib.hid (op_has (o.ver : Int) (o.hold : Int) (o.id : Int) o.asn n ho.2.1 v o.caps w h3 hl)
  rw [show Opn.own o.asn (Cp.number o.caps) = o.number from rfl] at HH
  generalize (decide (o.number.1 = n) && o.number.2) = b at *
  obtain ⟨⟨a0, a1, a2, a3, a4⟩, -⟩ := cells5 h1
  obtain ⟨d0, d1, d2⟩ := cells3 h2
  have hp := h1.lt
  have hq := h2.lt
  obtain ⟨A, c, rfl, _, _⟩ := h3.form
  have HK := Lib.hid (Kept.refl Nothing w)
  clear h1 h2 h3 h4 ho hl
  go_enter Tryd.func53, Tryd.ntmps53
  go_wp2_with (go_at_call 54; refine HH.out.mono ?_; rintro e w1 ⟨rfl, hk⟩)
  go_ret2
  exact ⟨rfl, hk⟩

def w3 (o : Opn) (me : Nat) (ins : Bool) : Bool := decide (o.id = 0) || decide (3758096384 ≤ o.id) || (ins && decide (o.id = me))
set_option maxHeartbeats 1000000 in
theorem ck_two (p q : Nat) (o : Opn) (ho : o.fine) (v : Value) (n me : Nat) (ins : Bool) (w : World) (h : Bx p q o v n me ins w) :
    Calls Tryd.prog 55 #[.pointer (some ⟨p, 0, none⟩), .pointer (some ⟨q, 0, none⟩)] w fun e w' => e = .returned (.tuple #[.int .u8 3, .bool (w3 o me ins)]) ∧ Kept Nothing w w' := by
  obtain ⟨h1, h2, h3, h4⟩ := h
  obtain ⟨⟨a0, a1, a2, a3, a4⟩, -⟩ := cells5 h1
  obtain ⟨d0, d1, d2⟩ := cells3 h2
  have hp := h1.lt
  have hq := h2.lt
  obtain ⟨ver, asn, hold, id, caps⟩ := o
  simp only at a0 a1 a2 a3 a4
  have HK := Lib.hid (Kept.refl Nothing w)
  have HI := Lib.hid ho.2.2.2
  clear h1 h2 h3 h4 ho
  by_cases e0 : id = 0
  · have e : w3 ⟨ver, asn, hold, id, caps⟩ me ins = true := by simp [w3, e0]
    rw [e]
    subst e0
    go_enter Tryd.func55, Tryd.ntmps55
    go_wp2
    go_quiet (fail)
    go_wp2
    go_ret2
    exact ⟨rfl, HK.out.drewN _⟩
  · have e0i : ((id : Int) == 0) = false := by simp; omega
    by_cases e1 : 3758096384 ≤ id
    · have e : w3 ⟨ver, asn, hold, id, caps⟩ me ins = true := by simp [w3, e1]
      rw [e]
      have e1i : (3758096384 : Int) ≤ (id : Int) := by omega
      clear e0 e1 e
      generalize (id : Int) = z at *
      go_enter Tryd.func55, Tryd.ntmps55
      go_wp2
      go_quiet (fail)
      go_wp2
      go_ret2
      exact ⟨rfl, HK.out.drewN _⟩
    · have e1i : decide ((3758096384 : Int) ≤ (id : Int)) = false := by simp; omega
      cases ins with
      | false =>
        have e : w3 ⟨ver, asn, hold, id, caps⟩ me false = false := by simp [w3, e0, e1]
        rw [e]
        clear e0 e1 e
        generalize (id : Int) = z at *
        go_enter Tryd.func55, Tryd.ntmps55
        go_wp2
        go_quiet (fail)
        go_wp2
        go_ret2
        exact ⟨rfl, HK.out.drewN _⟩
      | true =>
        by_cases e2 : id = me
        · have e : w3 ⟨ver, asn, hold, id, caps⟩ me true = true := by simp [w3, e2]
          rw [e]
          subst e2
          clear e0 e1 e
          generalize (id : Int) = z at *
          go_enter Tryd.func55, Tryd.ntmps55
          go_wp2
          go_quiet (fail)
          go_wp2
          go_ret2
          exact ⟨rfl, HK.out.drewN _⟩
        · have e : w3 ⟨ver, asn, hold, id, caps⟩ me true = false := by simp [w3, e0, e1, e2]
          rw [e]
          have e2i : ((id : Int) == (me : Int)) = false := by simp; omega
          clear e0 e1 e2 e
          generalize (id : Int) = z at *
          go_enter Tryd.func55, Tryd.ntmps55
          go_wp2
          go_quiet (fail)
          go_wp2
          go_ret2
          exact ⟨rfl, HK.out.drewN _⟩

def w6 (o : Opn) : Bool := decide (o.hold = 1) || decide (o.hold = 2)
set_option maxHeartbeats 1000000 in
theorem ck_three (p : Nat) (o : Opn) (v : Value) (w : World) (h1 : Blk w p 28 #[.int .u8 (o.ver : Int), .int .u16 (o.asn : Int), .int .u16 (o.hold : Int), .int .u32 (o.id : Int), v]) :
    Calls Tryd.prog 56 #[.pointer (some ⟨p, 0, none⟩)] w fun e w' => e = .returned (.tuple #[.int .u8 6, .bool (w6 o)]) ∧ Kept Nothing w w' := by
  obtain ⟨⟨a0, a1, a2, a3, a4⟩, -⟩ := cells5 h1
  have hp := h1.lt
  obtain ⟨ver, asn, hold, id, caps⟩ := o
  simp only at a0 a1 a2 a3 a4
  have HK := Lib.hid (Kept.refl Nothing w)
  clear h1
  by_cases e0 : hold = 1
  · have e : w6 ⟨ver, asn, hold, id, caps⟩ = true := by simp [w6, e0]
    rw [e]
    subst e0
    go_enter Tryd.func56, Tryd.ntmps56
    go_wp2
    go_quiet (fail)
    go_wp2
    go_ret2
    exact ⟨rfl, HK.out.drewN _⟩
  · have e0i : ((hold : Int) == 1) = false := by simp; omega
    by_cases e1 : hold = 2
    · have e : w6 ⟨ver, asn, hold, id, caps⟩ = true := by simp [w6, e1]
      rw [e]
      subst e1
      go_enter Tryd.func56, Tryd.ntmps56
      go_wp2
      go_quiet (fail)
      go_wp2
      go_ret2
      exact ⟨rfl, HK.out.drewN _⟩
    · have e : w6 ⟨ver, asn, hold, id, caps⟩ = false := by simp [w6, e0, e1]
      rw [e]
      have e1i : ((hold : Int) == 2) = false := by simp; omega
      clear e0 e1 e
      generalize (hold : Int) = z at *
      go_enter Tryd.func56, Tryd.ntmps56
      go_wp2
      go_quiet (fail)
      go_wp2
      go_ret2
      exact ⟨rfl, HK.out.drewN _⟩

theorem ck_four (p : Nat) (o : Opn) (hl : o.caps.length ≤ 1000000) (v : Value) (w : World) (h1 : Blk w p 28 #[.int .u8 (o.ver : Int), .int .u16 (o.asn : Int), .int .u16 (o.hold : Int), .int .u32 (o.id : Int), v]) (h3 : Cps w v o.caps) (hr : RdC w) :
    Calls Tryd.prog 57 #[.pointer (some ⟨p, 0, none⟩)] w fun e w' => e = .returned (.tuple #[.int .u8 7, .bool (!(Cp.ipv4 false o.caps))]) ∧ Kept Nothing w w' := by
  have HC := Lib.hid (cp_ipv4 v o.caps w hr h3 hl)
  generalize Cp.ipv4 false o.caps = b at *
  obtain ⟨⟨a0, a1, a2, a3, a4⟩, -⟩ := cells5 h1
  have hp := h1.lt
  obtain ⟨A, c, rfl, _, _⟩ := h3.form
  clear h1 h3 hl hr
  go_enter Tryd.func57, Tryd.ntmps57
  go_wp2_with (go_at_call 58; refine HC.out.mono ?_; rintro e w1 ⟨rfl, hk⟩)
  go_ret2
  exact ⟨rfl, hk⟩

theorem idx4_0 (a b c d : Value) (w : World) : (Instr.index 98 (.agg #[a, b, c, d]) (.int .i64 0)).run Tryd.prog w = .ok a w := by
  unfold Instr.index
  simp [go_sem, run_underlying Tryd.underlying98, Tryd.sizeOf96]
theorem idx4_1 (a b c d : Value) (w : World) : (Instr.index 98 (.agg #[a, b, c, d]) (.int .i64 1)).run Tryd.prog w = .ok b w := by
  unfold Instr.index
  simp [go_sem, run_underlying Tryd.underlying98, Tryd.sizeOf96]
theorem idx4_2 (a b c d : Value) (w : World) : (Instr.index 98 (.agg #[a, b, c, d]) (.int .i64 2)).run Tryd.prog w = .ok c w := by
  unfold Instr.index
  simp [go_sem, run_underlying Tryd.underlying98, Tryd.sizeOf96]
theorem idx4_3 (a b c d : Value) (w : World) : (Instr.index 98 (.agg #[a, b, c, d]) (.int .i64 3)).run Tryd.prog w = .ok d w := by
  unfold Instr.index
  simp [go_sem, run_underlying Tryd.underlying98, Tryd.sizeOf96]

/-- The first that is wrong. -/
def firstW (b1 b2 b3 b4 : Bool) : Nat := if b1 = true then 2 else if b2 = true then 3 else if b3 = true then 6 else if b4 = true then 7 else 0
theorem sub_first (o : Opn) (n me : Nat) (ins : Bool) : o.sub n me ins = firstW (!(decide (o.number.1 = n) && o.number.2)) (w3 o me ins) (w6 o) (!(Cp.ipv4 false o.caps)) := by
  unfold Opn.sub firstW w3 w6
  cases (decide (o.number.1 = n) && o.number.2) <;> cases Cp.ipv4 false o.caps <;> rfl

def codeOf (s : Nat) : Nat := if s = 0 then 0 else 2
set_option maxRecDepth 20000 in
set_option maxHeartbeats 4000000 in
theorem op_check (o : Opn) (ho : o.fine) (v : Value) (n me : Nat) (ins : Bool) (w : World) (hr : RdC w) (hv : Cps w v o.caps) (hl : o.caps.length ≤ 1000000) :
    Calls Tryd.prog 19 #[.agg #[.int .u8 (o.ver : Int), .int .u16 (o.asn : Int), .int .u16 (o.hold : Int), .int .u32 (o.id : Int), v], .agg #[.int .u32 (n : Int), .int .u32 (me : Int), .bool ins]] w fun e w' =>
      ∃ d, e = .returned (.tuple #[.agg #[.int .u8 (codeOf (o.sub n me ins) : Nat), .int .u8 (o.sub n me ins : Nat)], d]) ∧ By w' d (Opn.data (o.sub n me ins)) ∧ Kept Nothing w w' := by
  obtain ⟨A, c, rfl, _, _⟩ := hv.form
  have HB := Lib.hid (fun u (k : Kept Nothing ((w.alloc (.cells #[.int .u8 (o.ver : Int), .int .u16 (o.asn : Int), .int .u16 (o.hold : Int), .int .u32 (o.id : Int), .slice A o.caps.length c] 28)).alloc (.cells #[.int .u32 (n : Int), .int .u32 (me : Int), .bool ins] 44)) u) =>
    (show Bx w.heap.size (w.alloc (.cells #[.int .u8 (o.ver : Int), .int .u16 (o.asn : Int), .int .u16 (o.hold : Int), .int .u32 (o.id : Int), .slice A o.caps.length c] 28)).heap.size o (.slice A o.caps.length c) n me ins u from
      Bx.kept ⟨(Blk.fresh w _ _).alloc _, Blk.fresh _ _ _, (hv.old ((Kept.refl Nothing w).alloc _)).old ((Kept.refl Nothing _).alloc _), (hr.kept ((Kept.refl Nothing w).alloc _)).kept ((Kept.refl Nothing _).alloc _)⟩ k))
  have hsz : (w.alloc (.cells #[.int .u8 (o.ver : Int), .int .u16 (o.asn : Int), .int .u16 (o.hold : Int), .int .u32 (o.id : Int), .slice A o.caps.length c] 28)).heap.size = w.heap.size + 1 := by simp
  rw [hsz] at HB
  have KW := Lib.hid (((Kept.refl Nothing w).alloc (.cells #[.int .u8 (o.ver : Int), .int .u16 (o.asn : Int), .int .u16 (o.hold : Int), .int .u32 (o.id : Int), .slice A o.caps.length c] 28)).alloc (.cells #[.int .u32 (n : Int), .int .u32 (me : Int), .bool ins] 44))
  have C1 := Lib.hid (fun u k => ck_one w.heap.size (w.heap.size + 1) o ho hl _ n me ins u (HB.out u k))
  have C2 := Lib.hid (fun u k => ck_two w.heap.size (w.heap.size + 1) o ho _ n me ins u (HB.out u k))
  have C3 := Lib.hid (fun u k => ck_three w.heap.size o _ u (HB.out u k).1)
  have C4 := Lib.hid (fun u k => ck_four w.heap.size o hl _ u (HB.out u k).1 (HB.out u k).2.2.1 (HB.out u k).2.2.2)
  rw [sub_first]
  obtain ⟨S, HS⟩ : ∃ S, Hid (firstW (!(decide (o.number.1 = n) && o.number.2)) (w3 o me ins) (w6 o) (!(Cp.ipv4 false o.caps)) = S) := ⟨_, Lib.hid rfl⟩
  rw [HS.out]
  generalize (!(decide (o.number.1 = n) && o.number.2)) = b1 at *
  generalize w3 o me ins = b2 at *
  generalize w6 o = b3 at *
  generalize (!(Cp.ipv4 false o.caps)) = b4 at *
  obtain ⟨ver, asn, hold, id, caps⟩ := o
  simp only at KW C1 C2 C3 C4 hsz ⊢
  have i0 := idx4_0 (.func (.func 53) #[] #[.pointer (some ⟨w.heap.size, 0, none⟩), .pointer (some ⟨w.heap.size + 1, 0, none⟩)]) (.func (.func 55) #[] #[.pointer (some ⟨w.heap.size, 0, none⟩), .pointer (some ⟨w.heap.size + 1, 0, none⟩)]) (.func (.func 56) #[] #[.pointer (some ⟨w.heap.size, 0, none⟩)]) (.func (.func 57) #[] #[.pointer (some ⟨w.heap.size, 0, none⟩)])
  have i1 := idx4_1 (.func (.func 53) #[] #[.pointer (some ⟨w.heap.size, 0, none⟩), .pointer (some ⟨w.heap.size + 1, 0, none⟩)]) (.func (.func 55) #[] #[.pointer (some ⟨w.heap.size, 0, none⟩), .pointer (some ⟨w.heap.size + 1, 0, none⟩)]) (.func (.func 56) #[] #[.pointer (some ⟨w.heap.size, 0, none⟩)]) (.func (.func 57) #[] #[.pointer (some ⟨w.heap.size, 0, none⟩)])
  have i2 := idx4_2 (.func (.func 53) #[] #[.pointer (some ⟨w.heap.size, 0, none⟩), .pointer (some ⟨w.heap.size + 1, 0, none⟩)]) (.func (.func 55) #[] #[.pointer (some ⟨w.heap.size, 0, none⟩), .pointer (some ⟨w.heap.size + 1, 0, none⟩)]) (.func (.func 56) #[] #[.pointer (some ⟨w.heap.size, 0, none⟩)]) (.func (.func 57) #[] #[.pointer (some ⟨w.heap.size, 0, none⟩)])
  have i3 := idx4_3 (.func (.func 53) #[] #[.pointer (some ⟨w.heap.size, 0, none⟩), .pointer (some ⟨w.heap.size + 1, 0, none⟩)]) (.func (.func 55) #[] #[.pointer (some ⟨w.heap.size, 0, none⟩), .pointer (some ⟨w.heap.size + 1, 0, none⟩)]) (.func (.func 56) #[] #[.pointer (some ⟨w.heap.size, 0, none⟩)]) (.func (.func 57) #[] #[.pointer (some ⟨w.heap.size, 0, none⟩)])
  clear hr hv HB ho hl
  go_enter Tryd.func19, Tryd.ntmps19
  go_wp2
  go_loopw [17] (fun i wr => ∃ k : Nat, i = .int .i64 k ∧ Hid (Kept Nothing ((w.alloc (.cells #[.int .u8 (ver : Int), .int .u16 (asn : Int), .int .u16 (hold : Int), .int .u32 (id : Int), .slice A caps.length c] 28)).alloc (.cells #[.int .u32 (n : Int), .int .u32 (me : Int), .bool ins] 44)) wr) ∧ Hid (Blk wr (w.heap.size + 1 + 1) 30 #[.int .u8 0, .int .u8 0]) ∧ k ≤ 4 ∧ (0 < k → b1 = false) ∧ (1 < k → b2 = false) ∧ (2 < k → b3 = false) ∧ (3 < k → b4 = false)) (fun i _ => 4 - (intOf i).toNat)
  case atStart =>
    refine ⟨0, rfl, Lib.hid (((Kept.refl Nothing _).alloc _).alloc _), Lib.hid ?_, by decide, by omega, by omega, by omega, by omega⟩
    have hb := Blk.fresh ((w.alloc (.cells #[.int .u8 (ver : Int), .int .u16 (asn : Int), .int .u16 (hold : Int), .int .u32 (id : Int), .slice A caps.length c] 28)).alloc (.cells #[.int .u32 (n : Int), .int .u32 (me : Int), .bool ins] 44)) 30 #[.int .u8 0, .int .u8 0]
    rw [show ((w.alloc (.cells #[.int .u8 (ver : Int), .int .u16 (asn : Int), .int .u16 (hold : Int), .int .u32 (id : Int), .slice A caps.length c] 28)).alloc (.cells #[.int .u32 (n : Int), .int .u32 (me : Int), .bool ins] 44)).heap.size = w.heap.size + 1 + 1 by simp] at hb
    exact hb.alloc _
  case round =>
    obtain ⟨k, rfl, HK, HF, hk4, g1, g2, g3, g4⟩ := hrel
    rcases (show k = 0 ∨ k = 1 ∨ k = 2 ∨ k = 3 ∨ k = 4 by omega) with rfl | rfl | rfl | rfl | rfl
    ·
      clear g1 g2 g3 g4 hk4
      cases b1 with
      | true =>
        obtain rfl : 2 = S := HS.out
        clear HS
        go_wp2_with (go_at_call 53; with_reducible refine (C1.out _ HK.out).mono ?_; rintro e w1 ⟨rfl, hk⟩; have HK1 := Lib.hid (HK.out.trans hk); have HF1 := Lib.hid (HF.out.kept hk (fun x => x)); clear hk)
        refine (op_fault _ _).mono ?_
        rintro e w2 ⟨rfl, hk⟩
        have HK2 := Lib.hid (HK1.out.trans hk)
        have HF2 := Lib.hid (HF1.out.kept hk (fun x => x))
        clear hk HK1 HF1
        go_wp2_with fail
        refine (op_data 2 (by decide) _).mono ?_
        rintro e w3 ⟨d, rfl, hb, hk⟩
        have HK3 := Lib.hid (KW.out.trans (HK2.out.trans hk))
        have f3 := HF2.out.kept hk (fun x => x)
        have B3 := Lib.hid hb
        have h0 := f3.lt
        have NB := Lib.hid (NoBytes.of_blk f3 (by decide))
        obtain ⟨⟨d0, d1⟩, d2, d3⟩ := full2 f3
        obtain ⟨A1, c1, rfl, _, _⟩ := hb.form
        clear hk hb f3 HK2 HF2
        go_wp2
        refine bodyPost_ret (v := .tuple #[.agg #[.int .u8 2, .int .u8 2], .slice A1 (Opn.data 2).length c1]) (by simp [results, Tryd.results19, go_sem, d0, d1]) rfl ⟨_, rfl, (B3.out.kept (S := Only (w.heap.size + 1 + 1)) ?_ NB.out).by, ?_⟩
        · exact (Kept.own w3 _ 0 _).trans (Kept.own _ _ 1 _)
        · refine Kept.setCell (Kept.setCell HK3.out ?_ _) ?_ _
          all_goals exact fun h => absurd h (by simp; omega)
      | false =>
        go_wp2_with (go_at_call 53; with_reducible refine (C1.out _ HK.out).mono ?_; rintro e w1 ⟨rfl, hk⟩; have HK1 := Lib.hid (HK.out.trans hk); have HF1 := Lib.hid (HF.out.kept hk (fun x => x)); clear hk)
        go_roundw
        case rel => exact ⟨1, by go_num, HK1, HF1, by decide, by simp, by simp, by simp, by simp⟩
        case measure => simp [intOf]
    ·
      obtain rfl := g1 (by decide)
      clear g1 g2 g3 g4 hk4
      cases b2 with
      | true =>
        obtain rfl : 3 = S := HS.out
        clear HS
        go_wp2_with (go_at_call 55; with_reducible refine (C2.out _ HK.out).mono ?_; rintro e w1 ⟨rfl, hk⟩; have HK1 := Lib.hid (HK.out.trans hk); have HF1 := Lib.hid (HF.out.kept hk (fun x => x)); clear hk)
        refine (op_fault _ _).mono ?_
        rintro e w2 ⟨rfl, hk⟩
        have HK2 := Lib.hid (HK1.out.trans hk)
        have HF2 := Lib.hid (HF1.out.kept hk (fun x => x))
        clear hk HK1 HF1
        go_wp2_with fail
        refine (op_data 3 (by decide) _).mono ?_
        rintro e w3 ⟨d, rfl, hb, hk⟩
        have HK3 := Lib.hid (KW.out.trans (HK2.out.trans hk))
        have f3 := HF2.out.kept hk (fun x => x)
        have B3 := Lib.hid hb
        have h0 := f3.lt
        have NB := Lib.hid (NoBytes.of_blk f3 (by decide))
        obtain ⟨⟨d0, d1⟩, d2, d3⟩ := full2 f3
        obtain ⟨A1, c1, rfl, _, _⟩ := hb.form
        clear hk hb f3 HK2 HF2
        go_wp2
        refine bodyPost_ret (v := .tuple #[.agg #[.int .u8 2, .int .u8 3], .slice A1 (Opn.data 3).length c1]) (by simp [results, Tryd.results19, go_sem, d0, d1]) rfl ⟨_, rfl, (B3.out.kept (S := Only (w.heap.size + 1 + 1)) ?_ NB.out).by, ?_⟩
        · exact (Kept.own w3 _ 0 _).trans (Kept.own _ _ 1 _)
        · refine Kept.setCell (Kept.setCell HK3.out ?_ _) ?_ _
          all_goals exact fun h => absurd h (by simp; omega)
      | false =>
        go_wp2_with (go_at_call 55; with_reducible refine (C2.out _ HK.out).mono ?_; rintro e w1 ⟨rfl, hk⟩; have HK1 := Lib.hid (HK.out.trans hk); have HF1 := Lib.hid (HF.out.kept hk (fun x => x)); clear hk)
        go_roundw
        case rel => exact ⟨2, by go_num, HK1, HF1, by decide, by simp, by simp, by simp, by simp⟩
        case measure => simp [intOf]
    ·
      obtain rfl := g1 (by decide)
      obtain rfl := g2 (by decide)
      clear g1 g2 g3 g4 hk4
      cases b3 with
      | true =>
        obtain rfl : 6 = S := HS.out
        clear HS
        go_wp2_with (go_at_call 56; with_reducible refine (C3.out _ HK.out).mono ?_; rintro e w1 ⟨rfl, hk⟩; have HK1 := Lib.hid (HK.out.trans hk); have HF1 := Lib.hid (HF.out.kept hk (fun x => x)); clear hk)
        refine (op_fault _ _).mono ?_
        rintro e w2 ⟨rfl, hk⟩
        have HK2 := Lib.hid (HK1.out.trans hk)
        have HF2 := Lib.hid (HF1.out.kept hk (fun x => x))
        clear hk HK1 HF1
        go_wp2_with fail
        refine (op_data 6 (by decide) _).mono ?_
        rintro e w3 ⟨d, rfl, hb, hk⟩
        have HK3 := Lib.hid (KW.out.trans (HK2.out.trans hk))
        have f3 := HF2.out.kept hk (fun x => x)
        have B3 := Lib.hid hb
        have h0 := f3.lt
        have NB := Lib.hid (NoBytes.of_blk f3 (by decide))
        obtain ⟨⟨d0, d1⟩, d2, d3⟩ := full2 f3
        obtain ⟨A1, c1, rfl, _, _⟩ := hb.form
        clear hk hb f3 HK2 HF2
        go_wp2
        refine bodyPost_ret (v := .tuple #[.agg #[.int .u8 2, .int .u8 6], .slice A1 (Opn.data 6).length c1]) (by simp [results, Tryd.results19, go_sem, d0, d1]) rfl ⟨_, rfl, (B3.out.kept (S := Only (w.heap.size + 1 + 1)) ?_ NB.out).by, ?_⟩
        · exact (Kept.own w3 _ 0 _).trans (Kept.own _ _ 1 _)
        · refine Kept.setCell (Kept.setCell HK3.out ?_ _) ?_ _
          all_goals exact fun h => absurd h (by simp; omega)
      | false =>
        go_wp2_with (go_at_call 56; with_reducible refine (C3.out _ HK.out).mono ?_; rintro e w1 ⟨rfl, hk⟩; have HK1 := Lib.hid (HK.out.trans hk); have HF1 := Lib.hid (HF.out.kept hk (fun x => x)); clear hk)
        go_roundw
        case rel => exact ⟨3, by go_num, HK1, HF1, by decide, by simp, by simp, by simp, by simp⟩
        case measure => simp [intOf]
    ·
      obtain rfl := g1 (by decide)
      obtain rfl := g2 (by decide)
      obtain rfl := g3 (by decide)
      clear g1 g2 g3 g4 hk4
      cases b4 with
      | true =>
        obtain rfl : 7 = S := HS.out
        clear HS
        go_wp2_with (go_at_call 57; with_reducible refine (C4.out _ HK.out).mono ?_; rintro e w1 ⟨rfl, hk⟩; have HK1 := Lib.hid (HK.out.trans hk); have HF1 := Lib.hid (HF.out.kept hk (fun x => x)); clear hk)
        refine (op_fault _ _).mono ?_
        rintro e w2 ⟨rfl, hk⟩
        have HK2 := Lib.hid (HK1.out.trans hk)
        have HF2 := Lib.hid (HF1.out.kept hk (fun x => x))
        clear hk HK1 HF1
        go_wp2_with fail
        refine (op_data 7 (by decide) _).mono ?_
        rintro e w3 ⟨d, rfl, hb, hk⟩
        have HK3 := Lib.hid (KW.out.trans (HK2.out.trans hk))
        have f3 := HF2.out.kept hk (fun x => x)
        have B3 := Lib.hid hb
        have h0 := f3.lt
        have NB := Lib.hid (NoBytes.of_blk f3 (by decide))
        obtain ⟨⟨d0, d1⟩, d2, d3⟩ := full2 f3
        obtain ⟨A1, c1, rfl, _, _⟩ := hb.form
        clear hk hb f3 HK2 HF2
        go_wp2
        refine bodyPost_ret (v := .tuple #[.agg #[.int .u8 2, .int .u8 7], .slice A1 (Opn.data 7).length c1]) (by simp [results, Tryd.results19, go_sem, d0, d1]) rfl ⟨_, rfl, (B3.out.kept (S := Only (w.heap.size + 1 + 1)) ?_ NB.out).by, ?_⟩
        · exact (Kept.own w3 _ 0 _).trans (Kept.own _ _ 1 _)
        · refine Kept.setCell (Kept.setCell HK3.out ?_ _) ?_ _
          all_goals exact fun h => absurd h (by simp; omega)
      | false =>
        go_wp2_with (go_at_call 57; with_reducible refine (C4.out _ HK.out).mono ?_; rintro e w1 ⟨rfl, hk⟩; have HK1 := Lib.hid (HK.out.trans hk); have HF1 := Lib.hid (HF.out.kept hk (fun x => x)); clear hk)
        go_roundw
        case rel => exact ⟨4, by go_num, HK1, HF1, by decide, by simp, by simp, by simp, by simp⟩
        case measure => simp [intOf]
    · obtain rfl := g1 (by decide)
      obtain rfl := g2 (by decide)
      obtain rfl := g3 (by decide)
      obtain rfl := g4 (by decide)
      clear g1 g2 g3 g4 hk4
      obtain rfl : 0 = S := HS.out
      clear HS
      have HK3 := Lib.hid (KW.out.trans HK.out)
      have h0 := HF.out.lt
      obtain ⟨⟨d0, d1⟩, d2, d3⟩ := full2 HF.out
      go_wp2
      refine bodyPost_ret (v := .tuple #[.agg #[.int .u8 0, .int .u8 0], .slice none 0 0]) (by simp [results, Tryd.results19, go_sem, d0, d1]) rfl ⟨_, rfl, (Bs.nil _).by, ?_⟩
      refine Kept.setCell (Kept.setCell HK3.out ?_ _) ?_ _
      all_goals exact fun h => absurd h (by simp; omega)
end Go.Proofs.YtohgkibpcgfihaaDoor
