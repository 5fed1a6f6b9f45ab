
/-
  Chapter 6 as plain data: an OPEN, its own number, what is wrong with it, its form there and back; what Number, has, fault, data, refuse do.
-/
import Derived.Test.YtohgkibpcgfihaaDoorEo
import Derived.Test.YtohgkibpcgfihaaDoorDb
import Derived.Test.YtohgkibpcgfihaaDoorCj
import Derived.Test.YtohgkibpcgfihaaDoorWt
namespace Go.Proofs.YtohgkibpcgfihaaDoor
open Go.RowKit

structure Opn where
  ver : Nat
  asn : Nat
  hold : Nat
  id : Nat
  caps : List Cp

namespace Opn
def zero : Opn := ⟨0, 0, 0, 0, []⟩
def fine (o : Opn) : Prop := o.ver < 256 ∧ o.asn < 65536 ∧ o.hold < 65536 ∧ o.id < 4294967296
/-- The own number, of the field and of what the capabilities tell. -/
def own (a : Nat) (r : Nat × Bool) : Nat × Bool :=
  if r.2 = true then (if r.1 ≠ 0 ∧ (a = r.1 ∨ a = 23456) then (r.1, true) else (0, false))
  else if a ≠ 0 ∧ a ≠ 23456 then (a, true) else (0, false)
def number (o : Opn) : Nat × Bool := own o.asn (Cp.number o.caps)
/-- What is wrong, by its subcode; 0: nothing. -/
def sub (o : Opn) (n me : Nat) (ins : Bool) : Nat :=
  if (decide (o.number.1 = n) && o.number.2) = false then 2
  else if (decide (o.id = 0) || decide (3758096384 ≤ o.id) || (ins && decide (o.id = me))) = true then 3
  else if (decide (o.hold = 1) || decide (o.hold = 2)) = true then 6
  else if Cp.ipv4 false o.caps = false then 7 else 0
def data (s : Nat) : List UInt8 := if s = 1 then [0, 4] else if s = 7 then [1, 4, 0, 1, 0, 1] else []
def put (o : Opn) : List UInt8 × Nat :=
  if (Cp.bytes o.caps).2 ≠ 0 then ([], (Cp.bytes o.caps).2)
  else (UInt8.ofNat o.ver :: two o.asn ++ two o.hold ++ be4 o.id ++ UInt8.ofNat (Cp.bytes o.caps).1.length :: (Cp.bytes o.caps).1, 0)
/-- What is got: the OPEN, the fault's code and subcode, its data. -/
abbrev Res := Opn × Nat × Nat × List UInt8
def bad (s : Nat) : Res := (zero, 2, s, data s)
def got (b : List UInt8) : Opn := ⟨RS.num (b.take 1), RS.num ((b.drop 1).take 2), RS.num ((b.drop 3).take 2), RS.num ((b.drop 5).take 4), (Cp.out [] (b.drop 10)).1⟩
def get (b : List UInt8) : Res :=
  if b.length < 10 then bad 0 else if (b.getD 0 0).toNat ≠ 4 then bad 1 else if b.length ≠ 10 + (b.getD 9 0).toNat then bad 0
  else if (Cp.out [] (b.drop 10)).2.1 ≠ 0 then (zero, (Cp.out [] (b.drop 10)).2.1, (Cp.out [] (b.drop 10)).2.2, []) else (got b, 0, 0, [])

theorem own_lt {a : Nat} {r : Nat × Bool} (ha : a < 65536) (hr : r.1 < 4294967296) : (own a r).1 < 4294967296 := by
  unfold own; repeat' split
  all_goals first | exact hr | exact Nat.lt_trans ha (by decide) | decide
end Opn

/-- The program's OPEN, and the document's. -/
def vOp (o : Opn) (s : Value) : Value := .agg #[.int .u8 (o.ver : Int), .int .u16 (o.asn : Int), .int .u16 (o.hold : Int), .int .u32 (o.id : Int), s]
def vOr (o : Opn) (s : Value) : Value := .agg #[.int .i64 (o.ver : Int), .int .i64 (o.asn : Int), .int .i64 (o.hold : Int), .int .u32 (o.id : Int), s]

set_option maxHeartbeats 1000000 in
theorem op_number (z0 z2 z3 : Int) (a : Nat) (ha : a < 65536) (v : Value) (l : List Cp) (w : World) (hv : Cps w v l) (hl : l.length ≤ 1000000) :
    Calls Tryd.prog 17 #[.agg #[.int .u8 z0, .int .u16 (a : Int), .int .u16 z2, .int .u32 z3, v]] w fun e w' => e = .returned (.tuple #[.int .u32 ((Opn.own a (Cp.number l)).1 : Nat), .bool (Opn.own a (Cp.number l)).2]) ∧ Kept Nothing w w' := by
  have HN := Lib.hid (fun w h => cp_number v l w h hl)
  have HV := Lib.hid (fun w' (k : Kept Nothing w w') => hv.old k)
  obtain ⟨A, c, rfl, _, _⟩ := hv.form
  generalize Cp.number l = R at *
  obtain ⟨n, t⟩ := R
  have HK := Lib.hid ((Kept.refl Nothing w).alloc (.cells #[.int .u8 z0, .int .u16 (a : Int), .int .u16 z2, .int .u32 z3, .slice A l.length c] 28))
  clear hv
  simp only at HN
  rcases t with _ | _
  · by_cases h0 : a = 0
    · have e : Opn.own a (n, false) = (0, false) := by simp [Opn.own, h0]
      rw [e]
      subst h0
      go_enter Tryd.func17, Tryd.ntmps17
      go_wp2_with (go_at_call 51; refine (HN.out _ (HV.out _ HK.out)).mono ?_; rintro e w1 ⟨rfl, hk⟩)
      go_ret2
      exact ⟨rfl, HK.out.trans hk⟩
    · by_cases ht : a = 23456
      · have e : Opn.own a (n, false) = (0, false) := by simp [Opn.own, ht]
        rw [e]
        subst ht
        go_enter Tryd.func17, Tryd.ntmps17
        go_wp2_with (go_at_call 51; refine (HN.out _ (HV.out _ HK.out)).mono ?_; rintro e w1 ⟨rfl, hk⟩)
        go_ret2
        exact ⟨rfl, HK.out.trans hk⟩
      · have e : Opn.own a (n, false) = (a, true) := by simp [Opn.own, h0, ht]
        rw [e]
        have h0i : ((a : Int) != 0) = true := by simp; omega
        have hti : ((a : Int) != 23456) = true := by simp; omega
        go_enter Tryd.func17, Tryd.ntmps17
        go_wp2_with (go_at_call 51; refine (HN.out _ (HV.out _ HK.out)).mono ?_; rintro e w1 ⟨rfl, hk⟩)
        go_ret2
        exact ⟨rfl, HK.out.trans hk⟩
  · by_cases h0 : n = 0
    · have e : Opn.own a (n, true) = (0, false) := by simp [Opn.own, h0]
      rw [e]
      subst h0
      go_enter Tryd.func17, Tryd.ntmps17
      go_wp2_with (go_at_call 51; refine (HN.out _ (HV.out _ HK.out)).mono ?_; rintro e w1 ⟨rfl, hk⟩)
      go_ret2
      exact ⟨rfl, HK.out.trans hk⟩
    · have h0i : ((n : Int) != 0) = true := by simp; omega
      by_cases hn : a = n
      · have e : Opn.own a (n, true) = (n, true) := by simp [Opn.own, hn, h0]
        rw [e]
        subst hn
        go_enter Tryd.func17, Tryd.ntmps17
        go_wp2_with (go_at_call 51; refine (HN.out _ (HV.out _ HK.out)).mono ?_; rintro e w1 ⟨rfl, hk⟩)
        go_ret2
        exact ⟨rfl, HK.out.trans hk⟩
      · have hni : ((a : Int) == (n : Int)) = false := by simp; omega
        by_cases ht : a = 23456
        · have e : Opn.own a (n, true) = (n, true) := by simp [Opn.own, ht, h0]
          rw [e]
          subst ht
          go_enter Tryd.func17, Tryd.ntmps17
          go_wp2_with (go_at_call 51; refine (HN.out _ (HV.out _ HK.out)).mono ?_; rintro e w1 ⟨rfl, hk⟩)
          go_ret2
          exact ⟨rfl, HK.out.trans hk⟩
        · have e : Opn.own a (n, true) = (0, false) := by simp [Opn.own, ht, hn]
          rw [e]
          have hti : ((a : Int) == 23456) = false := by simp; omega
          go_enter Tryd.func17, Tryd.ntmps17
          go_wp2_with (go_at_call 51; refine (HN.out _ (HV.out _ HK.out)).mono ?_; rintro e w1 ⟨rfl, hk⟩)
          go_ret2
          exact ⟨rfl, HK.out.trans hk⟩

theorem op_has (z0 z2 z3 : Int) (a n : Nat) (ha : a < 65536) (v : Value) (l : List Cp) (w : World) (hv : Cps w v l) (hl : l.length ≤ 1000000) :
    Calls Tryd.prog 54 #[.agg #[.int .u8 z0, .int .u16 (a : Int), .int .u16 z2, .int .u32 z3, v], .int .u32 (n : Int)] w fun e w' => e = .returned (.bool (decide ((Opn.own a (Cp.number l)).1 = n) && (Opn.own a (Cp.number l)).2)) ∧ Kept Nothing w w' := by
  have HN := Lib.hid (fun w' (k : Kept Nothing w w') => op_number z0 z2 z3 a ha v l w' (hv.old k) hl)
  obtain ⟨A, c, rfl, _, _⟩ := hv.form
  generalize Opn.own a (Cp.number l) = R at *
  obtain ⟨m, t⟩ := R
  simp only at HN ⊢
  clear hv
  go_enter Tryd.func54, Tryd.ntmps54
  rcases t with _ | _
  · rw [Bool.and_false]
    go_wp2_with (go_at_call 17; refine (HN.out _ ((Kept.refl Nothing w).alloc _)).mono ?_; rintro e w1 ⟨rfl, hk⟩; have HK := Lib.hid (((Kept.refl Nothing w).alloc _).trans hk))
    go_ret
    exact ⟨rfl, HK.out⟩
  · rw [Bool.and_true]
    go_wp2_with (go_at_call 17; refine (HN.out _ ((Kept.refl Nothing w).alloc _)).mono ?_; rintro e w1 ⟨rfl, hk⟩; have HK := Lib.hid (((Kept.refl Nothing w).alloc _).trans hk))
    go_ret
    exact ⟨ret_bool (by rw [Bool.eq_iff_iff]; simp; omega), HK.out⟩

theorem op_fault (s : Int) (w : World) :
    Calls Tryd.prog 59 #[.int .u8 s] w fun e w' => e = .returned (.agg #[.int .u8 2, .int .u8 s]) ∧ Kept Nothing w w' := by
  go_enter Tryd.func59, Tryd.ntmps59
  go_wp2
  exact bodyPost_ret (v := .agg #[.int .u8 2, .int .u8 s]) (by simp [results, Tryd.results59, go_sem]) rfl ⟨rfl, by repeat (first | exact Kept.refl _ _ | apply Kept.alloc)⟩

theorem op_data (s : Nat) (hs : s < 256) (w : World) :
    Calls Tryd.prog 60 #[.int .u8 (s : Int)] w fun e w' => ∃ v, e = .returned v ∧ Bs w' v (Opn.data s) ∧ Kept Nothing w w' := by
  by_cases h1 : s = 1
  · subst h1
    go_enter Tryd.func60, Tryd.ntmps60
    go_wp2
    go_ret
    exact ⟨_, rfl, (Bs.made (l := [0, 4]) (Blk.fresh w 5 #[.int .u8 0, .int .u8 4]) rfl (by simp [maxLen])), (Kept.refl Nothing w).alloc _⟩
  · by_cases h7 : s = 7
    · subst h7
      go_enter Tryd.func60, Tryd.ntmps60
      go_wp2
      go_ret
      exact ⟨_, rfl, (Bs.made (l := [1, 4, 0, 1, 0, 1]) (Blk.fresh w 5 #[.int .u8 1, .int .u8 4, .int .u8 0, .int .u8 1, .int .u8 0, .int .u8 1]) rfl (by simp [maxLen])), (Kept.refl Nothing w).alloc _⟩
    · have e : Opn.data s = [] := by simp [Opn.data, h1, h7]
      rw [e]
      have h1i : ((s : Int) == 1) = false := by simp; omega
      have h7i : ((s : Int) == 7) = false := by simp; omega
      go_enter Tryd.func60, Tryd.ntmps60
      go_wp2
      go_ret
      exact ⟨_, rfl, Bs.nil w, Kept.refl Nothing w⟩

set_option maxHeartbeats 1000000 in
theorem op_refuse (s : Nat) (hs : s < 256) (w : World) :
    Calls Tryd.prog 35 #[.int .u8 (s : Int)] w fun e w' => ∃ v, e = .returned (.tuple #[.agg #[.int .u8 0, .int .u16 0, .int .u16 0, .int .u32 0, .slice none 0 0], .agg #[.int .u8 2, .int .u8 (s : Int)], v]) ∧ Bs w' v (Opn.data s) ∧ Kept Nothing w w' := by
  have HD := Lib.hid (fun w => op_data s hs w)
  have F0 := Lib.hid ((Blk.fresh w 28 #[.int .u8 0, .int .u16 0, .int .u16 0, .int .u32 0, .slice none 0 0]).alloc (.cells #[.int .u8 0, .int .u8 0] 30))
  have F1 := Lib.hid (Blk.fresh (w.alloc (.cells #[.int .u8 0, .int .u16 0, .int .u16 0, .int .u32 0, .slice none 0 0] 28)) 30 #[.int .u8 0, .int .u8 0])
  rw [show (w.alloc (.cells #[.int .u8 0, .int .u16 0, .int .u16 0, .int .u32 0, .slice none 0 0] 28)).heap.size = w.heap.size + 1 by simp] at F1
  have KW := Lib.hid (((Kept.refl Nothing w).alloc (.cells #[.int .u8 0, .int .u16 0, .int .u16 0, .int .u32 0, .slice none 0 0] 28)).alloc (.cells #[.int .u8 0, .int .u8 0] 30))
  go_enter Tryd.func35, Tryd.ntmps35
  go_wp2_with fail
  refine (op_fault _ _).mono ?_
  rintro e w1 ⟨rfl, hk⟩
  have K1 := Lib.hid hk
  clear hk
  go_wp2_with fail
  refine (HD.out _).mono ?_
  rintro e w2 ⟨v, rfl, hb, hk⟩
  have hk2 := K1.out.trans hk
  have f0 := F0.out.kept hk2 (fun x => x)
  have f1 := F1.out.kept hk2 (fun x => x)
  have B2 := Lib.hid hb
  have K2 := Lib.hid (KW.out.trans hk2)
  have NB := Lib.hid (NoBytes.two f0 f1 (by decide) (by decide))
  have h0 := f0.lt
  have h1 := f1.lt
  obtain ⟨⟨a0, a1, a2, a3, a4⟩, a5, a6, a7, a8, a9⟩ := full5 f0
  obtain ⟨⟨d0, d1⟩, d2, d3⟩ := full2 f1
  obtain ⟨A, c, rfl, _, _⟩ := hb.form
  clear hk hb hk2 K1 F0 F1 KW f0 f1
  go_wp2
  refine bodyPost_ret (v := .tuple #[.agg #[.int .u8 0, .int .u16 0, .int .u16 0, .int .u32 0, .slice none 0 0], .agg #[.int .u8 2, .int .u8 (s : Int)], .slice A (Opn.data s).length c]) (by simp [results, Tryd.results35, go_sem, a0, a1, a2, a3, a4, d0, d1]) rfl ⟨_, rfl, B2.out.kept (S := fun k => k = w.heap.size ∨ k = w.heap.size + 1) ?_ NB.out, ?_⟩
  · refine Kept.setCell (Kept.setCell (Kept.setCell (Kept.setCell (Kept.setCell (Kept.setCell (Kept.setCell (Kept.refl _ _) ?_ _) ?_ _) ?_ _) ?_ _) ?_ _) ?_ _) ?_ _
    all_goals (intro _; first | exact Or.inl rfl | exact Or.inr rfl)
  · refine Kept.setCell (Kept.setCell (Kept.setCell (Kept.setCell (Kept.setCell (Kept.setCell (Kept.setCell K2.out ?_ _) ?_ _) ?_ _) ?_ _) ?_ _) ?_ _) ?_ _
    all_goals exact fun h => absurd h (by simp)

def shortN (n : Nat) : Nat := if n < 65536 then n else 23456
theorem op_short (n : Nat) (h : n < 4294967296) (w : World) :
    Calls Tryd.prog 62 #[.int .u32 (n : Int)] w fun e w' => e = .returned (.int .u16 (shortN n : Nat)) ∧ w = w' := by
  by_cases hn : n < 65536
  · have e : shortN n = n := if_pos hn
    rw [e]
    go_enter Tryd.func62, Tryd.ntmps62
    go_wp2
    go_ret
    exact ⟨rfl, rfl⟩
  · have e : shortN n = 23456 := if_neg hn
    rw [e]
    have hi : (65535 : Int) < n := by omega
    go_enter Tryd.func62, Tryd.ntmps62
    go_wp2
    go_ret
    exact ⟨rfl, rfl⟩

set_option maxHeartbeats 1000000 in
theorem op_ours (n hold id : Nat) (h : n < 4294967296) (w : World) (hr : RdC w) :
    Calls Tryd.prog 21 #[.int .u32 (n : Int), .int .u16 (hold : Int), .int .u32 (id : Int)] w fun e w' => ∃ rv, e = .returned (.agg #[.int .u8 4, .int .u16 (shortN n : Nat), .int .u16 (hold : Int), .int .u32 (id : Int), rv]) ∧ CpsO (fun k => k < w.heap.size) w' rv (oursL n) ∧ Kept Nothing w w' := by
  have HS := Lib.hid (fun w => op_short n h w)
  have HO := Lib.hid (cp_ours_off n h _ (hr.kept ((Kept.refl Nothing w).alloc (.cells #[.int .u8 0, .int .u16 0, .int .u16 0, .int .u32 0, .slice none 0 0] 28))))
  have F0 := Lib.hid (Blk.fresh w 28 #[.int .u8 0, .int .u16 0, .int .u16 0, .int .u32 0, .slice none 0 0])
  have KW := Lib.hid ((Kept.refl Nothing w).alloc (.cells #[.int .u8 0, .int .u16 0, .int .u16 0, .int .u32 0, .slice none 0 0] 28))
  rw [show (w.alloc (.cells #[.int .u8 0, .int .u16 0, .int .u16 0, .int .u32 0, .slice none 0 0] 28)).heap.size = w.heap.size + 1 by simp] at HO
  clear hr
  generalize shortN n = sn at *
  go_enter Tryd.func21, Tryd.ntmps21
  go_wp2_with fail
  refine (HS.out _).mono ?_
  rintro e w1 ⟨rfl, rfl⟩
  go_wp2_with fail
  refine HO.out.mono ?_
  rintro e w2 ⟨rv, rfl, hc, hk⟩
  have f0 := F0.out.kept hk (fun x => x)
  have K2 := Lib.hid (KW.out.trans hk)
  have h0 := f0.lt
  obtain ⟨⟨a0, a1, a2, a3, a4⟩, a5, a6, a7, a8, a9⟩ := full5 f0
  obtain ⟨A, c, rfl, _, _⟩ := hc.form
  have HC := Lib.hid hc
  clear hc hk F0 KW f0
  go_wp2
  refine bodyPost_ret (v := .agg #[.int .u8 4, .int .u16 (sn : Int), .int .u16 (hold : Int), .int .u32 (id : Int), .slice A (oursL n).length c]) (by simp [results, Tryd.results21, go_sem, a0, a1, a2, a3, a4]) rfl ⟨_, rfl, (HC.out.off ?_).less (fun k (hk : k < w.heap.size) => Nat.lt_succ_of_lt hk), ?_⟩
  · repeat (first | exact Kept.refl _ _ | refine Kept.setCell ?_ (fun _ => Nat.lt_succ_self _) _)
  · repeat (first | exact K2.out | refine Kept.setCell ?_ (fun h => absurd h (by simp)) _)
end Go.Proofs.YtohgkibpcgfihaaDoor
