
/-
  session: the law's of and like; rows of events with small numbers.
-/
import Derived.Test.YtembdobkgpojfaaDoorSOb
namespace Go.Proofs.YtembdobkgpojfaaDoor
open Go.RowKit

theorem conv_strR {w : World} {v : Value} {l : List UInt8} (h : By w v l) : (convert 29 9 v).run Tryd.prog w = .ok (.string ⟨l.toArray⟩) w := by
  obtain ⟨A, c, rfl, _, _⟩ := h.form
  have hs := h.src
  rw [run_convert_bytes_string w _ _ 5 A l.length c Tryd.underlying29 Tryd.underlying5 Tryd.underlying9]
  cases A with
  | none =>
    obtain rfl : l = [] := List.eq_nil_of_length_eq_zero (hs.2.1 rfl)
    rfl
  | some a =>
    have hl := run_loadCells_list (P := Tryd.prog) w a (bys l) (fun j u hu => hs.2.2.1 a rfl j u hu)
    rw [length_bys] at hl
    rw [run_bytesToString w a l.length c (l.map fun b => (b.toNat : Int)) (by rw [hl]; simp [bys, by8, Function.comp_def]), foldl_push_byteCells]
    simp
theorem wrap_small {x : Nat} (h : x < 256) : IntKind.i64.wrap (x : Int) = (x : Int) := by
  simp only [IntKind.wrap, IntKind.bits, IntKind.signed]
  simp
  omega
def Sm.Act.sm (a : Sm.Act) : Prop := a.what < 256 ∧ a.code < 256 ∧ a.sub < 256
theorem Sm.ends_sm (st : Nat) (b : Bool) (c s : Nat) (d : Bool) (hc : c < 256) (hs : s < 256) : ∀ a ∈ (Sm.ends st b c s d).2, a.sm := by
  unfold Sm.ends Sm.tell
  simp only
  by_cases h1 : c ≠ 0 ∨ s ≠ 0 <;> by_cases h6 : st = 6 <;> cases b <;> simp [h1, h6, Sm.a0, Sm.set, Sm.unset, Sm.Act.sm, hc, hs]
def Sm.SmR (r : Sm.M × List Sm.Act) : Prop := ∀ a ∈ r.2, a.sm
theorem Sm.holds_sm (h : Nat) : ∀ a ∈ Sm.holds h, a.sm := by
  unfold Sm.holds
  split <;> simp [Sm.set, Sm.Act.sm]
theorem Sm.wrong_sm (m : Sm.M) (c s : Nat) (hc : c < 256) (hs : s < 256) : Sm.SmR (Sm.wrong m c s) := by
  unfold Sm.wrong
  split
  · simp [Sm.SmR]
  · exact Sm.ends_sm _ _ _ _ _ hc hs
theorem Sm.early_sm (m : Sm.M) (k : Int) (x : Nat) : Sm.SmR (Sm.early m k x) := by
  unfold Sm.early
  repeat' split
  all_goals first
    | exact Sm.ends_sm _ _ _ _ _ (by decide) (by decide)
    | simp [Sm.SmR, Sm.a0, Sm.set, Sm.unset, Sm.send, Sm.Act.sm]
theorem Sm.message_sm (m : Sm.M) (x h : Nat) (hst : m.state - 3 < 256) : Sm.SmR (Sm.message m x h) := by
  have hh := Sm.holds_sm m.hold
  unfold Sm.message
  repeat' split
  all_goals first
    | exact Sm.ends_sm _ _ _ _ _ (by decide) hst
    | exact hh
    | (intro a ha; simp only [List.mem_append, List.mem_singleton] at ha; rcases ha with ha | rfl; exact hh a ha; simp [Sm.a0, Sm.Act.sm])
    | simp [Sm.SmR, Sm.a0, Sm.set, Sm.unset, Sm.send, Sm.Act.sm]
theorem Sm.step_sm (m : Sm.M) (hm : Sm.Ok m) (e : Sm.Ev) (hc : e.code < 256) (hs : e.sub < 256) : Sm.SmR (Sm.step m e) := by
  have hst : m.state - 3 < 256 := by have := hm.2.1; omega
  unfold Sm.step
  repeat' split
  all_goals first
    | exact Sm.wrong_sm _ _ _ (by decide) (by decide)
    | exact Sm.early_sm _ _ _
    | exact Sm.message_sm _ _ _ hst
    | exact Sm.ends_sm _ _ _ _ _ (by decide) (by decide)
    | exact Sm.ends_sm _ _ _ _ _ hc hs
    | simp [Sm.SmR, Sm.a0, Sm.set, Sm.unset, Sm.send, Sm.Act.sm]
set_option maxRecDepth 100000 in
set_option maxHeartbeats 2000000 in
theorem s_of (kd ho : Int) (x c s : Nat) (hx : x < 256) (hc : c < 256) (hs : s < 256) (A : Option Addr) (n cc : Nat) (w : World) :
    Calls Tryd.prog 12 #[.agg #[.int .i64 kd, .int .u8 x, .int .i64 ho, .int .u8 c, .int .u8 s, .slice A n cc]] w fun e w' => e = .returned (.agg #[.int .i64 kd, .int .i64 x, .int .i64 ho, .int .i64 c, .int .i64 s, .slice A n cc]) ∧ Kept Nothing w w' := by
  have h1 := wrap_small hx
  have h2 := wrap_small hc
  have h3 := wrap_small hs
  obtain ⟨E0, R0, K0⟩ := boxes2 w 31 39 #[.int .i64 kd, .int .u8 x, .int .i64 ho, .int .u8 c, .int .u8 s, .slice A n cc] #[.int .i64 0, .int .i64 0, .int .i64 0, .int .i64 0, .int .i64 0, .slice none 0 0]
  go_enter Tryd.func12, Tryd.ntmps12
  go_upto_region 1 with fail
  change Code.wp _ _ _ _ ((w.alloc (.cells #[.int .i64 kd, .int .u8 x, .int .i64 ho, .int .u8 c, .int .u8 s, .slice A n cc] 31)).alloc (.cells #[.int .i64 0, .int .i64 0, .int .i64 0, .int .i64 0, .int .i64 0, .slice none 0 0] 39))
  generalize (w.alloc (.cells #[.int .i64 kd, .int .u8 x, .int .i64 ho, .int .u8 c, .int .u8 s, .slice A n cc] 31)).alloc (.cells #[.int .i64 0, .int .i64 0, .int .i64 0, .int .i64 0, .int .i64 0, .slice none 0 0] 39) = W0 at *
  have e0 : W0.cell? ⟨w.heap.size, 0, none⟩ = some (.int .i64 kd) := E0.cell 0
  have e1 : W0.cell? ⟨w.heap.size, 1, none⟩ = some (.int .u8 x) := E0.cell 1
  have e2 : W0.cell? ⟨w.heap.size, 2, none⟩ = some (.int .i64 ho) := E0.cell 2
  have e3 : W0.cell? ⟨w.heap.size, 3, none⟩ = some (.int .u8 c) := E0.cell 3
  have e4 : W0.cell? ⟨w.heap.size, 4, none⟩ = some (.int .u8 s) := E0.cell 4
  have e5 : W0.cell? ⟨w.heap.size, 5, none⟩ = some (.slice A n cc) := E0.cell 5
  have RH := Lib.hid R0
  have KH := Lib.hid K0
  clear E0 R0 K0
  go_wp2_with (refine wpList_store_row rfl 39 _ _ rfl (w.heap.size + 1) #[.int .i64 kd, .int .i64 x, .int .i64 ho, .int .i64 c, .int .i64 s, .slice A n cc] rfl rfl 39 _ RH.out (by kernel_rfl) rfl (by kernel_rfl) ?_)
  have hB := setRow_heap W0 (w.heap.size + 1) _ #[.int .i64 kd, .int .i64 x, .int .i64 ho, .int .i64 c, .int .i64 s, .slice A n cc] _ _ RH.out
  refine bodyPost_ret (v := .agg #[.int .i64 kd, .int .i64 x, .int .i64 ho, .int .i64 c, .int .i64 s, .slice A n cc]) ?_ rfl ⟨rfl, KH.out.trans_new (Kept.setRow _ _) (fun i hi (e : i = w.heap.size + 1) => by omega)⟩
  exact results_cell_row (p := 2) rfl _ _ (w.heap.size + 1) 39 _ (0, 0) _ rfl hB Tryd.underlying39 rfl (by kernel_rfl)
/-- Two actions, the program's and the document's, in their boxes. -/
structure Two2 (w u : World) (a b : Nat) (z : Sm.Act) (dA : Option Addr) (dn dc : Nat) (eA : Option Addr) (en ec : Nat) : Prop where
  k : Kept Nothing w u
  p : Blk u a 109 #[.int .i64 z.act, .int .u8 z.what, .int .i64 z.ticks, .int .u8 z.code, .int .u8 z.sub, .slice dA dn dc]
  q : Blk u b 107 #[.int .i64 z.act, .int .i64 z.what, .int .i64 z.ticks, .int .i64 z.code, .int .i64 z.sub, .slice eA en ec]
theorem blk_new {w : World} {n : Nat} {t : TypeId} {cs : Array Value} (h : n = w.heap.size) : Blk (w.alloc (.cells cs t)) n t cs := by subst h; exact Blk.fresh w t cs
set_option maxRecDepth 100000 in
set_option maxHeartbeats 8000000 in
theorem s_like (l : List Sm.Act) (bs : List UInt8) (hsm : ∀ a ∈ l, a.sm) (A : Option Addr) (c : Nat) (B : Option Addr) (c2 : Nat) (w : World) (ha : Acs .u8 w (.slice A l.length c) l bs) (hb : Acs .i64 w (.slice B l.length c2) l bs) :
    Calls Tryd.prog 13 #[.slice A l.length c, .slice B l.length c2] w fun e w' => e = .returned (.bool true) ∧ Kept Nothing w w' := by
  have hal : l.length ≤ 9223372036854775807 := by
    obtain ⟨_, _, e1, h1, h2⟩ := ha.form
    unfold maxLen at h2
    omega
  have HA := Lib.hid ha
  have HB := Lib.hid hb
  have HS := Lib.hid hsm
  have hll : ((l.length : Int) == (l.length : Int)) = true := beq_self_eq_true _
  clear ha hb hsm
  go_enter Tryd.func13, Tryd.ntmps13
  go_wp2
  go_loopw [5] (fun i wr => ∃ k : Nat, i = .int .i64 (k : Int) ∧ k ≤ l.length ∧ Hid (Kept Nothing w wr)) (fun i _ => l.length - (intOf i).toNat)
  case atStart => exact ⟨0, rfl, by omega, Lib.hid (Kept.refl _ _)⟩
  case round =>
    obtain ⟨k, rfl, hk, hK⟩ := hrel
    by_cases hlt : k < l.length
    · have hlt' : (k : Int) < (l.length : Int) := by omega
      obtain ⟨b1, o1, rfl, h1⟩ := (HA.out.old hK.out).at (by omega)
      obtain ⟨b2, o2, rfl, h2⟩ := (HB.out.old hK.out).at (by omega)
      obtain ⟨dA, dn, dc, hy1, p0, p1, p2, p3, p4, p5⟩ := h1 k hlt
      obtain ⟨eA, en, ec, hy2, q0, q1, q2, q3, q4, q5⟩ := h2 k hlt
      have HZ := Lib.hid (HS.out l[k] (List.getElem_mem _))
      generalize l[k] = z at *
      obtain ⟨B3, hB3⟩ : ∃ B3, (if z.d = true then bs else []) = B3 := ⟨_, rfl⟩
      rw [hB3] at hy1 hy2
      have HY1 := Lib.hid hy1
      have HY2 := Lib.hid hy2
      clear hB3 hy1 hy2 h1 h2
      have hb1 : b1 < wr.heap.size := World.block_lt_of_cell? _ _ p0
      have hb2 : b2 < wr.heap.size := World.block_lt_of_cell? _ _ q0
      go_upto_region 6 with fail
      have KD : Hid (Kept Nothing wr wr.drew) := Lib.hid (Kept.refl Nothing wr).drew
      go_cut [6, 7] (fun p q wx => ∃ a b, p = .pointer (some ⟨a, 0, none⟩) ∧ q = .pointer (some ⟨b, 0, none⟩) ∧ Hid (Two2 wr wx a b z dA dn dc eA en ec))
      case first =>
        go_region_law (fail)
        all_goals
          go_wp2
          go_meet
          refine ⟨_, _, rfl, rfl, Lib.hid ⟨?_, ?_, ?_⟩⟩
          · first
              | exact (((Kept.refl Nothing wr).alloc _).alloc _).drew
              | exact (((Kept.refl Nothing wr).drew.alloc _).alloc _)
          · first
              | exact ((Blk.fresh wr _ _).alloc _).drew
              | exact (blk_new (by simp)).drew
          · first
              | exact ((Blk.fresh wr _ _).alloc _).drew
              | exact (blk_new (by simp)).drew
      case rest =>
        obtain ⟨a, b, rfl, rfl, hT⟩ := hcut
        clear p0 p1 p2 p3 p4 p5 q0 q1 q2 q3 q4 q5 KD
        have hKK := Lib.hid (hK.out.trans hT.out.k)
        have p0 := hT.out.p.cell 0
        have p1 := hT.out.p.cell 1
        have p2 := hT.out.p.cell 2
        have p3 := hT.out.p.cell 3
        have p4 := hT.out.p.cell 4
        have p5 := hT.out.p.cell 5
        have q0 := hT.out.q.cell 0
        have q1 := hT.out.q.cell 1
        have q2 := hT.out.q.cell 2
        have q3 := hT.out.q.cell 3
        have q4 := hT.out.q.cell 4
        have q5 := hT.out.q.cell 5
        have s1 := conv_strR (HY1.out.old hT.out.k)
        have s2 := conv_strR (HY2.out.old hT.out.k)
        have g1 := wrap_small HZ.out.1
        have g2 := wrap_small HZ.out.2.1
        have g3 := wrap_small HZ.out.2.2
        have t1 : ((z.act : Int) == (z.act : Int)) = true := beq_self_eq_true _
        have t2 : ((z.what : Int) == (z.what : Int)) = true := beq_self_eq_true _
        have t3 : ((z.ticks : Int) == (z.ticks : Int)) = true := beq_self_eq_true _
        have t4 : ((z.code : Int) == (z.code : Int)) = true := beq_self_eq_true _
        have t5 : ((z.sub : Int) == (z.sub : Int)) = true := beq_self_eq_true _
        generalize z.act = za at *
        generalize z.what = zw at *
        generalize z.ticks = zt at *
        generalize z.code = zc at *
        generalize z.sub = zs at *
        clear hT HZ
        go_wp2
        go_roundw
        case rel => exact ⟨k + 1, by go_num, by omega, hKK⟩
        case measure => simp [intOf]; omega
    · obtain rfl : k = l.length := by omega
      go_wp2
      go_ret
      exact ⟨rfl, hK.out⟩
end Go.Proofs.YtembdobkgpojfaaDoor
