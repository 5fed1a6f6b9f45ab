
/-
  attrs: take.
-/
import Derived.Test.YteofbpdogmajoaaGreatDoorZf
import Derived.Test.YteofbpdogmajoaaGreatDoorZjp
import Derived.Test.YteofbpdogmajoaaGreatDoorZjt
import Derived.Test.YteofbpdogmajoaaGreatDoorZd
namespace Go.Proofs.YteofbpdogmajoaaGreatDoor
open Go.RowKit
attribute [local go_sem] Oper.semAt_some

namespace RS
/-- The reader behind so many numbers of z bytes, and the numbers. -/
def stAt (z : Nat) (s : RS) : Nat → RS
  | 0 => s
  | n + 1 => (stAt z s n).pass (z : Int)
def numsAt (z : Nat) (s : RS) : Nat → List Nat
  | 0 => []
  | n + 1 => numsAt z s n ++ [RS.num ((stAt z s n).got (z : Int))]
theorem length_numsAt (z : Nat) (s : RS) (n : Nat) : (numsAt z s n).length = n := by
  induction n with
  | zero => rfl
  | succ n ih => show (numsAt z s n ++ _).length = _; rw [List.length_append, ih]; rfl
theorem num_got (s : RS) (z : Nat) (hz : z ≤ 4) : RS.num (s.got (z : Int)) < 4294967296 := by
  have h1 := RS.num_lt (s.got (z : Int))
  have h2 := RS.got_len (s := s) (n := z)
  have : 256 ^ (s.got (z : Int)).length ≤ 256 ^ 4 := Nat.pow_le_pow_right (by decide) (by omega)
  omega
theorem num_got2 (s : RS) : RS.num (s.got 2) < 65536 := by
  have h1 := RS.num_lt (s.got 2)
  have h2 := RS.got_len (s := s) (n := 2)
  have : 256 ^ (s.got 2).length ≤ 256 ^ 2 := Nat.pow_le_pow_right (by decide) (by exact h2)
  omega
end RS
theorem own_to2 {w : World} {base n m size : Nat} {e : TypeId} {v : Value} {xs : List Value} (h : w.ownsRow base e size v n xs) (e1 : n = m) : w.ownsRow base e size v m xs := e1 ▸ h
/-- What lies in memory while a segment is read. -/
structure Tks (w : World) (p b5 kd : Nat) (s : RS) (ns : List Nat) (nv : Value) (u : World) : Prop where
  rd : Rd u p s
  own : u.ownsRow w.heap.size 27 1 nv ns.length (ass ns)
  r4 : Blk u w.heap.size 71 #[.int .u8 0, .slice none 0 0]
  r5 : Blk u b5 71 #[.int .u8 (kd : Int), nv]
  ne : w.heap.size < b5
  kept : Kept (Only p) w u
  lt : p < w.heap.size
  num : ∀ n ∈ ns, n < 4294967296
theorem Tks.read {w u u' : World} {p b5 kd : Nat} {s s' : RS} {ns : List Nat} {nv : Value} (h : Tks w p b5 kd s ns nv u) (hr : Rd u' p s') (k : Kept (Only p) u u') : Tks w p b5 kd s' ns nv u' :=
  ⟨hr, ow_rd h.own h.rd (by decide) k, h.r4.rd h.rd (by decide) k, h.r5.rd h.rd (by decide) k, h.ne, h.kept.trans k, h.lt, h.num⟩
theorem Tks.old {w u u' : World} {p b5 kd : Nat} {s : RS} {ns : List Nat} {nv : Value} (h : Tks w p b5 kd s ns nv u) (k : Kept Nothing u u') : Tks w p b5 kd s ns nv u' :=
  h.read (h.rd.kept k (NoRd.nothing _)) (k.mono (fun _ x => x.elim))
theorem Tks.push {w u u1 w7 : World} {p b5 kd x : Nat} {s : RS} {ns : List Nat} {nv v' : Value} (h : Tks w p b5 kd s ns nv u) (k : Kept Nothing u u1) (hg : u1.grownBy w7 nv.ownBlock) (ho : w7.ownsRow w.heap.size 27 1 v' (ns.length + 1) (ass ns ++ [.int .u32 (x : Int)])) (hx : x < 4294967296) :
    Tks w p b5 kd s (ns ++ [x]) v' (w7.setCell ⟨b5, 1, none⟩ v') ∧ Blk w7 b5 71 #[.int .u8 (kd : Int), nv] := by
  have h1 := h.old k
  have kg := grown_kept hg
  have hno : ∀ t, t ≠ 27 → ∀ g cs, Blk u1 g t cs → ¬ nv.ownBlock = some g := fun t ht g cs hb e => by
    obtain ⟨cs', hh⟩ := ow_lt h1.own e
    unfold Blk at hb
    rw [hb] at hh
    injection hh with hh
    injection hh with _ h2
    exact ht h2
  have hb5 := h1.r5.kept kg (hno _ (by decide) _ _ h1.r5)
  have hb4 := h1.r4.kept kg (hno _ (by decide) _ _ h1.r4)
  have hrd := h1.rd.kept kg (NoRd.own h1.own (by decide))
  have hk : Kept (Only p) w w7 := h1.kept.grown hg (fun k hk hlt => by have := (ow_ge h1.own hk).1; omega)
  have hln := h.ne
  refine ⟨⟨hrd.kept (Kept.own w7 b5 1 v') (NoRd.of_blk hb5 (by decide)), ?_, hb4.far (p := ⟨b5, 1, none⟩) (by simp; omega) v', hb5.put 1 v', h.ne, hk.setCell (p := ⟨b5, 1, none⟩) (fun h => absurd h (by simp; omega)) v', h.lt, fun n hn => ?_⟩, hb5⟩
  · rw [List.length_append, ass_append]
    exact ow_kept ho (Kept.own w7 b5 1 v') (ow_far ho hb5 (by decide))
  · rcases List.mem_append.1 hn with hn | hn
    · exact h.num n hn
    · obtain rfl := List.mem_singleton.1 hn
      exact hx

set_option maxRecDepth 20000 in
set_option maxHeartbeats 4000000 in
theorem rd_seg (p : Nat) (s : RS) (wide : Bool) (w : World) (h : Rd w p s) :
    Calls Tryz.prog 152 #[.pointer (some ⟨p, 0, none⟩), .bool wide] w fun e w' => ∃ v, e = .returned (.agg #[.int .u8 (RS.num (s.got 1) : Int), v]) ∧
      w'.ownsRow w.heap.size 27 1 v (RS.numsAt (if wide then 4 else 2) ((s.pass 1).pass 1) (RS.num ((s.pass 1).got 1))).length (ass (RS.numsAt (if wide then 4 else 2) ((s.pass 1).pass 1) (RS.num ((s.pass 1).got 1)))) ∧
      (∀ n ∈ RS.numsAt (if wide then 4 else 2) ((s.pass 1).pass 1) (RS.num ((s.pass 1).got 1)), n < 4294967296) ∧ Rd w' p (RS.stAt (if wide then 4 else 2) ((s.pass 1).pass 1) (RS.num ((s.pass 1).got 1))) ∧ Kept (Only p) w w' := by
  have HR := Lib.hid h
  have hlt := h.lt
  have hn256 := num_got1 (s.pass 1)
  have hk256 := num_got1 s
  obtain ⟨j0, hji, hy0, hy1, hy2⟩ := info_parts as_info
  clear h
  go_enter Tryz.func152, Tryz.ntmps152
  go_wp2_with fail
  refine (rd_byte p s _ (HR.out.kept ((Kept.refl Nothing w).alloc _) (NoRd.nothing _))).mono ?_
  rintro e w1 ⟨rfl, hr, hk⟩
  have HZ1 : Hid (w.heap.size + 1 ≤ w1.heap.size) := Lib.hid (by have := hk.size; rw [World.size_alloc] at this; exact this)
  have B4 := ((Blk.fresh w 71 #[.int .u8 0, .slice none 0 0]).kept hk (fun e => by have : w.heap.size = p := e; omega))
  generalize hkd : RS.num (s.got 1) = kd at *
  have HKD := Lib.hid hkd
  have T1 : Hid (Tks w p w1.heap.size kd (s.pass 1) [] (.slice none 0 0) (w1.alloc (.cells #[.int .u8 (kd : Int), .slice none 0 0] 71))) := Lib.hid ⟨hr.kept ((Kept.refl Nothing w1).alloc _) (NoRd.nothing _), World.ownsRow_nil _ _ _ _, B4.alloc _, Blk.fresh w1 _ _, by have := HZ1.out; omega, (((Kept.refl (Only p) w).alloc _).trans hk).alloc _, hlt, fun _ h => by cases h⟩
  clear hr hk B4 hkd
  generalize hb5 : w1.heap.size = b5 at *
  go_wp2_with fail
  refine (rd_byte p (s.pass 1) _ T1.out.rd).mono ?_
  rintro e w2 ⟨rfl, hr, hk⟩
  have T2 := Lib.hid (T1.out.read hr hk)
  clear hr hk T1 hb5
  generalize hn0 : RS.num ((s.pass 1).got 1) = nn at *
  generalize hs0 : (s.pass 1).pass 1 = s2 at *
  have HE := Lib.hid (And.intro hn0 hs0)
  clear hn0 hs0
  have hnn : (nn : Int) < 256 := by omega
  have HZ0 : Hid (w.heap.size ≤ w2.heap.size) := Lib.hid T2.out.kept.size
  clear HR HZ1
  cases wide with
  | true =>
    go_wp2_with fail
    go_loopw [11] (fun i wr => ∃ (j : Nat) (nv : Value), i = .int .u8 (j : Int) ∧ j ≤ nn ∧ Hid (Tks w p b5 kd (RS.stAt 4 s2 j) (RS.numsAt 4 s2 j) nv wr)) (fun i _ => nn - (intOf i).toNat)
    case atStart => exact ⟨0, _, rfl, Nat.zero_le _, T2⟩
    case round =>
      clear T2
      obtain ⟨j, nv, rfl, hj, T⟩ := hrel
      obtain ⟨Aq, cq, rfl, _, _⟩ := ow_form T.out.own
      have c1 := T.out.r5.cell 1
      have c0 := T.out.r5.cell 0
      by_cases hlj : j < nn
      · have j2 : (j : Int) < (nn : Int) := by omega
        have hju : IntKind.u8.wrap ((j : Int) + 1) = (j : Int) + 1 := by simp [IntKind.wrap, IntKind.bits, IntKind.signed]; omega
        have hx := RS.num_got (RS.stAt 4 s2 j) 4 (by decide)
        have HLN : Hid ((RS.numsAt 4 s2 j).length = j) := Lib.hid (RS.length_numsAt _ _ _)
        have EN : Hid (RS.numsAt 4 s2 (j + 1) = RS.numsAt 4 s2 j ++ [RS.num ((RS.stAt 4 s2 j).got (4 : Int))]) := Lib.hid rfl
        have ES : Hid (RS.stAt 4 s2 (j + 1) = (RS.stAt 4 s2 j).pass (4 : Int)) := Lib.hid rfl
        have HL6 : Hid (j + 1 ≤ maxLen ∧ (j + 1) * 4 ≤ 140737488355328) := Lib.hid (by unfold maxLen; omega)
        rw [HLN.out] at T c1
        have TD := Lib.hid (T.out.old (Kept.refl Nothing wr).drew)
        have HRF := Lib.hid (rd_four p (RS.stAt 4 s2 j) _ TD.out.rd)
        have OWN : Hid (∀ u, Tks w p b5 kd ((RS.stAt 4 s2 j).pass (4 : Int)) (RS.numsAt 4 s2 j) (.slice Aq j cq) u → u.ownsRow w.heap.size 27 1 (.slice Aq j cq) j (ass (RS.numsAt 4 s2 j))) := Lib.hid (fun u h => by have := h.own; rw [HLN.out] at this; exact this)
        generalize hxn : RS.num ((RS.stAt 4 s2 j).got (4 : Int)) = xn at *
        clear c0
        go_wp2_with fail
        go_region_law (first
          | (go_simp; go_at_call 75; refine (HRF.out).mono ?_; rintro e w3 ⟨rfl, hr3, hk3⟩; (have T3 := Lib.hid (TD.out.read hr3 hk3)); (have c3 := T3.out.r5.cell 1); (have c3a := (T3.out.r5.alloc (.cells #[.int .u32 (xn : Int)] 27)).cell 1); clear hr3 hk3)
          | (refine step_app _ (by rfl) _ _ 69 (by rfl) w.heap.size 27 j0 _ 1 4 Tryz.underlying69 hji hy0 hy1 hy2 rfl (by decide) (.slice Aq j cq) j (ass (RS.numsAt 4 s2 j)) (by rfl) (ow_kept (OWN.out _ T3.out) ((Kept.refl Nothing _).alloc _) (fun _ _ x => x)) (some ⟨w3.heap.size, 0, none⟩) 1 1 [.int .u32 (xn : Int)] (by rfl) (src_new w3 _ #[.int .u32 (xn : Int)] 1 1 rfl (by simp [Value.oneCell'])) HL6.out.1 HL6.out.2 (Nat.le_trans T3.out.kept.size (by simp)) ?_; intro v7 w7 ho7 hg7 hat7; (have HP := Lib.hid (T3.out.push ((Kept.refl Nothing w3).alloc _) hg7 (by rw [HLN.out]; exact ho7) hx)); (have B7 := Lib.hid HP.out.2); (have f7 := B7.out.free 1); (have q7 := B7.out.cell 1); (have l7 := B7.out.lt); (obtain ⟨A7, c7, rfl, _, _⟩ := ow_form ho7); clear ho7 hg7 hat7))
        all_goals
          go_wp2_with fail
          go_roundw
          case rel => exact ⟨j + 1, _, by go_num, by omega, Lib.hid (by rw [ES.out, EN.out]; exact HP.out.1)⟩
          case measure => simp [intOf]; omega
      · obtain rfl : j = nn := by omega
        have HT := Lib.hid T.out
        have HLN : Hid ((RS.numsAt 4 s2 j).length = j) := Lib.hid (RS.length_numsAt _ _ _)
        rw [HLN.out] at c1
        have c4 := T.out.r4.cell 0
        have c5 := T.out.r4.cell 1
        have f4 := T.out.r4.free 0
        have f5 := T.out.r4.free 1
        have l4 := T.out.r4.lt
        clear T
        go_wp2_with fail
        have hB1 := HT.out.r4.put 0 (.int .u8 (kd : Int))
        have hB2 := hB1.put 1 (.slice Aq j cq)
        have k0 := Kept.own wr w.heap.size 0 (.int .u8 (kd : Int))
        have k1 := Kept.own (wr.setCell ⟨w.heap.size, 0, none⟩ (.int .u8 (kd : Int))) w.heap.size 1 (.slice Aq j cq)
        have o4 := ow_kept (ow_kept HT.out.own k0 (ow_far HT.out.own HT.out.r4 (by decide))) k1 (ow_far (ow_kept HT.out.own k0 (ow_far HT.out.own HT.out.r4 (by decide))) hB1 (by decide))
        have R4 := (HT.out.rd.kept k0 (NoRd.of_blk HT.out.r4 (by decide))).kept k1 (NoRd.of_blk hB1 (by decide))
        have kk := (HT.out.kept.setCell (p := ⟨w.heap.size, 0, none⟩) (fun h => absurd h (Nat.lt_irrefl _)) (.int .u8 (kd : Int))).setCell (p := ⟨w.heap.size, 1, none⟩) (fun h => absurd h (Nat.lt_irrefl _)) (.slice Aq j cq)
        rw [HLN.out] at o4
        have d0 := hB2.cell 0
        have d1 := hB2.cell 1
        generalize (wr.setCell ⟨w.heap.size, 0, none⟩ (.int .u8 (kd : Int))).setCell ⟨w.heap.size, 1, none⟩ (.slice Aq j cq) = w4 at *
        replace d0 : w4.cell? ⟨w.heap.size, 0, none⟩ = some (.int .u8 (kd : Int)) := d0
        replace d1 : w4.cell? ⟨w.heap.size, 1, none⟩ = some (.slice Aq j cq) := d1
        refine bodyPost_ret (v := .agg #[.int .u8 (kd : Int), .slice Aq j cq]) (by simp [results, Tryz.results152, go_sem, d0, d1]) rfl ?_
        obtain ⟨rfl, rfl⟩ := HE.out
        obtain rfl := HKD.out
        exact ⟨_, rfl, own_to2 o4 HLN.out.symm, HT.out.num, R4, kk⟩
  | false =>
    go_wp2_with fail
    go_loopw [11] (fun i wr => ∃ (j : Nat) (nv : Value), i = .int .u8 (j : Int) ∧ j ≤ nn ∧ Hid (Tks w p b5 kd (RS.stAt 2 s2 j) (RS.numsAt 2 s2 j) nv wr)) (fun i _ => nn - (intOf i).toNat)
    case atStart => exact ⟨0, _, rfl, Nat.zero_le _, T2⟩
    case round =>
      clear T2
      obtain ⟨j, nv, rfl, hj, T⟩ := hrel
      obtain ⟨Aq, cq, rfl, _, _⟩ := ow_form T.out.own
      have c1 := T.out.r5.cell 1
      have c0 := T.out.r5.cell 0
      by_cases hlj : j < nn
      · have j2 : (j : Int) < (nn : Int) := by omega
        have hju : IntKind.u8.wrap ((j : Int) + 1) = (j : Int) + 1 := by simp [IntKind.wrap, IntKind.bits, IntKind.signed]; omega
        have hx := RS.num_got (RS.stAt 2 s2 j) 2 (by decide)
        have hx2 := RS.num_got2 (RS.stAt 2 s2 j)
        have HLN : Hid ((RS.numsAt 2 s2 j).length = j) := Lib.hid (RS.length_numsAt _ _ _)
        have EN : Hid (RS.numsAt 2 s2 (j + 1) = RS.numsAt 2 s2 j ++ [RS.num ((RS.stAt 2 s2 j).got (2 : Int))]) := Lib.hid rfl
        have ES : Hid (RS.stAt 2 s2 (j + 1) = (RS.stAt 2 s2 j).pass (2 : Int)) := Lib.hid rfl
        have HL6 : Hid (j + 1 ≤ maxLen ∧ (j + 1) * 4 ≤ 140737488355328) := Lib.hid (by unfold maxLen; omega)
        rw [HLN.out] at T c1
        have TD := Lib.hid (T.out.old (Kept.refl Nothing wr).drew)
        have HRF := Lib.hid (rd_two p (RS.stAt 2 s2 j) _ TD.out.rd)
        have OWN : Hid (∀ u, Tks w p b5 kd ((RS.stAt 2 s2 j).pass (2 : Int)) (RS.numsAt 2 s2 j) (.slice Aq j cq) u → u.ownsRow w.heap.size 27 1 (.slice Aq j cq) j (ass (RS.numsAt 2 s2 j))) := Lib.hid (fun u h => by have := h.own; rw [HLN.out] at this; exact this)
        generalize hxn : RS.num ((RS.stAt 2 s2 j).got (2 : Int)) = xn at *
        have hwx : IntKind.u32.wrap (xn : Int) = (xn : Int) := by simp [IntKind.wrap, IntKind.bits, IntKind.signed]; omega
        clear c0
        go_wp2_with fail
        go_region_law (first
          | (go_simp; go_at_call 86; refine (HRF.out).mono ?_; rintro e w3 ⟨rfl, hr3, hk3⟩; (have T3 := Lib.hid (TD.out.read hr3 hk3)); (have c3 := T3.out.r5.cell 1); (have c3a := (T3.out.r5.alloc (.cells #[.int .u32 (xn : Int)] 27)).cell 1); clear hr3 hk3)
          | (refine step_app _ (by rfl) _ _ 69 (by rfl) w.heap.size 27 j0 _ 1 4 Tryz.underlying69 hji hy0 hy1 hy2 rfl (by decide) (.slice Aq j cq) j (ass (RS.numsAt 2 s2 j)) (by rfl) (ow_kept (OWN.out _ T3.out) ((Kept.refl Nothing _).alloc _) (fun _ _ x => x)) (some ⟨w3.heap.size, 0, none⟩) 1 1 [.int .u32 (xn : Int)] (by rfl) (src_new w3 _ #[.int .u32 (xn : Int)] 1 1 rfl (by simp [Value.oneCell'])) HL6.out.1 HL6.out.2 (Nat.le_trans T3.out.kept.size (by simp)) ?_; intro v7 w7 ho7 hg7 hat7; (have HP := Lib.hid (T3.out.push ((Kept.refl Nothing w3).alloc _) hg7 (by rw [HLN.out]; exact ho7) hx)); (have B7 := Lib.hid HP.out.2); (have f7 := B7.out.free 1); (have q7 := B7.out.cell 1); (have l7 := B7.out.lt); (obtain ⟨A7, c7, rfl, _, _⟩ := ow_form ho7); clear ho7 hg7 hat7))
        all_goals
          go_wp2_with fail
          go_roundw
          case rel => exact ⟨j + 1, _, by go_num, by omega, Lib.hid (by rw [ES.out, EN.out]; exact HP.out.1)⟩
          case measure => simp [intOf]; omega
      · obtain rfl : j = nn := by omega
        have HT := Lib.hid T.out
        have HLN : Hid ((RS.numsAt 2 s2 j).length = j) := Lib.hid (RS.length_numsAt _ _ _)
        rw [HLN.out] at c1
        have c4 := T.out.r4.cell 0
        have c5 := T.out.r4.cell 1
        have f4 := T.out.r4.free 0
        have f5 := T.out.r4.free 1
        have l4 := T.out.r4.lt
        clear T
        go_wp2_with fail
        have hB1 := HT.out.r4.put 0 (.int .u8 (kd : Int))
        have hB2 := hB1.put 1 (.slice Aq j cq)
        have k0 := Kept.own wr w.heap.size 0 (.int .u8 (kd : Int))
        have k1 := Kept.own (wr.setCell ⟨w.heap.size, 0, none⟩ (.int .u8 (kd : Int))) w.heap.size 1 (.slice Aq j cq)
        have o4 := ow_kept (ow_kept HT.out.own k0 (ow_far HT.out.own HT.out.r4 (by decide))) k1 (ow_far (ow_kept HT.out.own k0 (ow_far HT.out.own HT.out.r4 (by decide))) hB1 (by decide))
        have R4 := (HT.out.rd.kept k0 (NoRd.of_blk HT.out.r4 (by decide))).kept k1 (NoRd.of_blk hB1 (by decide))
        have kk := (HT.out.kept.setCell (p := ⟨w.heap.size, 0, none⟩) (fun h => absurd h (Nat.lt_irrefl _)) (.int .u8 (kd : Int))).setCell (p := ⟨w.heap.size, 1, none⟩) (fun h => absurd h (Nat.lt_irrefl _)) (.slice Aq j cq)
        rw [HLN.out] at o4
        have d0 := hB2.cell 0
        have d1 := hB2.cell 1
        generalize (wr.setCell ⟨w.heap.size, 0, none⟩ (.int .u8 (kd : Int))).setCell ⟨w.heap.size, 1, none⟩ (.slice Aq j cq) = w4 at *
        replace d0 : w4.cell? ⟨w.heap.size, 0, none⟩ = some (.int .u8 (kd : Int)) := d0
        replace d1 : w4.cell? ⟨w.heap.size, 1, none⟩ = some (.slice Aq j cq) := d1
        refine bodyPost_ret (v := .agg #[.int .u8 (kd : Int), .slice Aq j cq]) (by simp [results, Tryz.results152, go_sem, d0, d1]) rfl ?_
        obtain ⟨rfl, rfl⟩ := HE.out
        obtain rfl := HKD.out
        exact ⟨_, rfl, own_to2 o4 HLN.out.symm, HT.out.num, R4, kk⟩
end Go.Proofs.YteofbpdogmajoaaGreatDoor
namespace Go.Proofs.YteofbpdogmajoaaGreatDoor
open Go.RowKit

theorem rd_take_own (p : Nat) (s : RS) (n : Int) (w : World) (h : Rd w p s) :
    Calls Tryz.prog 87 #[.pointer (some ⟨p, 0, none⟩), .int .i64 n] w fun r w' => ∃ v, r = .returned v ∧ w'.ownsRow w.heap.size 5 1 v (s.got n).length (bys (s.got n)) ∧ Rd w' p (s.pass n) ∧ Kept (Only p) w w' := by
  have hlen : (s.got n).length ≤ 1099511627776 := by
    have := h.ok.2
    unfold RS.got
    split <;> simp
    omega
  have HL := Lib.hid hlen
  have HW := Lib.hid (rd_pass p s n w h)
  clear h hlen
  go_enter Tryz.func87, Tryz.ntmps87
  go_wp2_with fail
  refine HW.out.mono ?_
  rintro e w1 ⟨v, rfl, hb, hr, hk⟩
  have HC := Lib.hid (sl_clone v _ w1 hb.by HL.out)
  have HR := Lib.hid hr
  have HK := Lib.hid hk
  clear hb hr hk
  go_wp2_with fail
  refine HC.out.mono ?_
  rintro e w2 ⟨v', rfl, ho, hk2⟩
  have HO := Lib.hid ho
  have HK2 := Lib.hid hk2
  clear ho hk2
  go_wp2
  go_ret
  exact ⟨_, rfl, own_weakA HO.out HK.out.size, HR.out.kept HK2.out (NoRd.nothing _), HK.out.trans (HK2.out.mono (fun _ x => x.elim))⟩

namespace Ax
/-- Whether two bytes tell the length. -/
def ext (f : Nat) : Bool := bits .and .u8 (f : Int) 16 != 0
def tkN (x : Bool) (s : RS) : Nat := if x then RS.num (s.got 2) else RS.num (s.got 1)
def tkS (x : Bool) (s : RS) : RS := if x then s.pass 2 else s.pass 1
end Ax

set_option maxHeartbeats 2000000 in
theorem at_take (p : Nat) (s : RS) (w : World) (h : Rd w p s) :
    Calls Tryz.prog 26 #[.pointer (some ⟨p, 0, none⟩)] w fun e w' => ∃ v, e = .returned (.agg #[.int .u8 (RS.num (s.got 1) : Int), .int .u8 (RS.num ((s.pass 1).got 1) : Int), v]) ∧
      w'.ownsRow w.heap.size 5 1 v ((Ax.tkS (Ax.ext (RS.num (s.got 1))) ((s.pass 1).pass 1)).got (Ax.tkN (Ax.ext (RS.num (s.got 1))) ((s.pass 1).pass 1) : Int)).length (bys ((Ax.tkS (Ax.ext (RS.num (s.got 1))) ((s.pass 1).pass 1)).got (Ax.tkN (Ax.ext (RS.num (s.got 1))) ((s.pass 1).pass 1) : Int))) ∧
      Rd w' p ((Ax.tkS (Ax.ext (RS.num (s.got 1))) ((s.pass 1).pass 1)).pass (Ax.tkN (Ax.ext (RS.num (s.got 1))) ((s.pass 1).pass 1) : Int)) ∧ Kept (Only p) w w' := by
  have HR := Lib.hid h
  have hlt := h.lt
  have hf := num_got1 s
  have ht := num_got1 (s.pass 1)
  clear h
  go_enter Tryz.func26, Tryz.ntmps26
  go_wp2_with fail
  refine (rd_byte p s _ (HR.out.kept ((Kept.refl Nothing w).alloc _) (NoRd.nothing _))).mono ?_
  rintro e w1 ⟨rfl, hr1, hk1⟩
  go_wp2_with fail
  refine (rd_byte p (s.pass 1) _ hr1).mono ?_
  rintro e w2 ⟨rfl, hr2, hk2⟩
  generalize hF : RS.num (s.got 1) = f at *
  generalize hT : RS.num ((s.pass 1).got 1) = t at *
  generalize hS : (s.pass 1).pass 1 = s2 at *
  have HF := Lib.hid (And.intro hF (And.intro hT hS))
  clear hF hT hS
  have hz1 : w.heap.size + 1 ≤ w1.heap.size := by have := hk1.size; rw [World.size_alloc] at this; exact this
  have hz2 := hk2.size
  have k2 := (((Kept.refl (Only p) w).alloc (.cells #[.int .u8 0, .int .u8 0, .slice none 0 0] 73)).trans hk1).trans hk2
  have B20 := ((Blk.fresh w 73 #[.int .u8 0, .int .u8 0, .slice none 0 0]).kept hk1 (fun e => by have : w.heap.size = p := e; omega)).kept hk2 (fun e => by have : w.heap.size = p := e; omega)
  have B2 := B20.alloc (.cells #[.int .u8 (f : Int), .int .u8 (t : Int), .slice none 0 0] 73)
  have B3 := Blk.fresh w2 73 #[.int .u8 (f : Int), .int .u8 (t : Int), .slice none 0 0]
  have hr3 := hr2.kept ((Kept.refl Nothing w2).alloc (.cells #[.int .u8 (f : Int), .int .u8 (t : Int), .slice none 0 0] 73)) (NoRd.nothing _)
  have K3 := Lib.hid (k2.alloc (.cells #[.int .u8 (f : Int), .int .u8 (t : Int), .slice none 0 0] 73))
  have q0 := B3.cell 0
  clear hr1 hk1 hk2 hr2 k2 B20 HR
  obtain ⟨x, hx⟩ : ∃ x, Ax.ext f = x := ⟨_, rfl⟩
  have hx1 : (bits .and .u8 (f : Int) 16 != 0) = x := hx
  have HX := Lib.hid hx
  clear hx
  cases x with
  | true =>
    have hlw : IntKind.i64.wrap (RS.num (s2.got 2) : Int) = (RS.num (s2.got 2) : Int) := by rw [IntKind.wrap_i64]; have := RS.num_got2 s2; omega
    go_wp2_with fail
    refine (rd_two p s2 _ hr3).mono ?_
    rintro e w4 ⟨rfl, hr4, hk4⟩
    have b3 := B3.rd hr3 (by decide) hk4
    have b2 := B2.rd hr3 (by decide) hk4
    have k4 := K3.out.trans hk4
    go_wp2_with fail
    refine (rd_take_own p (s2.pass 2) (RS.num (s2.got 2) : Int) w4 hr4).mono ?_
    rintro e w5 ⟨v, rfl, hv, hr5, hk5⟩
    have c3 := b3.rd hr4 (by decide) hk5
    have c2 := b2.rd hr4 (by decide) hk5
    have k5 := k4.trans hk5
    obtain ⟨A9, c9, rfl, _, _⟩ := ow_form hv
    have hw4 := k4.size
    have HG : Hid (w.heap.size ≠ w2.heap.size ∧ w.heap.size < w2.heap.size) := Lib.hid (by omega)
    have r0 := c3.cell 0
    have r1 := c3.cell 1
    have r2 := c3.cell 2
    have s0 := c2.cell 0
    have s1 := c2.cell 1
    have s2' := c2.cell 2
    have f2 := c3.free 2
    have e0 := c2.free 0
    have e1 := c2.free 1
    have e2 := c2.free 2
    have hgne : w.heap.size ≠ w2.heap.size := HG.out.1
    go_wp2_with fail
    have V3 := c3.put 2 (.slice A9 ((s2.pass 2).got (RS.num (s2.got 2) : Int)).length c9)
    have k6 := Kept.own w5 w2.heap.size 2 (.slice A9 ((s2.pass 2).got (RS.num (s2.got 2) : Int)).length c9)
    have D0 := c2.far (p := ⟨w2.heap.size, 2, none⟩) hgne (.slice A9 ((s2.pass 2).got (RS.num (s2.got 2) : Int)).length c9)
    have D1 := D0.put 0 (.int .u8 (f : Int))
    have D2 := D1.put 1 (.int .u8 (t : Int))
    have D3 := D2.put 2 (.slice A9 ((s2.pass 2).got (RS.num (s2.got 2) : Int)).length c9)
    have k7 := Kept.own (w5.setCell ⟨w2.heap.size, 2, none⟩ (.slice A9 ((s2.pass 2).got (RS.num (s2.got 2) : Int)).length c9)) w.heap.size 0 (.int .u8 (f : Int))
    have k8 := Kept.own ((w5.setCell ⟨w2.heap.size, 2, none⟩ (.slice A9 ((s2.pass 2).got (RS.num (s2.got 2) : Int)).length c9)).setCell ⟨w.heap.size, 0, none⟩ (.int .u8 (f : Int))) w.heap.size 1 (.int .u8 (t : Int))
    have k9 := Kept.own (((w5.setCell ⟨w2.heap.size, 2, none⟩ (.slice A9 ((s2.pass 2).got (RS.num (s2.got 2) : Int)).length c9)).setCell ⟨w.heap.size, 0, none⟩ (.int .u8 (f : Int))).setCell ⟨w.heap.size, 1, none⟩ (.int .u8 (t : Int))) w.heap.size 2 (.slice A9 ((s2.pass 2).got (RS.num (s2.got 2) : Int)).length c9)
    have R := (((hr5.kept k6 (NoRd.of_blk c3 (by decide))).kept k7 (NoRd.of_blk D0 (by decide))).kept k8 (NoRd.of_blk D1 (by decide))).kept k9 (NoRd.of_blk D2 (by decide))
    have V6 := ow_kept hv k6 (ow_far hv c3 (by decide))
    have V7 := ow_kept V6 k7 (ow_far V6 D0 (by decide))
    have V8 := ow_kept V7 k8 (ow_far V7 D1 (by decide))
    have V := own_weakA (ow_kept V8 k9 (ow_far V8 D2 (by decide))) hw4
    clear V6 V7 V8
    have kk := (((k5.setCell (p := ⟨w2.heap.size, 2, none⟩) (fun (h : w2.heap.size < w.heap.size) => absurd h (by omega)) (.slice A9 ((s2.pass 2).got (RS.num (s2.got 2) : Int)).length c9)).setCell (p := ⟨w.heap.size, 0, none⟩) (fun h => absurd h (Nat.lt_irrefl _)) (.int .u8 (f : Int))).setCell (p := ⟨w.heap.size, 1, none⟩) (fun h => absurd h (Nat.lt_irrefl _)) (.int .u8 (t : Int))).setCell (p := ⟨w.heap.size, 2, none⟩) (fun h => absurd h (Nat.lt_irrefl _)) (.slice A9 ((s2.pass 2).got (RS.num (s2.got 2) : Int)).length c9)
    have d0 := D3.cell 0
    have d1 := D3.cell 1
    have d2 := D3.cell 2
    generalize (((w5.setCell ⟨w2.heap.size, 2, none⟩ (.slice A9 ((s2.pass 2).got (RS.num (s2.got 2) : Int)).length c9)).setCell ⟨w.heap.size, 0, none⟩ (.int .u8 (f : Int))).setCell ⟨w.heap.size, 1, none⟩ (.int .u8 (t : Int))).setCell ⟨w.heap.size, 2, none⟩ (.slice A9 ((s2.pass 2).got (RS.num (s2.got 2) : Int)).length c9) = w9 at *
    replace d0 : w9.cell? ⟨w.heap.size, 0, none⟩ = some (.int .u8 (f : Int)) := d0
    replace d1 : w9.cell? ⟨w.heap.size, 1, none⟩ = some (.int .u8 (t : Int)) := d1
    replace d2 : w9.cell? ⟨w.heap.size, 2, none⟩ = some (.slice A9 ((s2.pass 2).got (RS.num (s2.got 2) : Int)).length c9) := d2
    refine bodyPost_ret (v := .agg #[.int .u8 (f : Int), .int .u8 (t : Int), .slice A9 ((s2.pass 2).got (RS.num (s2.got 2) : Int)).length c9]) (by simp [results, Tryz.results26, go_sem, d0, d1, d2]) rfl ?_
    obtain ⟨h1, h2, h3⟩ := HF.out
    rw [h1, h2, h3, HX.out]
    exact ⟨_, rfl, V, R, kk⟩
  | false =>
    have hlw : IntKind.i64.wrap (RS.num (s2.got 1) : Int) = (RS.num (s2.got 1) : Int) := by rw [IntKind.wrap_i64]; have := num_got1 s2; omega
    go_wp2_with fail
    refine (rd_byte p s2 _ hr3).mono ?_
    rintro e w4 ⟨rfl, hr4, hk4⟩
    have b3 := B3.rd hr3 (by decide) hk4
    have b2 := B2.rd hr3 (by decide) hk4
    have k4 := K3.out.trans hk4
    go_wp2_with fail
    refine (rd_take_own p (s2.pass 1) (RS.num (s2.got 1) : Int) w4 hr4).mono ?_
    rintro e w5 ⟨v, rfl, hv, hr5, hk5⟩
    have c3 := b3.rd hr4 (by decide) hk5
    have c2 := b2.rd hr4 (by decide) hk5
    have k5 := k4.trans hk5
    obtain ⟨A9, c9, rfl, _, _⟩ := ow_form hv
    have hw4 := k4.size
    have HG : Hid (w.heap.size ≠ w2.heap.size ∧ w.heap.size < w2.heap.size) := Lib.hid (by omega)
    have r0 := c3.cell 0
    have r1 := c3.cell 1
    have r2 := c3.cell 2
    have s0 := c2.cell 0
    have s1 := c2.cell 1
    have s2' := c2.cell 2
    have f2 := c3.free 2
    have e0 := c2.free 0
    have e1 := c2.free 1
    have e2 := c2.free 2
    have hgne : w.heap.size ≠ w2.heap.size := HG.out.1
    go_wp2_with fail
    have V3 := c3.put 2 (.slice A9 ((s2.pass 1).got (RS.num (s2.got 1) : Int)).length c9)
    have k6 := Kept.own w5 w2.heap.size 2 (.slice A9 ((s2.pass 1).got (RS.num (s2.got 1) : Int)).length c9)
    have D0 := c2.far (p := ⟨w2.heap.size, 2, none⟩) hgne (.slice A9 ((s2.pass 1).got (RS.num (s2.got 1) : Int)).length c9)
    have D1 := D0.put 0 (.int .u8 (f : Int))
    have D2 := D1.put 1 (.int .u8 (t : Int))
    have D3 := D2.put 2 (.slice A9 ((s2.pass 1).got (RS.num (s2.got 1) : Int)).length c9)
    have k7 := Kept.own (w5.setCell ⟨w2.heap.size, 2, none⟩ (.slice A9 ((s2.pass 1).got (RS.num (s2.got 1) : Int)).length c9)) w.heap.size 0 (.int .u8 (f : Int))
    have k8 := Kept.own ((w5.setCell ⟨w2.heap.size, 2, none⟩ (.slice A9 ((s2.pass 1).got (RS.num (s2.got 1) : Int)).length c9)).setCell ⟨w.heap.size, 0, none⟩ (.int .u8 (f : Int))) w.heap.size 1 (.int .u8 (t : Int))
    have k9 := Kept.own (((w5.setCell ⟨w2.heap.size, 2, none⟩ (.slice A9 ((s2.pass 1).got (RS.num (s2.got 1) : Int)).length c9)).setCell ⟨w.heap.size, 0, none⟩ (.int .u8 (f : Int))).setCell ⟨w.heap.size, 1, none⟩ (.int .u8 (t : Int))) w.heap.size 2 (.slice A9 ((s2.pass 1).got (RS.num (s2.got 1) : Int)).length c9)
    have R := (((hr5.kept k6 (NoRd.of_blk c3 (by decide))).kept k7 (NoRd.of_blk D0 (by decide))).kept k8 (NoRd.of_blk D1 (by decide))).kept k9 (NoRd.of_blk D2 (by decide))
    have V6 := ow_kept hv k6 (ow_far hv c3 (by decide))
    have V7 := ow_kept V6 k7 (ow_far V6 D0 (by decide))
    have V8 := ow_kept V7 k8 (ow_far V7 D1 (by decide))
    have V := own_weakA (ow_kept V8 k9 (ow_far V8 D2 (by decide))) hw4
    clear V6 V7 V8
    have kk := (((k5.setCell (p := ⟨w2.heap.size, 2, none⟩) (fun (h : w2.heap.size < w.heap.size) => absurd h (by omega)) (.slice A9 ((s2.pass 1).got (RS.num (s2.got 1) : Int)).length c9)).setCell (p := ⟨w.heap.size, 0, none⟩) (fun h => absurd h (Nat.lt_irrefl _)) (.int .u8 (f : Int))).setCell (p := ⟨w.heap.size, 1, none⟩) (fun h => absurd h (Nat.lt_irrefl _)) (.int .u8 (t : Int))).setCell (p := ⟨w.heap.size, 2, none⟩) (fun h => absurd h (Nat.lt_irrefl _)) (.slice A9 ((s2.pass 1).got (RS.num (s2.got 1) : Int)).length c9)
    have d0 := D3.cell 0
    have d1 := D3.cell 1
    have d2 := D3.cell 2
    generalize (((w5.setCell ⟨w2.heap.size, 2, none⟩ (.slice A9 ((s2.pass 1).got (RS.num (s2.got 1) : Int)).length c9)).setCell ⟨w.heap.size, 0, none⟩ (.int .u8 (f : Int))).setCell ⟨w.heap.size, 1, none⟩ (.int .u8 (t : Int))).setCell ⟨w.heap.size, 2, none⟩ (.slice A9 ((s2.pass 1).got (RS.num (s2.got 1) : Int)).length c9) = w9 at *
    replace d0 : w9.cell? ⟨w.heap.size, 0, none⟩ = some (.int .u8 (f : Int)) := d0
    replace d1 : w9.cell? ⟨w.heap.size, 1, none⟩ = some (.int .u8 (t : Int)) := d1
    replace d2 : w9.cell? ⟨w.heap.size, 2, none⟩ = some (.slice A9 ((s2.pass 1).got (RS.num (s2.got 1) : Int)).length c9) := d2
    refine bodyPost_ret (v := .agg #[.int .u8 (f : Int), .int .u8 (t : Int), .slice A9 ((s2.pass 1).got (RS.num (s2.got 1) : Int)).length c9]) (by simp [results, Tryz.results26, go_sem, d0, d1, d2]) rfl ?_
    obtain ⟨h1, h2, h3⟩ := HF.out
    rw [h1, h2, h3, HX.out]
    exact ⟨_, rfl, V, R, kk⟩
end Go.Proofs.YteofbpdogmajoaaGreatDoor
