
/-
  attrs: May.
-/
import Derived.Test.YteofbpdogmajoaaGreatDoorZyj
import Derived.Test.YteofbpdogmajoaaGreatDoorZg
import Derived.Test.YteofbpdogmajoaaGreatDoorZua
import Derived.Test.YteofbpdogmajoaaGreatDoorZys
namespace Go.Proofs.YteofbpdogmajoaaGreatDoor
open Go.RowKit

set_option maxHeartbeats 800000 in
theorem u32s_equal (a b : Value) (l m : List Nat) (w : World) (ha : As w a l) (hb : As w b m) :
    Calls Tryz.prog 58 #[a, b] w fun e w' => e = .returned (.bool (l == m)) ∧ Kept Nothing w w' := by
  obtain ⟨A, c, rfl, _, hm1⟩ := ha.form
  obtain ⟨B, d, rfl, _, hm2⟩ := hb.form
  unfold maxLen at hm1 hm2
  have HA := Lib.hid ha
  have HB := Lib.hid hb
  clear ha hb
  by_cases hlen : l.length = m.length
  · have hli : (l.length : Int) = (m.length : Int) := by omega
    have HLE := Lib.hid hlen
    rw [← hlen]
    rw [← hlen] at HB
    clear hlen hli
    go_enter Tryz.func58, Tryz.ntmps58
    go_wp2
    go_loopw [13] (fun i wr => ∃ k : Nat, i = .int .i64 (k : Int) ∧ k ≤ l.length ∧ Hid (l.take k = m.take k) ∧ Kept Nothing w wr) (fun i _ => l.length - (intOf i).toNat)
    case atStart => exact ⟨0, rfl, Nat.zero_le _, Lib.hid (by simp), Kept.refl _ _⟩
    case round =>
      obtain ⟨k, rfl, hk, HM, hkk⟩ := hrel
      have KK := Lib.hid hkk
      clear hkk
      by_cases hlt : k < l.length
      · obtain ⟨b1, o1, rfl, hc1⟩ := HA.out.at (by omega)
        obtain ⟨b2, o2, rfl, hc2⟩ := HB.out.at (by omega)
        have c1 := KK.out.cell_some (hc1 k hlt) (fun x => x)
        have c2 := KK.out.cell_some (hc2 k hlt) (fun x => x)
        have i1 : (0 : Int) ≤ (k : Int) := by omega
        have i2 : (k : Int) < (l.length : Int) := by omega
        have EN : Hid (l.getD k 0 = m.getD k 0 → l.take (k + 1) = m.take (k + 1)) := Lib.hid (fun e => by
          have h1 : l.take (k + 1) = l.take k ++ [l.getD k 0] := by
            rw [List.take_succ_eq_append_getElem hlt, List.getD_eq_getElem?_getD, List.getElem?_eq_getElem hlt]; rfl
          have hlt2 : k < m.length := by have := HLE.out; omega
          have h2 : m.take (k + 1) = m.take k ++ [m.getD k 0] := by
            rw [List.take_succ_eq_append_getElem hlt2, List.getD_eq_getElem?_getD, List.getElem?_eq_getElem hlt2]; rfl
          rw [h1, h2, HM.out, e])
        have EF : Hid (l.getD k 0 ≠ m.getD k 0 → (l == m) = false) := Lib.hid (fun e => by
          rw [beq_eq_false_iff_ne]
          intro x
          exact e (by rw [x]))
        generalize l.getD k 0 = x at *
        generalize m.getD k 0 = y at *
        clear hc1 hc2 HM
        by_cases hxy : x = y
        · have HN := Lib.hid (EN.out hxy)
          subst hxy
          clear EN EF
          go_wp2
          go_quiet (fail)
          go_wp2
          go_roundw
          case rel => exact ⟨k + 1, by go_num, by omega, HN, KK.out.drewN _⟩
          case measure => simp [intOf]; omega
        · have HN := Lib.hid (EF.out hxy)
          have hne : ((x : Int) == (y : Int)) = false := by simp; omega
          clear EN EF hxy
          go_wp2
          go_quiet (fail)
          go_wp2
          go_ret
          exact ⟨by rw [HN.out]; rfl, KK.out.drewN _⟩
      · obtain rfl : k = l.length := by omega
        have HE : Hid ((l == m) = true) := Lib.hid (by
          have h1 := HM.out
          rw [List.take_of_length_le (Nat.le_refl _), List.take_of_length_le (by have := HLE.out; omega)] at h1
          rw [h1]; simp)
        clear HM
        go_wp2
        go_ret
        exact ⟨by rw [HE.out]; rfl, KK.out⟩
  · have hne : ((l.length : Int) == (m.length : Int)) = false := by simp; omega
    have HN : Hid ((l == m) = false) := Lib.hid (by
      rw [beq_eq_false_iff_ne]
      intro x
      exact hlen (by rw [x]))
    clear hlen
    go_enter Tryz.func58, Tryz.ntmps58
    go_wp2
    go_ret
    exact ⟨by rw [HN.out]; rfl, Kept.refl _ _⟩

theorem at_same2 (a b : At) (pv cv qv ov pu cu qu ou : Value) (w : World) (h : Atp w a pv cv qv ov) (g : Atp w b pu cu qu ou) :
    Calls Tryz.prog 17 #[.agg (Ax.agg a pv cv qv ov), .agg (Ax.agg b pu cu qu ou)] w fun e w' => e = .returned (.bool (Ax.same a b)) ∧ Kept Nothing w w' :=
  at_same a b pv cv qv ov pu cu qu ou w h g (fun u k => u32s_equal cv cu a.comms b.comms u (h.2.1.old k) (g.2.1.old k))
end Go.Proofs.YteofbpdogmajoaaGreatDoor
namespace Go.Proofs.YteofbpdogmajoaaGreatDoor
open Go.RowKit
attribute [local go_sem] Oper.semAt_some nz_s

namespace Ax
/-- What is told, and what is left, behind another type. -/
def stepM (a : At) (st : At × Nat) (i : Nat) : At × Nat :=
  if known (UInt8.ofNat i) = false then st else if is a (UInt8.ofNat i) = false then (drop st.1 (UInt8.ofNat i), st.2) else (st.1, off st.2 (bit (UInt8.ofNat i)))
def foldM (a : At) (k : Nat) : At × Nat := (List.range k).foldl (stepM a) (a, a.has)
theorem foldM_succ (a : At) (k : Nat) : foldM a (k + 1) = stepM a (foldM a k) k := by unfold foldM; rw [List.range_succ, List.foldl_append]; rfl
def badM (a : At) (i : Nat) : Bool := known (UInt8.ofNat i) && (is a (UInt8.ofNat i) && !right a (UInt8.ofNat i))
def mayM (a : At) : Bool := !(List.range 19).any (badM a) && (decide ((foldM a 19).2 = 0) && (same a (foldM a 19).1 && mayOs a.others))
theorem mayM_bad {a : At} {k : Nat} (hk : k < 19) (h : badM a k = true) : mayM a = false := by
  unfold mayM
  rw [show (List.range 19).any (badM a) = true from List.any_eq_true.2 ⟨k, List.mem_range.2 hk, h⟩]
  rfl
theorem mayM_good {a : At} (h : ∀ k, k < 19 → badM a k = false) : mayM a = (decide ((foldM a 19).2 = 0) && (same a (foldM a 19).1 && mayOs a.others)) := by
  unfold mayM
  rw [show (List.range 19).any (badM a) = false from by
    rw [List.any_eq_false]
    intro x hx
    rw [h x (List.mem_range.1 hx)]
    simp]
  rfl
end Ax
theorem Atp.drop {w : World} {a : At} {pv cv qv ov : Value} (h : Atp w a pv cv qv ov) (t : UInt8) : Atp w (Ax.drop a t) (gone (t.toNat = 2) pv) (gone (t.toNat = 8) cv) (gone (t.toNat = 17) qv) ov := by
  obtain ⟨h1, h2, h3, h4, f0, f3, f4, f5, f6, f7, f10, f11⟩ := h
  refine ⟨?_, ?_, ?_, h4, ?_⟩
  · by_cases e : t.toNat = 2
    · simp only [Ax.drop, e, decide_true, if_true, gone_t]; exact (Pown.nil w 0).pts
    · simp only [Ax.drop, e, decide_false, if_false, gone_f]; exact h1
  · by_cases e : t.toNat = 8
    · simp only [Ax.drop, e, decide_true, if_true, gone_t]; exact As.nil _
    · simp only [Ax.drop, e, decide_false, if_false, gone_f]; exact h2
  · by_cases e : t.toNat = 17
    · simp only [Ax.drop, e, decide_true, if_true, gone_t]; exact (Pown.nil w 0).pts
    · simp only [Ax.drop, e, decide_false, if_false, gone_f]; exact h3
  · have z : ∀ (c : Prop) [Decidable c] (n : Nat), n < 4294967296 → (if c then 0 else n) < 4294967296 := fun c _ n hn => by split <;> omega
    refine ⟨?_, z _ _ f3, z _ _ f4, z _ _ f5, z _ _ f6, z _ _ f7, z _ _ f10, z _ _ f11⟩
    show Ax.hasOff a t < 4294967296
    unfold Ax.hasOff
    split
    · exact Ax.off_lt _ _
    · exact f0

theorem cutK {α β : Prop} (f : α → β) (a : α) : β := f a
/-- What lies in memory between two types. -/
structure MM (w : World) (a : At) (pv cv qv ov : Value) (st : At × Nat) (u : World) : Prop where
  ba : Blk u w.heap.size 33 (Ax.agg a pv cv qv ov)
  bt : ∃ pu cu qu, Blk u (w.heap.size + 1) 33 (Ax.agg st.1 pu cu qu ov) ∧ Atp w st.1 pu cu qu ov
  kept : Kept Nothing w u
  lt : st.2 < 4294967296
theorem MM.old {w u u' : World} {a : At} {pv cv qv ov : Value} {st : At × Nat} (h : MM w a pv cv qv ov st u) (k : Kept Nothing u u') : MM w a pv cv qv ov st u' := by
  obtain ⟨pu, cu, qu, h1, h2⟩ := h.bt
  exact ⟨h.ba.kept k (fun x => x), ⟨pu, cu, qu, h1.kept k (fun x => x), h2⟩, h.kept.trans k, h.lt⟩
theorem MM.dropped {w u u' : World} {a : At} {pv cv qv ov pu cu qu : Value} {st : At × Nat} (h : MM w a pv cv qv ov st u) (t : UInt8) (hp : Atp w st.1 pu cu qu ov) (k : Kept (Only (w.heap.size + 1)) u u') (hb : Blk u' (w.heap.size + 1) 33 (Ax.agg (Ax.drop st.1 t) (gone (t.toNat = 2) pu) (gone (t.toNat = 8) cu) (gone (t.toNat = 17) qu) ov)) :
    MM w a pv cv qv ov (Ax.drop st.1 t, st.2) u' :=
  ⟨h.ba.kept k (fun (e : w.heap.size = w.heap.size + 1) => by omega), ⟨_, _, _, hb, hp.drop t⟩, h.kept.trans_new k (fun i hi (e : i = w.heap.size + 1) => by omega), h.lt⟩
/-- Attributes that were there stay, while a block of attributes that is younger is written. -/
theorem Atp.young {w u : World} {a : At} {pv cv qv ov : Value} (h : Atp w a pv cv qv ov) (k : Kept Nothing w u) : Atp u a pv cv qv ov := h.old k

set_option maxRecDepth 20000 in
set_option maxHeartbeats 4000000 in
theorem at_may (a : At) (pv cv qv ov : Value) (w : World) (h : Atp w a pv cv qv ov) (ht : Wtd w) (hsm : Ax.small a) :
    Calls Tryz.prog 14 #[.agg (Ax.agg a pv cv qv ov)] w fun e w' => e = .returned (.bool (Ax.mayM a)) ∧ Kept Nothing w w' := by
  have HA := Lib.hid h
  have HT := Lib.hid ht
  have HI := Lib.hid (fun (t : UInt8) u (k : Kept Nothing w u) => at_is a pv cv qv ov t u (h.old k) (ht.kept k))
  have HKN := Lib.hid (fun (t : UInt8) u (k : Kept Nothing w u) => known_any t u (ht.kept k))
  have HR := Lib.hid (fun (t : UInt8) u (k : Kept Nothing w u) => at_right a pv cv qv ov t u (h.old k) (by have := hsm.1; omega) (by have := hsm.2.1; omega) (fun s hs => by have := hsm.2.2.2 s hs; omega))
  have HBI := Lib.hid (fun (t : UInt8) u => bit_any7 t u)
  have HMO := Lib.hid (fun u (k : Kept Nothing w u) => may_others ov a.others u (h.2.2.2.1.old k) (ht.kept k))
  obtain ⟨Ap, np, rfl, -, -⟩ := (show ∃ A c, pv = .slice A a.path.length c ∧ _ ∧ _ from h.1.form)
  obtain ⟨Ac, nc, rfl, -, -⟩ := h.2.1.form
  obtain ⟨Aq, nq, rfl, -, -⟩ := (show ∃ A c, qv = .slice A a.path4.length c ∧ _ ∧ _ from h.2.2.1.form)
  obtain ⟨Ao, no, rfl, -, -⟩ := h.2.2.2.1.form
  have k1 := (Kept.refl Nothing w).alloc (.cells (Ax.agg a (.slice Ap a.path.length np) (.slice Ac a.comms.length nc) (.slice Aq a.path4.length nq) (.slice Ao a.others.length no)) 33)
  have b1 := Blk.fresh w 33 (Ax.agg a (.slice Ap a.path.length np) (.slice Ac a.comms.length nc) (.slice Aq a.path4.length nq) (.slice Ao a.others.length no))
  have K1 := Lib.hid k1
  have B1 := Lib.hid b1
  have c0 := b1.cell 0
  have c1 := b1.cell 1
  have c2 := b1.cell 2
  have c3 := b1.cell 3
  have c4 := b1.cell 4
  have c5 := b1.cell 5
  have c6 := b1.cell 6
  have c7 := b1.cell 7
  have c8 := b1.cell 8
  have c9 := b1.cell 9
  have c10 := b1.cell 10
  have c11 := b1.cell 11
  have c12 := b1.cell 12
  clear h ht hsm k1 b1
  unfold Ax.agg at c0 c1 c2 c3 c4 c5 c6 c7 c8 c9 c10 c11 c12 HI HR ⊢
  go_enter Tryz.func14, Tryz.ntmps14
  go_upto_region 1 with fail
  apply cutK
  · intro hK
    go_region_law (fail)
    all_goals
      simp only [Exit.then]
      exact hK
  · apply_assumption
    have HM0 : Hid (MM w a (.slice Ap a.path.length np) (.slice Ac a.comms.length nc) (.slice Aq a.path4.length nq) (.slice Ao a.others.length no) (Ax.foldM a 0) (((w.alloc (.cells #[.int .u32 (a.has : Int), .int .u8 (a.origin.toNat : Int), .slice Ap a.path.length np, .int .u32 (a.nh : Int), .int .u32 (a.med : Int), .int .u32 (a.pref : Int), .int .u32 (a.byA : Int), .int .u32 (a.byI : Int), .slice Ac a.comms.length nc, .slice Aq a.path4.length nq, .int .u32 (a.by4A : Int), .int .u32 (a.by4I : Int), .slice Ao a.others.length no] 33)).alloc (.cells #[.int .u32 (a.has : Int), .int .u8 (a.origin.toNat : Int), .slice Ap a.path.length np, .int .u32 (a.nh : Int), .int .u32 (a.med : Int), .int .u32 (a.pref : Int), .int .u32 (a.byA : Int), .int .u32 (a.byI : Int), .slice Ac a.comms.length nc, .slice Aq a.path4.length nq, .int .u32 (a.by4A : Int), .int .u32 (a.by4I : Int), .slice Ao a.others.length no] 33)).drew)) := Lib.hid (by
      refine ⟨(B1.out.alloc _).drew, ⟨_, _, _, ?_, HA.out⟩, (K1.out.alloc _).drew, HA.out.2.2.2.2.1⟩
      have h2 := Blk.fresh (w.alloc (.cells (Ax.agg a (.slice Ap a.path.length np) (.slice Ac a.comms.length nc) (.slice Aq a.path4.length nq) (.slice Ao a.others.length no)) 33)) 33 (Ax.agg a (.slice Ap a.path.length np) (.slice Ac a.comms.length nc) (.slice Aq a.path4.length nq) (.slice Ao a.others.length no))
      rw [World.size_alloc] at h2
      exact h2)
    generalize ((w.alloc (.cells #[.int .u32 (a.has : Int), .int .u8 (a.origin.toNat : Int), .slice Ap a.path.length np, .int .u32 (a.nh : Int), .int .u32 (a.med : Int), .int .u32 (a.pref : Int), .int .u32 (a.byA : Int), .int .u32 (a.byI : Int), .slice Ac a.comms.length nc, .slice Aq a.path4.length nq, .int .u32 (a.by4A : Int), .int .u32 (a.by4I : Int), .slice Ao a.others.length no] 33)).alloc (.cells #[.int .u32 (a.has : Int), .int .u8 (a.origin.toNat : Int), .slice Ap a.path.length np, .int .u32 (a.nh : Int), .int .u32 (a.med : Int), .int .u32 (a.pref : Int), .int .u32 (a.byA : Int), .int .u32 (a.byI : Int), .slice Ac a.comms.length nc, .slice Aq a.path4.length nq, .int .u32 (a.by4A : Int), .int .u32 (a.by4I : Int), .slice Ao a.others.length no] 33)).drew = w0 at *
    clear c0 c1 c2 c3 c4 c5 c6 c7 c8 c9 c10 c11 c12 B1 K1
    go_wp2
    go_loopw [3, 10] (fun lv i wr => ∃ k : Nat, i = .int .i64 (k : Int) ∧ k ≤ 19 ∧ lv = .int .u32 ((Ax.foldM a k).2 : Int) ∧ Hid (MM w a (.slice Ap a.path.length np) (.slice Ac a.comms.length nc) (.slice Aq a.path4.length nq) (.slice Ao a.others.length no) (Ax.foldM a k) wr) ∧ Hid (∀ j, j < k → Ax.badM a j = false)) (fun _ i _ => 19 - (intOf i).toNat)
    case atStart => exact ⟨0, rfl, by omega, rfl, HM0, Lib.hid (fun j hj => by omega)⟩
    case round =>
      clear HM0
      obtain ⟨k, rfl, hk, rfl, HM, HB⟩ := hrel
      have g0 := HM.out.ba.cell 0
      have g1 := HM.out.ba.cell 1
      have g2 := HM.out.ba.cell 2
      have g3 := HM.out.ba.cell 3
      have g4 := HM.out.ba.cell 4
      have g5 := HM.out.ba.cell 5
      have g6 := HM.out.ba.cell 6
      have g7 := HM.out.ba.cell 7
      have g8 := HM.out.ba.cell 8
      have g9 := HM.out.ba.cell 9
      have g10 := HM.out.ba.cell 10
      have g11 := HM.out.ba.cell 11
      have g12 := HM.out.ba.cell 12
      unfold Ax.agg at g0 g1 g2 g3 g4 g5 g6 g7 g8 g9 g10 g11 g12
      have hle := HM.out.lt
      by_cases hlt : k < 19
      · obtain ⟨t, htt⟩ : ∃ t : UInt8, UInt8.ofNat k = t := ⟨_, rfl⟩
        have hkt : IntKind.u8.wrap (k : Int) = (t.toNat : Int) := by
          rw [← htt]
          simp [IntKind.wrap, IntKind.bits, IntKind.signed]
        have i2 : (k : Int) < 19 := by omega
        have HKNt := Lib.hid (HKN.out t wr HM.out.kept)
        have HIt := Lib.hid (HI.out t)
        have HRt := Lib.hid (HR.out t)
        have HST : Hid (Ax.foldM a (k + 1) = if Ax.known t = false then Ax.foldM a k else if Ax.is a t = false then (Ax.drop (Ax.foldM a k).1 t, (Ax.foldM a k).2) else ((Ax.foldM a k).1, Ax.off (Ax.foldM a k).2 (Ax.bit t))) := Lib.hid (by rw [Ax.foldM_succ]; unfold Ax.stepM; rw [htt])
        have HBD : Hid (Ax.badM a k = (Ax.known t && (Ax.is a t && !Ax.right a t))) := Lib.hid (by unfold Ax.badM; rw [htt])
        have HNB : Hid (Ax.badM a k = false → ∀ j, j < k + 1 → Ax.badM a j = false) := Lib.hid (fun h j hj => by
          by_cases e : j = k
          · subst e; exact h
          · exact HB.out j (by omega))
        have HKL := Lib.hid hlt
        clear htt HKN HI HR HB hlt
        cases hkn : Ax.known t with
        | false =>
          rw [hkn] at HKNt HST HBD
          have HST2 : Hid (Ax.foldM a (k + 1) = Ax.foldM a k) := Lib.hid (by rw [HST.out, if_pos rfl])
          clear hkn HST
          generalize hst : Ax.foldM a k = st at *
          have HS := Lib.hid hst
          clear hst
          go_wp2_with (go_at_call 28; refine HKNt.out.mono ?_; rintro e w1 ⟨rfl, rfl⟩)
          go_roundw
          case rel => exact ⟨k + 1, by go_num, by have := HKL.out; omega, by rw [HST2.out], by rw [HST2.out]; exact HM, Lib.hid (HNB.out (by rw [HBD.out]; rfl))⟩
          case measure => have := HKL.out; simp [intOf]; omega
        | true =>
          rw [hkn] at HKNt HST HBD
          cases his : Ax.is a t with
          | false =>
            rw [his] at HIt HST HBD
            have HST2 : Hid (Ax.foldM a (k + 1) = (Ax.drop (Ax.foldM a k).1 t, (Ax.foldM a k).2)) := Lib.hid (by rw [HST.out, if_neg (by simp), if_pos rfl])
            clear hkn his HST
            generalize hst : Ax.foldM a k = st at *
            obtain ⟨pu, cu, qu, hbt, hpt⟩ := HM.out.bt
            have HPT := Lib.hid hpt
            have HBT := Lib.hid hbt
            clear hst hbt hpt
            go_wp2_with (first
              | (go_at_call 43; refine (at_drop (w.heap.size + 1) st.1 pu cu qu (.slice Ao a.others.length no) t _ (HBT.out.kept k2 (fun x => x)) (HT.out.kept (HM.out.kept.trans k2))).mono ?_; rintro e w3 ⟨⟨v3, rfl⟩, b3, k3⟩)
              | (go_at_call 18; refine (HIt.out _ HM.out.kept).mono ?_; rintro e w2 ⟨rfl, k2⟩)
              | (go_at_call 28; refine HKNt.out.mono ?_; rintro e w1 ⟨rfl, rfl⟩))
            have HM3 := Lib.hid ((HM.out.old k2).dropped t HPT.out k3 b3)
            clear b3 k3 k2
            go_roundw
            case rel => exact ⟨k + 1, by go_num, by have := HKL.out; omega, by rw [HST2.out], by rw [HST2.out]; exact HM3, Lib.hid (HNB.out (by rw [HBD.out]; rfl))⟩
            case measure => have := HKL.out; simp [intOf]; omega
          | true =>
            rw [his] at HIt HST HBD
            cases hrg : Ax.right a t with
            | false =>
              rw [hrg] at HRt HBD
              have HL : Hid (Ax.mayM a = false) := Lib.hid (Ax.mayM_bad HKL.out (by rw [HBD.out]; rfl))
              clear hkn his hrg HST
              generalize hst : Ax.foldM a k = st at *
              clear hst
              go_wp2_with (first
                | (go_at_call 44; refine (HRt.out _ (HM.out.kept.trans k2)).mono ?_; rintro e w3 ⟨rfl, k3⟩)
                | (go_at_call 18; refine (HIt.out _ HM.out.kept).mono ?_; rintro e w2 ⟨rfl, k2⟩; (have HM2 := Lib.hid (HM.out.old k2)); (have m0 := HM2.out.ba.cell 0); (have m1 := HM2.out.ba.cell 1); (have m2 := HM2.out.ba.cell 2); (have m3 := HM2.out.ba.cell 3); (have m4 := HM2.out.ba.cell 4); (have m5 := HM2.out.ba.cell 5); (have m6 := HM2.out.ba.cell 6); (have m7 := HM2.out.ba.cell 7); (have m8 := HM2.out.ba.cell 8); (have m9 := HM2.out.ba.cell 9); (have m10 := HM2.out.ba.cell 10); (have m11 := HM2.out.ba.cell 11); (have m12 := HM2.out.ba.cell 12); unfold Ax.agg at m0 m1 m2 m3 m4 m5 m6 m7 m8 m9 m10 m11 m12)
                | (go_at_call 28; refine HKNt.out.mono ?_; rintro e w1 ⟨rfl, rfl⟩))
              go_ret
              exact ⟨by rw [HL.out]; rfl, (HM.out.kept.trans k2).trans k3⟩
            | true =>
              rw [hrg] at HRt HBD
              have HST2 : Hid (Ax.foldM a (k + 1) = ((Ax.foldM a k).1, Ax.off (Ax.foldM a k).2 (Ax.bit t))) := Lib.hid (by rw [HST.out, if_neg (by simp), if_neg (by simp)])
              have hoff := bits_off_u32 (Ax.foldM a k).2 (Ax.bit t)
              have HOL : Hid (Ax.off (Ax.foldM a k).2 (Ax.bit t) < 4294967296) := Lib.hid (Ax.off_lt _ _)
              clear hkn his hrg HST
              generalize hst : Ax.foldM a k = st at *
              clear hst
              have HBt := Lib.hid (fun u => HBI.out t u)
              go_wp2_with (first
                | (go_at_call 45; refine (HBt.out _).mono ?_; rintro e w4 ⟨rfl, rfl⟩)
                | (go_at_call 44; refine (HRt.out _ (HM.out.kept.trans k2)).mono ?_; rintro e w3 ⟨rfl, k3⟩)
                | (go_at_call 18; refine (HIt.out _ HM.out.kept).mono ?_; rintro e w2 ⟨rfl, k2⟩; (have HM2 := Lib.hid (HM.out.old k2)); (have m0 := HM2.out.ba.cell 0); (have m1 := HM2.out.ba.cell 1); (have m2 := HM2.out.ba.cell 2); (have m3 := HM2.out.ba.cell 3); (have m4 := HM2.out.ba.cell 4); (have m5 := HM2.out.ba.cell 5); (have m6 := HM2.out.ba.cell 6); (have m7 := HM2.out.ba.cell 7); (have m8 := HM2.out.ba.cell 8); (have m9 := HM2.out.ba.cell 9); (have m10 := HM2.out.ba.cell 10); (have m11 := HM2.out.ba.cell 11); (have m12 := HM2.out.ba.cell 12); unfold Ax.agg at m0 m1 m2 m3 m4 m5 m6 m7 m8 m9 m10 m11 m12)
                | (go_at_call 28; refine HKNt.out.mono ?_; rintro e w1 ⟨rfl, rfl⟩))
              have HM4 : Hid (MM w a (.slice Ap a.path.length np) (.slice Ac a.comms.length nc) (.slice Aq a.path4.length nq) (.slice Ao a.others.length no) (st.1, Ax.off st.2 (Ax.bit t)) w3) := Lib.hid (by
                have h := (HM.out.old k2).old k3
                exact ⟨h.ba, h.bt, h.kept, HOL.out⟩)
              clear k2 k3 HM2
              go_roundw
              case rel => exact ⟨k + 1, by go_num, by have := HKL.out; omega, by rw [HST2.out], by rw [HST2.out]; exact HM4, Lib.hid (HNB.out (by rw [HBD.out]; rfl))⟩
              case measure => have := HKL.out; simp [intOf]; omega
      · obtain rfl : k = 19 := by omega
        have HF : Hid (Ax.mayM a = (decide ((Ax.foldM a 19).2 = 0) && (Ax.same a (Ax.foldM a 19).1 && Ax.mayOs a.others))) := Lib.hid (Ax.mayM_good HB.out)
        have HMOw := Lib.hid HMO.out
        clear HB hlt hk HI HKN HR
        generalize hst : Ax.foldM a 19 = st at *
        clear hst
        obtain ⟨pu, cu, qu, hbt, hpt⟩ := HM.out.bt
        have HSM := Lib.hid (fun u (k : Kept Nothing w u) => at_same2 a st.1 _ _ _ _ pu cu qu (.slice Ao a.others.length no) u (HA.out.old k) (hpt.old k))
        obtain ⟨Bp, mp, rfl, -, -⟩ := (show ∃ A c, pu = .slice A st.1.path.length c ∧ _ ∧ _ from hpt.1.form)
        obtain ⟨Bc, mc, rfl, -, -⟩ := hpt.2.1.form
        obtain ⟨Bq, mq, rfl, -, -⟩ := (show ∃ A c, qu = .slice A st.1.path4.length c ∧ _ ∧ _ from hpt.2.2.1.form)
        have t0 := hbt.cell 0
        have t1 := hbt.cell 1
        have t2 := hbt.cell 2
        have t3 := hbt.cell 3
        have t4 := hbt.cell 4
        have t5 := hbt.cell 5
        have t6 := hbt.cell 6
        have t7 := hbt.cell 7
        have t8 := hbt.cell 8
        have t9 := hbt.cell 9
        have t10 := hbt.cell 10
        have t11 := hbt.cell 11
        have t12 := hbt.cell 12
        unfold Ax.agg at t0 t1 t2 t3 t4 t5 t6 t7 t8 t9 t10 t11 t12
        unfold Ax.agg at HSM
        clear hbt hpt
        by_cases hz : st.2 = 0
        · have hzi : (st.2 : Int) = 0 := by omega
          rw [hzi]
          rw [decide_eq_true hz, Bool.true_and] at HF
          clear hz hzi hle
          cases hsm : Ax.same a st.1 with
          | false =>
            rw [hsm] at HSM HF
            clear hsm
            go_wp2_with (go_at_call 17; refine (HSM.out _ HM.out.kept).mono ?_; rintro e w2 ⟨rfl, k2⟩)
            go_ret
            exact ⟨by rw [HF.out]; rfl, HM.out.kept.trans k2⟩
          | true =>
            rw [hsm, Bool.true_and] at HF
            rw [hsm] at HSM
            clear hsm
            go_wp2_with (first
              | (go_at_call 46; refine (HMOw.out _ (HM.out.kept.trans k2)).mono ?_; rintro e w3 ⟨rfl, k3⟩)
              | (go_at_call 17; refine (HSM.out _ HM.out.kept).mono ?_; rintro e w2 ⟨rfl, k2⟩; (have q12 : w2.cell? ⟨w.heap.size, 12, none⟩ = some (.slice Ao a.others.length no) := (HM.out.ba.kept k2 (fun x => x)).cell 12)))
            go_ret
            exact ⟨by rw [HF.out]; rfl, (HM.out.kept.trans k2).trans k3⟩
        · have hzi : ((st.2 : Int) == 0) = false := by rw [beq_eq_false_iff_ne]; omega
          have hzi2 : ¬ (st.2 : Int) = 0 := by omega
          rw [decide_eq_false hz, Bool.false_and] at HF
          obtain ⟨m, hm⟩ : ∃ m : Nat, (st.2 : Int) = (m : Int) + 1 := ⟨st.2 - 1, by omega⟩
          rw [hm]
          clear hz hle hzi hzi2 hm
          have hmi : ¬ (m : Int) + 1 = 0 := by omega
          go_wp2
          go_ret
          exact ⟨by rw [HF.out]; rfl, HM.out.kept⟩
end Go.Proofs.YteofbpdogmajoaaGreatDoor
