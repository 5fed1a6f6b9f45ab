
/-
  attrs: an attribute's form laid; the value of a known type (printed by wip/gen_uc.py).
-/
import Derived.Test.YteofbpdogmajoaaGreatDoorZo
import Derived.Test.YteofbpdogmajoaaGreatDoorZr
import Derived.Test.YteofbpdogmajoaaGreatDoorZu
namespace Go.Proofs.YteofbpdogmajoaaGreatDoor
open Go.RowKit

theorem Pt.may_len {l : List Seg} (h : Pt.may l = true) : l.length ≤ 32 ∧ ∀ s ∈ l, s.2.length ≤ 255 := by
  unfold Pt.may at h
  rw [Bool.and_eq_true, List.all_eq_true] at h
  refine ⟨by simpa using h.2, fun s hs => ?_⟩
  have := h.1 s hs
  unfold Pt.may1 at this
  simp only [Bool.and_eq_true, decide_eq_true_eq] at this
  exact this.2
theorem Pt.not_wide {l : List Seg} (h : Pt.hasW l = false) : ∀ s ∈ l, ∀ n ∈ s.2, n < 65536 := by
  intro s hs n hn
  unfold Pt.hasW at h
  rw [List.any_eq_false] at h
  have := h (s.1, n) (by unfold Pt.all; exact List.mem_flatMap.2 ⟨s, hs, List.mem_map.2 ⟨n, hn, rfl⟩⟩)
  simp at this
  omega

theorem wr_done_own (p : Nat) (F : Nat → Prop) (s : WS) (w : World) (h : Wr w F p s) (he : s.e = 0) (h0 : s.hs = []) :
    Calls Tryz.prog 52 #[.pointer (some ⟨p, 0, none⟩)] w fun r w' => ∃ v, r = .returned (.tuple #[v, .int .i64 s.done.2]) ∧ w'.ownsRow w.heap.size 5 1 v s.done.1.length (bys s.done.1) ∧ Kept Nothing w w' := by
  have hE := Lib.hid (wr_err p F s w h)
  have hn : (s.e != 0) = false := by simpa using he
  have hmx := h.ok.2.1
  obtain ⟨bv, hv, _, hb, h1, h2, hok⟩ := h
  obtain ⟨⟨-, c1, c2, -⟩, -⟩ := cells4 hb
  obtain ⟨A0, cc0, rfl, _, _⟩ := own_form h1
  obtain ⟨A1, cc1, rfl, _, _⟩ := own_form h2
  have HF : Hid (s.done = (s.l, 0)) := by show _ = _; unfold WS.done; rw [if_pos he, if_pos h0]
  rw [HF.out]
  have HC := Lib.hid (sl_clone _ s.l w (Bs.of_own h1).by hmx)
  rw [h0] at c2
  simp only [List.length_nil] at c2
  clear HF he h0 hb h1 h2 hok
  go_enter Tryz.func52, Tryz.ntmps52
  go_wp2_with fail
  refine hE.out.mono ?_
  rintro e w' ⟨rfl, rfl⟩
  go_wp2_with fail
  refine HC.out.mono ?_
  rintro e w1 ⟨v, rfl, ho, hk⟩
  have HO := Lib.hid ho
  clear ho
  go_wp2
  go_ret2
  exact ⟨v, rfl, HO.out, hk⟩

set_option maxHeartbeats 1600000 in
theorem path_bytes (v : Value) (l : List Seg) (wide : Bool) (w : World) (h : Pts w v l) (hl : l.length ≤ 1000000) (hn : ∀ s ∈ l, s.2.length ≤ 1000000) :
    Calls Tryz.prog 102 #[v, .bool wide] w fun e w' => ∃ u, e = .returned (.tuple #[u, .int .i64 ((Pt.bytes l wide).2 : Int)]) ∧ w'.ownsRow w.heap.size 5 1 u (Pt.bytes l wide).1.length (bys (Pt.bytes l wide).1) ∧ Kept Nothing w w' := by
  obtain ⟨A, c, rfl, hc, hm⟩ := h.form
  have HM := Lib.hid (path_may _ l w h (by omega))
  have HW := Lib.hid (fun w' (k : Kept Nothing w w') => path_hasWide _ l w' (h.old k) hl hn)
  have HV := Lib.hid h
  clear h
  cases hmay : Pt.may l with
  | false =>
    have HB : Hid (Pt.bytes l wide = ([], 1)) := Lib.hid (by unfold Pt.bytes; rw [if_pos hmay])
    rw [hmay] at HM
    clear hmay HW HV hn
    rw [HB.out]
    go_enter Tryz.func102, Tryz.ntmps102
    go_wp2_with (go_at_call 64; refine (HM.out).mono ?_; rintro e w1 ⟨rfl, k1⟩)
    go_ret2
    exact ⟨_, rfl, World.ownsRow_nil _ _ _ _, k1⟩
  | true =>
    obtain ⟨hl32, hn255⟩ := Pt.may_len hmay
    have HBE : Hid ((!wide && Pt.hasW l) = true → Pt.bytes l wide = ([], 24)) := Lib.hid (fun e => by unfold Pt.bytes; rw [if_neg (by rw [hmay]; simp), if_pos e])
    have HBF : Hid ((!wide && Pt.hasW l) = false → Pt.bytes l wide = (Pt.form wide l, 0)) := Lib.hid (fun e => by unfold Pt.bytes; rw [if_neg (by rw [hmay]; simp), if_neg (by rw [e]; simp)])
    have HNW : Hid ((!wide && Pt.hasW l) = false → wide = false → ∀ s ∈ l, ∀ n ∈ s.2, n < 65536) := Lib.hid (fun e1 e2 => Pt.not_wide (by rw [e2] at e1; simpa using e1))
    rw [hmay] at HM
    have HN := Lib.hid hn255
    clear hmay hn hn255
    generalize Pt.hasW l = hw at *
    by_cases hwb : (!wide && hw) = true
    · have HB := Lib.hid (HBE.out hwb)
      rw [Bool.and_eq_true] at hwb
      obtain ⟨h1, rfl⟩ := hwb
      obtain rfl : wide = false := by simpa using h1
      clear h1 HBE HBF HNW HV
      rw [HB.out]
      go_enter Tryz.func102, Tryz.ntmps102
      go_wp2_with (first | (go_at_call 64; refine (HM.out).mono ?_; rintro e w1 ⟨rfl, k1⟩) | (go_at_call 142; refine (HW.out _ k1).mono ?_; rintro e w2 ⟨rfl, k2⟩))
      go_ret2
      exact ⟨_, rfl, World.ownsRow_nil _ _ _ _, k1.trans k2⟩
    · have hwf : (!wide && hw) = false := by simpa using hwb
      have HB := Lib.hid (HBF.out hwf)
      have HX := Lib.hid (HNW.out hwf)
      rw [HB.out]
      clear hwb HBE HBF HNW
      cases wide with
      | true =>
        go_enter Tryz.func102, Tryz.ntmps102
        go_upto_region 5 with (go_at_call 64; refine (HM.out).mono ?_; rintro e w1 ⟨rfl, k1⟩)
        go_wp2_with fail
        refine (wr_lay _).mono ?_
        rintro e w3 ⟨p, F, rfl, hW3, k3, s3⟩
        have L3 : Hid (LayPost w p ((⟨[], [], 0⟩ : WS).lay (Pt.form true (l.take 0))) w3) := Lib.hid (by
          rw [List.take_zero, Pt.form_nil, WS.lay_nil]
          exact ⟨F, hW3, k1.trans k3, fun g hg => by
            rcases s3 g hg with x | x
            · exact x.elim
            · have := k1.size; omega⟩)
        clear hW3 k3 s3
        go_wp2_with fail
        go_loopw [21] (fun i wr => ∃ k : Nat, i = .int .i64 (k : Int) ∧ k ≤ l.length ∧ Hid (LayPost w p ((⟨[], [], 0⟩ : WS).lay (Pt.form true (l.take k))) wr)) (fun i _ => l.length - (intOf i).toNat)
        case atStart => exact ⟨0, rfl, Nat.zero_le _, L3⟩
        case round =>
          clear L3
          obtain ⟨k, rfl, hk, HL⟩ := hrel
          by_cases hlt : k < l.length
          · have hkk : Kept Nothing w wr := by obtain ⟨_, _, hk3, _⟩ := HL.out; exact hk3
            obtain ⟨b, o, Au, cu, rfl, p0, p1, hp⟩ := HV.out.at2 hlt
            have q0 := hkk.cell_some p0 (fun x => x)
            have q1 := hkk.cell_some p1 (fun x => x)
            have i1 : (0 : Int) ≤ (k : Int) := by omega
            have i2 : (k : Int) < (l.length : Int) := by omega
            have hmem : l.getD k (0, []) ∈ l := by rw [getD_get hlt]; exact List.getElem_mem _
            have hsn := HN.out _ hmem
            have HXS := Lib.hid (fun e => HX.out e _ hmem)
            have ET : Hid (l.take (k + 1) = l.take k ++ [l.getD k (0, [])]) := Lib.hid (by rw [List.take_succ_eq_append_getElem hlt, getD_get hlt])
            have hsl : ((⟨[], [], 0⟩ : WS).lay (Pt.form true (l.take k))).l.length ≤ 160000 := by
              have h1 := WS.lay_len (⟨[], [], 0⟩ : WS) (Pt.form true (l.take k))
              have h2 := Pt.length_form true (l.take k) (fun s hs => by have := HN.out s (List.mem_of_mem_take hs); omega)
              rw [List.length_take] at h2
              simp only [List.length_nil] at h1
              omega
            have EL : Hid (∀ s, ((⟨[], [], 0⟩ : WS).lay (Pt.form true (l.take k))).lay (Pt.seg true s) = (⟨[], [], 0⟩ : WS).lay (Pt.form true (l.take k ++ [s]))) := Lib.hid (fun s => by rw [WS.lay_lay, ← Pt.form_snoc])
            generalize (⟨[], [], 0⟩ : WS).lay (Pt.form true (l.take k)) = s2 at *
            generalize hsg : l.getD k (0, []) = sg at *
            obtain ⟨sk, sn⟩ := sg
            clear hsg hmem p0 p1 hkk
            simp only at q0 q1 hsn
            have HP := Lib.hid hp
            have HSL := Lib.hid hsl
            have LA : LayPost w p s2 (wr.alloc (.cells #[.int .u8 (sk.toNat : Int), .slice Au sn.length cu] 71)) := by
              obtain ⟨F3, h1, h2, h3⟩ := HL.out
              exact ⟨F3, h1.kept ((Kept.refl Nothing wr).alloc _) (fun _ _ x => x), h2.alloc _, h3⟩
            have CL := Lib.hid (seg_lay w sk.toNat sk.toNat_lt (.slice Au sn.length cu) sn HP.out true (fun e => HXS.out (by first | exact e | trivial)) p s2 _ LA (by omega))
            rw [show UInt8.ofNat sk.toNat = sk from UInt8.ofNat_toNat] at CL
            clear LA HL hp hsl
            go_wp2_with (go_at_call 143; refine (CL.out).mono ?_; rintro e w4 ⟨u4, rfl, hL4⟩)
            go_roundw
            case rel =>
              refine ⟨k + 1, by go_num, by omega, Lib.hid ?_⟩
              rw [ET.out, ← EL.out]
              exact hL4
            case measure => simp [intOf]; omega
          · obtain rfl : k = l.length := by omega
            rw [List.take_of_length_le (Nat.le_refl _)] at HL
            obtain ⟨F3, hW3, hk3, hF3⟩ := HL.out
            have hD := wr_done_own p F3 _ wr hW3 rfl rfl
            have ED : ((⟨[], [], 0⟩ : WS).lay (Pt.form true l)).done = (Pt.form true l, 0) := by simp [WS.lay, WS.done]
            rw [ED] at hD
            have HD := Lib.hid hD
            have K3 := Lib.hid hk3
            clear hD ED HL hW3 hk3 hF3
            go_wp2_with (go_at_call 52; refine (HD.out).mono ?_; rintro e w5 ⟨v5, rfl, hb5, hk5⟩)
            go_ret2
            exact ⟨_, rfl, own_weakA hb5 K3.out.size, K3.out.trans hk5⟩
      | false =>
        obtain rfl : hw = false := by simpa using hwf
        go_enter Tryz.func102, Tryz.ntmps102
        go_upto_region 5 with (first | (go_at_call 64; refine (HM.out).mono ?_; rintro e w1 ⟨rfl, k1⟩) | (go_at_call 142; refine (HW.out _ k1).mono ?_; rintro e w2 ⟨rfl, k2⟩; replace k1 := k1.trans k2))
        go_wp2_with fail
        refine (wr_lay _).mono ?_
        rintro e w3 ⟨p, F, rfl, hW3, k3, s3⟩
        have L3 : Hid (LayPost w p ((⟨[], [], 0⟩ : WS).lay (Pt.form false (l.take 0))) w3) := Lib.hid (by
          rw [List.take_zero, Pt.form_nil, WS.lay_nil]
          exact ⟨F, hW3, k1.trans k3, fun g hg => by
            rcases s3 g hg with x | x
            · exact x.elim
            · have := k1.size; omega⟩)
        clear hW3 k3 s3
        go_wp2_with fail
        go_loopw [21] (fun i wr => ∃ k : Nat, i = .int .i64 (k : Int) ∧ k ≤ l.length ∧ Hid (LayPost w p ((⟨[], [], 0⟩ : WS).lay (Pt.form false (l.take k))) wr)) (fun i _ => l.length - (intOf i).toNat)
        case atStart => exact ⟨0, rfl, Nat.zero_le _, L3⟩
        case round =>
          clear L3
          obtain ⟨k, rfl, hk, HL⟩ := hrel
          by_cases hlt : k < l.length
          · have hkk : Kept Nothing w wr := by obtain ⟨_, _, hk3, _⟩ := HL.out; exact hk3
            obtain ⟨b, o, Au, cu, rfl, p0, p1, hp⟩ := HV.out.at2 hlt
            have q0 := hkk.cell_some p0 (fun x => x)
            have q1 := hkk.cell_some p1 (fun x => x)
            have i1 : (0 : Int) ≤ (k : Int) := by omega
            have i2 : (k : Int) < (l.length : Int) := by omega
            have hmem : l.getD k (0, []) ∈ l := by rw [getD_get hlt]; exact List.getElem_mem _
            have hsn := HN.out _ hmem
            have HXS := Lib.hid (fun e => HX.out e _ hmem)
            have ET : Hid (l.take (k + 1) = l.take k ++ [l.getD k (0, [])]) := Lib.hid (by rw [List.take_succ_eq_append_getElem hlt, getD_get hlt])
            have hsl : ((⟨[], [], 0⟩ : WS).lay (Pt.form false (l.take k))).l.length ≤ 160000 := by
              have h1 := WS.lay_len (⟨[], [], 0⟩ : WS) (Pt.form false (l.take k))
              have h2 := Pt.length_form false (l.take k) (fun s hs => by have := HN.out s (List.mem_of_mem_take hs); omega)
              rw [List.length_take] at h2
              simp only [List.length_nil] at h1
              omega
            have EL : Hid (∀ s, ((⟨[], [], 0⟩ : WS).lay (Pt.form false (l.take k))).lay (Pt.seg false s) = (⟨[], [], 0⟩ : WS).lay (Pt.form false (l.take k ++ [s]))) := Lib.hid (fun s => by rw [WS.lay_lay, ← Pt.form_snoc])
            generalize (⟨[], [], 0⟩ : WS).lay (Pt.form false (l.take k)) = s2 at *
            generalize hsg : l.getD k (0, []) = sg at *
            obtain ⟨sk, sn⟩ := sg
            clear hsg hmem p0 p1 hkk
            simp only at q0 q1 hsn
            have HP := Lib.hid hp
            have HSL := Lib.hid hsl
            have LA : LayPost w p s2 (wr.alloc (.cells #[.int .u8 (sk.toNat : Int), .slice Au sn.length cu] 71)) := by
              obtain ⟨F3, h1, h2, h3⟩ := HL.out
              exact ⟨F3, h1.kept ((Kept.refl Nothing wr).alloc _) (fun _ _ x => x), h2.alloc _, h3⟩
            have CL := Lib.hid (seg_lay w sk.toNat sk.toNat_lt (.slice Au sn.length cu) sn HP.out false (fun e => HXS.out (by first | exact e | trivial)) p s2 _ LA (by omega))
            rw [show UInt8.ofNat sk.toNat = sk from UInt8.ofNat_toNat] at CL
            clear LA HL hp hsl
            go_wp2_with (go_at_call 143; refine (CL.out).mono ?_; rintro e w4 ⟨u4, rfl, hL4⟩)
            go_roundw
            case rel =>
              refine ⟨k + 1, by go_num, by omega, Lib.hid ?_⟩
              rw [ET.out, ← EL.out]
              exact hL4
            case measure => simp [intOf]; omega
          · obtain rfl : k = l.length := by omega
            rw [List.take_of_length_le (Nat.le_refl _)] at HL
            obtain ⟨F3, hW3, hk3, hF3⟩ := HL.out
            have hD := wr_done_own p F3 _ wr hW3 rfl rfl
            have ED : ((⟨[], [], 0⟩ : WS).lay (Pt.form false l)).done = (Pt.form false l, 0) := by simp [WS.lay, WS.done]
            rw [ED] at hD
            have HD := Lib.hid hD
            have K3 := Lib.hid hk3
            clear hD ED HL hW3 hk3 hF3
            go_wp2_with (go_at_call 52; refine (HD.out).mono ?_; rintro e w5 ⟨v5, rfl, hb5, hk5⟩)
            go_ret2
            exact ⟨_, rfl, own_weakA hb5 K3.out.size, K3.out.trans hk5⟩
end Go.Proofs.YteofbpdogmajoaaGreatDoor
namespace Go.Proofs.YteofbpdogmajoaaGreatDoor
open Go.RowKit

namespace Ax
/-- The writer behind an attribute's form. -/
def layO (s : WS) (o : Ot) : WS := if 255 < o.v.length then (((s.lay [o.f ||| 16, o.t]).hold 2).lay o.v).fill else (((s.lay [o.f, o.t]).hold 1).lay o.v).fill
def byB (by' ip : Nat) (wide : Bool) : List UInt8 × Nat := if wide = true then (fours [by'] ++ fours [ip], 0) else if 65535 < by' then ([], 24) else (twos [by'] ++ fours [ip], 0)
/-- The value of a known type. -/
def val (a : At) (four : Bool) (t : UInt8) : List UInt8 × Nat :=
  if t.toNat = 2 then Pt.bytes a.path four else if t.toNat = 17 then Pt.bytes a.path4 true else if t.toNat = 7 then byB a.byA a.byI four else if t.toNat = 18 then byB a.by4A a.by4I true
  else if t.toNat = 1 then ([a.origin], 0) else if t.toNat = 3 then (fours [a.nh], 0) else if t.toNat = 4 then (fours [a.med], 0) else if t.toNat = 5 then (fours [a.pref], 0) else if t.toNat = 8 then (fours a.comms, 0) else ([], 0)
end Ax
theorem or_byte16 (f : UInt8) : bits .or .u8 (f.toNat : Int) 16 = ((f ||| 16).toNat : Int) := by
  have : ∀ z : Fin 256, bits .or .u8 (z.val : Int) 16 = ((UInt8.ofNat z.val ||| 16).toNat : Int) := by decide +kernel
  have h1 := this ⟨f.toNat, f.toNat_lt⟩
  simpa using h1

/-- A writer of blocks that are new since w0, and beside it a block that is none of them. -/
def LayB (w0 : World) (p : Nat) (s : WS) (q : Nat) (t : TypeId) (cs : Array Value) (w : World) : Prop := ∃ F, Wr w F p s ∧ Kept Nothing w0 w ∧ (∀ k, F k → w0.heap.size ≤ k) ∧ ¬ F q ∧ Blk w q t cs
theorem LayB.grow {w0 w w' : World} {p q : Nat} {s : WS} {t : TypeId} {cs : Array Value} (h : LayB w0 p s q t cs w) (k : Kept Nothing w w') : LayB w0 p s q t cs w' := by
  obtain ⟨F, h1, h2, h3, h4, h5⟩ := h
  exact ⟨F, h1.kept k (fun _ _ x => x), h2.trans k, h3, h4, h5.kept k (fun x => x)⟩
theorem LayB.opens {w0 w : World} {p q : Nat} {s : WS} {t : TypeId} {cs : Array Value} (h : LayB w0 p s q t cs w) : ∃ F, Wr w F p s ∧ ∀ F' s' w', Wr w' F' p s' → Kept F w w' → Sub w F' F → LayB w0 p s' q t cs w' := by
  obtain ⟨F, h1, h2, h3, h4, h5⟩ := h
  refine ⟨F, h1, fun F' s' w' g1 g2 g3 => ⟨F', g1, h2.trans_new g2 (fun i hi x => by have := h3 i x; omega), fun k hk => ?_, fun x => ?_, h5.kept g2 h4⟩⟩
  · rcases g3 k hk with y | y
    · exact h3 k y
    · have := h2.size; omega
  · rcases g3 q x with y | y
    · exact h4 y
    · have := h5.lt; omega
theorem LayB.post {w0 w : World} {p q : Nat} {s : WS} {t : TypeId} {cs : Array Value} (h : LayB w0 p s q t cs w) : LayPost w0 p s w := by
  obtain ⟨F, h1, h2, h3, _, _⟩ := h
  exact ⟨F, h1, h2, h3⟩
theorem LayPost.beside {w0 w : World} {p : Nat} {s : WS} (h : LayPost w0 p s w) (t : TypeId) (cs : Array Value) : LayB w0 p s w.heap.size t cs (w.alloc (.cells cs t)) := by
  obtain ⟨F, h1, h2, h3⟩ := h
  exact ⟨F, h1.kept ((Kept.refl Nothing w).alloc _) (fun _ _ x => x), h2.alloc _, h3, fun x => by have := h1.lt x; omega, Blk.fresh w t cs⟩
theorem LayB.blk {w0 w : World} {p q : Nat} {s : WS} {t : TypeId} {cs : Array Value} (h : LayB w0 p s q t cs w) : Blk w q t cs := by obtain ⟨_, _, _, _, _, h⟩ := h; exact h
theorem LayB.old {w0 w : World} {p q : Nat} {s : WS} {t : TypeId} {cs : Array Value} (h : LayB w0 p s q t cs w) : Kept Nothing w0 w := by obtain ⟨_, _, h, _⟩ := h; exact h
theorem WS.hold_len (s : WS) (n : Int) (hn : n = 1 ∨ n = 2) : (s.hold n).l.length ≤ s.l.length + 2 := by
  unfold WS.hold WS.note
  rcases hn with rfl | rfl <;> split <;> (try split) <;> simp

set_option maxHeartbeats 1600000 in
theorem ot_lay (w0 : World) (f t : UInt8) (x : Value) (l : List UInt8) (hv : By w0 x l) (p : Nat) (s : WS) (w : World) (h : LayPost w0 p s w) (hl : s.l.length + l.length + 10 ≤ 1099511627776) (hd : s.hs.length < 1099511627776) :
    Calls Tryz.prog 51 #[.agg #[.int .u8 (f.toNat : Int), .int .u8 (t.toNat : Int), x], .pointer (some ⟨p, 0, none⟩)] w fun e w' => ∃ u, e = .returned u ∧ LayPost w0 p (Ax.layO s ⟨f, t, l⟩) w' := by
  obtain ⟨A, c, rfl, -, -⟩ := hv.form
  have HV := Lib.hid hv
  have HL1 := Lib.hid (h.beside 73 #[.int .u8 (f.toNat : Int), .int .u8 (t.toNat : Int), .slice A l.length c])
  have HZ : Hid (Ax.layO s ⟨f, t, l⟩ = if 255 < l.length then (((s.lay [f ||| 16, t]).hold 2).lay l).fill else (((s.lay [f, t]).hold 1).lay l).fill) := Lib.hid rfl
  have HOR := or_byte16 f
  clear hv h
  by_cases hlen : 255 < l.length
  · rw [HZ.out, if_pos hlen]
    have i1 : (255 : Int) < (l.length : Int) := by omega
    clear HZ
    go_enter Tryz.func51, Tryz.ntmps51
    go_upto_region 1 with fail
    obtain ⟨w1, hw1⟩ : ∃ w1, w.alloc (.cells #[.int .u8 (f.toNat : Int), .int .u8 (t.toNat : Int), .slice A l.length c] 73) = w1 := ⟨_, rfl⟩
    rw [hw1] at HL1 ⊢
    have c0 := HL1.out.blk.cell 0
    have c1 := HL1.out.blk.cell 1
    have c2 := HL1.out.blk.cell 2
    clear hw1
    go_wp2_with fail
    have hby := (Bs.made (l := [f ||| 16, t]) (Blk.fresh w1 5 #[.int .u8 ((f ||| 16).toNat : Int), .int .u8 (t.toNat : Int)]) (by unfold bys by8; simp) (by simp [maxLen])).by
    obtain ⟨F2, hW2, hN2⟩ := (HL1.out.grow ((Kept.refl Nothing w1).alloc (.cells #[.int .u8 ((f ||| 16).toNat : Int), .int .u8 (t.toNat : Int)] 5))).opens
    refine (wr_byte p F2 s _ _ _ hW2 hby (by simp; omega)).mono ?_
    rintro e w2 ⟨F3, rfl, hW3, hk3, hs3⟩
    have L2 := Lib.hid (hN2 _ _ _ hW3 hk3 hs3)
    have EL : (s.lay [f ||| 16, t]).l.length ≤ s.l.length + 2 := WS.lay_len s _
    have EH : Hid ((s.lay [f ||| 16, t]).hs.length < 1099511627776) := Lib.hid (by rw [show (s.lay [f ||| 16, t]).hs = s.hs by unfold WS.lay; split <;> rfl]; exact hd)
    generalize e2 : s.lay [f ||| 16, t] = s2 at *
    have E2 := Lib.hid e2
    clear e2
    clear hby hW2 hN2 hW3 hk3 hs3 c0 c1 c2 HL1
    go_wp2_with fail
    obtain ⟨F4, hW4, hN4⟩ := L2.out.opens
    refine (wr_hold p F4 s2 2 _ hW4 (by omega) EH.out).mono ?_
    rintro e w3 ⟨F5, rfl, hW5, hk5, hs5⟩
    have L3 := Lib.hid (hN4 _ _ _ hW5 hk5 hs5)
    have EL2 := WS.hold_len s2 2 (by decide)
    generalize e3 : s2.hold 2 = s3 at *
    have E3 := Lib.hid e3
    clear e3
    clear hW4 hN4 hW5 hk5 hs5 L2 EH
    have d2 := L3.out.blk.cell 2
    go_wp2_with fail
    obtain ⟨F6, hW6, hN6⟩ := L3.out.opens
    refine (wr_byte p F6 s3 _ _ _ hW6 (HV.out.old L3.out.old) (by omega)).mono ?_
    rintro e w4 ⟨F7, rfl, hW7, hk7, hs7⟩
    have L4 := Lib.hid (hN6 _ _ _ hW7 hk7 hs7)
    generalize e4 : s3.lay l = s4 at *
    have E4 := Lib.hid e4
    clear e4
    clear hW6 hN6 hW7 hk7 hs7 L3 d2
    go_wp2_with fail
    obtain ⟨F8, hW8, hN8⟩ := L4.out.opens
    refine (wr_fill p F8 s4 _ hW8).mono ?_
    rintro e w5 ⟨F9, rfl, hW9, hk9, hs9⟩
    have L5 := Lib.hid (hN8 _ _ _ hW9 hk9 hs9).post
    clear hW8 hN8 hW9 hk9 hs9 L4
    go_wp2
    go_end0
    exact ⟨_, rfl, by rw [E2.out, E3.out, E4.out]; exact L5.out⟩
  · rw [HZ.out, if_neg hlen]
    have i1 : ¬ (255 : Int) < (l.length : Int) := by omega
    clear HZ
    go_enter Tryz.func51, Tryz.ntmps51
    go_upto_region 1 with fail
    obtain ⟨w1, hw1⟩ : ∃ w1, w.alloc (.cells #[.int .u8 (f.toNat : Int), .int .u8 (t.toNat : Int), .slice A l.length c] 73) = w1 := ⟨_, rfl⟩
    rw [hw1] at HL1 ⊢
    have c0 := HL1.out.blk.cell 0
    have c1 := HL1.out.blk.cell 1
    have c2 := HL1.out.blk.cell 2
    clear hw1
    go_wp2_with fail
    have hby := (Bs.made (l := [f, t]) (Blk.fresh w1 5 #[.int .u8 (f.toNat : Int), .int .u8 (t.toNat : Int)]) (by unfold bys by8; simp) (by simp [maxLen])).by
    obtain ⟨F2, hW2, hN2⟩ := (HL1.out.grow ((Kept.refl Nothing w1).alloc (.cells #[.int .u8 (f.toNat : Int), .int .u8 (t.toNat : Int)] 5))).opens
    refine (wr_byte p F2 s _ _ _ hW2 hby (by simp; omega)).mono ?_
    rintro e w2 ⟨F3, rfl, hW3, hk3, hs3⟩
    have L2 := Lib.hid (hN2 _ _ _ hW3 hk3 hs3)
    have EL : (s.lay [f, t]).l.length ≤ s.l.length + 2 := WS.lay_len s _
    have EH : Hid ((s.lay [f, t]).hs.length < 1099511627776) := Lib.hid (by rw [show (s.lay [f, t]).hs = s.hs by unfold WS.lay; split <;> rfl]; exact hd)
    generalize e2 : s.lay [f, t] = s2 at *
    have E2 := Lib.hid e2
    clear e2
    clear hby hW2 hN2 hW3 hk3 hs3 c0 c1 c2 HL1
    go_wp2_with fail
    obtain ⟨F4, hW4, hN4⟩ := L2.out.opens
    refine (wr_hold p F4 s2 1 _ hW4 (by omega) EH.out).mono ?_
    rintro e w3 ⟨F5, rfl, hW5, hk5, hs5⟩
    have L3 := Lib.hid (hN4 _ _ _ hW5 hk5 hs5)
    have EL2 := WS.hold_len s2 1 (by decide)
    generalize e3 : s2.hold 1 = s3 at *
    have E3 := Lib.hid e3
    clear e3
    clear hW4 hN4 hW5 hk5 hs5 L2 EH
    have d2 := L3.out.blk.cell 2
    go_wp2_with fail
    obtain ⟨F6, hW6, hN6⟩ := L3.out.opens
    refine (wr_byte p F6 s3 _ _ _ hW6 (HV.out.old L3.out.old) (by omega)).mono ?_
    rintro e w4 ⟨F7, rfl, hW7, hk7, hs7⟩
    have L4 := Lib.hid (hN6 _ _ _ hW7 hk7 hs7)
    generalize e4 : s3.lay l = s4 at *
    have E4 := Lib.hid e4
    clear e4
    clear hW6 hN6 hW7 hk7 hs7 L3 d2
    go_wp2_with fail
    obtain ⟨F8, hW8, hN8⟩ := L4.out.opens
    refine (wr_fill p F8 s4 _ hW8).mono ?_
    rintro e w5 ⟨F9, rfl, hW9, hk9, hs9⟩
    have L5 := Lib.hid (hN8 _ _ _ hW9 hk9 hs9).post
    clear hW8 hN8 hW9 hk9 hs9 L4
    go_wp2
    go_end0
    exact ⟨_, rfl, by rw [E2.out, E3.out, E4.out]; exact L5.out⟩

/-- The writer that value and bytes begin with. -/
theorem vlay {w w1 w2 : World} {p q : Nat} {F : Nat → Prop} {t : TypeId} {cs : Array Value} (k : Kept Nothing w w1) (hb : Blk w1 q t cs) (h : Wr w2 F p ⟨[], [], 0⟩) (hk : Kept Nothing w1 w2) (hs : Sub w1 F Nothing) : LayB w p ⟨[], [], 0⟩ q t cs w2 := by
  have hF : ∀ g, F g → w1.heap.size ≤ g := fun g hg => (hs g hg).elim (fun x => x.elim) id
  exact ⟨F, h, k.trans hk, fun g hg => by have := hF g hg; have := k.size; omega, fun x => by have := hF q x; have := hb.lt; omega, hb.kept hk (fun x => x)⟩
theorem lay_done (l : List UInt8) : ((⟨[], [], 0⟩ : WS).lay l).done = (l, 0) := by simp [WS.lay, WS.done]
theorem vdone (w : World) (p : Nat) (l : List UInt8) (q : Nat) (t : TypeId) (cs : Array Value) (u : World) (h : LayB w p ((⟨[], [], 0⟩ : WS).lay l) q t cs u) :
    Calls Tryz.prog 52 #[.pointer (some ⟨p, 0, none⟩)] u fun r w' => ∃ v, r = .returned (.tuple #[v, .int .i64 0]) ∧ w'.ownsRow w.heap.size 5 1 v l.length (bys l) ∧ Kept Nothing w w' := by
  obtain ⟨F, h1, h2, _⟩ := h
  have hD := wr_done_own p F _ u h1 rfl rfl
  rw [lay_done] at hD
  refine hD.mono ?_
  rintro r w' ⟨v, rfl, o, k⟩
  exact ⟨v, rfl, own_weakA o h2.size, h2.trans k⟩
theorem lay_none : (⟨[], [], 0⟩ : WS) = (⟨[], [], 0⟩ : WS).lay [] := rfl

set_option maxHeartbeats 1600000 in
theorem by_bytes (n ip : Nat) (wide : Bool) (w : World) (hn : n < 4294967296) (hip : ip < 4294967296) :
    Calls Tryz.prog 103 #[.agg #[.int .u32 (n : Int), .int .u32 (ip : Int)], .bool wide] w fun e w' => ∃ u, e = .returned (.tuple #[u, .int .i64 ((Ax.byB n ip wide).2 : Int)]) ∧ w'.ownsRow w.heap.size 5 1 u (Ax.byB n ip wide).1.length (bys (Ax.byB n ip wide).1) ∧ Kept Nothing w w' := by
  have HK := Lib.hid ((Kept.refl Nothing w).alloc (.cells #[.int .u32 (n : Int), .int .u32 (ip : Int)] 29))
  have HB := Lib.hid (Blk.fresh w 29 #[.int .u32 (n : Int), .int .u32 (ip : Int)])
  have HNW := Lib.hid (fun u => pnum_wide n u)
  have HE : Hid (Ax.byB n ip wide = if wide = true then (fours [n] ++ fours [ip], 0) else if 65535 < n then ([], 24) else (twos [n] ++ fours [ip], 0)) := Lib.hid rfl
  have HN := Lib.hid hn
  have HI := Lib.hid hip
  cases wide with
  | true =>
    rw [HE.out, if_pos rfl]
    clear HE hn hip HNW
    go_enter Tryz.func103, Tryz.ntmps103
    go_upto_region 3 with (go_at_call 50; refine (wr_lay _).mono ?_; rintro e w2 ⟨p, F, rfl, hW2, hk2, hs2⟩)
    have L1 := Lib.hid (vlay HK.out HB.out hW2 hk2 hs2)
    clear hW2 hk2 hs2 HB
    have c0 : w2.cell? ⟨w.heap.size, 0, none⟩ = some (.int .u32 (n : Int)) := L1.out.blk.cell 0
    go_wp2_with fail
    obtain ⟨F3, h3, hN3⟩ := (L1.out.grow ((Kept.refl Nothing w2).alloc (.cells #[.int .u32 (n : Int)] 23))).opens
    refine (wr_four p F3 _ _ [n] _ h3 (Us.made (l := [n]) (Blk.fresh w2 23 #[.int .u32 (n : Int)]) rfl (by simp [maxLen])) (by simpa using HN.out) (by simp)).mono ?_
    rintro e w3 ⟨F4, rfl, hW4, hk4, hs4⟩
    have L3 := Lib.hid (hN3 _ _ _ hW4 hk4 hs4)
    clear h3 hN3 hW4 hk4 hs4 L1 c0
    have d1 : w3.cell? ⟨w.heap.size, 1, none⟩ = some (.int .u32 (ip : Int)) := L3.out.blk.cell 1
    go_wp2_with fail
    obtain ⟨F5, h5, hN5⟩ := (L3.out.grow ((Kept.refl Nothing w3).alloc (.cells #[.int .u32 (ip : Int)] 23))).opens
    refine (wr_four p F5 _ _ [ip] _ h5 (Us.made (l := [ip]) (Blk.fresh w3 23 #[.int .u32 (ip : Int)]) rfl (by simp [maxLen])) (by simpa using HI.out) (by have h9 := WS.lay_len ⟨[], [], 0⟩ (fours [n]); rw [length_fours] at h9; simp at h9 ⊢; omega)).mono ?_
    rintro e w4 ⟨F6, rfl, hW6, hk6, hs6⟩
    have L4 := Lib.hid (hN5 _ _ _ hW6 hk6 hs6)
    rw [WS.lay_lay] at L4
    clear h5 hN5 hW6 hk6 hs6 L3 d1
    go_wp2_with fail
    refine (vdone w p _ w.heap.size _ _ w4 L4.out).mono ?_
    rintro e w5 ⟨v5, rfl, o5, k5⟩
    go_wp2
    go_ret2
    exact ⟨_, rfl, o5, k5⟩
  | false =>
    by_cases hw : 65535 < n
    · rw [HE.out, if_neg (by simp), if_pos hw]
      have EW := decide_eq_true hw
      have HNW1 := Lib.hid (fun u => by have := HNW.out u; rw [EW] at this; exact this)
      clear HE hn hip HNW EW
      go_enter Tryz.func103, Tryz.ntmps103
      go_upto_region 3 with (go_at_call 50; refine (wr_lay _).mono ?_; rintro e w2 ⟨p, F, rfl, hW2, hk2, hs2⟩)
      have L1 := Lib.hid (vlay HK.out HB.out hW2 hk2 hs2)
      clear hW2 hk2 hs2 HB
      have c0 : w2.cell? ⟨w.heap.size, 0, none⟩ = some (.int .u32 (n : Int)) := L1.out.blk.cell 0
      go_wp2_with (go_at_call 144; refine (HNW1.out _).mono ?_; rintro e w3 ⟨rfl, rfl⟩)
      go_ret2
      exact ⟨_, rfl, World.ownsRow_nil _ _ _ _, L1.out.old⟩
    have hn2 : n < 65536 := by omega
    rw [HE.out, if_neg (by simp), if_neg hw]
    have EW := decide_eq_false hw
    have HNW1 := Lib.hid (fun u => by have := HNW.out u; rw [EW] at this; exact this)
    have HSH := Lib.hid (fun u => pnum_short n hn2 u)
    have HN2 := Lib.hid hn2
    clear HE hn hip HNW EW hw hn2
    go_enter Tryz.func103, Tryz.ntmps103
    go_upto_region 3 with (go_at_call 50; refine (wr_lay _).mono ?_; rintro e w2 ⟨p, F, rfl, hW2, hk2, hs2⟩)
    have L1 := Lib.hid (vlay HK.out HB.out hW2 hk2 hs2)
    clear hW2 hk2 hs2 HB
    have c0 : w2.cell? ⟨w.heap.size, 0, none⟩ = some (.int .u32 (n : Int)) := L1.out.blk.cell 0
    go_wp2_with (first | (go_at_call 144; refine (HNW1.out _).mono ?_; rintro e w3 ⟨rfl, rfl⟩) | (go_at_call 146; refine (HSH.out _).mono ?_; rintro e w3 ⟨rfl, rfl⟩))
    obtain ⟨F3, h3, hN3⟩ := (L1.out.grow ((Kept.refl Nothing w2).alloc (.cells #[.int .u16 (n : Int)] 55))).opens
    refine (wr_two p F3 _ _ [n] _ h3 (Us.made (l := [n]) (Blk.fresh w2 55 #[.int .u16 (n : Int)]) rfl (by simp [maxLen])) (by simpa using HN2.out) (by simp)).mono ?_
    rintro e w3 ⟨F4, rfl, hW4, hk4, hs4⟩
    have L3 := Lib.hid (hN3 _ _ _ hW4 hk4 hs4)
    clear h3 hN3 hW4 hk4 hs4 L1 c0
    have d1 : w3.cell? ⟨w.heap.size, 1, none⟩ = some (.int .u32 (ip : Int)) := L3.out.blk.cell 1
    go_wp2_with fail
    obtain ⟨F5, h5, hN5⟩ := (L3.out.grow ((Kept.refl Nothing w3).alloc (.cells #[.int .u32 (ip : Int)] 23))).opens
    refine (wr_four p F5 _ _ [ip] _ h5 (Us.made (l := [ip]) (Blk.fresh w3 23 #[.int .u32 (ip : Int)]) rfl (by simp [maxLen])) (by simpa using HI.out) (by have h9 := WS.lay_len ⟨[], [], 0⟩ (twos [n]); rw [length_twos] at h9; simp at h9 ⊢; omega)).mono ?_
    rintro e w4 ⟨F6, rfl, hW6, hk6, hs6⟩
    have L4 := Lib.hid (hN5 _ _ _ hW6 hk6 hs6)
    rw [WS.lay_lay] at L4
    clear h5 hN5 hW6 hk6 hs6 L3 d1
    go_wp2_with fail
    refine (vdone w p _ w.heap.size _ _ w4 L4.out).mono ?_
    rintro e w5 ⟨v5, rfl, o5, k5⟩
    go_wp2
    go_ret2
    exact ⟨_, rfl, o5, k5⟩

set_option maxHeartbeats 800000 in
/-- Four of a slice that was there. -/
theorem wr_fours (w0 : World) (p q : Nat) (t : TypeId) (cs : Array Value) (s : WS) (v : Value) (l : List Nat) (u : World) (h : LayB w0 p s q t cs u) (hv : As w0 v l) (hl : s.l.length + 4 * l.length ≤ 1099511627776) :
    Calls Tryz.prog 105 #[.pointer (some ⟨p, 0, none⟩), v] u fun r w' => r = .returned (.pointer (some ⟨p, 0, none⟩)) ∧ LayB w0 p (s.lay (fours l)) q t cs w' := by
  obtain ⟨A, c, rfl, hc, hm⟩ := hv.form
  have HW := Lib.hid h
  have HU := Lib.hid hv
  unfold maxLen at hm
  clear h hv
  go_enter Tryz.func105, Tryz.ntmps105
  go_wp2_with fail
  go_loopw [9] (fun i wr => ∃ (k : Nat), i = .int .i64 (k : Int) ∧ k ≤ l.length ∧ Hid (LayB w0 p (s.lay (fours (l.take k))) q t cs wr)) (fun i _ => l.length - (intOf i).toNat)
  case atStart => exact ⟨0, rfl, Nat.zero_le _, Lib.hid (by rw [List.take_zero]; show LayB w0 p (s.lay []) q t cs u; rw [WS.lay_nil]; exact HW.out)⟩
  case round =>
    obtain ⟨k, rfl, hk, L1⟩ := hrel
    by_cases hlt : k < l.length
    · obtain ⟨b, o, rfl, hcell⟩ := (HU.out.old L1.out.old).at (by omega)
      replace hcell := hcell k hlt
      have hxk : l.getD k 0 < 4294967296 := by
        rw [List.getD_eq_getElem?_getD, List.getElem?_eq_getElem hlt]
        exact HU.out.1 _ (List.getElem_mem _)
      have HT : Hid (fours (l.take (k + 1)) = fours (l.take k) ++ twos [l.getD k 0 / 65536, l.getD k 0 % 65536]) := by
        show _ = _
        rw [List.take_succ_eq_append_getElem hlt, fours_snoc, List.getD_eq_getElem?_getD, List.getElem?_eq_getElem hlt]; rfl
      generalize l.getD k 0 = x at *
      have hB : Us (wr.alloc (.cells #[.int .u16 ((x : Int) / 65536), .int .u16 ((x : Int) % 65536)] 55)) 55 .u16 (.slice (some ⟨wr.heap.size, 0, none⟩) 2 2) [x / 65536, x % 65536] :=
        Us.made (l := [x / 65536, x % 65536]) (Blk.fresh wr 55 #[.int .u16 ((x : Int) / 65536), .int .u16 ((x : Int) % 65536)]) (by simp) (by simp [maxLen])
      have hll := WS.lay_len s (fours (l.take k))
      rw [length_fours, List.length_take] at hll
      obtain ⟨F', hW, hN⟩ := (L1.out.grow ((Kept.refl Nothing wr).alloc (.cells #[.int .u16 ((x : Int) / 65536), .int .u16 ((x : Int) % 65536)] 55))).opens
      have C := Lib.hid (wr_two p F' _ _ [x / 65536, x % 65536] _ hW hB (by intro y hy; simp at hy; omega) (by simp only [List.length_cons, List.length_nil]; omega))
      rw [WS.lay_lay, ← HT.out] at C
      have HN := Lib.hid hN
      clear hB hll HT hW hN
      go_wp2_with fail
      refine C.out.mono ?_
      rintro e w2 ⟨F2, rfl, hw, hk2, hs2⟩
      have L2 := Lib.hid (HN.out _ _ _ hw hk2 hs2)
      clear hw hk2 hs2
      go_wp2
      go_roundw
      case rel => exact ⟨k + 1, by go_num, by omega, L2⟩
      case measure => simp [intOf]; omega
    · obtain rfl : k = l.length := by omega
      rw [List.take_length] at L1
      go_wp2
      go_ret
      exact ⟨rfl, L1.out⟩

set_option maxHeartbeats 4000000 in
theorem at_value (a : At) (pv cv qv ov : Value) (t : UInt8) (four : Bool) (w : World) (h : Atp w a pv cv qv ov) (hsm : Ax.small a) (hcl : a.comms.length ≤ 1000000) :
    Calls Tryz.prog 49 #[.agg (Ax.agg a pv cv qv ov), .int .u8 (t.toNat : Int), .bool four] w fun e w' => ∃ u, e = .returned (.tuple #[u, .int .i64 ((Ax.val a four t).2 : Int)]) ∧ w'.ownsRow w.heap.size 5 1 u (Ax.val a four t).1.length (bys (Ax.val a four t).1) ∧ Kept Nothing w w' := by
  have HK := Lib.hid ((Kept.refl Nothing w).alloc (.cells (Ax.agg a pv cv qv ov) 33))
  have HB := Lib.hid (Blk.fresh w 33 (Ax.agg a pv cv qv ov))
  have HPA := Lib.hid (fun u (k : Kept Nothing w u) => path_bytes pv a.path four u (h.1.old k) (by have := hsm.1; omega) (fun s hs => by have := hsm.2.2.1 s hs; omega))
  have HQA := Lib.hid (fun u (k : Kept Nothing w u) => path_bytes qv a.path4 true u (h.2.2.1.old k) (by have := hsm.2.1; omega) (fun s hs => by have := hsm.2.2.2 s hs; omega))
  have hf := h.2.2.2.2
  have HBA := Lib.hid (fun u => by_bytes a.byA a.byI four u hf.2.2.2.2.1 hf.2.2.2.2.2.1)
  have HCA := Lib.hid (fun u => by_bytes a.by4A a.by4I true u hf.2.2.2.2.2.2.1 hf.2.2.2.2.2.2.2)
  have HCO := Lib.hid h.2.1
  have HCL := Lib.hid hcl
  have HFI := Lib.hid hf
  have HE : Hid (Ax.val a four t = if t.toNat = 2 then Pt.bytes a.path four else if t.toNat = 17 then Pt.bytes a.path4 true else if t.toNat = 7 then Ax.byB a.byA a.byI four else if t.toNat = 18 then Ax.byB a.by4A a.by4I true
  else if t.toNat = 1 then ([a.origin], 0) else if t.toNat = 3 then (fours [a.nh], 0) else if t.toNat = 4 then (fours [a.med], 0) else if t.toNat = 5 then (fours [a.pref], 0) else if t.toNat = 8 then (fours a.comms, 0) else ([], 0)) := Lib.hid rfl
  obtain ⟨Ac, cc, rfl, _, _⟩ := h.2.1.form
  unfold Ax.agg at *
  clear h hsm hcl hf
  by_cases h2 : t.toNat = 2
  · have HR : Hid (Ax.val a four t = Pt.bytes a.path four) := Lib.hid (by rw [HE.out, if_pos h2])
    rw [HR.out, h2]
    clear h2 HE HR
    go_enter Tryz.func49, Tryz.ntmps49
    go_upto_region 2 with (go_at_call 50; refine (wr_lay _).mono ?_; rintro e w2 ⟨p, F, rfl, hW2, hk2, hs2⟩)
    have L1 := Lib.hid (vlay (HK.out) HB.out hW2 hk2 hs2)
    clear hW2 hk2 hs2 HB
    have c1 := L1.out.blk.cell 1
    have c2 := L1.out.blk.cell 2
    have c3 := L1.out.blk.cell 3
    have c4 := L1.out.blk.cell 4
    have c5 := L1.out.blk.cell 5
    have c6 := L1.out.blk.cell 6
    have c7 := L1.out.blk.cell 7
    have c8 := L1.out.blk.cell 8
    have c9 := L1.out.blk.cell 9
    have c10 := L1.out.blk.cell 10
    have c11 := L1.out.blk.cell 11
    go_wp2_with (go_at_call 102; refine (HPA.out _ L1.out.old).mono ?_; rintro e w3 ⟨v3, rfl, o3, k3⟩)
    go_ret2
    exact ⟨_, rfl, own_weakA o3 L1.out.old.size, L1.out.old.trans k3⟩
  by_cases h17 : t.toNat = 17
  · have HR : Hid (Ax.val a four t = Pt.bytes a.path4 true) := Lib.hid (by rw [HE.out, if_neg h2, if_pos h17])
    rw [HR.out, h17]
    clear h2 h17 HE HR
    go_enter Tryz.func49, Tryz.ntmps49
    go_upto_region 2 with (go_at_call 50; refine (wr_lay _).mono ?_; rintro e w2 ⟨p, F, rfl, hW2, hk2, hs2⟩)
    have L1 := Lib.hid (vlay (HK.out) HB.out hW2 hk2 hs2)
    clear hW2 hk2 hs2 HB
    have c1 := L1.out.blk.cell 1
    have c2 := L1.out.blk.cell 2
    have c3 := L1.out.blk.cell 3
    have c4 := L1.out.blk.cell 4
    have c5 := L1.out.blk.cell 5
    have c6 := L1.out.blk.cell 6
    have c7 := L1.out.blk.cell 7
    have c8 := L1.out.blk.cell 8
    have c9 := L1.out.blk.cell 9
    have c10 := L1.out.blk.cell 10
    have c11 := L1.out.blk.cell 11
    go_wp2_with (go_at_call 102; refine (HQA.out _ L1.out.old).mono ?_; rintro e w3 ⟨v3, rfl, o3, k3⟩)
    go_ret2
    exact ⟨_, rfl, own_weakA o3 L1.out.old.size, L1.out.old.trans k3⟩
  by_cases h7 : t.toNat = 7
  · have HR : Hid (Ax.val a four t = Ax.byB a.byA a.byI four) := Lib.hid (by rw [HE.out, if_neg h2, if_neg h17, if_pos h7])
    rw [HR.out, h7]
    clear h2 h17 h7 HE HR
    go_enter Tryz.func49, Tryz.ntmps49
    go_upto_region 2 with (go_at_call 50; refine (wr_lay _).mono ?_; rintro e w2 ⟨p, F, rfl, hW2, hk2, hs2⟩)
    have L1 := Lib.hid (vlay (HK.out) HB.out hW2 hk2 hs2)
    clear hW2 hk2 hs2 HB
    have c1 := L1.out.blk.cell 1
    have c2 := L1.out.blk.cell 2
    have c3 := L1.out.blk.cell 3
    have c4 := L1.out.blk.cell 4
    have c5 := L1.out.blk.cell 5
    have c6 := L1.out.blk.cell 6
    have c7 := L1.out.blk.cell 7
    have c8 := L1.out.blk.cell 8
    have c9 := L1.out.blk.cell 9
    have c10 := L1.out.blk.cell 10
    have c11 := L1.out.blk.cell 11
    go_wp2_with (go_at_call 103; refine (HBA.out _).mono ?_; rintro e w3 ⟨v3, rfl, o3, k3⟩)
    go_ret2
    exact ⟨_, rfl, own_weakA o3 L1.out.old.size, L1.out.old.trans k3⟩
  by_cases h18 : t.toNat = 18
  · have HR : Hid (Ax.val a four t = Ax.byB a.by4A a.by4I true) := Lib.hid (by rw [HE.out, if_neg h2, if_neg h17, if_neg h7, if_pos h18])
    rw [HR.out, h18]
    clear h2 h17 h7 h18 HE HR
    go_enter Tryz.func49, Tryz.ntmps49
    go_upto_region 2 with (go_at_call 50; refine (wr_lay _).mono ?_; rintro e w2 ⟨p, F, rfl, hW2, hk2, hs2⟩)
    have L1 := Lib.hid (vlay (HK.out) HB.out hW2 hk2 hs2)
    clear hW2 hk2 hs2 HB
    have c1 := L1.out.blk.cell 1
    have c2 := L1.out.blk.cell 2
    have c3 := L1.out.blk.cell 3
    have c4 := L1.out.blk.cell 4
    have c5 := L1.out.blk.cell 5
    have c6 := L1.out.blk.cell 6
    have c7 := L1.out.blk.cell 7
    have c8 := L1.out.blk.cell 8
    have c9 := L1.out.blk.cell 9
    have c10 := L1.out.blk.cell 10
    have c11 := L1.out.blk.cell 11
    go_wp2_with (go_at_call 103; refine (HCA.out _).mono ?_; rintro e w3 ⟨v3, rfl, o3, k3⟩)
    go_ret2
    exact ⟨_, rfl, own_weakA o3 L1.out.old.size, L1.out.old.trans k3⟩
  by_cases h1 : t.toNat = 1
  · have HR : Hid (Ax.val a four t = ([a.origin], 0)) := Lib.hid (by rw [HE.out, if_neg h2, if_neg h17, if_neg h7, if_neg h18, if_pos h1])
    rw [HR.out, h1]
    clear h2 h17 h7 h18 h1 HE HR
    go_enter Tryz.func49, Tryz.ntmps49
    go_upto_region 2 with (go_at_call 50; refine (wr_lay _).mono ?_; rintro e w2 ⟨p, F, rfl, hW2, hk2, hs2⟩)
    have L1 := Lib.hid (vlay (HK.out) HB.out hW2 hk2 hs2)
    clear hW2 hk2 hs2 HB
    have c1 := L1.out.blk.cell 1
    have c2 := L1.out.blk.cell 2
    have c3 := L1.out.blk.cell 3
    have c4 := L1.out.blk.cell 4
    have c5 := L1.out.blk.cell 5
    have c6 := L1.out.blk.cell 6
    have c7 := L1.out.blk.cell 7
    have c8 := L1.out.blk.cell 8
    have c9 := L1.out.blk.cell 9
    have c10 := L1.out.blk.cell 10
    have c11 := L1.out.blk.cell 11
    go_wp2_with fail
    have hby := (Bs.made (l := [a.origin]) (Blk.fresh w2 5 #[.int .u8 (a.origin.toNat : Int)]) (by unfold bys by8; simp) (by simp [maxLen])).by
    obtain ⟨F3, h3, hN3⟩ := (L1.out.grow ((Kept.refl Nothing w2).alloc (.cells #[.int .u8 (a.origin.toNat : Int)] 5))).opens
    refine (wr_byte p F3 _ _ _ _ h3 hby (by simp)).mono ?_
    rintro e w3 ⟨F4, rfl, hW4, hk4, hs4⟩
    have L3 := Lib.hid (hN3 _ _ _ hW4 hk4 hs4)
    clear h3 hN3 hW4 hk4 hs4 L1 c1 c2 c3 c4 c5 c6 c7 c8 c9 c10 c11
    go_wp2_with fail
    refine (vdone w p _ w.heap.size _ _ w3 L3.out).mono ?_
    rintro e w5 ⟨v5, rfl, o5, k5⟩
    go_wp2
    go_ret2
    exact ⟨_, rfl, o5, k5⟩
  by_cases h3 : t.toNat = 3
  · have HR : Hid (Ax.val a four t = (fours [a.nh], 0)) := Lib.hid (by rw [HE.out, if_neg h2, if_neg h17, if_neg h7, if_neg h18, if_neg h1, if_pos h3])
    rw [HR.out, h3]
    clear h2 h17 h7 h18 h1 h3 HE HR
    go_enter Tryz.func49, Tryz.ntmps49
    go_upto_region 2 with (go_at_call 50; refine (wr_lay _).mono ?_; rintro e w2 ⟨p, F, rfl, hW2, hk2, hs2⟩)
    have L1 := Lib.hid (vlay (HK.out) HB.out hW2 hk2 hs2)
    clear hW2 hk2 hs2 HB
    have c1 := L1.out.blk.cell 1
    have c2 := L1.out.blk.cell 2
    have c3 := L1.out.blk.cell 3
    have c4 := L1.out.blk.cell 4
    have c5 := L1.out.blk.cell 5
    have c6 := L1.out.blk.cell 6
    have c7 := L1.out.blk.cell 7
    have c8 := L1.out.blk.cell 8
    have c9 := L1.out.blk.cell 9
    have c10 := L1.out.blk.cell 10
    have c11 := L1.out.blk.cell 11
    go_wp2_with fail
    obtain ⟨F3, h3, hN3⟩ := (L1.out.grow ((Kept.refl Nothing w2).alloc (.cells #[.int .u32 (a.nh : Int)] 23))).opens
    refine (wr_four p F3 _ _ [a.nh] _ h3 (Us.made (l := [a.nh]) (Blk.fresh w2 23 #[.int .u32 (a.nh : Int)]) rfl (by simp [maxLen])) (by have := HFI.out; unfold Ax.fit at this; simp; omega) (by simp)).mono ?_
    rintro e w3 ⟨F4, rfl, hW4, hk4, hs4⟩
    have L3 := Lib.hid (hN3 _ _ _ hW4 hk4 hs4)
    clear h3 hN3 hW4 hk4 hs4 L1 c1 c2 c3 c4 c5 c6 c7 c8 c9 c10 c11
    go_wp2_with fail
    refine (vdone w p _ w.heap.size _ _ w3 L3.out).mono ?_
    rintro e w5 ⟨v5, rfl, o5, k5⟩
    go_wp2
    go_ret2
    exact ⟨_, rfl, o5, k5⟩
  by_cases h4 : t.toNat = 4
  · have HR : Hid (Ax.val a four t = (fours [a.med], 0)) := Lib.hid (by rw [HE.out, if_neg h2, if_neg h17, if_neg h7, if_neg h18, if_neg h1, if_neg h3, if_pos h4])
    rw [HR.out, h4]
    clear h2 h17 h7 h18 h1 h3 h4 HE HR
    go_enter Tryz.func49, Tryz.ntmps49
    go_upto_region 2 with (go_at_call 50; refine (wr_lay _).mono ?_; rintro e w2 ⟨p, F, rfl, hW2, hk2, hs2⟩)
    have L1 := Lib.hid (vlay (HK.out) HB.out hW2 hk2 hs2)
    clear hW2 hk2 hs2 HB
    have c1 := L1.out.blk.cell 1
    have c2 := L1.out.blk.cell 2
    have c3 := L1.out.blk.cell 3
    have c4 := L1.out.blk.cell 4
    have c5 := L1.out.blk.cell 5
    have c6 := L1.out.blk.cell 6
    have c7 := L1.out.blk.cell 7
    have c8 := L1.out.blk.cell 8
    have c9 := L1.out.blk.cell 9
    have c10 := L1.out.blk.cell 10
    have c11 := L1.out.blk.cell 11
    go_wp2_with fail
    obtain ⟨F3, h3, hN3⟩ := (L1.out.grow ((Kept.refl Nothing w2).alloc (.cells #[.int .u32 (a.med : Int)] 23))).opens
    refine (wr_four p F3 _ _ [a.med] _ h3 (Us.made (l := [a.med]) (Blk.fresh w2 23 #[.int .u32 (a.med : Int)]) rfl (by simp [maxLen])) (by have := HFI.out; unfold Ax.fit at this; simp; omega) (by simp)).mono ?_
    rintro e w3 ⟨F4, rfl, hW4, hk4, hs4⟩
    have L3 := Lib.hid (hN3 _ _ _ hW4 hk4 hs4)
    clear h3 hN3 hW4 hk4 hs4 L1 c1 c2 c3 c4 c5 c6 c7 c8 c9 c10 c11
    go_wp2_with fail
    refine (vdone w p _ w.heap.size _ _ w3 L3.out).mono ?_
    rintro e w5 ⟨v5, rfl, o5, k5⟩
    go_wp2
    go_ret2
    exact ⟨_, rfl, o5, k5⟩
  by_cases h5 : t.toNat = 5
  · have HR : Hid (Ax.val a four t = (fours [a.pref], 0)) := Lib.hid (by rw [HE.out, if_neg h2, if_neg h17, if_neg h7, if_neg h18, if_neg h1, if_neg h3, if_neg h4, if_pos h5])
    rw [HR.out, h5]
    clear h2 h17 h7 h18 h1 h3 h4 h5 HE HR
    go_enter Tryz.func49, Tryz.ntmps49
    go_upto_region 2 with (go_at_call 50; refine (wr_lay _).mono ?_; rintro e w2 ⟨p, F, rfl, hW2, hk2, hs2⟩)
    have L1 := Lib.hid (vlay (HK.out) HB.out hW2 hk2 hs2)
    clear hW2 hk2 hs2 HB
    have c1 := L1.out.blk.cell 1
    have c2 := L1.out.blk.cell 2
    have c3 := L1.out.blk.cell 3
    have c4 := L1.out.blk.cell 4
    have c5 := L1.out.blk.cell 5
    have c6 := L1.out.blk.cell 6
    have c7 := L1.out.blk.cell 7
    have c8 := L1.out.blk.cell 8
    have c9 := L1.out.blk.cell 9
    have c10 := L1.out.blk.cell 10
    have c11 := L1.out.blk.cell 11
    go_wp2_with fail
    obtain ⟨F3, h3, hN3⟩ := (L1.out.grow ((Kept.refl Nothing w2).alloc (.cells #[.int .u32 (a.pref : Int)] 23))).opens
    refine (wr_four p F3 _ _ [a.pref] _ h3 (Us.made (l := [a.pref]) (Blk.fresh w2 23 #[.int .u32 (a.pref : Int)]) rfl (by simp [maxLen])) (by have := HFI.out; unfold Ax.fit at this; simp; omega) (by simp)).mono ?_
    rintro e w3 ⟨F4, rfl, hW4, hk4, hs4⟩
    have L3 := Lib.hid (hN3 _ _ _ hW4 hk4 hs4)
    clear h3 hN3 hW4 hk4 hs4 L1 c1 c2 c3 c4 c5 c6 c7 c8 c9 c10 c11
    go_wp2_with fail
    refine (vdone w p _ w.heap.size _ _ w3 L3.out).mono ?_
    rintro e w5 ⟨v5, rfl, o5, k5⟩
    go_wp2
    go_ret2
    exact ⟨_, rfl, o5, k5⟩
  by_cases h8 : t.toNat = 8
  · have HR : Hid (Ax.val a four t = (fours a.comms, 0)) := Lib.hid (by rw [HE.out, if_neg h2, if_neg h17, if_neg h7, if_neg h18, if_neg h1, if_neg h3, if_neg h4, if_neg h5, if_pos h8])
    rw [HR.out, h8]
    clear h2 h17 h7 h18 h1 h3 h4 h5 h8 HE HR
    go_enter Tryz.func49, Tryz.ntmps49
    go_upto_region 2 with (go_at_call 50; refine (wr_lay _).mono ?_; rintro e w2 ⟨p, F, rfl, hW2, hk2, hs2⟩)
    have L1 := Lib.hid (vlay (HK.out) HB.out hW2 hk2 hs2)
    clear hW2 hk2 hs2 HB
    have c1 := L1.out.blk.cell 1
    have c2 := L1.out.blk.cell 2
    have c3 := L1.out.blk.cell 3
    have c4 := L1.out.blk.cell 4
    have c5 := L1.out.blk.cell 5
    have c6 := L1.out.blk.cell 6
    have c7 := L1.out.blk.cell 7
    have c8 := L1.out.blk.cell 8
    have c9 := L1.out.blk.cell 9
    have c10 := L1.out.blk.cell 10
    have c11 := L1.out.blk.cell 11
    go_wp2_with fail
    refine (wr_fours w p _ _ _ _ _ a.comms _ L1.out HCO.out (by have := HCL.out; simp; omega)).mono ?_
    rintro e w3 ⟨rfl, hL3⟩
    have L3 := Lib.hid hL3
    clear hL3 L1 c1 c2 c3 c4 c5 c6 c7 c8 c9 c10 c11
    go_wp2_with fail
    refine (vdone w p _ w.heap.size _ _ w3 L3.out).mono ?_
    rintro e w5 ⟨v5, rfl, o5, k5⟩
    go_wp2
    go_ret2
    exact ⟨_, rfl, o5, k5⟩
  have HR : Hid (Ax.val a four t = ([], 0)) := Lib.hid (by rw [HE.out, if_neg h2, if_neg h17, if_neg h7, if_neg h18, if_neg h1, if_neg h3, if_neg h4, if_neg h5, if_neg h8])
  rw [HR.out]
  have e2 : (((t.toNat : Int)) == 2) = false := by rw [beq_eq_false_iff_ne]; omega
  have e17 : (((t.toNat : Int)) == 17) = false := by rw [beq_eq_false_iff_ne]; omega
  have e7 : (((t.toNat : Int)) == 7) = false := by rw [beq_eq_false_iff_ne]; omega
  have e18 : (((t.toNat : Int)) == 18) = false := by rw [beq_eq_false_iff_ne]; omega
  have e1 : (((t.toNat : Int)) == 1) = false := by rw [beq_eq_false_iff_ne]; omega
  have e3 : (((t.toNat : Int)) == 3) = false := by rw [beq_eq_false_iff_ne]; omega
  have e4 : (((t.toNat : Int)) == 4) = false := by rw [beq_eq_false_iff_ne]; omega
  have e5 : (((t.toNat : Int)) == 5) = false := by rw [beq_eq_false_iff_ne]; omega
  have e8 : (((t.toNat : Int)) == 8) = false := by rw [beq_eq_false_iff_ne]; omega
  clear HE HR h2 h17 h7 h18 h1 h3 h4 h5 h8
  generalize t.toNat = n at *
  go_enter Tryz.func49, Tryz.ntmps49
  go_upto_region 2 with (go_at_call 50; refine (wr_lay _).mono ?_; rintro e w2 ⟨p, F, rfl, hW2, hk2, hs2⟩)
  have L1 := Lib.hid (vlay (HK.out) HB.out hW2 hk2 hs2)
  clear hW2 hk2 hs2 HB
  have c1 := L1.out.blk.cell 1
  have c2 := L1.out.blk.cell 2
  have c3 := L1.out.blk.cell 3
  have c4 := L1.out.blk.cell 4
  have c5 := L1.out.blk.cell 5
  have c6 := L1.out.blk.cell 6
  have c7 := L1.out.blk.cell 7
  have c8 := L1.out.blk.cell 8
  have c9 := L1.out.blk.cell 9
  have c10 := L1.out.blk.cell 10
  have c11 := L1.out.blk.cell 11
  go_wp2_with fail
  refine (vdone w p [] w.heap.size _ _ w2 L1.out).mono ?_
  rintro e w5 ⟨v5, rfl, o5, k5⟩
  go_wp2
  go_ret2
  exact ⟨_, rfl, o5, k5⟩
end Go.Proofs.YteofbpdogmajoaaGreatDoor
