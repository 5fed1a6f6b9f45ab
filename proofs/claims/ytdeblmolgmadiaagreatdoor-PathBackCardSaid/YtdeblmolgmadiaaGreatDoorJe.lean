
/-
  Paths: their form.
-/
import Derived.Test.YtdeblmolgmadiaaGreatDoorJd
import Derived.Test.YtdeblmolgmadiaaGreatDoorWt
import Derived.Test.YtdeblmolgmadiaaGreatDoorWd
namespace Go.Proofs.YtdeblmolgmadiaaGreatDoor
open Go.RowKit

namespace Pt
def nums (wide : Bool) (l : List Nat) : List UInt8 := if wide then fours l else twos l
def seg (wide : Bool) (s : Seg) : List UInt8 := [s.1, UInt8.ofNat s.2.length] ++ nums wide s.2
def form (wide : Bool) (p : List Seg) : List UInt8 := p.flatMap (seg wide)
/-- Is a number wide? -/
def hasW (p : List Seg) : Bool := (all p).any fun x => decide (65535 < x.2)
def bytes (p : List Seg) (wide : Bool) : List UInt8 × Nat := if may p = false then ([], 1) else if (!wide && hasW p) = true then ([], 24) else (form wide p, 0)
theorem nums_nil (wide : Bool) : nums wide [] = [] := by unfold nums; split <;> rfl
theorem nums_snoc (wide : Bool) (l : List Nat) (n : Nat) : nums wide (l ++ [n]) = nums wide l ++ nums wide [n] := by
  unfold nums
  split
  · rw [fours_snoc]; simp [fours]
  · rw [twos_snoc]; simp [twos]
theorem length_nums (wide : Bool) (l : List Nat) : (nums wide l).length ≤ 4 * l.length := by
  unfold nums
  split
  · rw [length_fours]; omega
  · rw [length_twos]; omega
theorem length_seg (wide : Bool) (s : Seg) : (seg wide s).length ≤ 2 + 4 * s.2.length := by
  unfold seg
  have := length_nums wide s.2
  simp
  omega
theorem form_append (wide : Bool) (a b : List Seg) : form wide (a ++ b) = form wide a ++ form wide b := List.flatMap_append
theorem form_nil (wide : Bool) : form wide [] = [] := rfl
theorem form_snoc (wide : Bool) (a : List Seg) (s : Seg) : form wide (a ++ [s]) = form wide a ++ seg wide s := by rw [form_append]; simp [form]
theorem length_form (wide : Bool) (p : List Seg) (h : ∀ s ∈ p, s.2.length ≤ 1000) : (form wide p).length ≤ 5000 * p.length := by
  induction p with
  | nil => simp [form]
  | cons s p ih =>
    have h1 := ih (fun x hx => h x (List.mem_cons_of_mem _ hx))
    have h2 := length_seg wide s
    have h3 := h s (List.mem_cons_self ..)
    show (seg wide s ++ form wide p).length ≤ _
    rw [List.length_append, List.length_cons]
    omega
end Pt

theorem pnum_wide (n : Nat) (w : World) :
    Calls Tryz.prog 97 #[.int .u32 (n : Int)] w fun e w' => e = .returned (.bool (decide (65535 < n))) ∧ w = w' := by
  go_enter Tryz.func97, Tryz.ntmps97
  go_wp2
  go_ret
  exact ⟨ret_bool (by rw [Bool.eq_iff_iff]; simp; try omega), rfl⟩
theorem pnum_short (n : Nat) (hn : n < 65536) (w : World) :
    Calls Tryz.prog 101 #[.int .u32 (n : Int)] w fun e w' => e = .returned (.int .u16 (n : Int)) ∧ w = w' := by
  have HW := Lib.hid (fun w => pnum_wide n w)
  rw [show decide (65535 < n) = false from by simp; omega] at HW
  go_enter Tryz.func101, Tryz.ntmps101
  go_wp2_with (go_at_call 97; refine (HW.out _).mono ?_; rintro e w1 ⟨rfl, rfl⟩)
  go_ret
  exact ⟨ret_int (by omega), rfl⟩
/-- What laying leaves: the writer, in blocks that are new since w0. -/
def LayPost (w0 : World) (p : Nat) (s : WS) (w' : World) : Prop := ∃ F, Wr w' F p s ∧ Kept Nothing w0 w' ∧ ∀ k, F k → w0.heap.size ≤ k
theorem LayPost.step {w0 w w' : World} {p : Nat} {F : Nat → Prop} {s : WS} {F' : Nat → Prop} (hk : Kept Nothing w0 w) (hF : ∀ k, F k → w0.heap.size ≤ k) (h : Wr w' F' p s) (k : Kept F w w') (hs : Sub w F' F) : LayPost w0 p s w' :=
  ⟨F', h, hk.trans_new k (fun i hi x => by have := hF i x; omega), fun g hg => by
    rcases hs g hg with x | x
    · exact hF g x
    · have := hk.size; omega⟩

set_option maxHeartbeats 1600000 in
theorem seg_lay (w0 : World) (k : Nat) (hk : k < 256) (v : Value) (l : List Nat) (hv : As w0 v l) (wide : Bool) (hw : wide = false → ∀ n ∈ l, n < 65536) (p : Nat) (s : WS) (w : World) (h : LayPost w0 p s w) (hl : s.l.length + 2 + 4 * l.length ≤ 1099511627776) :
    Calls Tryz.prog 46 #[.agg #[.int .u8 (k : Int), v], .pointer (some ⟨p, 0, none⟩), .bool wide] w fun e w' => ∃ u, e = .returned u ∧ LayPost w0 p (s.lay (Pt.seg wide (UInt8.ofNat k, l))) w' := by
  obtain ⟨A, c, rfl, hc, hm⟩ := hv.form
  obtain ⟨F, hW, hk0, hF⟩ := h
  have HV := Lib.hid hv
  have HW := Lib.hid hw
  have k1 := (Kept.refl Nothing w).alloc (.cells #[.int .u8 (k : Int), .slice A l.length c] 96)
  have b1 := Blk.fresh w 96 #[.int .u8 (k : Int), .slice A l.length c]
  have h1 := hW.kept k1 (fun _ _ x => x)
  have hlt : Hid (∀ g, F g → g < w.heap.size) := Lib.hid (fun g hg => hW.lt hg)
  clear hv hw hW
  go_enter Tryz.func46, Tryz.ntmps46
  go_upto_region 1 with fail
  obtain ⟨w1, hw1⟩ : ∃ w1, w.alloc (.cells #[.int .u8 (k : Int), .slice A l.length c] 96) = w1 := ⟨_, rfl⟩
  rw [hw1] at h1 k1 b1 ⊢
  have c0 := b1.cell 0
  have c1 := b1.cell 1
  have HB := Lib.hid b1
  have H1 := Lib.hid h1
  have K1 := Lib.hid k1
  clear hw1 b1 h1 k1
  go_wp2_with fail
  have hby := (Bs.made (l := [UInt8.ofNat k, UInt8.ofNat l.length]) (Blk.fresh w1 5 #[.int .u8 (k : Int), .int .u8 ((l.length : Int) % 256)]) (by unfold bys by8; simp [UInt8.toNat_ofNat', Nat.mod_eq_of_lt hk]) (by simp [maxLen])).by
  have k2 := (Kept.refl Nothing w1).alloc (.cells #[.int .u8 (k : Int), .int .u8 ((l.length : Int) % 256)] 5)
  refine (wr_byte p F s _ _ _ (H1.out.kept k2 (fun _ _ x => x)) hby (by simp; omega)).mono ?_
  rintro e w2 ⟨F2, rfl, hW2, hk2, hs2⟩
  have c1' : w2.cell? ⟨w.heap.size, 1, none⟩ = some (.slice A l.length c) := hk2.cell_some (k2.cell_some c1 (fun x => x)) (fun x => by have := hlt.out _ x; simp at this)
  have L2 : Hid (LayPost w0 p ((s.lay [UInt8.ofNat k, UInt8.ofNat l.length]).lay (Pt.nums wide (l.take 0))) w2) := Lib.hid (by
    rw [List.take_zero, Pt.nums_nil, WS.lay_nil]
    exact LayPost.step ((hk0.trans K1.out).trans k2) hF hW2 hk2 hs2)
  have ES : Hid ((s.lay [UInt8.ofNat k, UInt8.ofNat l.length]).l.length ≤ s.l.length + 2) := Lib.hid (WS.lay_len s _)
  have EE : Hid (∀ x, (s.lay [UInt8.ofNat k, UInt8.ofNat l.length]).lay x = s.lay ([UInt8.ofNat k, UInt8.ofNat l.length] ++ x)) := Lib.hid (fun x => WS.lay_lay _ _ _)
  generalize s.lay [UInt8.ofNat k, UInt8.ofNat l.length] = s1 at *
  clear hby k2 hW2 hk2 hs2 H1 K1 HB c0 c1 hk0 hF hlt
  have hll : l.length ≤ 1099511627776 := by omega
  go_wp2_with fail
  go_loopw [20] (fun i wr => ∃ j : Nat, i = .int .i64 (j : Int) ∧ j ≤ l.length ∧ Hid (LayPost w0 p (s1.lay (Pt.nums wide (l.take j))) wr)) (fun i _ => l.length - (intOf i).toNat)
  case atStart => exact ⟨0, rfl, Nat.zero_le _, L2⟩
  case round =>
    clear L2 c1'
    obtain ⟨j, rfl, hj, HL⟩ := hrel
    by_cases hlt : j < l.length
    · obtain ⟨F3, hW3, hk3, hF3⟩ := HL.out
      obtain ⟨b, o, rfl, hc1⟩ := HV.out.at (by omega)
      have cj := hk3.cell_some (hc1 j hlt) (fun x => x)
      have i1 : (0 : Int) ≤ (j : Int) := by omega
      have i2 : (j : Int) < (l.length : Int) := by omega
      have hmem : l.getD j 0 ∈ l := by rw [getD_get hlt]; exact List.getElem_mem _
      have hx := HV.out.1 _ hmem
      have HX := Lib.hid (fun e => HW.out e _ hmem)
      have ET : Hid (l.take (j + 1) = l.take j ++ [l.getD j 0]) := Lib.hid (by rw [List.take_succ_eq_append_getElem hlt, getD_get hlt])
      have hsl : (s1.lay (Pt.nums wide (l.take j))).l.length + 4 ≤ 1099511627776 := by
        have h1 := WS.lay_len s1 (Pt.nums wide (l.take j))
        have h2 := Pt.length_nums wide (l.take j)
        have h3 := ES.out
        rw [List.length_take] at h2
        omega
      have EL : Hid (∀ n, (s1.lay (Pt.nums wide (l.take j))).lay (Pt.nums wide [n]) = s1.lay (Pt.nums wide (l.take j ++ [n]))) := Lib.hid (fun n => by rw [WS.lay_lay, ← Pt.nums_snoc])
      generalize s1.lay (Pt.nums wide (l.take j)) = s2 at *
      generalize l.getD j 0 = n at *
      have H3 := Lib.hid hW3
      have K3 := Lib.hid hk3
      have N3 := Lib.hid hF3
      have HSL := Lib.hid hsl
      clear hc1 hmem hW3 hk3 hF3 HL hsl
      cases wide with
      | true =>
        have C4 := Lib.hid (wr_four p F3 s2 (.slice (some ⟨wr.heap.size, 0, none⟩) 1 1) [n] (wr.alloc (.cells #[.int .u32 (n : Int)] 53)) (H3.out.kept ((Kept.refl Nothing wr).alloc _) (fun _ _ x => x)) (Us.made (l := [n]) (Blk.fresh wr 53 #[.int .u32 (n : Int)]) rfl (by simp [maxLen])) (by simpa using hx) (by have := HSL.out; simp; omega))
        go_wp2_with (go_at_call 99; refine (C4.out).mono ?_; rintro e w4 ⟨F4, rfl, hW4, hk4, hs4⟩)
        have L4 := LayPost.step (K3.out.alloc (.cells #[.int .u32 (n : Int)] 53)) N3.out hW4 hk4 hs4
        go_roundw
        case rel =>
          refine ⟨j + 1, by go_num, by omega, Lib.hid ?_⟩
          rw [ET.out, ← EL.out]
          exact L4
        case measure => simp [intOf]; omega
      | false =>
        have hx2 := HX.out rfl
        have SH := Lib.hid (fun w => pnum_short n hx2 w)
        have C4 := Lib.hid (wr_two p F3 s2 (.slice (some ⟨wr.heap.size, 0, none⟩) 1 1) [n] (wr.alloc (.cells #[.int .u16 (n : Int)] 82)) (H3.out.kept ((Kept.refl Nothing wr).alloc _) (fun _ _ x => x)) (Us.made (l := [n]) (Blk.fresh wr 82 #[.int .u16 (n : Int)]) rfl (by simp [maxLen])) (by simpa using hx2) (by have := HSL.out; simp; omega))
        go_wp2_with (first | (go_at_call 101; refine (SH.out _).mono ?_; rintro e w5 ⟨rfl, rfl⟩) | (go_at_call 100; refine (C4.out).mono ?_; rintro e w4 ⟨F4, rfl, hW4, hk4, hs4⟩))
        have L4 := LayPost.step (K3.out.alloc (.cells #[.int .u16 (n : Int)] 82)) N3.out hW4 hk4 hs4
        go_roundw
        case rel =>
          refine ⟨j + 1, by go_num, by omega, Lib.hid ?_⟩
          rw [ET.out, ← EL.out]
          exact L4
        case measure => simp [intOf]; omega
    · obtain rfl : j = l.length := by omega
      rw [List.take_of_length_le (Nat.le_refl _), EE.out] at HL
      go_wp2
      go_end0
      exact ⟨_, rfl, HL.out⟩
end Go.Proofs.YtdeblmolgmadiaaGreatDoor
