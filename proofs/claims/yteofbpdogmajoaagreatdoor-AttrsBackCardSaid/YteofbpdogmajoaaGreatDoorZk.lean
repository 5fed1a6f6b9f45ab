
/-
  Paths: their form.
-/
import Derived.Test.YteofbpdogmajoaaGreatDoorZd
import Derived.Test.YteofbpdogmajoaaGreatDoorZh
namespace Go.Proofs.YteofbpdogmajoaaGreatDoor
open Go.RowKit

/-- The slice value v reads as the numbers l of the kind k, in a row of the type ty. -/
def Us (w : World) (ty : TypeId) (k : IntKind) (v : Value) (l : List Nat) : Prop :=
  ∃ A c, v = .slice A l.length c ∧ l.length ≤ c ∧ c ≤ maxLen ∧ (0 < l.length → ∃ b o cs f, A = some ⟨b, o, none⟩ ∧ w.heap[b]? = some (.cells cs ty f) ∧ ∀ i (_ : i < l.length), cs[o + i]? = some (.int k ((l.getD i 0 : Nat) : Int)))
theorem Us.kept {S : Nat → Prop} {w w' : World} {ty : TypeId} {k : IntKind} {v : Value} {l : List Nat} (h : Us w ty k v l) (kp : Kept S w w') (hs : ∀ q, S q → ∀ cs f, w.heap[q]? ≠ some (.cells cs ty f)) : Us w' ty k v l := by
  obtain ⟨A, c, hv, hc, hm, hr⟩ := h
  refine ⟨A, c, hv, hc, hm, fun h0 => ?_⟩
  obtain ⟨b, o, cs, f, hA, hb, hi⟩ := hr h0
  exact ⟨b, o, cs, f, hA, (kp.block b (Array.getElem?_eq_some_iff.1 hb).1 (fun x => hs b x cs f hb)).trans hb, hi⟩
theorem Us.cell {w : World} {ty : TypeId} {k : IntKind} {A : Option Addr} {n c : Nat} {l : List Nat} (h : Us w ty k (.slice A n c) l) {i : Nat} (hi : i < l.length) : ∃ b o, A = some ⟨b, o, none⟩ ∧ w.cell? ⟨b, o + i, none⟩ = some (.int k ((l.getD i 0 : Nat) : Int)) := by
  obtain ⟨A', c', hv, hc, hm, hr⟩ := h
  injection hv with h1 h2 h3
  subst h1
  obtain ⟨b, o, cs, f, hA, hb, hcs⟩ := hr (by omega)
  exact ⟨b, o, hA, by rw [cell_of_row w b _ cs _ f hb]; exact hcs i hi⟩
theorem Us.form {w : World} {ty : TypeId} {k : IntKind} {v : Value} {l : List Nat} (h : Us w ty k v l) : ∃ A c, v = .slice A l.length c ∧ l.length ≤ c ∧ c ≤ maxLen := by
  obtain ⟨A, c, hv, hc, hm, _⟩ := h; exact ⟨A, c, hv, hc, hm⟩
theorem Us.made {w : World} {b : Nat} {ty : TypeId} {k : IntKind} {l : List Nat} {cs : Array Value} (h : Blk w b ty cs) (hl : cs.toList = l.map fun (n : Nat) => Value.int k (n : Int)) (hm : l.length ≤ maxLen) : Us w ty k (.slice (some ⟨b, 0, none⟩) l.length l.length) l :=
  ⟨_, _, rfl, Nat.le_refl _, hm, fun _ => ⟨b, 0, cs, _, rfl, h, fun i hi => by
    rw [Nat.zero_add, ← Array.getElem?_toList, hl, List.getElem?_map, List.getElem?_eq_getElem hi, List.getD_eq_getElem?_getD, List.getElem?_eq_getElem hi]; rfl⟩⟩

def two (n : Nat) : List UInt8 := [UInt8.ofNat (n / 256), UInt8.ofNat n]
def twos (l : List Nat) : List UInt8 := l.flatMap two
def fours (l : List Nat) : List UInt8 := l.flatMap fun n => twos [n / 65536, n % 65536]
theorem length_twos (l : List Nat) : (twos l).length = 2 * l.length := by
  induction l with
  | nil => rfl
  | cons a r ih => simp only [twos, List.flatMap_cons, List.length_append, List.length_cons] at ih ⊢; simp only [two, List.length_cons, List.length_nil]; omega
theorem length_fours (l : List Nat) : (fours l).length = 4 * l.length := by
  induction l with
  | nil => rfl
  | cons a r ih => simp only [fours, List.flatMap_cons, List.length_append, List.length_cons] at ih ⊢; rw [length_twos]; simp only [List.length_cons, List.length_nil]; omega
theorem twos_snoc (l : List Nat) (n : Nat) : twos (l ++ [n]) = twos l ++ two n := by unfold twos; rw [List.flatMap_append]; simp
theorem fours_snoc (l : List Nat) (n : Nat) : fours (l ++ [n]) = fours l ++ twos [n / 65536, n % 65536] := by unfold fours; rw [List.flatMap_append]; simp
theorem WS.lay_lay (s : WS) (a b : List UInt8) : (s.lay a).lay b = s.lay (a ++ b) := by
  unfold WS.lay
  by_cases h : s.e = 0
  · simp [h]
  · simp [h]
theorem WS.lay_nil (s : WS) : s.lay [] = s := by
  unfold WS.lay
  split
  · simp
  · rfl
theorem WS.lay_len (s : WS) (a : List UInt8) : (s.lay a).l.length ≤ s.l.length + a.length := by
  unfold WS.lay
  split
  · simp
  · omega
theorem Wr.noU {w : World} {F : Nat → Prop} {p : Nat} {s : WS} (h : Wr w F p s) {ty : TypeId} (ht : ty ≠ 166 ∧ ty ≠ 5 ∧ ty ≠ 206) : ∀ q, F q → ∀ cs f, w.heap[q]? ≠ some (.cells cs ty f) := fun q hq cs f e => by
  obtain ⟨cs', t, hh, h3⟩ := h.kinds hq
  rw [hh] at e
  injection e with e
  injection e with _ e2
  rcases h3 with rfl | rfl | rfl
  · exact ht.1 e2.symm
  · exact ht.2.1 e2.symm
  · exact ht.2.2 e2.symm

set_option maxHeartbeats 800000 in
theorem wr_two (p : Nat) (F : Nat → Prop) (s : WS) (v : Value) (l : List Nat) (w : World) (h : Wr w F p s) (hv : Us w 55 .u16 v l) (hx : ∀ x ∈ l, x < 65536) (hl : s.l.length + 2 * l.length ≤ 1099511627776) :
    Calls Tryz.prog 145 #[.pointer (some ⟨p, 0, none⟩), v] w fun r w' => ∃ F', r = .returned (.pointer (some ⟨p, 0, none⟩)) ∧ Wr w' F' p (s.lay (twos l)) ∧ Kept F w w' ∧ Sub w F' F := by
  obtain ⟨A, c, rfl, hc, hm⟩ := hv.form
  have HW := Lib.hid h
  have HU := Lib.hid hv
  have HX := Lib.hid hx
  unfold maxLen at hm
  clear h hv hx
  go_enter Tryz.func145, Tryz.ntmps145
  go_wp2_with fail
  go_loopw [9] (fun i wr => ∃ (k : Nat) (F' : Nat → Prop), i = .int .i64 (k : Int) ∧ k ≤ l.length ∧ Wr wr F' p (s.lay (twos (l.take k))) ∧ Kept F w wr ∧ Sub w F' F) (fun i _ => l.length - (intOf i).toNat)
  case atStart => exact ⟨0, F, rfl, Nat.zero_le _, by rw [List.take_zero]; show Wr w F p (s.lay []); rw [WS.lay_nil]; exact HW.out, Kept.refl _ _, Sub.refl _ _⟩
  case round =>
    obtain ⟨k, F', rfl, hk, hw, hkk, hs⟩ := hrel
    have W1 := Lib.hid hw
    have K1 := Lib.hid hkk
    have S1 := Lib.hid hs
    clear hw hkk hs
    by_cases hlt : k < l.length
    · obtain ⟨b, o, rfl, hcell⟩ := (HU.out.kept K1.out (HW.out.noU (by decide))).cell hlt
      have hxk : l.getD k 0 < 65536 := by
        rw [List.getD_eq_getElem?_getD, List.getElem?_eq_getElem hlt]
        exact HX.out _ (List.getElem_mem _)
      have HT : Hid (twos (l.take (k + 1)) = twos (l.take k) ++ two (l.getD k 0)) := by
        show _ = _
        rw [List.take_succ_eq_append_getElem hlt, twos_snoc, List.getD_eq_getElem?_getD, List.getElem?_eq_getElem hlt]; rfl
      generalize l.getD k 0 = x at *
      have kb := (Kept.refl Nothing wr).alloc (.cells #[.int .u8 ((x : Int) / 256), .int .u8 ((x : Int) % 256)] 5)
      have hB : Bs (wr.alloc (.cells #[.int .u8 ((x : Int) / 256), .int .u8 ((x : Int) % 256)] 5)) (.slice (some ⟨wr.heap.size, 0, none⟩) 2 2) (two x) := by
        refine Bs.made (l := two x) (Blk.fresh wr 5 #[.int .u8 ((x : Int) / 256), .int .u8 ((x : Int) % 256)]) ?_ (by simp [two, maxLen])
        show [_, _] = [_, _]
        rw [by8_of (x := (x : Int) / 256) (m := x / 256) (by omega), by8_of (x := (x : Int) % 256) (m := x) (by omega)]
      have hll := WS.lay_len s (twos (l.take k))
      rw [length_twos, List.length_take] at hll
      have C := Lib.hid (wr_byte p F' _ _ (two x) _ (W1.out.kept kb (fun _ _ y => y)) hB.by (by simp only [two, List.length_cons, List.length_nil]; omega))
      rw [WS.lay_lay, ← HT.out] at C
      have KB := Lib.hid kb
      clear kb hB hll HT
      go_wp2_with fail
      refine C.out.mono ?_
      rintro e w2 ⟨F2, rfl, hw, hk2, hs2⟩
      have W2 := Lib.hid hw
      have K2 := Lib.hid hk2
      have S2 := Lib.hid hs2
      clear hw hk2 hs2
      go_wp2
      go_roundw
      case rel =>
        refine ⟨k + 1, F2, by go_num, by omega, W2.out, ?_, ?_⟩
        · exact K1.out.sub S1.out ((KB.out.mono (fun _ y => y.elim)).trans K2.out)
        · exact S1.out.trans (Sub.less KB.out S2.out) K1.out.size
      case measure => simp [intOf]; omega
    · obtain rfl : k = l.length := by omega
      have W2 := W1.out
      rw [List.take_length] at W2
      have W3 := Lib.hid W2
      clear W2
      go_wp2
      go_ret
      exact ⟨F', rfl, W3.out, K1.out, S1.out⟩

set_option maxHeartbeats 800000 in
theorem wr_four (p : Nat) (F : Nat → Prop) (s : WS) (v : Value) (l : List Nat) (w : World) (h : Wr w F p s) (hv : Us w 23 .u32 v l) (hx : ∀ x ∈ l, x < 4294967296) (hl : s.l.length + 4 * l.length ≤ 1099511627776) :
    Calls Tryz.prog 105 #[.pointer (some ⟨p, 0, none⟩), v] w fun r w' => ∃ F', r = .returned (.pointer (some ⟨p, 0, none⟩)) ∧ Wr w' F' p (s.lay (fours l)) ∧ Kept F w w' ∧ Sub w F' F := by
  obtain ⟨A, c, rfl, hc, hm⟩ := hv.form
  have HW := Lib.hid h
  have HU := Lib.hid hv
  have HX := Lib.hid hx
  unfold maxLen at hm
  clear h hv hx
  go_enter Tryz.func105, Tryz.ntmps105
  go_wp2_with fail
  go_loopw [9] (fun i wr => ∃ (k : Nat) (F' : Nat → Prop), i = .int .i64 (k : Int) ∧ k ≤ l.length ∧ Wr wr F' p (s.lay (fours (l.take k))) ∧ Kept F w wr ∧ Sub w F' F) (fun i _ => l.length - (intOf i).toNat)
  case atStart => exact ⟨0, F, rfl, Nat.zero_le _, by rw [List.take_zero]; show Wr w F p (s.lay []); rw [WS.lay_nil]; exact HW.out, Kept.refl _ _, Sub.refl _ _⟩
  case round =>
    obtain ⟨k, F', rfl, hk, hw, hkk, hs⟩ := hrel
    have W1 := Lib.hid hw
    have K1 := Lib.hid hkk
    have S1 := Lib.hid hs
    clear hw hkk hs
    by_cases hlt : k < l.length
    · obtain ⟨b, o, rfl, hcell⟩ := (HU.out.kept K1.out (HW.out.noU (by decide))).cell hlt
      have hxk : l.getD k 0 < 4294967296 := by
        rw [List.getD_eq_getElem?_getD, List.getElem?_eq_getElem hlt]
        exact HX.out _ (List.getElem_mem _)
      have HT : Hid (fours (l.take (k + 1)) = fours (l.take k) ++ twos [l.getD k 0 / 65536, l.getD k 0 % 65536]) := by
        show _ = _
        rw [List.take_succ_eq_append_getElem hlt, fours_snoc, List.getD_eq_getElem?_getD, List.getElem?_eq_getElem hlt]; rfl
      generalize l.getD k 0 = x at *
      have kb := (Kept.refl Nothing wr).alloc (.cells #[.int .u16 ((x : Int) / 65536), .int .u16 ((x : Int) % 65536)] 55)
      have hB : Us (wr.alloc (.cells #[.int .u16 ((x : Int) / 65536), .int .u16 ((x : Int) % 65536)] 55)) 55 .u16 (.slice (some ⟨wr.heap.size, 0, none⟩) 2 2) [x / 65536, x % 65536] :=
        Us.made (l := [x / 65536, x % 65536]) (Blk.fresh wr 55 #[.int .u16 ((x : Int) / 65536), .int .u16 ((x : Int) % 65536)]) (by simp) (by simp [maxLen])
      have hll := WS.lay_len s (fours (l.take k))
      rw [length_fours, List.length_take] at hll
      have C := Lib.hid (wr_two p F' _ _ [x / 65536, x % 65536] _ (W1.out.kept kb (fun _ _ y => y)) hB (by intro y hy; simp at hy; omega) (by simp only [List.length_cons, List.length_nil]; omega))
      rw [WS.lay_lay, ← HT.out] at C
      have KB := Lib.hid kb
      clear kb hB hll HT
      go_wp2_with fail
      refine C.out.mono ?_
      rintro e w2 ⟨F2, rfl, hw, hk2, hs2⟩
      have W2 := Lib.hid hw
      have K2 := Lib.hid hk2
      have S2 := Lib.hid hs2
      clear hw hk2 hs2
      go_wp2
      go_roundw
      case rel =>
        refine ⟨k + 1, F2, by go_num, by omega, W2.out, ?_, ?_⟩
        · exact K1.out.sub S1.out ((KB.out.mono (fun _ y => y.elim)).trans K2.out)
        · exact S1.out.trans (Sub.less KB.out S2.out) K1.out.size
      case measure => simp [intOf]; omega
    · obtain rfl : k = l.length := by omega
      have W2 := W1.out
      rw [List.take_length] at W2
      have W3 := Lib.hid W2
      clear W2
      go_wp2
      go_ret
      exact ⟨F', rfl, W3.out, K1.out, S1.out⟩
end Go.Proofs.YteofbpdogmajoaaGreatDoor
namespace Go.Proofs.YteofbpdogmajoaaGreatDoor
open Go.RowKit

namespace Pt
def nums (wide : Bool) (l : List Nat) : List UInt8 := if wide then fours l else twos l
def seg (wide : Bool) (s : Seg) : List UInt8 := [s.1, UInt8.ofNat s.2.length] ++ nums wide s.2
def form (wide : Bool) (p : List Seg) : List UInt8 := p.flatMap (seg wide)
/-- Is a number wide? -/
def hasW (p : List Seg) : Bool := (all p).any fun x => decide (65535 < x.2)
def bytes (p : List Seg) (wide : Bool) : List UInt8 × Nat := if may p = false then ([], 1) else if (!wide && hasW p) = true then ([], 24) else (form wide p, 0)
theorem nums_nil (wide : Bool) : nums wide [] = [] := by unfold nums; split <;> rfl
theorem nums_snoc (wide : Bool) (l : List Nat) (n : Nat) : nums wide (l ++ [n]) = nums wide l ++ nums wide [n] := by
  unfold nums
  split
  · rw [fours_snoc]; simp [fours]
  · rw [twos_snoc]; simp [twos]
theorem length_nums (wide : Bool) (l : List Nat) : (nums wide l).length ≤ 4 * l.length := by
  unfold nums
  split
  · rw [length_fours]; omega
  · rw [length_twos]; omega
theorem length_seg (wide : Bool) (s : Seg) : (seg wide s).length ≤ 2 + 4 * s.2.length := by
  unfold seg
  have := length_nums wide s.2
  simp
  omega
theorem form_append (wide : Bool) (a b : List Seg) : form wide (a ++ b) = form wide a ++ form wide b := List.flatMap_append
theorem form_nil (wide : Bool) : form wide [] = [] := rfl
theorem form_snoc (wide : Bool) (a : List Seg) (s : Seg) : form wide (a ++ [s]) = form wide a ++ seg wide s := by rw [form_append]; simp [form]
theorem length_form (wide : Bool) (p : List Seg) (h : ∀ s ∈ p, s.2.length ≤ 1000) : (form wide p).length ≤ 5000 * p.length := by
  induction p with
  | nil => simp [form]
  | cons s p ih =>
    have h1 := ih (fun x hx => h x (List.mem_cons_of_mem _ hx))
    have h2 := length_seg wide s
    have h3 := h s (List.mem_cons_self ..)
    show (seg wide s ++ form wide p).length ≤ _
    rw [List.length_append, List.length_cons]
    omega
end Pt

theorem pnum_wide (n : Nat) (w : World) :
    Calls Tryz.prog 144 #[.int .u32 (n : Int)] w fun e w' => e = .returned (.bool (decide (65535 < n))) ∧ w = w' := by
  go_enter Tryz.func144, Tryz.ntmps144
  go_wp2
  go_ret
  exact ⟨ret_bool (by rw [Bool.eq_iff_iff]; simp; try omega), rfl⟩
theorem pnum_short (n : Nat) (hn : n < 65536) (w : World) :
    Calls Tryz.prog 146 #[.int .u32 (n : Int)] w fun e w' => e = .returned (.int .u16 (n : Int)) ∧ w = w' := by
  have HW := Lib.hid (fun w => pnum_wide n w)
  rw [show decide (65535 < n) = false from by simp; omega] at HW
  go_enter Tryz.func146, Tryz.ntmps146
  go_wp2_with (go_at_call 144; refine (HW.out _).mono ?_; rintro e w1 ⟨rfl, rfl⟩)
  go_ret
  exact ⟨ret_int (by omega), rfl⟩
/-- What laying leaves: the writer, in blocks that are new since w0. -/
def LayPost (w0 : World) (p : Nat) (s : WS) (w' : World) : Prop := ∃ F, Wr w' F p s ∧ Kept Nothing w0 w' ∧ ∀ k, F k → w0.heap.size ≤ k
theorem LayPost.step {w0 w w' : World} {p : Nat} {F : Nat → Prop} {s : WS} {F' : Nat → Prop} (hk : Kept Nothing w0 w) (hF : ∀ k, F k → w0.heap.size ≤ k) (h : Wr w' F' p s) (k : Kept F w w') (hs : Sub w F' F) : LayPost w0 p s w' :=
  ⟨F', h, hk.trans_new k (fun i hi x => by have := hF i x; omega), fun g hg => by
    rcases hs g hg with x | x
    · exact hF g x
    · have := hk.size; omega⟩

set_option maxHeartbeats 1600000 in
theorem seg_lay (w0 : World) (k : Nat) (hk : k < 256) (v : Value) (l : List Nat) (hv : As w0 v l) (wide : Bool) (hw : wide = false → ∀ n ∈ l, n < 65536) (p : Nat) (s : WS) (w : World) (h : LayPost w0 p s w) (hl : s.l.length + 2 + 4 * l.length ≤ 1099511627776) :
    Calls Tryz.prog 143 #[.agg #[.int .u8 (k : Int), v], .pointer (some ⟨p, 0, none⟩), .bool wide] w fun e w' => ∃ u, e = .returned u ∧ LayPost w0 p (s.lay (Pt.seg wide (UInt8.ofNat k, l))) w' := by
  obtain ⟨A, c, rfl, hc, hm⟩ := hv.form
  obtain ⟨F, hW, hk0, hF⟩ := h
  have HV := Lib.hid hv
  have HW := Lib.hid hw
  have k1 := (Kept.refl Nothing w).alloc (.cells #[.int .u8 (k : Int), .slice A l.length c] 71)
  have b1 := Blk.fresh w 71 #[.int .u8 (k : Int), .slice A l.length c]
  have h1 := hW.kept k1 (fun _ _ x => x)
  have hlt : Hid (∀ g, F g → g < w.heap.size) := Lib.hid (fun g hg => hW.lt hg)
  clear hv hw hW
  go_enter Tryz.func143, Tryz.ntmps143
  go_upto_region 1 with fail
  obtain ⟨w1, hw1⟩ : ∃ w1, w.alloc (.cells #[.int .u8 (k : Int), .slice A l.length c] 71) = w1 := ⟨_, rfl⟩
  rw [hw1] at h1 k1 b1 ⊢
  have c0 := b1.cell 0
  have c1 := b1.cell 1
  have HB := Lib.hid b1
  have H1 := Lib.hid h1
  have K1 := Lib.hid k1
  clear hw1 b1 h1 k1
  go_wp2_with fail
  have hby := (Bs.made (l := [UInt8.ofNat k, UInt8.ofNat l.length]) (Blk.fresh w1 5 #[.int .u8 (k : Int), .int .u8 ((l.length : Int) % 256)]) (by unfold bys by8; simp [UInt8.toNat_ofNat', Nat.mod_eq_of_lt hk]) (by simp [maxLen])).by
  have k2 := (Kept.refl Nothing w1).alloc (.cells #[.int .u8 (k : Int), .int .u8 ((l.length : Int) % 256)] 5)
  refine (wr_byte p F s _ _ _ (H1.out.kept k2 (fun _ _ x => x)) hby (by simp; omega)).mono ?_
  rintro e w2 ⟨F2, rfl, hW2, hk2, hs2⟩
  have c1' : w2.cell? ⟨w.heap.size, 1, none⟩ = some (.slice A l.length c) := hk2.cell_some (k2.cell_some c1 (fun x => x)) (fun x => by have := hlt.out _ x; simp at this)
  have L2 : Hid (LayPost w0 p ((s.lay [UInt8.ofNat k, UInt8.ofNat l.length]).lay (Pt.nums wide (l.take 0))) w2) := Lib.hid (by
    rw [List.take_zero, Pt.nums_nil, WS.lay_nil]
    exact LayPost.step ((hk0.trans K1.out).trans k2) hF hW2 hk2 hs2)
  have ES : Hid ((s.lay [UInt8.ofNat k, UInt8.ofNat l.length]).l.length ≤ s.l.length + 2) := Lib.hid (WS.lay_len s _)
  have EE : Hid (∀ x, (s.lay [UInt8.ofNat k, UInt8.ofNat l.length]).lay x = s.lay ([UInt8.ofNat k, UInt8.ofNat l.length] ++ x)) := Lib.hid (fun x => WS.lay_lay _ _ _)
  generalize s.lay [UInt8.ofNat k, UInt8.ofNat l.length] = s1 at *
  clear hby k2 hW2 hk2 hs2 H1 K1 HB c0 c1 hk0 hF hlt
  have hll : l.length ≤ 1099511627776 := by omega
  go_wp2_with fail
  go_loopw [20] (fun i wr => ∃ j : Nat, i = .int .i64 (j : Int) ∧ j ≤ l.length ∧ Hid (LayPost w0 p (s1.lay (Pt.nums wide (l.take j))) wr)) (fun i _ => l.length - (intOf i).toNat)
  case atStart => exact ⟨0, rfl, Nat.zero_le _, L2⟩
  case round =>
    clear L2 c1'
    obtain ⟨j, rfl, hj, HL⟩ := hrel
    by_cases hlt : j < l.length
    · obtain ⟨F3, hW3, hk3, hF3⟩ := HL.out
      obtain ⟨b, o, rfl, hc1⟩ := HV.out.at (by omega)
      have cj := hk3.cell_some (hc1 j hlt) (fun x => x)
      have i1 : (0 : Int) ≤ (j : Int) := by omega
      have i2 : (j : Int) < (l.length : Int) := by omega
      have hmem : l.getD j 0 ∈ l := by rw [getD_get hlt]; exact List.getElem_mem _
      have hx := HV.out.1 _ hmem
      have HX := Lib.hid (fun e => HW.out e _ hmem)
      have ET : Hid (l.take (j + 1) = l.take j ++ [l.getD j 0]) := Lib.hid (by rw [List.take_succ_eq_append_getElem hlt, getD_get hlt])
      have hsl : (s1.lay (Pt.nums wide (l.take j))).l.length + 4 ≤ 1099511627776 := by
        have h1 := WS.lay_len s1 (Pt.nums wide (l.take j))
        have h2 := Pt.length_nums wide (l.take j)
        have h3 := ES.out
        rw [List.length_take] at h2
        omega
      have EL : Hid (∀ n, (s1.lay (Pt.nums wide (l.take j))).lay (Pt.nums wide [n]) = s1.lay (Pt.nums wide (l.take j ++ [n]))) := Lib.hid (fun n => by rw [WS.lay_lay, ← Pt.nums_snoc])
      generalize s1.lay (Pt.nums wide (l.take j)) = s2 at *
      generalize l.getD j 0 = n at *
      have H3 := Lib.hid hW3
      have K3 := Lib.hid hk3
      have N3 := Lib.hid hF3
      have HSL := Lib.hid hsl
      clear hc1 hmem hW3 hk3 hF3 HL hsl
      cases wide with
      | true =>
        have C4 := Lib.hid (wr_four p F3 s2 (.slice (some ⟨wr.heap.size, 0, none⟩) 1 1) [n] (wr.alloc (.cells #[.int .u32 (n : Int)] 23)) (H3.out.kept ((Kept.refl Nothing wr).alloc _) (fun _ _ x => x)) (Us.made (l := [n]) (Blk.fresh wr 23 #[.int .u32 (n : Int)]) rfl (by simp [maxLen])) (by simpa using hx) (by have := HSL.out; simp; omega))
        go_wp2_with (go_at_call 105; refine (C4.out).mono ?_; rintro e w4 ⟨F4, rfl, hW4, hk4, hs4⟩)
        have L4 := LayPost.step (K3.out.alloc (.cells #[.int .u32 (n : Int)] 23)) N3.out hW4 hk4 hs4
        go_roundw
        case rel =>
          refine ⟨j + 1, by go_num, by omega, Lib.hid ?_⟩
          rw [ET.out, ← EL.out]
          exact L4
        case measure => simp [intOf]; omega
      | false =>
        have hx2 := HX.out rfl
        have SH := Lib.hid (fun w => pnum_short n hx2 w)
        have C4 := Lib.hid (wr_two p F3 s2 (.slice (some ⟨wr.heap.size, 0, none⟩) 1 1) [n] (wr.alloc (.cells #[.int .u16 (n : Int)] 55)) (H3.out.kept ((Kept.refl Nothing wr).alloc _) (fun _ _ x => x)) (Us.made (l := [n]) (Blk.fresh wr 55 #[.int .u16 (n : Int)]) rfl (by simp [maxLen])) (by simpa using hx2) (by have := HSL.out; simp; omega))
        go_wp2_with (first | (go_at_call 146; refine (SH.out _).mono ?_; rintro e w5 ⟨rfl, rfl⟩) | (go_at_call 145; refine (C4.out).mono ?_; rintro e w4 ⟨F4, rfl, hW4, hk4, hs4⟩))
        have L4 := LayPost.step (K3.out.alloc (.cells #[.int .u16 (n : Int)] 55)) N3.out hW4 hk4 hs4
        go_roundw
        case rel =>
          refine ⟨j + 1, by go_num, by omega, Lib.hid ?_⟩
          rw [ET.out, ← EL.out]
          exact L4
        case measure => simp [intOf]; omega
    · obtain rfl : j = l.length := by omega
      rw [List.take_of_length_le (Nat.le_refl _), EE.out] at HL
      go_wp2
      go_end0
      exact ⟨_, rfl, HL.out⟩
end Go.Proofs.YteofbpdogmajoaaGreatDoor
