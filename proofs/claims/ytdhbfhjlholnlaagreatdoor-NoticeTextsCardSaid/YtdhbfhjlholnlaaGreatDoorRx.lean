
/-
  A byte n times: math/bits.Mul at 1, slices.Repeat and bytes.Repeat of one byte.
-/
import Derived.Test.YtdhbfhjlholnlaaGreatDoorWd
import Derived.Laws.CopyRow
import Derived.Laws.OwnMore
import Derived.Laws.BitsAllLaws
import Derived.Laws.BitsLemmas
import Derived.Laws.MathBits
import Derived.WalkLawsBesides
import Derived.Lib.MakeNoZero
import Derived.LoopTactic
import Derived.Laws.Externs
import Derived.Deep.DeepCutAuto
import Derived.Deep.CutBlock
import Derived.RegionTactic
namespace Go.Proofs.YtdhbfhjlholnlaaGreatDoor
open Go.RowKit

theorem u64_mask (n : Nat) (h : n < 4294967296) : bits .and .u64 (n : Int) 4294967295 = (n : Int) := by
  have e : ∀ a : Nat, a < 18446744073709551616 → (BitVec.ofInt 64 (a : Int)).toNat = a := fun a ha => by
    rw [BitVec.ofInt_natCast, BitVec.toNat_ofNat]; exact Nat.mod_eq_of_lt (by omega)
  have hx : n &&& 4294967295 = n := by
    have := Nat.and_two_pow_sub_one_eq_mod n 32
    rw [show (2 : Nat) ^ 32 - 1 = 4294967295 from rfl] at this
    rw [this]
    exact Nat.mod_eq_of_lt (by omega)
  show IntKind.u64.wrap ((BitVec.ofInt 64 (n : Int) &&& BitVec.ofInt 64 ((4294967295 : Nat) : Int)).toNat : Int) = _
  rw [BitVec.toNat_and, e n (by omega), e 4294967295 (by omega), hx]
  simp [IntKind.wrap, IntKind.bits, IntKind.signed]
  omega
theorem u64_mask1 : bits .and .u64 1 4294967295 = 1 := u64_mask 1 (by decide)
theorem u64_mask0 : bits .and .u64 0 4294967295 = 0 := u64_mask 0 (by decide)

set_option maxHeartbeats 400000 in
theorem mul64_one (n : Nat) (w : World) (h : n < 4294967296) :
    Calls Tryz.prog 115 #[.int .u64 1, .int .u64 (n : Int)] w fun r w' => r = .returned (.tuple #[.int .u64 0, .int .u64 (n : Int)]) ∧ w = w' := by
  have e1 := u64_mask n h
  have e2 := u64_mask1
  have e3 := u64_mask0
  have e4 : (n : Int) / 4294967296 = 0 := by omega
  go_enter Tryz.func115, Tryz.ntmps115
  go_wp2
  go_ret2
  exact ⟨rfl, rfl⟩
theorem mul_one (n : Nat) (w : World) (h : n < 4294967296) :
    Calls Tryz.prog 73 #[.int .u64 1, .int .u64 (n : Int)] w fun r w' => r = .returned (.tuple #[.int .u64 0, .int .u64 (n : Int)]) ∧ w = w' := by
  have C := Lib.hid (mul64_one n w h)
  go_enter Tryz.func73, Tryz.ntmps73
  go_wp2_with fail
  refine C.out.mono ?_
  rintro e w' ⟨rfl, rfl⟩
  go_wp2
  go_ret2
  exact ⟨rfl, rfl⟩

/-- Block g is a row of bytes, k of them x so far. -/
def Fill (w : World) (g N k : Nat) (x : UInt8) : Prop := ∃ cur : Array Value, Blk w g 5 cur ∧ cur.size = N ∧ ∀ i, i < k → cur[i]? = some (by8 x)

theorem Fill.copy {w : World} {g N k j : Nat} {x : UInt8} (h : Fill w g N k x) (hj : j ≤ k) (hn : k + j ≤ N) (ty : TypeId) (dl dc sc : Nat) (hd : min k dl = j) :
    ∃ w', (Builtin.copy_ #[55, 55] ty #[.slice (some ⟨g, k, none⟩) dl dc, .slice (some ⟨g, 0, none⟩) k sc]).run Tryz.prog w = .ok (goInt j) w' ∧ Fill w' g N (k + j) x ∧ Kept (Only g) w w' := by
  obtain ⟨cur, hB, hs, hf⟩ := h
  have hsrc : ∀ i v, (List.replicate j (by8 x))[i]? = some v → w.cell? ((⟨g, 0, none⟩ : Addr).add i) = some v := by
    intro i v hv
    have hi : i < j := by
      have := (List.getElem?_eq_some_iff.1 hv).1
      simpa using this
    rw [add_none, Nat.zero_add, hB.cell, hf i (by omega)]
    rw [List.getElem?_replicate] at hv
    rw [if_pos hi] at hv
    exact hv
  have hr := run_copy_row (P := Tryz.prog) w 55 55 ty 5 g k dl dc ⟨g, 0, none⟩ k sc cur _ (List.replicate j (by8 x)) Tryz.underlying55 (by kernel_rfl) hB (by simp; exact hd.symm) hsrc (by simp; omega) (by intro v hv; rw [(List.mem_replicate.1 hv).2]; rfl)
  rw [List.length_replicate] at hr
  refine ⟨_, hr, ⟨_, setRow_heap w g _ _ _ _ hB, ?_, ?_⟩, ⟨rfl, rfl, rfl, by simp, fun q _ hq => setRow_other w g q _ hq⟩⟩
  · simp; omega
  · intro i hi
    rw [List.getElem?_toArray]
    by_cases h1 : i < k
    · rw [List.append_assoc, List.getElem?_append_left (by simp; omega), List.getElem?_take_of_lt h1, Array.getElem?_toList]
      exact hf i h1
    · rw [List.getElem?_append_left (by simp; omega), List.getElem?_append_right (by simp; omega)]
      rw [List.getElem?_replicate, if_pos (by simp; omega)]

theorem Fill.kept {S : Nat → Prop} {w w' : World} {g N k : Nat} {x : UInt8} (h : Fill w g N k x) (kp : Kept S w w') (hs : ¬ S g) : Fill w' g N k x := by
  obtain ⟨cur, hB, hz, hf⟩ := h
  exact ⟨cur, hB.kept kp hs, hz, hf⟩
theorem Fill.bs {w : World} {g N n c : Nat} {x : UInt8} (h : Fill w g N n x) (hc : n ≤ c) (hm : c ≤ maxLen) : Bs w (.slice (some ⟨g, 0, none⟩) n c) (List.replicate n x) := by
  obtain ⟨cur, hB, hz, hf⟩ := h
  refine ⟨_, _, by rw [List.length_replicate], by rw [List.length_replicate]; exact hc, hm, fun _ => ⟨g, 0, cur, _, rfl, hB, fun i hi => ?_⟩⟩
  rw [List.length_replicate] at hi
  rw [Nat.zero_add, hf i hi, List.getD_eq_getElem?_getD, List.getElem?_replicate, if_pos hi]
  rfl
/-- The first byte laid. -/
theorem Fill.first {w : World} {g N n dc : Nat} {x : UInt8} {A : Option Addr} {sc : Nat} {cur : Array Value} (hB : Blk w g 5 cur) (hz : cur.size = N) (hN : n ≤ N) (hn : 1 ≤ n) (hx : By w (.slice A 1 sc) [x]) (ty : TypeId) :
    ∃ w', (Builtin.copy_ #[55, 55] ty #[.slice (some ⟨g, 0, none⟩) n dc, .slice A 1 sc]).run Tryz.prog w = .ok (goInt 1) w' ∧ Fill w' g N 1 x ∧ Kept (Only g) w w' := by
  have hs := hx.src
  cases A with
  | none => exact absurd (hs.2.1 rfl) (by simp)
  | some a =>
    have hr := run_copy_row (P := Tryz.prog) w 55 55 ty 5 g 0 n dc a 1 sc cur _ (bys [x]) Tryz.underlying55 (by kernel_rfl) hB (by simp [bys]; exact (Nat.min_eq_left hn).symm) (hs.2.2.1 a rfl) (by simp [bys]; omega) hs.2.2.2
    refine ⟨_, hr, ⟨_, setRow_heap w g _ _ _ _ hB, ?_, ?_⟩, ⟨rfl, rfl, rfl, by simp, fun q _ hq => setRow_other w g q _ hq⟩⟩
    · simp [bys]; omega
    · intro i hi
      obtain rfl : i = 0 := by omega
      rfl

theorem cut_lo (g k n c : Nat) (hk : k ≤ n) (hc : k < c) (w : World) :
    (Instr.slice 55 (.slice (some ⟨g, 0, none⟩) n c) (some (.int .i64 (k : Int))) none none).run Tryz.prog w = .ok (.slice (some ⟨g, k, none⟩) (n - k) (c - k)) w := by
  have hz := Tryz.sizeOf5
  have he : Tryz.prog.elem 55 = 5 := by kernel_rfl
  rw [run_slice_l w 55 (some ⟨g, 0, none⟩) n c (by kernel_rfl) .i64 k (by omega) (by omega), he, hz]
  have : c ≠ k := by omega
  simp [sliced, this, add_none]
theorem cut_hi (A : Option Addr) (n c k : Nat) (hk : k ≤ c) (w : World) :
    (Instr.slice 55 (.slice A n c) none (some (.int .i64 (k : Int))) none).run Tryz.prog w = .ok (.slice A k c) w := by
  have hz := Tryz.sizeOf5
  have he : Tryz.prog.elem 55 = 5 := by kernel_rfl
  rw [run_slice_h w 55 A n c (by kernel_rfl) .i64 k (by omega) (by omega), he, hz]
  cases A <;> simp [sliced, Addr.add]
theorem New.at0 (w : World) (k n c : Nat) (h : w.heap.size ≤ k) : ∀ a m d, Value.slice (some ⟨k, 0, none⟩) n c = .slice (some a) m d → w.heap.size ≤ a.block := fun a n' c' e => by
  injection e with e1 e2 e3
  injection e1 with e1
  subst e1
  exact h
set_option maxRecDepth 100000 in
theorem make_n (n : Nat) (h : n ≤ 4096) : ∀ w : World, (Instr.makeSlice 55 (.int .i64 (n : Int)) (.int .i64 (n : Int))).run Tryz.prog w = .ok (.slice (some ⟨w.heap.size, 0, none⟩) n n) (w.alloc (.cells (madeCells #[.int .u8 0] n) 5)) := by
  intro w
  obtain ⟨i, hi, h1, h2, h3⟩ : ∃ i, Tryz.prog.info? 5 = some i ∧ i.zero = some (.int .u8 0) ∧ i.size = 1 ∧ i.bytes = 1 := ⟨_, rfl, by kernel_rfl, by kernel_rfl, by kernel_rfl⟩
  have := run_make (P := Tryz.prog) w 55 5 i (.int .u8 0) Tryz.underlying55 hi h1 .i64 .i64 (n : Int) (n : Int) (by omega) (by omega) (by rw [h3]; omega) (by omega)
  rw [h2, Nat.mul_one, Int.toNat_natCast] at this
  exact this

set_option maxRecDepth 100000 in
set_option maxHeartbeats 400000 in
theorem sl_repeat (v : Value) (x : UInt8) (n : Nat) (w : World) (h : By w v [x]) (h1 : 1 ≤ n) (h2 : n ≤ 4096) :
    Calls Tryz.prog 38 #[v, .int .i64 (n : Int)] w fun r w' => ∃ v', r = .returned v' ∧ Bs w' v' (List.replicate n x) ∧ (∀ a m d, v' = .slice (some a) m d → w.heap.size ≤ a.block) ∧ Kept Nothing w w' := by
  obtain ⟨A, c, rfl, hc, hm⟩ := h.form
  have HM := Lib.hid (mul_one n w (by omega))
  have mk := make_n n h2
  have ka := (Kept.refl Nothing w).alloc (.cells (madeCells #[.int .u8 0] n) 5)
  obtain ⟨w2, hcp, hf2, hk2⟩ := Fill.first (g := w.heap.size) (N := n) (n := n) (dc := n) (x := x) (A := A) (sc := c) (Blk.fresh w 5 (madeCells #[.int .u8 0] n)) (by rw [← Array.length_toList, toList_madeCells_one]; simp) (Nat.le_refl _) h1 (h.old ka) 3
  have F2 := Lib.hid hf2
  have K2 := Lib.hid (ka.trans_new hk2 (fun i hi e => by have : i = w.heap.size := e; omega))
  clear h ka hf2 hk2
  go_enter Tryz.func38, Tryz.ntmps38
  go_wp2_with fail
  refine HM.out.mono ?_
  rintro e w' ⟨rfl, rfl⟩
  go_wp2_with fail
  clear hcp mk
  generalize hgg : w.heap.size = g at *
  have HG := Lib.hid hgg
  clear hgg
  go_loopw [8] (fun i wr => ∃ k : Nat, i = .int .i64 (k : Int) ∧ 1 ≤ k ∧ k ≤ n ∧ Fill wr g n k x ∧ Kept Nothing w wr) (fun i _ => n - (intOf i).toNat)
  case atStart => exact ⟨1, rfl, Nat.le_refl _, h1, F2.out, K2.out⟩
  case round =>
    clear F2 K2
    obtain ⟨k, rfl, hk1, hkn, hf, hk⟩ := hrel
    have K3 := Lib.hid hk
    clear hk
    by_cases hlt : k < n
    · obtain ⟨j, hj⟩ : ∃ j, j = min k (n - k) := ⟨_, rfl⟩
      have hj1 : 1 ≤ j ∧ j ≤ k ∧ k + j ≤ n := by omega
      obtain ⟨w3, hcp, hf3, hk3⟩ := Fill.copy (w := wr.drew) (g := g) (N := n) (k := k) (j := j) (x := x) (by obtain ⟨cur, hB, hz, hff⟩ := hf; exact ⟨cur, hB, hz, hff⟩) hj1.2.1 (by omega) 3 (n - k) (n - k) n hj.symm
      have s1 := cut_lo g k n n hkn hlt
      have s2 := cut_hi (some ⟨g, 0, none⟩) n n k hkn
      have F3 := Lib.hid hf3
      have K4 := Lib.hid (K3.out.trans_new (((Kept.refl (Only g) wr).drew).trans hk3) (fun i hi e => by have e' : i = g := e; rw [HG.out] at hi; omega))
      have HJ := Lib.hid hj
      clear hj hf hf3 hk3
      go_wp2_with fail
      go_region
      go_wp2
      go_roundw
      case rel => exact ⟨k + j, by go_num, by omega, by omega, F3.out, K4.out⟩
      case measure => simp [intOf]; omega
    · obtain rfl : k = n := by omega
      have F4 := Lib.hid hf
      clear hf
      go_wp2
      go_ret
      exact ⟨_, rfl, F4.out.bs (Nat.le_refl _) (by unfold maxLen; omega), New.at0 w _ _ _ (by rw [HG.out]; exact Nat.le_refl _), K3.out⟩
end Go.Proofs.YtdhbfhjlholnlaaGreatDoor
