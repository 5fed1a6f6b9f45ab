
/-
  FuseKnown's rows.
-/
import Derived.Test.YthjljamngpddmaaGreatDoorY17
namespace Go.Proofs.YthjljamngpddmaaGreatDoor
open Go.RowKit Go.Shelf

namespace Fz
theorem e3 : Lib.decDigits 3 = [51] := by rw [dec_small (by decide)]; rfl
theorem e4 : Lib.decDigits 4 = [52] := by rw [dec_small (by decide)]; rfl
theorem e6 : Lib.decDigits 6 = [54] := by rw [dec_small (by decide)]; rfl
theorem e8 : Lib.decDigits 8 = [56] := by rw [dec_small (by decide)]; rfl
theorem e9 : Lib.decDigits 9 = [57] := by rw [dec_small (by decide)]; rfl
theorem e70001 : Lib.decDigits 70001 = [55, 48, 48, 48, 49] := by rw [dec_step (by decide), dec_step (by decide), dec_step (by decide), dec_step (by decide), dec_small (by decide)]; rfl
theorem kt0 : Pt.text [] = [45] := rfl
set_option linter.unusedSimpArgs false in
theorem kt1 : Pt.text [(2, [1, 2])] = [49, 32, 50] := by
  show Pt.tx [(2, [1, 2])] 1 = _
  simp [Pt.tx, Pt.ahead, Pt.gap, Pt.segT, Pt.opens, Pt.betw, Pt.ends, e1, e2, e3, e4, e5, e6, e7, e8, e9, Lib.join, List.intercalate, List.intersperse]
set_option linter.unusedSimpArgs false in
theorem kt2 : Pt.text [(2, [3, 4])] = [51, 32, 52] := by
  show Pt.tx [(2, [3, 4])] 1 = _
  simp [Pt.tx, Pt.ahead, Pt.gap, Pt.segT, Pt.opens, Pt.betw, Pt.ends, e1, e2, e3, e4, e5, e6, e7, e8, e9, Lib.join, List.intercalate, List.intersperse]
set_option linter.unusedSimpArgs false in
theorem kt3 : Pt.text [(3, [9]), (3, [8])] = [40, 57, 41, 32, 40, 56, 41] := by
  show Pt.tx [(3, [9]), (3, [8])] 2 = _
  simp [Pt.tx, Pt.ahead, Pt.gap, Pt.segT, Pt.opens, Pt.betw, Pt.ends, e1, e2, e3, e4, e5, e6, e7, e8, e9, Lib.join, List.intercalate, List.intersperse]
set_option linter.unusedSimpArgs false in
theorem kt4 : Pt.text [(3, [9]), (2, [1]), (3, [8]), (2, [2])] = [40, 57, 41, 32, 49, 32, 40, 56, 41, 32, 50] := by
  show Pt.tx [(3, [9]), (2, [1]), (3, [8]), (2, [2])] 4 = _
  simp [Pt.tx, Pt.ahead, Pt.gap, Pt.segT, Pt.opens, Pt.betw, Pt.ends, e1, e2, e3, e4, e5, e6, e7, e8, e9, Lib.join, List.intercalate, List.intersperse]
set_option linter.unusedSimpArgs false in
theorem kt5 : Pt.text [(3, [9]), (2, [3, 4])] = [40, 57, 41, 32, 51, 32, 52] := by
  show Pt.tx [(3, [9]), (2, [3, 4])] 2 = _
  simp [Pt.tx, Pt.ahead, Pt.gap, Pt.segT, Pt.opens, Pt.betw, Pt.ends, e1, e2, e3, e4, e5, e6, e7, e8, e9, Lib.join, List.intercalate, List.intersperse]
set_option linter.unusedSimpArgs false in
theorem kt6 : Pt.text [(2, [1, 2])] = [49, 32, 50] := by
  show Pt.tx [(2, [1, 2])] 1 = _
  simp [Pt.tx, Pt.ahead, Pt.gap, Pt.segT, Pt.opens, Pt.betw, Pt.ends, e1, e2, e3, e4, e5, e6, e7, e8, e9, Lib.join, List.intercalate, List.intersperse]
set_option linter.unusedSimpArgs false in
theorem kt7 : Pt.text [(1, [1, 2, 3]), (2, [5])] = [123, 49, 44, 50, 44, 51, 125, 32, 53] := by
  show Pt.tx [(1, [1, 2, 3]), (2, [5])] 2 = _
  simp [Pt.tx, Pt.ahead, Pt.gap, Pt.segT, Pt.opens, Pt.betw, Pt.ends, e1, e2, e3, e4, e5, e6, e7, e8, e9, Lib.join, List.intercalate, List.intersperse]
set_option linter.unusedSimpArgs false in
theorem kt8 : Pt.text [(2, [1]), (2, [2, 4])] = [49, 32, 124, 32, 50, 32, 52] := by
  show Pt.tx [(2, [1]), (2, [2, 4])] 2 = _
  simp [Pt.tx, Pt.ahead, Pt.gap, Pt.segT, Pt.opens, Pt.betw, Pt.ends, e1, e2, e3, e4, e5, e6, e7, e8, e9, Lib.join, List.intercalate, List.intersperse]
set_option linter.unusedSimpArgs false in
theorem kt9 : Pt.text [(2, [1]), (1, [5, 6, 7])] = [49, 32, 123, 53, 44, 54, 44, 55, 125] := by
  show Pt.tx [(2, [1]), (1, [5, 6, 7])] 2 = _
  simp [Pt.tx, Pt.ahead, Pt.gap, Pt.segT, Pt.opens, Pt.betw, Pt.ends, e1, e2, e3, e4, e5, e6, e7, e8, e9, Lib.join, List.intercalate, List.intersperse]
set_option linter.unusedSimpArgs false in
theorem kt10 : Pt.text [(2, [1, 6])] = [49, 32, 54] := by
  show Pt.tx [(2, [1, 6])] 1 = _
  simp [Pt.tx, Pt.ahead, Pt.gap, Pt.segT, Pt.opens, Pt.betw, Pt.ends, e1, e2, e3, e4, e5, e6, e7, e8, e9, Lib.join, List.intercalate, List.intersperse]
set_option linter.unusedSimpArgs false in
theorem kt11 : Pt.text [(2, [1])] = [49] := by
  show Pt.tx [(2, [1])] 1 = _
  simp [Pt.tx, Pt.ahead, Pt.gap, Pt.segT, Pt.opens, Pt.betw, Pt.ends, e1, e2, e3, e4, e5, e6, e7, e8, e9, Lib.join, List.intercalate, List.intersperse]
set_option linter.unusedSimpArgs false in
theorem kt12 : Pt.text [(1, [1])] = [123, 49, 125] := by
  show Pt.tx [(1, [1])] 1 = _
  simp [Pt.tx, Pt.ahead, Pt.gap, Pt.segT, Pt.opens, Pt.betw, Pt.ends, e1, e2, e3, e4, e5, e6, e7, e8, e9, Lib.join, List.intercalate, List.intersperse]
end Fz
theorem idxK0 (x0 x1 x2 x3 x4 x5 x6 x7 x8 x9 x10 x11 x12 x13 x14 x15 x16 x17 x18 x19 x20 x21 x22 x23 x24 x25 x26 x27 x28 x29 x30 x31 x32 x33 x34 x35 x36 x37 x38 : Value) (w : World) : (Instr.index 76 (.agg #[x0, x1, x2, x3, x4, x5, x6, x7, x8, x9, x10, x11, x12, x13, x14, x15, x16, x17, x18, x19, x20, x21, x22, x23, x24, x25, x26, x27, x28, x29, x30, x31, x32, x33, x34, x35, x36, x37, x38]) (.int .i64 0)).run Tryz.prog w = .ok (.agg #[x0, x1, x2]) w := by
  unfold Instr.index
  simp [go_sem, run_underlying Tryz.underlying76, Tryz.sizeOf75]
theorem idxK1 (x0 x1 x2 x3 x4 x5 x6 x7 x8 x9 x10 x11 x12 x13 x14 x15 x16 x17 x18 x19 x20 x21 x22 x23 x24 x25 x26 x27 x28 x29 x30 x31 x32 x33 x34 x35 x36 x37 x38 : Value) (w : World) : (Instr.index 76 (.agg #[x0, x1, x2, x3, x4, x5, x6, x7, x8, x9, x10, x11, x12, x13, x14, x15, x16, x17, x18, x19, x20, x21, x22, x23, x24, x25, x26, x27, x28, x29, x30, x31, x32, x33, x34, x35, x36, x37, x38]) (.int .i64 1)).run Tryz.prog w = .ok (.agg #[x3, x4, x5]) w := by
  unfold Instr.index
  simp [go_sem, run_underlying Tryz.underlying76, Tryz.sizeOf75]
theorem idxK2 (x0 x1 x2 x3 x4 x5 x6 x7 x8 x9 x10 x11 x12 x13 x14 x15 x16 x17 x18 x19 x20 x21 x22 x23 x24 x25 x26 x27 x28 x29 x30 x31 x32 x33 x34 x35 x36 x37 x38 : Value) (w : World) : (Instr.index 76 (.agg #[x0, x1, x2, x3, x4, x5, x6, x7, x8, x9, x10, x11, x12, x13, x14, x15, x16, x17, x18, x19, x20, x21, x22, x23, x24, x25, x26, x27, x28, x29, x30, x31, x32, x33, x34, x35, x36, x37, x38]) (.int .i64 2)).run Tryz.prog w = .ok (.agg #[x6, x7, x8]) w := by
  unfold Instr.index
  simp [go_sem, run_underlying Tryz.underlying76, Tryz.sizeOf75]
theorem idxK3 (x0 x1 x2 x3 x4 x5 x6 x7 x8 x9 x10 x11 x12 x13 x14 x15 x16 x17 x18 x19 x20 x21 x22 x23 x24 x25 x26 x27 x28 x29 x30 x31 x32 x33 x34 x35 x36 x37 x38 : Value) (w : World) : (Instr.index 76 (.agg #[x0, x1, x2, x3, x4, x5, x6, x7, x8, x9, x10, x11, x12, x13, x14, x15, x16, x17, x18, x19, x20, x21, x22, x23, x24, x25, x26, x27, x28, x29, x30, x31, x32, x33, x34, x35, x36, x37, x38]) (.int .i64 3)).run Tryz.prog w = .ok (.agg #[x9, x10, x11]) w := by
  unfold Instr.index
  simp [go_sem, run_underlying Tryz.underlying76, Tryz.sizeOf75]
theorem idxK4 (x0 x1 x2 x3 x4 x5 x6 x7 x8 x9 x10 x11 x12 x13 x14 x15 x16 x17 x18 x19 x20 x21 x22 x23 x24 x25 x26 x27 x28 x29 x30 x31 x32 x33 x34 x35 x36 x37 x38 : Value) (w : World) : (Instr.index 76 (.agg #[x0, x1, x2, x3, x4, x5, x6, x7, x8, x9, x10, x11, x12, x13, x14, x15, x16, x17, x18, x19, x20, x21, x22, x23, x24, x25, x26, x27, x28, x29, x30, x31, x32, x33, x34, x35, x36, x37, x38]) (.int .i64 4)).run Tryz.prog w = .ok (.agg #[x12, x13, x14]) w := by
  unfold Instr.index
  simp [go_sem, run_underlying Tryz.underlying76, Tryz.sizeOf75]
theorem idxK5 (x0 x1 x2 x3 x4 x5 x6 x7 x8 x9 x10 x11 x12 x13 x14 x15 x16 x17 x18 x19 x20 x21 x22 x23 x24 x25 x26 x27 x28 x29 x30 x31 x32 x33 x34 x35 x36 x37 x38 : Value) (w : World) : (Instr.index 76 (.agg #[x0, x1, x2, x3, x4, x5, x6, x7, x8, x9, x10, x11, x12, x13, x14, x15, x16, x17, x18, x19, x20, x21, x22, x23, x24, x25, x26, x27, x28, x29, x30, x31, x32, x33, x34, x35, x36, x37, x38]) (.int .i64 5)).run Tryz.prog w = .ok (.agg #[x15, x16, x17]) w := by
  unfold Instr.index
  simp [go_sem, run_underlying Tryz.underlying76, Tryz.sizeOf75]
theorem idxK6 (x0 x1 x2 x3 x4 x5 x6 x7 x8 x9 x10 x11 x12 x13 x14 x15 x16 x17 x18 x19 x20 x21 x22 x23 x24 x25 x26 x27 x28 x29 x30 x31 x32 x33 x34 x35 x36 x37 x38 : Value) (w : World) : (Instr.index 76 (.agg #[x0, x1, x2, x3, x4, x5, x6, x7, x8, x9, x10, x11, x12, x13, x14, x15, x16, x17, x18, x19, x20, x21, x22, x23, x24, x25, x26, x27, x28, x29, x30, x31, x32, x33, x34, x35, x36, x37, x38]) (.int .i64 6)).run Tryz.prog w = .ok (.agg #[x18, x19, x20]) w := by
  unfold Instr.index
  simp [go_sem, run_underlying Tryz.underlying76, Tryz.sizeOf75]
theorem idxK7 (x0 x1 x2 x3 x4 x5 x6 x7 x8 x9 x10 x11 x12 x13 x14 x15 x16 x17 x18 x19 x20 x21 x22 x23 x24 x25 x26 x27 x28 x29 x30 x31 x32 x33 x34 x35 x36 x37 x38 : Value) (w : World) : (Instr.index 76 (.agg #[x0, x1, x2, x3, x4, x5, x6, x7, x8, x9, x10, x11, x12, x13, x14, x15, x16, x17, x18, x19, x20, x21, x22, x23, x24, x25, x26, x27, x28, x29, x30, x31, x32, x33, x34, x35, x36, x37, x38]) (.int .i64 7)).run Tryz.prog w = .ok (.agg #[x21, x22, x23]) w := by
  unfold Instr.index
  simp [go_sem, run_underlying Tryz.underlying76, Tryz.sizeOf75]
theorem idxK8 (x0 x1 x2 x3 x4 x5 x6 x7 x8 x9 x10 x11 x12 x13 x14 x15 x16 x17 x18 x19 x20 x21 x22 x23 x24 x25 x26 x27 x28 x29 x30 x31 x32 x33 x34 x35 x36 x37 x38 : Value) (w : World) : (Instr.index 76 (.agg #[x0, x1, x2, x3, x4, x5, x6, x7, x8, x9, x10, x11, x12, x13, x14, x15, x16, x17, x18, x19, x20, x21, x22, x23, x24, x25, x26, x27, x28, x29, x30, x31, x32, x33, x34, x35, x36, x37, x38]) (.int .i64 8)).run Tryz.prog w = .ok (.agg #[x24, x25, x26]) w := by
  unfold Instr.index
  simp [go_sem, run_underlying Tryz.underlying76, Tryz.sizeOf75]
theorem idxK9 (x0 x1 x2 x3 x4 x5 x6 x7 x8 x9 x10 x11 x12 x13 x14 x15 x16 x17 x18 x19 x20 x21 x22 x23 x24 x25 x26 x27 x28 x29 x30 x31 x32 x33 x34 x35 x36 x37 x38 : Value) (w : World) : (Instr.index 76 (.agg #[x0, x1, x2, x3, x4, x5, x6, x7, x8, x9, x10, x11, x12, x13, x14, x15, x16, x17, x18, x19, x20, x21, x22, x23, x24, x25, x26, x27, x28, x29, x30, x31, x32, x33, x34, x35, x36, x37, x38]) (.int .i64 9)).run Tryz.prog w = .ok (.agg #[x27, x28, x29]) w := by
  unfold Instr.index
  simp [go_sem, run_underlying Tryz.underlying76, Tryz.sizeOf75]
theorem idxK10 (x0 x1 x2 x3 x4 x5 x6 x7 x8 x9 x10 x11 x12 x13 x14 x15 x16 x17 x18 x19 x20 x21 x22 x23 x24 x25 x26 x27 x28 x29 x30 x31 x32 x33 x34 x35 x36 x37 x38 : Value) (w : World) : (Instr.index 76 (.agg #[x0, x1, x2, x3, x4, x5, x6, x7, x8, x9, x10, x11, x12, x13, x14, x15, x16, x17, x18, x19, x20, x21, x22, x23, x24, x25, x26, x27, x28, x29, x30, x31, x32, x33, x34, x35, x36, x37, x38]) (.int .i64 10)).run Tryz.prog w = .ok (.agg #[x30, x31, x32]) w := by
  unfold Instr.index
  simp [go_sem, run_underlying Tryz.underlying76, Tryz.sizeOf75]
theorem idxK11 (x0 x1 x2 x3 x4 x5 x6 x7 x8 x9 x10 x11 x12 x13 x14 x15 x16 x17 x18 x19 x20 x21 x22 x23 x24 x25 x26 x27 x28 x29 x30 x31 x32 x33 x34 x35 x36 x37 x38 : Value) (w : World) : (Instr.index 76 (.agg #[x0, x1, x2, x3, x4, x5, x6, x7, x8, x9, x10, x11, x12, x13, x14, x15, x16, x17, x18, x19, x20, x21, x22, x23, x24, x25, x26, x27, x28, x29, x30, x31, x32, x33, x34, x35, x36, x37, x38]) (.int .i64 11)).run Tryz.prog w = .ok (.agg #[x33, x34, x35]) w := by
  unfold Instr.index
  simp [go_sem, run_underlying Tryz.underlying76, Tryz.sizeOf75]
theorem idxK12 (x0 x1 x2 x3 x4 x5 x6 x7 x8 x9 x10 x11 x12 x13 x14 x15 x16 x17 x18 x19 x20 x21 x22 x23 x24 x25 x26 x27 x28 x29 x30 x31 x32 x33 x34 x35 x36 x37 x38 : Value) (w : World) : (Instr.index 76 (.agg #[x0, x1, x2, x3, x4, x5, x6, x7, x8, x9, x10, x11, x12, x13, x14, x15, x16, x17, x18, x19, x20, x21, x22, x23, x24, x25, x26, x27, x28, x29, x30, x31, x32, x33, x34, x35, x36, x37, x38]) (.int .i64 12)).run Tryz.prog w = .ok (.agg #[x36, x37, x38]) w := by
  unfold Instr.index
  simp [go_sem, run_underlying Tryz.underlying76, Tryz.sizeOf75]

/-- A row of the law's table. -/
def KRow (k : Nat) (a b c : List UInt8) (p q : List Seg) : Prop :=
  (∀ u, (Instr.index 76 (.agg #[.string ⟨#[45]⟩, .string ⟨#[45]⟩, .string ⟨#[45]⟩, .string ⟨#[49, 32, 50]⟩, .string ⟨#[45]⟩, .string ⟨#[49, 32, 50]⟩, .string ⟨#[49, 32, 50]⟩, .string ⟨#[51, 32, 52]⟩, .string ⟨#[51, 32, 52]⟩, .string ⟨#[40, 57, 41, 32, 40, 56, 41]⟩, .string ⟨#[45]⟩, .string ⟨#[40, 57, 41, 32, 40, 56, 41]⟩, .string ⟨#[40, 57, 41, 32, 49, 32, 40, 56, 41, 32, 50]⟩, .string ⟨#[50]⟩, .string ⟨#[40, 57, 41, 32, 49, 32, 40, 56, 41, 32, 50]⟩, .string ⟨#[40, 57, 41, 32, 49, 32, 40, 56, 41, 32, 50]⟩, .string ⟨#[51, 32, 52]⟩, .string ⟨#[40, 57, 41, 32, 51, 32, 52]⟩, .string ⟨#[49, 32, 50, 32, 40, 56, 41]⟩, .string ⟨#[50]⟩, .string ⟨#[49, 32, 50]⟩, .string ⟨#[123, 49, 44, 50, 44, 51, 125, 32, 52]⟩, .string ⟨#[53]⟩, .string ⟨#[123, 49, 44, 50, 44, 51, 125, 32, 53]⟩, .string ⟨#[49, 32, 124, 32, 50, 32, 124, 32, 51]⟩, .string ⟨#[52]⟩, .string ⟨#[49, 32, 124, 32, 50, 32, 52]⟩, .string ⟨#[49, 32, 50]⟩, .string ⟨#[123, 53, 44, 54, 44, 55, 125]⟩, .string ⟨#[49, 32, 123, 53, 44, 54, 44, 55, 125]⟩, .string ⟨#[49, 32, 50]⟩, .string ⟨#[40, 53, 41, 32, 54, 32, 91, 55, 93]⟩, .string ⟨#[49, 32, 54]⟩, .string ⟨#[49]⟩, .string ⟨#[50, 32, 51]⟩, .string ⟨#[49]⟩, .string ⟨#[123, 49, 125]⟩, .string ⟨#[123, 50, 125, 32, 123, 51, 125]⟩, .string ⟨#[123, 49, 125]⟩]) (.int .i64 (k : Int))).run Tryz.prog u = .ok (.agg #[.string ⟨a.toArray⟩, .string ⟨b.toArray⟩, .string ⟨c.toArray⟩]) u) ∧
  Asc a ∧ Asc b ∧ a.length ≤ 90000 ∧ b.length ≤ 90000 ∧ Pt.parseP a = (p, 0) ∧ Pt.parseP b = (q, 0) ∧ p.length ≤ 1000000 ∧ q.length ≤ 1000000 ∧ (∀ s ∈ p, s.2.length ≤ 1000000) ∧ (∀ s ∈ q, s.2.length ≤ 1000000) ∧ (∀ s ∈ plains q, s.2 ≠ []) ∧ Pt.text (Fz.fuse p q) = c ∧ (Fz.fuse p q).length ≤ 1000000
theorem krow0 : KRow 0 [45] [45] [45] [] [] :=
  ⟨fun u => idxK0 _ _ _ _ _ _ _ _ _ _ _ _ _ _ _ _ _ _ _ _ _ _ _ _ _ _ _ _ _ _ _ _ _ _ _ _ _ _ _ u, asc_of rfl, asc_of rfl, by decide, by decide, by rfl, by rfl, by decide, by decide, by decide, by decide, by decide, (show Fz.fuse [] [] = [] by rfl) ▸ Fz.kt0, by decide⟩
theorem krow1 : KRow 1 [49, 32, 50] [45] [49, 32, 50] [(2, [1, 2])] [] :=
  ⟨fun u => idxK1 _ _ _ _ _ _ _ _ _ _ _ _ _ _ _ _ _ _ _ _ _ _ _ _ _ _ _ _ _ _ _ _ _ _ _ _ _ _ _ u, asc_of rfl, asc_of rfl, by decide, by decide, by rfl, by rfl, by decide, by decide, by decide, by decide, by decide, (show Fz.fuse [(2, [1, 2])] [] = [(2, [1, 2])] by rfl) ▸ Fz.kt1, by decide⟩
theorem krow2 : KRow 2 [49, 32, 50] [51, 32, 52] [51, 32, 52] [(2, [1, 2])] [(2, [3, 4])] :=
  ⟨fun u => idxK2 _ _ _ _ _ _ _ _ _ _ _ _ _ _ _ _ _ _ _ _ _ _ _ _ _ _ _ _ _ _ _ _ _ _ _ _ _ _ _ u, asc_of rfl, asc_of rfl, by decide, by decide, by rfl, by rfl, by decide, by decide, by decide, by decide, by decide, (show Fz.fuse [(2, [1, 2])] [(2, [3, 4])] = [(2, [3, 4])] by rfl) ▸ Fz.kt2, by decide⟩
theorem krow3 : KRow 3 [40, 57, 41, 32, 40, 56, 41] [45] [40, 57, 41, 32, 40, 56, 41] [(3, [9]), (3, [8])] [] :=
  ⟨fun u => idxK3 _ _ _ _ _ _ _ _ _ _ _ _ _ _ _ _ _ _ _ _ _ _ _ _ _ _ _ _ _ _ _ _ _ _ _ _ _ _ _ u, asc_of rfl, asc_of rfl, by decide, by decide, by rfl, by rfl, by decide, by decide, by decide, by decide, by decide, (show Fz.fuse [(3, [9]), (3, [8])] [] = [(3, [9]), (3, [8])] by rfl) ▸ Fz.kt3, by decide⟩
theorem krow4 : KRow 4 [40, 57, 41, 32, 49, 32, 40, 56, 41, 32, 50] [50] [40, 57, 41, 32, 49, 32, 40, 56, 41, 32, 50] [(3, [9]), (2, [1]), (3, [8]), (2, [2])] [(2, [2])] :=
  ⟨fun u => idxK4 _ _ _ _ _ _ _ _ _ _ _ _ _ _ _ _ _ _ _ _ _ _ _ _ _ _ _ _ _ _ _ _ _ _ _ _ _ _ _ u, asc_of rfl, asc_of rfl, by decide, by decide, by rfl, by rfl, by decide, by decide, by decide, by decide, by decide, (show Fz.fuse [(3, [9]), (2, [1]), (3, [8]), (2, [2])] [(2, [2])] = [(3, [9]), (2, [1]), (3, [8]), (2, [2])] by rfl) ▸ Fz.kt4, by decide⟩
theorem krow5 : KRow 5 [40, 57, 41, 32, 49, 32, 40, 56, 41, 32, 50] [51, 32, 52] [40, 57, 41, 32, 51, 32, 52] [(3, [9]), (2, [1]), (3, [8]), (2, [2])] [(2, [3, 4])] :=
  ⟨fun u => idxK5 _ _ _ _ _ _ _ _ _ _ _ _ _ _ _ _ _ _ _ _ _ _ _ _ _ _ _ _ _ _ _ _ _ _ _ _ _ _ _ u, asc_of rfl, asc_of rfl, by decide, by decide, by rfl, by rfl, by decide, by decide, by decide, by decide, by decide, (show Fz.fuse [(3, [9]), (2, [1]), (3, [8]), (2, [2])] [(2, [3, 4])] = [(3, [9]), (2, [3, 4])] by rfl) ▸ Fz.kt5, by decide⟩
theorem krow6 : KRow 6 [49, 32, 50, 32, 40, 56, 41] [50] [49, 32, 50] [(2, [1, 2]), (3, [8])] [(2, [2])] :=
  ⟨fun u => idxK6 _ _ _ _ _ _ _ _ _ _ _ _ _ _ _ _ _ _ _ _ _ _ _ _ _ _ _ _ _ _ _ _ _ _ _ _ _ _ _ u, asc_of rfl, asc_of rfl, by decide, by decide, by rfl, by rfl, by decide, by decide, by decide, by decide, by decide, (show Fz.fuse [(2, [1, 2]), (3, [8])] [(2, [2])] = [(2, [1, 2])] by rfl) ▸ Fz.kt6, by decide⟩
theorem krow7 : KRow 7 [123, 49, 44, 50, 44, 51, 125, 32, 52] [53] [123, 49, 44, 50, 44, 51, 125, 32, 53] [(1, [1, 2, 3]), (2, [4])] [(2, [5])] :=
  ⟨fun u => idxK7 _ _ _ _ _ _ _ _ _ _ _ _ _ _ _ _ _ _ _ _ _ _ _ _ _ _ _ _ _ _ _ _ _ _ _ _ _ _ _ u, asc_of rfl, asc_of rfl, by decide, by decide, by rfl, by rfl, by decide, by decide, by decide, by decide, by decide, (show Fz.fuse [(1, [1, 2, 3]), (2, [4])] [(2, [5])] = [(1, [1, 2, 3]), (2, [5])] by rfl) ▸ Fz.kt7, by decide⟩
theorem krow8 : KRow 8 [49, 32, 124, 32, 50, 32, 124, 32, 51] [52] [49, 32, 124, 32, 50, 32, 52] [(2, [1]), (2, [2]), (2, [3])] [(2, [4])] :=
  ⟨fun u => idxK8 _ _ _ _ _ _ _ _ _ _ _ _ _ _ _ _ _ _ _ _ _ _ _ _ _ _ _ _ _ _ _ _ _ _ _ _ _ _ _ u, asc_of rfl, asc_of rfl, by decide, by decide, by rfl, by rfl, by decide, by decide, by decide, by decide, by decide, (show Fz.fuse [(2, [1]), (2, [2]), (2, [3])] [(2, [4])] = [(2, [1]), (2, [2, 4])] by rfl) ▸ Fz.kt8, by decide⟩
theorem krow9 : KRow 9 [49, 32, 50] [123, 53, 44, 54, 44, 55, 125] [49, 32, 123, 53, 44, 54, 44, 55, 125] [(2, [1, 2])] [(1, [5, 6, 7])] :=
  ⟨fun u => idxK9 _ _ _ _ _ _ _ _ _ _ _ _ _ _ _ _ _ _ _ _ _ _ _ _ _ _ _ _ _ _ _ _ _ _ _ _ _ _ _ u, asc_of rfl, asc_of rfl, by decide, by decide, by rfl, by rfl, by decide, by decide, by decide, by decide, by decide, (show Fz.fuse [(2, [1, 2])] [(1, [5, 6, 7])] = [(2, [1]), (1, [5, 6, 7])] by rfl) ▸ Fz.kt9, by decide⟩
theorem krow10 : KRow 10 [49, 32, 50] [40, 53, 41, 32, 54, 32, 91, 55, 93] [49, 32, 54] [(2, [1, 2])] [(3, [5]), (2, [6]), (4, [7])] :=
  ⟨fun u => idxK10 _ _ _ _ _ _ _ _ _ _ _ _ _ _ _ _ _ _ _ _ _ _ _ _ _ _ _ _ _ _ _ _ _ _ _ _ _ _ _ u, asc_of rfl, asc_of rfl, by decide, by decide, by rfl, by rfl, by decide, by decide, by decide, by decide, by decide, (show Fz.fuse [(2, [1, 2])] [(3, [5]), (2, [6]), (4, [7])] = [(2, [1, 6])] by rfl) ▸ Fz.kt10, by decide⟩
theorem krow11 : KRow 11 [49] [50, 32, 51] [49] [(2, [1])] [(2, [2, 3])] :=
  ⟨fun u => idxK11 _ _ _ _ _ _ _ _ _ _ _ _ _ _ _ _ _ _ _ _ _ _ _ _ _ _ _ _ _ _ _ _ _ _ _ _ _ _ _ u, asc_of rfl, asc_of rfl, by decide, by decide, by rfl, by rfl, by decide, by decide, by decide, by decide, by decide, (show Fz.fuse [(2, [1])] [(2, [2, 3])] = [(2, [1])] by rfl) ▸ Fz.kt11, by decide⟩
theorem krow12 : KRow 12 [123, 49, 125] [123, 50, 125, 32, 123, 51, 125] [123, 49, 125] [(1, [1])] [(1, [2]), (1, [3])] :=
  ⟨fun u => idxK12 _ _ _ _ _ _ _ _ _ _ _ _ _ _ _ _ _ _ _ _ _ _ _ _ _ _ _ _ _ _ _ _ _ _ _ _ _ _ _ u, asc_of rfl, asc_of rfl, by decide, by decide, by rfl, by rfl, by decide, by decide, by decide, by decide, by decide, (show Fz.fuse [(1, [1])] [(1, [2]), (1, [3])] = [(1, [1])] by rfl) ▸ Fz.kt12, by decide⟩
theorem krows (k : Nat) (hk : k < 13) : ∃ a b c p q, KRow k a b c p q := by
  obtain rfl | rfl | rfl | rfl | rfl | rfl | rfl | rfl | rfl | rfl | rfl | rfl | rfl : k = 0 ∨ k = 1 ∨ k = 2 ∨ k = 3 ∨ k = 4 ∨ k = 5 ∨ k = 6 ∨ k = 7 ∨ k = 8 ∨ k = 9 ∨ k = 10 ∨ k = 11 ∨ k = 12 := by omega
  · exact ⟨_, _, _, _, _, krow0⟩
  · exact ⟨_, _, _, _, _, krow1⟩
  · exact ⟨_, _, _, _, _, krow2⟩
  · exact ⟨_, _, _, _, _, krow3⟩
  · exact ⟨_, _, _, _, _, krow4⟩
  · exact ⟨_, _, _, _, _, krow5⟩
  · exact ⟨_, _, _, _, _, krow6⟩
  · exact ⟨_, _, _, _, _, krow7⟩
  · exact ⟨_, _, _, _, _, krow8⟩
  · exact ⟨_, _, _, _, _, krow9⟩
  · exact ⟨_, _, _, _, _, krow10⟩
  · exact ⟨_, _, _, _, _, krow11⟩
  · exact ⟨_, _, _, _, _, krow12⟩
end Go.Proofs.YthjljamngpddmaaGreatDoor
