
/-
  Paths' texts, read: as plain data; the small steps of a reading.
-/
import Derived.Test.YtdeblmolgmadiaaDoorJd
import Derived.Test.YtdeblmolgmadiaaDoorNc
import Derived.Laws.Rows
namespace Go.Proofs.YtdeblmolgmadiaaDoor
open Go.RowKit

namespace Pt
def marks : List UInt8 := [123, 125, 40, 41, 91, 93, 44, 124, 32]
/-- What is ahead of the first mark. -/
def unm (l : List UInt8) : List UInt8 := l.takeWhile fun c => !marks.contains c
def opens : Nat → List UInt8 | 1 => [123] | 3 => [40] | 4 => [91] | _ => []
def betw : Nat → List UInt8 | 1 => [44] | 2 => [32] | 3 => [32] | 4 => [44] | _ => []
def ends : Nat → List UInt8 | 1 => [125] | 3 => [41] | 4 => [93] | _ => []
def kindOf : List UInt8 → Nat | [] => 2 | c :: _ => if c = 123 then 1 else if c = 40 then 3 else if c = 91 then 4 else 2
def gap (k m : Nat) : List UInt8 := if k = 2 ∧ m = 2 then [32, 124, 32] else [32]
/-- Numbers, one behind the other: what is left, the numbers, the first error, whether the form is right. -/
def segL : Nat → List UInt8 → List UInt8 → List Nat → Nat → List UInt8 × List Nat × Nat × Bool
  | 0, _, rest, acc, err => (rest, acc, err, false)
  | f + 1, b, rest, acc, err =>
    if unm rest = [] then (rest, acc, (if err = 0 then (parse (unm rest)).2 else err), false)
    else if Lib.hasPrefix (rest.drop (unm rest).length) b = true ∧ unm ((rest.drop (unm rest).length).drop b.length) ≠ [] then
      segL f b ((rest.drop (unm rest).length).drop b.length) (acc ++ [(parse (unm rest)).1]) (if err = 0 then (parse (unm rest)).2 else err)
    else (rest.drop (unm rest).length, acc ++ [(parse (unm rest)).1], (if err = 0 then (parse (unm rest)).2 else err), true)
structure PS where
  rest : List UInt8
  read : List Seg
  err : Nat
def segM (k : Nat) (s : PS) : PS × Bool :=
  let R := segL (s.rest.length + 1) (betw k) (s.rest.drop (opens k).length) [] s.err
  if R.2.2.2 = false then (⟨R.1, s.read, R.2.2.1⟩, false)
  else (⟨Lib.trimPrefix R.1 (ends k), s.read ++ [(UInt8.ofNat k, R.2.1)], R.2.2.1⟩, Lib.hasPrefix R.1 (ends k))
def pathL : Nat → Nat → PS → PS × Bool
  | 0, _, s => (s, false)
  | f + 1, k, s =>
    if (segM k s).2 = false then ((segM k s).1, false)
    else if (segM k s).1.rest = [] then ((segM k s).1, true)
    else if Lib.hasPrefix (segM k s).1.rest (gap k (kindOf ((segM k s).1.rest.drop 1))) = true then
      pathL f (kindOf ((segM k s).1.rest.drop 1)) ⟨(segM k s).1.rest.drop (gap k (kindOf ((segM k s).1.rest.drop 1))).length, (segM k s).1.read, (segM k s).1.err⟩
    else ((segM k s).1, false)
/-- What is read of a text: the path, the error. -/
def parseP (l : List UInt8) : List Seg × Nat :=
  if l = [45] then ([], 0)
  else
    let R := pathL (l.length + 1) (kindOf l) ⟨l, [], 0⟩
    if R.2 = false then ([], 5) else if R.1.err ≠ 0 then ([], R.1.err) else if may R.1.read = false then ([], 7) else (R.1.read, 0)

theorem unm_len (l : List UInt8) : (unm l).length ≤ l.length := (List.takeWhile_prefix _).length_le
theorem unm_take (l : List UInt8) : l.take (unm l).length = unm l := by
  have := List.takeWhile_prefix (p := fun c => !marks.contains c) (l := l)
  exact (List.prefix_iff_eq_take.1 this).symm
theorem unm_prefix (l : List UInt8) : Lib.hasPrefix l (unm l) = true := by
  unfold Lib.hasPrefix
  rw [List.isPrefixOf_iff_prefix]
  exact List.takeWhile_prefix _
theorem indexAny_unm : ∀ l : List UInt8, Lib.indexAny l marks = if (unm l).length = l.length then -1 else ((unm l).length : Int)
  | [] => rfl
  | b :: l => by
    have ih := indexAny_unm l
    have hle := unm_len l
    unfold Lib.indexAny
    by_cases hb : marks.contains b = true
    · have e : unm (b :: l) = [] := by unfold unm; rw [List.takeWhile_cons, if_neg (by rw [hb]; simp)]
      rw [if_pos hb, e]
      simp
    · have e : unm (b :: l) = b :: unm l := by unfold unm; rw [List.takeWhile_cons, if_pos (by simpa using hb)]
      rw [if_neg hb, e, ih]
      by_cases h2 : (unm l).length = l.length
      · rw [if_pos h2, if_pos (show (b :: unm l).length = (b :: l).length by rw [List.length_cons, List.length_cons, h2])]
        rfl
      · have hn : (((unm l).length : Int) == -1) = false := by rw [beq_eq_false_iff_ne]; omega
        rw [if_neg h2, if_neg (show ¬ (b :: unm l).length = (b :: l).length by rw [List.length_cons, List.length_cons]; omega), hn, if_neg (by simp), List.length_cons]
        omega
end Pt

/-- Only bytes below 128. -/
def Asc (l : List UInt8) : Prop := ∀ b ∈ l, b.toNat < 128
theorem Asc.drop {l : List UInt8} (h : Asc l) (n : Nat) : Asc (l.drop n) := fun b hb => h b (List.mem_of_mem_drop hb)
theorem Asc.trim {l : List UInt8} (h : Asc l) (s : List UInt8) : Asc (Lib.trimPrefix l s) := by
  unfold Lib.trimPrefix
  split
  · exact h.drop _
  · exact h

theorem take60 (s : ByteArray) (k : Nat) : s.extract 0 k = ⟨(s.data.toList.take k).toArray⟩ := by
  have : s = ⟨s.data.toList.toArray⟩ := by cases s; rfl
  conv => lhs; rw [this]
  exact ext_lo _ k
theorem gap_any (k m : Nat) (hk : k < 256) (hm : m < 256) (w : World) : Calls Tryd.prog 53 #[.int .u8 (k : Int), .int .u8 (m : Int)] w fun e w' => e = .returned (.string ⟨(Pt.gap k m).toArray⟩) ∧ w = w' := by
  by_cases h : k = 2 ∧ m = 2
  · have HG : Hid (Pt.gap k m = [32, 124, 32]) := Lib.hid (if_pos h)
    obtain ⟨rfl, rfl⟩ := h
    rw [HG.out]
    go_enter Tryd.func53, Tryd.ntmps53
    go_wp2
    go_ret
    exact ⟨rfl, rfl⟩
  · have HG : Hid (Pt.gap k m = [32]) := Lib.hid (if_neg h)
    rw [HG.out]
    by_cases hk2 : k = 2
    · have hm2 : ((m : Int) == 2) = false := by simp; omega
      subst hk2
      clear h
      go_enter Tryd.func53, Tryd.ntmps53
      go_wp2
      go_ret
      exact ⟨rfl, rfl⟩
    · have hk3 : ((k : Int) == 2) = false := by simp; omega
      clear h hk2
      go_enter Tryd.func53, Tryd.ntmps53
      go_wp2
      go_ret
      exact ⟨rfl, rfl⟩
end Go.Proofs.YtdeblmolgmadiaaDoor
