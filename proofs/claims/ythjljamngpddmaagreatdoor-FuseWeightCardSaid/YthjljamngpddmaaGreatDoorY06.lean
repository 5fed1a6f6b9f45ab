
/-
  Paths' texts, read: the table of brackets; kindOf; a segment.
-/
import Derived.Test.YthjljamngpddmaaGreatDoorY05
import Derived.Laws.BitsAllLaws
import Derived.Test.YthjljamngpddmaaGreatDoorY03
import Derived.Laws.Rows
namespace Go.Proofs.YthjljamngpddmaaGreatDoor
open Go.RowKit

theorem row_l (l : List UInt8) (hl : l.length ≤ 100000) (w : World) (hr : Rdy2 w) :
    Calls Tryz.prog 117 #[.string ⟨l.toArray⟩] w fun e w' => e = .returned (.tuple #[.int .u64 ((num l).getD 0 : Nat), .bool (num l).isSome]) ∧ Kept Nothing w w' :=
  row_any ⟨l.toArray⟩ hl w hr
/-- What two sides of a point tell. -/
def joinP (x y : List UInt8) : Nat × Nat :=
  match num x, num y with
  | some a, some b => if 65535 < max a b then (0, 24) else (a * 65536 + b, 0)
  | _, _ => (0, 5)
theorem njoin_any (x y : List UInt8) (hx : x.length ≤ 100000) (hy : y.length ≤ 100000) (w : World) (hr : Rdy2 w) :
    Calls Tryz.prog 116 #[.string ⟨x.toArray⟩, .string ⟨y.toArray⟩] w fun e w' => e = .returned (.tuple #[.int .u32 ((joinP x y).1 : Nat), .int .i64 ((joinP x y).2 : Nat)]) ∧ Kept Nothing w w' := by
  have tok : True := trivial
  have HX := fun w => row_l x hx w
  have HY := fun w => row_l y hy w
  have HJ : joinP x y = match num x, num y with | some a, some b => if 65535 < max a b then (0, 24) else (a * 65536 + b, 0) | _, _ => (0, 5) := rfl
  cases h1 : num x with
  | none =>
    rw [h1] at HX HJ
    have HX := Lib.hid HX
    have HY := Lib.hid HY
    have HJ := Lib.hid HJ
    go_enter Tryz.func116, Tryz.ntmps116
    go_wp2_with (first | (go_at_call 117; have _t := tok; refine (HX.out _ hr).mono ?_; rintro e w1 ⟨rfl, hk1⟩; clear tok) | (go_at_call 117; refine (HY.out _ (hr.kept hk1)).mono ?_; rintro e w2 ⟨rfl, hk2⟩))
    go_ret2
    exact ⟨by rw [HJ.out]; rfl, hk1.trans hk2⟩
  | some a =>
    cases h2 : num y with
    | none =>
      rw [h1] at HX
      rw [h2] at HY
      rw [h1, h2] at HJ
      have HX := Lib.hid HX
      have HY := Lib.hid HY
      have HJ := Lib.hid HJ
      go_enter Tryz.func116, Tryz.ntmps116
      go_wp2_with (first | (go_at_call 117; have _t := tok; refine (HX.out _ hr).mono ?_; rintro e w1 ⟨rfl, hk1⟩; clear tok) | (go_at_call 117; refine (HY.out _ (hr.kept hk1)).mono ?_; rintro e w2 ⟨rfl, hk2⟩))
      go_ret2
      exact ⟨by rw [HJ.out]; rfl, hk1.trans hk2⟩
    | some b =>
      have ba := (num_some h1).2
      have bb := (num_some h2).2
      rw [h1] at HX
      rw [h2] at HY
      rw [h1, h2] at HJ
      clear h1 h2
      have HX := Lib.hid HX
      have HY := Lib.hid HY
      by_cases hm : 65535 < max a b
      · have HJ := Lib.hid (HJ.trans (if_pos hm))
        have hm2 : (65535 : Int) < max (a : Int) (b : Int) := by omega
        clear hm
        go_enter Tryz.func116, Tryz.ntmps116
        go_wp2_with (first | (go_at_call 117; have _t := tok; refine (HX.out _ hr).mono ?_; rintro e w1 ⟨rfl, hk1⟩; clear tok) | (go_at_call 117; refine (HY.out _ (hr.kept hk1)).mono ?_; rintro e w2 ⟨rfl, hk2⟩))
        go_ret2
        exact ⟨by rw [HJ.out]; rfl, hk1.trans hk2⟩
      · have HJ := Lib.hid (HJ.trans (if_neg hm))
        have hm2 : max (a : Int) (b : Int) ≤ 65535 := by omega
        have ef : bits .or .u64 ((a : Int) * 65536) (b : Int) % 4294967296 = ((a * 65536 + b : Nat) : Int) := by
          have e : (a : Int) * 65536 = ((a * 65536 : Nat) : Int) := by omega
          rw [e, u64_or_nat _ _ (by omega) (by omega), nat_join 16 _ _ (by omega) (by omega)]
          omega
        have EF := Lib.hid ef
        clear hm ef
        go_enter Tryz.func116, Tryz.ntmps116
        go_wp2_with (first | (go_at_call 117; have _t := tok; refine (HX.out _ hr).mono ?_; rintro e w1 ⟨rfl, hk1⟩; clear tok) | (go_at_call 117; refine (HY.out _ (hr.kept hk1)).mono ?_; rintro e w2 ⟨rfl, hk2⟩))
        go_ret2
        exact ⟨by rw [HJ.out]; exact congrArg (fun z => Ending.returned (.tuple #[.int .u32 z, .int .i64 0])) EF.out, hk1.trans hk2⟩
theorem parse_any (l : List UInt8) (hl : l.length ≤ 100000) (w : World) (hr : Rdy2 w) :
    Calls Tryz.prog 105 #[.string ⟨l.toArray⟩] w fun e w' => e = .returned (.tuple #[.int .u32 ((parse l).1 : Nat), .int .i64 ((parse l).2 : Nat)]) ∧ Kept Nothing w w' := by
  have HC := cut_any 46 l hl
  cases hc : cutB 46 l with
  | true =>
    have HP : parse l = joinP (cutAt 46 l).1 (cutAt 46 l).2 := by unfold parse; rw [if_pos hc]; rfl
    have hn := cut_len 46 l
    have HJ := fun w => njoin_any (cutAt 46 l).1 (cutAt 46 l).2 (by omega) (by omega) w
    rw [← HP] at HJ
    rw [hc] at HC
    clear hc HP hn
    have HC := Lib.hid HC
    have HJ := Lib.hid HJ
    go_enter Tryz.func105, Tryz.ntmps105
    go_wp2_with (first | (go_at_call 115; refine (HC.out _).mono ?_; rintro e w1 ⟨rfl, hk1⟩) | (go_at_call 116; refine (HJ.out _ (hr.kept hk1)).mono ?_; rintro e w2 ⟨rfl, hk2⟩))
    go_ret2
    exact ⟨rfl, hk1.trans hk2⟩
  | false =>
    have HR := fun w => row_l l hl w
    have HP : parse l = match num l with | some n => if 4294967295 < n then (0, 24) else (n, 0) | none => (0, 5) := by unfold parse; rw [if_neg (by rw [hc]; simp)]; rfl
    rw [hc] at HC
    clear hc
    have HC := Lib.hid HC
    cases h1 : num l with
    | none =>
      rw [h1] at HR HP
      have HR := Lib.hid HR
      have HP := Lib.hid HP
      go_enter Tryz.func105, Tryz.ntmps105
      go_wp2_with (first | (go_at_call 115; refine (HC.out _).mono ?_; rintro e w1 ⟨rfl, hk1⟩) | (go_at_call 117; refine (HR.out _ (hr.kept hk1)).mono ?_; rintro e w2 ⟨rfl, hk2⟩))
      go_ret2
      exact ⟨by rw [HP.out]; rfl, hk1.trans hk2⟩
    | some n =>
      rw [h1] at HR HP
      clear h1
      have HR := Lib.hid HR
      by_cases hm : 4294967295 < n
      · have HP := Lib.hid (HP.trans (if_pos hm))
        have hm2 : (4294967295 : Int) < (n : Int) := by omega
        clear hm
        go_enter Tryz.func105, Tryz.ntmps105
        go_wp2_with (first | (go_at_call 115; refine (HC.out _).mono ?_; rintro e w1 ⟨rfl, hk1⟩) | (go_at_call 117; refine (HR.out _ (hr.kept hk1)).mono ?_; rintro e w2 ⟨rfl, hk2⟩))
        go_ret2
        exact ⟨by rw [HP.out]; rfl, hk1.trans hk2⟩
      · have HP := Lib.hid (HP.trans (if_neg hm))
        have hm2 : (n : Int) ≤ 4294967295 := by omega
        clear hm
        go_enter Tryz.func105, Tryz.ntmps105
        go_wp2_with (first | (go_at_call 115; refine (HC.out _).mono ?_; rintro e w1 ⟨rfl, hk1⟩) | (go_at_call 117; refine (HR.out _ (hr.kept hk1)).mono ?_; rintro e w2 ⟨rfl, hk2⟩))
        go_ret2
        exact ⟨by rw [HP.out]; go_num, hk1.trans hk2⟩
end Go.Proofs.YthjljamngpddmaaGreatDoor
namespace Go.Proofs.YthjljamngpddmaaGreatDoor
open Go.RowKit

namespace Pt
def marks : List UInt8 := [123, 125, 40, 41, 91, 93, 44, 124, 32]
/-- What is ahead of the first mark. -/
def unm (l : List UInt8) : List UInt8 := l.takeWhile fun c => !marks.contains c
def opens : Nat → List UInt8 | 1 => [123] | 3 => [40] | 4 => [91] | _ => []
def betw : Nat → List UInt8 | 1 => [44] | 2 => [32] | 3 => [32] | 4 => [44] | _ => []
def ends : Nat → List UInt8 | 1 => [125] | 3 => [41] | 4 => [93] | _ => []
def kindOf : List UInt8 → Nat | [] => 2 | c :: _ => if c = 123 then 1 else if c = 40 then 3 else if c = 91 then 4 else 2
def gap (k m : Nat) : List UInt8 := if k = 2 ∧ m = 2 then [32, 124, 32] else [32]
/-- Numbers, one behind the other: what is left, the numbers, the first error, whether the form is right. -/
def segL : Nat → List UInt8 → List UInt8 → List Nat → Nat → List UInt8 × List Nat × Nat × Bool
  | 0, _, rest, acc, err => (rest, acc, err, false)
  | f + 1, b, rest, acc, err =>
    if unm rest = [] then (rest, acc, (if err = 0 then (parse (unm rest)).2 else err), false)
    else if Lib.hasPrefix (rest.drop (unm rest).length) b = true ∧ unm ((rest.drop (unm rest).length).drop b.length) ≠ [] then
      segL f b ((rest.drop (unm rest).length).drop b.length) (acc ++ [(parse (unm rest)).1]) (if err = 0 then (parse (unm rest)).2 else err)
    else (rest.drop (unm rest).length, acc ++ [(parse (unm rest)).1], (if err = 0 then (parse (unm rest)).2 else err), true)
structure PS where
  rest : List UInt8
  read : List Seg
  err : Nat
def segM (k : Nat) (s : PS) : PS × Bool :=
  let R := segL (s.rest.length + 1) (betw k) (s.rest.drop (opens k).length) [] s.err
  if R.2.2.2 = false then (⟨R.1, s.read, R.2.2.1⟩, false)
  else (⟨Lib.trimPrefix R.1 (ends k), s.read ++ [(UInt8.ofNat k, R.2.1)], R.2.2.1⟩, Lib.hasPrefix R.1 (ends k))
def pathL : Nat → Nat → PS → PS × Bool
  | 0, _, s => (s, false)
  | f + 1, k, s =>
    if (segM k s).2 = false then ((segM k s).1, false)
    else if (segM k s).1.rest = [] then ((segM k s).1, true)
    else if Lib.hasPrefix (segM k s).1.rest (gap k (kindOf ((segM k s).1.rest.drop 1))) = true then
      pathL f (kindOf ((segM k s).1.rest.drop 1)) ⟨(segM k s).1.rest.drop (gap k (kindOf ((segM k s).1.rest.drop 1))).length, (segM k s).1.read, (segM k s).1.err⟩
    else ((segM k s).1, false)
/-- What is read of a text: the path, the error. -/
def parseP (l : List UInt8) : List Seg × Nat :=
  if l = [45] then ([], 0)
  else
    let R := pathL (l.length + 1) (kindOf l) ⟨l, [], 0⟩
    if R.2 = false then ([], 5) else if R.1.err ≠ 0 then ([], R.1.err) else if may R.1.read = false then ([], 7) else (R.1.read, 0)

theorem unm_len (l : List UInt8) : (unm l).length ≤ l.length := (List.takeWhile_prefix _).length_le
theorem unm_take (l : List UInt8) : l.take (unm l).length = unm l := by
  have := List.takeWhile_prefix (p := fun c => !marks.contains c) (l := l)
  exact (List.prefix_iff_eq_take.1 this).symm
theorem unm_prefix (l : List UInt8) : Lib.hasPrefix l (unm l) = true := by
  unfold Lib.hasPrefix
  rw [List.isPrefixOf_iff_prefix]
  exact List.takeWhile_prefix _
theorem indexAny_unm : ∀ l : List UInt8, Lib.indexAny l marks = if (unm l).length = l.length then -1 else ((unm l).length : Int)
  | [] => rfl
  | b :: l => by
    have ih := indexAny_unm l
    have hle := unm_len l
    unfold Lib.indexAny
    by_cases hb : marks.contains b = true
    · have e : unm (b :: l) = [] := by unfold unm; rw [List.takeWhile_cons, if_neg (by rw [hb]; simp)]
      rw [if_pos hb, e]
      simp
    · have e : unm (b :: l) = b :: unm l := by unfold unm; rw [List.takeWhile_cons, if_pos (by simpa using hb)]
      rw [if_neg hb, e, ih]
      by_cases h2 : (unm l).length = l.length
      · rw [if_pos h2, if_pos (show (b :: unm l).length = (b :: l).length by rw [List.length_cons, List.length_cons, h2])]
        rfl
      · have hn : (((unm l).length : Int) == -1) = false := by rw [beq_eq_false_iff_ne]; omega
        rw [if_neg h2, if_neg (show ¬ (b :: unm l).length = (b :: l).length by rw [List.length_cons, List.length_cons]; omega), hn, if_neg (by simp), List.length_cons]
        omega
end Pt

/-- Only bytes below 128. -/
def Asc (l : List UInt8) : Prop := ∀ b ∈ l, b.toNat < 128
theorem Asc.drop {l : List UInt8} (h : Asc l) (n : Nat) : Asc (l.drop n) := fun b hb => h b (List.mem_of_mem_drop hb)
theorem Asc.trim {l : List UInt8} (h : Asc l) (s : List UInt8) : Asc (Lib.trimPrefix l s) := by
  unfold Lib.trimPrefix
  split
  · exact h.drop _
  · exact h

/-- A reading at block p. -/
def RB (w : World) (p : Nat) (rest : List UInt8) (rv : Value) (err : Nat) : Prop := Blk w p 106 #[.string ⟨rest.toArray⟩, rv, .int .i64 (err : Int)]
theorem RB.put0 {w : World} {p : Nat} {rest : List UInt8} {rv : Value} {err : Nat} (h : RB w p rest rv err) (r2 : List UInt8) : RB (w.setCell ⟨p, 0, none⟩ (.string ⟨r2.toArray⟩)) p r2 rv err := h.put 0 _
theorem RB.put1 {w : World} {p : Nat} {rest : List UInt8} {rv : Value} {err : Nat} (h : RB w p rest rv err) (v2 : Value) : RB (w.setCell ⟨p, 1, none⟩ v2) p rest v2 err := h.put 1 _
theorem RB.put2 {w : World} {p : Nat} {rest : List UInt8} {rv : Value} {err : Nat} (h : RB w p rest rv err) (e2 : Nat) : RB (w.setCell ⟨p, 2, none⟩ (.int .i64 (e2 : Int))) p rest rv e2 := h.put 2 _

theorem take60 (s : ByteArray) (k : Nat) : s.extract 0 k = ⟨(s.data.toList.take k).toArray⟩ := by
  have : s = ⟨s.data.toList.toArray⟩ := by cases s; rfl
  conv => lhs; rw [this]
  exact ext_lo _ k
theorem unm_any (l : List UInt8) (ha : Asc l) (hl : l.length ≤ 100000) (w : World) :
    Calls Tryz.prog 104 #[.string ⟨l.toArray⟩] w fun e w' => e = .returned (.string ⟨(Pt.unm l).toArray⟩) ∧ Kept Nothing w w' := by
  have HI : Hid (∀ w, Calls Tryz.prog 114 #[.string ⟨l.toArray⟩, .string ⟨#[123, 125, 40, 41, 91, 93, 44, 124, 32]⟩] w fun e w' => e = .returned (.int .i64 (if (Pt.unm l).length = l.length then -1 else ((Pt.unm l).length : Int))) ∧ Kept Nothing w w') := Lib.hid (fun w => by
    have h1 := Tryz.strings_IndexAny_laid ⟨l.toArray⟩ ⟨#[123, 125, 40, 41, 91, 93, 44, 124, 32]⟩ w (by show l.toArray.size < _; simp; omega) (by decide) (fun j b hb => by
      have hb : l[j]? = some b := hb
      exact ha b (List.mem_of_getElem? hb)) (fun j b hb => by
      have hb : Pt.marks[j]? = some b := hb
      exact (show ∀ b ∈ Pt.marks, b.toNat < 128 by decide) b (List.mem_of_getElem? hb))
    refine h1.mono fun e w' ⟨he, hk⟩ => ⟨?_, grows hk⟩
    rw [he]
    exact congrArg (fun z => Ending.returned (.int .i64 z)) (Pt.indexAny_unm l))
  have hu := Pt.unm_len l
  have ht := Pt.unm_take l
  by_cases hc : (Pt.unm l).length = l.length
  · rw [if_pos hc] at HI
    have e : Pt.unm l = l := by rw [← ht, hc]; simp
    rw [e]
    clear hc hu ht e
    go_enter Tryz.func104, Tryz.ntmps104
    go_wp2_with (go_at_call 114; refine (HI.out _).mono ?_; rintro e w1 ⟨rfl, k1⟩)
    go_ret
    exact ⟨rfl, k1⟩
  · rw [if_neg hc] at HI
    have HT := Lib.hid ht
    have HE := take60 ⟨l.toArray⟩ (Pt.unm l).length
    have e2 : (⟨l.toArray⟩ : ByteArray).data.toList.take (Pt.unm l).length = Pt.unm l := ht
    rw [e2] at HE
    generalize Pt.unm l = u at *
    have hul : (u.length : Int) ≤ (l.length : Int) := by omega
    clear hc ht e2
    go_enter Tryz.func104, Tryz.ntmps104
    go_wp2_with (go_at_call 114; refine (HI.out _).mono ?_; rintro e w1 ⟨rfl, k1⟩)
    go_ret
    exact ⟨rfl, k1⟩

theorem cutP_any (l s : List UInt8) (w : World) : Calls Tryz.prog 97 #[.string ⟨l.toArray⟩, .string ⟨s.toArray⟩] w fun e w' => e = .returned (.tuple #[.string ⟨(Lib.trimPrefix l s).toArray⟩, .bool (Lib.hasPrefix l s)]) ∧ w = w' :=
  (Tryz.strings_CutPrefix ⟨l.toArray⟩ ⟨s.toArray⟩ w).mono fun _ _ ⟨h1, h2⟩ => ⟨h1, h2.symm⟩
theorem hasP_any (l s : List UInt8) (w : World) : Calls Tryz.prog 94 #[.string ⟨l.toArray⟩, .string ⟨s.toArray⟩] w fun e w' => e = .returned (.bool (Lib.hasPrefix l s)) ∧ w = w' :=
  (Tryz.strings_HasPrefix ⟨l.toArray⟩ ⟨s.toArray⟩ w).mono fun _ _ ⟨h1, h2⟩ => ⟨h1, h2.symm⟩

theorem rg_cut (p : Nat) (l s : List UInt8) (rv : Value) (err : Nat) (w : World) (h : RB w p l rv err) :
    Calls Tryz.prog 85 #[.pointer (some ⟨p, 0, none⟩), .string ⟨s.toArray⟩] w fun e w' => e = .returned (.bool (Lib.hasPrefix l s)) ∧ RB w' p (Lib.trimPrefix l s) rv err ∧ Kept (Only p) w w' := by
  have HC := Lib.hid (fun w => cutP_any l s w)
  have HB := Lib.hid h
  have c0 := h.cell 0
  have f0 := h.free 0
  clear h
  cases hp : Lib.hasPrefix l s with
  | true =>
    rw [hp] at HC
    clear hp
    generalize Lib.trimPrefix l s = r at *
    go_enter Tryz.func85, Tryz.ntmps85
    go_wp2_with (go_at_call 97; refine (HC.out _).mono ?_; rintro e w1 ⟨rfl, rfl⟩)
    go_ret
    exact ⟨rfl, HB.out.put0 r, Kept.own w p 0 _⟩
  | false =>
    have e : Lib.trimPrefix l s = l := by unfold Lib.trimPrefix; rw [hp]; rfl
    rw [hp] at HC
    rw [e]
    clear hp e
    generalize Lib.trimPrefix l s = r at *
    go_enter Tryz.func85, Tryz.ntmps85
    go_wp2_with (go_at_call 97; refine (HC.out _).mono ?_; rintro e w1 ⟨rfl, rfl⟩)
    go_ret
    exact ⟨rfl, HB.out, Kept.refl _ _⟩
theorem rg_number (p : Nat) (l : List UInt8) (ha : Asc l) (hl : l.length ≤ 100000) (rv : Value) (err : Nat) (w : World) (hr : Rdy2 w) (h : RB w p l rv err) :
    Calls Tryz.prog 95 #[.pointer (some ⟨p, 0, none⟩)] w fun e w' => e = .returned (.tuple #[.int .u32 ((parse (Pt.unm l)).1 : Int), .bool (!decide (Pt.unm l = []))]) ∧
      RB w' p (l.drop (Pt.unm l).length) rv (if err = 0 then (parse (Pt.unm l)).2 else err) ∧ Kept (Only p) w w' := by
  have HU := Lib.hid (fun w => unm_any l ha hl w)
  have HN := Lib.hid (fun w h => parse_any (Pt.unm l) (by have := Pt.unm_len l; omega) w h)
  have HB := Lib.hid h
  have HR := Lib.hid hr
  have ED : Hid (Lib.trimPrefix l (Pt.unm l) = l.drop (Pt.unm l).length) := Lib.hid (by unfold Lib.trimPrefix; rw [Pt.unm_prefix]; rfl)
  have HCT : Hid (∀ err w, RB w p l rv err → Calls Tryz.prog 85 #[.pointer (some ⟨p, 0, none⟩), .string ⟨(Pt.unm l).toArray⟩] w fun e w' => e = .returned (.bool true) ∧ RB w' p (l.drop (Pt.unm l).length) rv err ∧ Kept (Only p) w w') := Lib.hid (fun err w h => by
    have := rg_cut p l (Pt.unm l) rv err w h
    rwa [Pt.unm_prefix, ED.out] at this)
  have c0 := h.cell 0
  clear ha h hr ED
  by_cases hu : Pt.unm l = []
  · have hd : decide (Pt.unm l = []) = true := by simpa using hu
    have EN : Hid (l.drop (Pt.unm l).length = l) := Lib.hid (by rw [hu]; rfl)
    rw [EN.out, hd]
    rw [hu] at HU HN ⊢
    clear hd HCT EN hu
    generalize (parse []).1 = x at *
    generalize (parse []).2 = y at *
    by_cases h0 : err = 0
    · have HI := Lib.hid (show (if err = 0 then y else err) = y from if_pos h0)
      rw [HI.out]
      subst h0
      clear HI
      go_enter Tryz.func95, Tryz.ntmps95
      go_wp2_with (first | (go_at_call 104; refine (HU.out _).mono ?_; rintro e w1 ⟨rfl, k1⟩) | (go_at_call 105; refine (HN.out _ (HR.out.kept k1)).mono ?_; rintro e w2 ⟨rfl, k2⟩; (have b2 := HB.out.kept (k1.trans k2) (fun x => x)); (have d2 := b2.cell 2); (have f2 := b2.free 2); (have B2 := Lib.hid b2); clear b2))
      go_ret2
      exact ⟨rfl, B2.out.put 2 _, ((k1.trans k2).mono (fun _ x => x.elim)).trans (Kept.own w2 p 2 _)⟩
    · have HI := Lib.hid (show (if err = 0 then y else err) = err from if_neg h0)
      rw [HI.out]
      clear HI
      have h0i : ((err : Int) == 0) = false := by simp; omega
      go_enter Tryz.func95, Tryz.ntmps95
      go_wp2_with (first | (go_at_call 104; refine (HU.out _).mono ?_; rintro e w1 ⟨rfl, k1⟩) | (go_at_call 105; refine (HN.out _ (HR.out.kept k1)).mono ?_; rintro e w2 ⟨rfl, k2⟩; (have b2 := HB.out.kept (k1.trans k2) (fun x => x)); (have d2 := b2.cell 2); (have f2 := b2.free 2); (have B2 := Lib.hid b2); clear b2))
      go_ret2
      exact ⟨rfl, B2.out, (k1.trans k2).mono (fun _ x => x.elim)⟩
  · have hd : decide (Pt.unm l = []) = false := by simpa using hu
    rw [hd]
    clear hd
    generalize (parse (Pt.unm l)).1 = x at *
    generalize (parse (Pt.unm l)).2 = y at *
    generalize l.drop (Pt.unm l).length = r at *
    generalize Pt.unm l = u at *
    have hie : u.isEmpty = false := List.isEmpty_eq_false_iff.2 hu
    by_cases h0 : err = 0
    · have HI := Lib.hid (show (if err = 0 then y else err) = y from if_pos h0)
      rw [HI.out]
      subst h0
      clear HI
      go_enter Tryz.func95, Tryz.ntmps95
      go_wp2_with (first | (go_at_call 104; refine (HU.out _).mono ?_; rintro e w1 ⟨rfl, k1⟩) | (go_at_call 105; refine (HN.out _ (HR.out.kept k1)).mono ?_; rintro e w2 ⟨rfl, k2⟩; (have b2 := HB.out.kept (k1.trans k2) (fun x => x)); (have d2 := b2.cell 2); (have f2 := b2.free 2); (have B2 := Lib.hid b2); clear b2) | (go_at_call 85; refine (HCT.out y _ (by exact B2.out.put 2 _)).mono ?_; rintro e w3 ⟨rfl, b3, k3⟩))
      go_ret2
      exact ⟨rfl, b3, (((k1.trans k2).mono (fun _ x => x.elim)).trans (Kept.own w2 p 2 _)).trans k3⟩
    · have HI := Lib.hid (show (if err = 0 then y else err) = err from if_neg h0)
      rw [HI.out]
      clear HI
      have h0i : ((err : Int) == 0) = false := by simp; omega
      go_enter Tryz.func95, Tryz.ntmps95
      go_wp2_with (first | (go_at_call 104; refine (HU.out _).mono ?_; rintro e w1 ⟨rfl, k1⟩) | (go_at_call 105; refine (HN.out _ (HR.out.kept k1)).mono ?_; rintro e w2 ⟨rfl, k2⟩; (have b2 := HB.out.kept (k1.trans k2) (fun x => x)); (have d2 := b2.cell 2); (have f2 := b2.free 2); (have B2 := Lib.hid b2); clear b2) | (go_at_call 85; refine (HCT.out err _ (by exact B2.out)).mono ?_; rintro e w3 ⟨rfl, b3, k3⟩))
      go_ret2
      exact ⟨rfl, b3, ((k1.trans k2).mono (fun _ x => x.elim)).trans k3⟩

theorem rg_goesOn (p : Nat) (l s : List UInt8) (ha : Asc l) (hl : l.length ≤ 100000) (rv : Value) (err : Nat) (w : World) (h : RB w p l rv err) :
    Calls Tryz.prog 96 #[.pointer (some ⟨p, 0, none⟩), .string ⟨s.toArray⟩] w fun e w' => e = .returned (.bool (Lib.hasPrefix l s && !decide (Pt.unm (l.drop s.length) = []))) ∧
      RB w' p (if Lib.hasPrefix l s = true ∧ Pt.unm (l.drop s.length) ≠ [] then l.drop s.length else l) rv err ∧ Kept (Only p) w w' := by
  have HC := Lib.hid (fun w => cutP_any l s w)
  have HB := Lib.hid h
  have c0 := h.cell 0
  clear h
  cases hp : Lib.hasPrefix l s with
  | false =>
    have HI := Lib.hid (show (if false = true ∧ Pt.unm (l.drop s.length) ≠ [] then l.drop s.length else l) = l from if_neg (by simp))
    rw [hp] at HC
    rw [HI.out, Bool.false_and]
    clear hp HI
    generalize Lib.trimPrefix l s = r at *
    go_enter Tryz.func96, Tryz.ntmps96
    go_wp2_with (go_at_call 97; refine (HC.out _).mono ?_; rintro e w1 ⟨rfl, rfl⟩)
    go_ret
    exact ⟨rfl, HB.out, Kept.refl _ _⟩
  | true =>
    have et : Lib.trimPrefix l s = l.drop s.length := by unfold Lib.trimPrefix; rw [hp]; rfl
    have HU := Lib.hid (fun w => unm_any (l.drop s.length) (ha.drop _) (by rw [List.length_drop]; omega) w)
    have HCT := Lib.hid (fun w h => rg_cut p l s rv err w h)
    rw [hp] at HC HCT
    rw [et] at HC HCT
    by_cases hu : Pt.unm (l.drop s.length) = []
    · have HI := Lib.hid (show (if true = true ∧ Pt.unm (l.drop s.length) ≠ [] then l.drop s.length else l) = l from if_neg (fun x => x.2 hu))
      have hd : decide (Pt.unm (l.drop s.length) = []) = true := by simpa using hu
      rw [HI.out, hd]
      rw [hu] at HU
      clear hp HI hd hu et HCT
      generalize l.drop s.length = r at *
      go_enter Tryz.func96, Tryz.ntmps96
      go_wp2_with (first | (go_at_call 97; refine (HC.out _).mono ?_; rintro e w1 ⟨rfl, rfl⟩) | (go_at_call 104; refine (HU.out _).mono ?_; rintro e w2 ⟨rfl, k2⟩))
      go_ret
      exact ⟨rfl, HB.out.kept k2 (fun x => x), k2.mono (fun _ x => x.elim)⟩
    · have HI := Lib.hid (show (if true = true ∧ Pt.unm (l.drop s.length) ≠ [] then l.drop s.length else l) = l.drop s.length from if_pos ⟨rfl, hu⟩)
      have hd : decide (Pt.unm (l.drop s.length) = []) = false := by simpa using hu
      rw [HI.out, hd]
      clear hp HI hd et
      generalize l.drop s.length = r at *
      generalize Pt.unm r = u at *
      have hie : u.isEmpty = false := List.isEmpty_eq_false_iff.2 hu
      go_enter Tryz.func96, Tryz.ntmps96
      go_wp2_with (first | (go_at_call 97; refine (HC.out _).mono ?_; rintro e w1 ⟨rfl, rfl⟩) | (go_at_call 104; refine (HU.out _).mono ?_; rintro e w2 ⟨rfl, k2⟩) | (go_at_call 85; refine (HCT.out _ (by exact HB.out.kept k2 (fun x => x))).mono ?_; rintro e w3 ⟨rfl, b3, k3⟩))
      go_ret
      exact ⟨rfl, b3, (k2.mono (fun _ x => x.elim)).trans k3⟩

theorem gap_any (k m : Nat) (hk : k < 256) (hm : m < 256) (w : World) : Calls Tryz.prog 52 #[.int .u8 (k : Int), .int .u8 (m : Int)] w fun e w' => e = .returned (.string ⟨(Pt.gap k m).toArray⟩) ∧ w = w' := by
  by_cases h : k = 2 ∧ m = 2
  · have HG : Hid (Pt.gap k m = [32, 124, 32]) := Lib.hid (if_pos h)
    obtain ⟨rfl, rfl⟩ := h
    rw [HG.out]
    go_enter Tryz.func52, Tryz.ntmps52
    go_wp2
    go_ret
    exact ⟨rfl, rfl⟩
  · have HG : Hid (Pt.gap k m = [32]) := Lib.hid (if_neg h)
    rw [HG.out]
    by_cases hk2 : k = 2
    · have hm2 : ((m : Int) == 2) = false := by simp; omega
      subst hk2
      clear h
      go_enter Tryz.func52, Tryz.ntmps52
      go_wp2
      go_ret
      exact ⟨rfl, rfl⟩
    · have hk3 : ((k : Int) == 2) = false := by simp; omega
      clear h hk2
      go_enter Tryz.func52, Tryz.ntmps52
      go_wp2
      go_ret
      exact ⟨rfl, rfl⟩
end Go.Proofs.YthjljamngpddmaaGreatDoor
namespace Go.Proofs.YthjljamngpddmaaGreatDoor
open Go.RowKit

def str (l : List UInt8) : Value := .string ⟨l.toArray⟩
/-- The table of brackets. -/
def bkc : Array Value := #[.string ⟨#[]⟩, .string ⟨#[]⟩, .string ⟨#[]⟩, .string ⟨#[123]⟩, .string ⟨#[44]⟩, .string ⟨#[125]⟩, .string ⟨#[]⟩, .string ⟨#[32]⟩, .string ⟨#[]⟩, .string ⟨#[40]⟩, .string ⟨#[32]⟩, .string ⟨#[41]⟩, .string ⟨#[91]⟩, .string ⟨#[44]⟩, .string ⟨#[93]⟩]
/-- The table is there. -/
def Bkt (w : World) : Prop := ∃ t fr, w.heap[0]? = some (.cells bkc t fr)
theorem Bkt.kept {w w' : World} (h : Bkt w) (k : Kept Nothing w w') : Bkt w' := by
  obtain ⟨t, fr, h⟩ := h
  exact ⟨t, fr, (k.block _ (Array.getElem?_eq_some_iff.1 h).1 (fun x => x)).trans h⟩
theorem Bkt.cell {w : World} (h : Bkt w) (i : Nat) : w.cell? ⟨0, i, none⟩ = bkc[i]? := by
  obtain ⟨t, fr, h⟩ := h
  exact cell_of_row w _ i bkc t fr h
theorem bk_at (k : Nat) (hk : k < 5) (w : World) : (Instr.index 124 (.agg bkc) (.int .i64 (k : Int))).run Tryz.prog w = .ok (.agg #[str (Pt.opens k), str (Pt.betw k), str (Pt.ends k)]) w := by
  obtain rfl | rfl | rfl | rfl | rfl : k = 0 ∨ k = 1 ∨ k = 2 ∨ k = 3 ∨ k = 4 := by omega
  all_goals kernel_rfl
theorem bk_cells (k : Nat) (hk : k < 5) : bkc[k * 3]? = some (str (Pt.opens k)) ∧ bkc[k * 3 + 1]? = some (str (Pt.betw k)) ∧ bkc[k * 3 + 2]? = some (str (Pt.ends k)) := by
  obtain rfl | rfl | rfl | rfl | rfl : k = 0 ∨ k = 1 ∨ k = 2 ∨ k = 3 ∨ k = 4 := by omega
  all_goals exact ⟨rfl, rfl, rfl⟩

namespace Pt
def mt (l : List UInt8) (k : Nat) : Bool := !(opens k).isEmpty && Lib.hasPrefix l (opens k)
theorem mt_one (c d : UInt8) (l : List UInt8) : Lib.hasPrefix (c :: l) [d] = (d == c) := by simp [Lib.hasPrefix, List.isPrefixOf]
theorem kind_hit (l : List UInt8) (k : Nat) (hk : k < 5) (hm : mt l k = true) : kindOf l = k := by
  obtain rfl | rfl | rfl | rfl | rfl : k = 0 ∨ k = 1 ∨ k = 2 ∨ k = 3 ∨ k = 4 := by omega
  all_goals cases l with
    | nil => simp [mt, opens, Lib.hasPrefix] at hm
    | cons c l =>
      simp [mt, opens, mt_one] at hm
      try (subst hm; rfl)
theorem kindOf_cons (c : UInt8) (l : List UInt8) : kindOf (c :: l) = if c = 123 then 1 else if c = 40 then 3 else if c = 91 then 4 else 2 := rfl
theorem kind_miss (l : List UInt8) (h : ∀ j, j < 5 → mt l j = false) : kindOf l = 2 := by
  cases l with
  | nil => rfl
  | cons c l =>
    have h1 := h 1 (by omega)
    have h3 := h 3 (by omega)
    have h4 := h 4 (by omega)
    simp [mt, opens, mt_one] at h1 h3 h4
    rw [kindOf_cons, if_neg (fun e => h1 e.symm), if_neg (fun e => h3 e.symm), if_neg (fun e => h4 e.symm)]
theorem kind_open (l : List UInt8) : Lib.hasPrefix l (opens (kindOf l)) = true ∧ 1 ≤ kindOf l ∧ kindOf l ≤ 4 := by
  cases l with
  | nil => exact ⟨rfl, by decide, by decide⟩
  | cons c l =>
    rw [kindOf_cons]
    by_cases h1 : c = 123
    · subst h1; rw [if_pos rfl]; exact ⟨by simp [opens, mt_one], by decide, by decide⟩
    · rw [if_neg h1]
      by_cases h3 : c = 40
      · subst h3; rw [if_pos rfl]; exact ⟨by simp [opens, mt_one], by decide, by decide⟩
      · rw [if_neg h3]
        by_cases h4 : c = 91
        · subst h4; rw [if_pos rfl]; exact ⟨by simp [opens, mt_one], by decide, by decide⟩
        · rw [if_neg h4]; exact ⟨rfl, by decide, by decide⟩
end Pt

set_option maxHeartbeats 1600000 in
theorem kindOf_any (l : List UInt8) (w : World) (hs : Bkt w) :
    Calls Tryz.prog 83 #[.string ⟨l.toArray⟩] w fun e w' => e = .returned (.int .u8 (Pt.kindOf l : Int)) ∧ Kept Nothing w w' := by
  obtain ⟨tt, fr, hg⟩ := hs
  go_enter Tryz.func83, Tryz.ntmps83
  go_wp2_with (refine wpList_load_row rfl 124 _ rfl 0 rfl tt _ fr _ hg Tryz.underlying124 rfl (by kernel_rfl) ?_)
  clear hg
  go_loopw [6] (fun i wr => ∃ k : Nat, i = .int .i64 (k : Int) ∧ k ≤ 5 ∧ Hid (∀ j, j < k → Pt.mt l j = false) ∧ Kept Nothing w wr) (fun i _ => 5 - (intOf i).toNat)
  case atStart => exact ⟨0, rfl, by omega, Lib.hid (fun j hj => absurd hj (Nat.not_lt_zero _)), Kept.refl _ _⟩
  case round =>
    obtain ⟨k, rfl, hk, HM, hkk⟩ := hrel
    have KK := Lib.hid hkk
    clear hkk
    by_cases hlt : k < 5
    · have EN : Hid (Pt.mt l k = false → ∀ j, j < k + 1 → Pt.mt l j = false) := Lib.hid (fun e j hj => by
        by_cases hjk : j = k
        · subst hjk; exact e
        · exact HM.out j (by omega))
      have EH : Hid (Pt.mt l k = true → Pt.kindOf l = k) := Lib.hid (fun e => Pt.kind_hit l k hlt e)
      have HA := bk_at k hlt
      clear HM
      obtain rfl | rfl | rfl | rfl | rfl : k = 0 ∨ k = 1 ∨ k = 2 ∨ k = 3 ∨ k = 4 := by omega
      · have HA1 : ∀ w, (Instr.index 124 (.agg bkc) (.int .i64 0)).run Tryz.prog w = .ok (.agg #[.string ⟨#[]⟩, .string ⟨#[]⟩, .string ⟨#[]⟩]) w := HA
        clear HA
        have HN := Lib.hid (EN.out rfl)
        clear EN EH
        go_wp2
        go_roundw
        case rel => exact ⟨1, by go_num, by omega, HN, KK.out.alloc _⟩
        case measure => simp [intOf]
      · have HA1 : ∀ w, (Instr.index 124 (.agg bkc) (.int .i64 1)).run Tryz.prog w = .ok (.agg #[.string ⟨#[123]⟩, .string ⟨#[44]⟩, .string ⟨#[125]⟩]) w := HA
        clear HA
        have HH := Lib.hid (fun w => hasP_any l [123] w)
        have EM : Pt.mt l 1 = Lib.hasPrefix l [123] := rfl
        rw [EM] at EN EH
        clear EM
        generalize Lib.hasPrefix l [123] = hb at *
        cases hb with
        | true =>
          have HE := Lib.hid (EH.out rfl)
          clear EN EH
          go_wp2_with (go_at_call 94; refine (HH.out _).mono ?_; rintro e w2 ⟨rfl, rfl⟩)
          go_ret
          exact ⟨by rw [HE.out]; rfl, KK.out.alloc _⟩
        | false =>
          have HN := Lib.hid (EN.out rfl)
          clear EN EH
          go_wp2_with (go_at_call 94; refine (HH.out _).mono ?_; rintro e w2 ⟨rfl, rfl⟩)
          go_roundw
          case rel => exact ⟨2, by go_num, by omega, HN, KK.out.alloc _⟩
          case measure => simp [intOf]
      · have HA1 : ∀ w, (Instr.index 124 (.agg bkc) (.int .i64 2)).run Tryz.prog w = .ok (.agg #[.string ⟨#[]⟩, .string ⟨#[32]⟩, .string ⟨#[]⟩]) w := HA
        clear HA
        have HN := Lib.hid (EN.out rfl)
        clear EN EH
        go_wp2
        go_roundw
        case rel => exact ⟨3, by go_num, by omega, HN, KK.out.alloc _⟩
        case measure => simp [intOf]
      · have HA1 : ∀ w, (Instr.index 124 (.agg bkc) (.int .i64 3)).run Tryz.prog w = .ok (.agg #[.string ⟨#[40]⟩, .string ⟨#[32]⟩, .string ⟨#[41]⟩]) w := HA
        clear HA
        have HH := Lib.hid (fun w => hasP_any l [40] w)
        have EM : Pt.mt l 3 = Lib.hasPrefix l [40] := rfl
        rw [EM] at EN EH
        clear EM
        generalize Lib.hasPrefix l [40] = hb at *
        cases hb with
        | true =>
          have HE := Lib.hid (EH.out rfl)
          clear EN EH
          go_wp2_with (go_at_call 94; refine (HH.out _).mono ?_; rintro e w2 ⟨rfl, rfl⟩)
          go_ret
          exact ⟨by rw [HE.out]; rfl, KK.out.alloc _⟩
        | false =>
          have HN := Lib.hid (EN.out rfl)
          clear EN EH
          go_wp2_with (go_at_call 94; refine (HH.out _).mono ?_; rintro e w2 ⟨rfl, rfl⟩)
          go_roundw
          case rel => exact ⟨4, by go_num, by omega, HN, KK.out.alloc _⟩
          case measure => simp [intOf]
      · have HA1 : ∀ w, (Instr.index 124 (.agg bkc) (.int .i64 4)).run Tryz.prog w = .ok (.agg #[.string ⟨#[91]⟩, .string ⟨#[44]⟩, .string ⟨#[93]⟩]) w := HA
        clear HA
        have HH := Lib.hid (fun w => hasP_any l [91] w)
        have EM : Pt.mt l 4 = Lib.hasPrefix l [91] := rfl
        rw [EM] at EN EH
        clear EM
        generalize Lib.hasPrefix l [91] = hb at *
        cases hb with
        | true =>
          have HE := Lib.hid (EH.out rfl)
          clear EN EH
          go_wp2_with (go_at_call 94; refine (HH.out _).mono ?_; rintro e w2 ⟨rfl, rfl⟩)
          go_ret
          exact ⟨by rw [HE.out]; rfl, KK.out.alloc _⟩
        | false =>
          have HN := Lib.hid (EN.out rfl)
          clear EN EH
          go_wp2_with (go_at_call 94; refine (HH.out _).mono ?_; rintro e w2 ⟨rfl, rfl⟩)
          go_roundw
          case rel => exact ⟨5, by go_num, by omega, HN, KK.out.alloc _⟩
          case measure => simp [intOf]
    · obtain rfl : k = 5 := by omega
      have HE := Lib.hid (Pt.kind_miss l HM.out)
      go_wp2
      go_ret
      exact ⟨by rw [HE.out]; rfl, KK.out⟩
end Go.Proofs.YthjljamngpddmaaGreatDoor
