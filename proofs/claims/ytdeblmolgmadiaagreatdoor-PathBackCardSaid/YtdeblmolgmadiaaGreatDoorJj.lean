
/-
  Paths' texts, read: as plain data; the small steps of a reading.
-/
import Derived.Test.YtdeblmolgmadiaaGreatDoorJd
import Derived.Test.YtdeblmolgmadiaaGreatDoorNc
import Derived.Test.YtdeblmolgmadiaaGreatDoorQs
import Derived.Laws.Rows
namespace Go.Proofs.YtdeblmolgmadiaaGreatDoor
open Go.RowKit

namespace Pt
def marks : List UInt8 := [123, 125, 40, 41, 91, 93, 44, 124, 32]
/-- What is ahead of the first mark. -/
def unm (l : List UInt8) : List UInt8 := l.takeWhile fun c => !marks.contains c
def opens : Nat → List UInt8 | 1 => [123] | 3 => [40] | 4 => [91] | _ => []
def betw : Nat → List UInt8 | 1 => [44] | 2 => [32] | 3 => [32] | 4 => [44] | _ => []
def ends : Nat → List UInt8 | 1 => [125] | 3 => [41] | 4 => [93] | _ => []
def kindOf : List UInt8 → Nat | [] => 2 | c :: _ => if c = 123 then 1 else if c = 40 then 3 else if c = 91 then 4 else 2
def gap (k m : Nat) : List UInt8 := if k = 2 ∧ m = 2 then [32, 124, 32] else [32]
/-- Numbers, one behind the other: what is left, the numbers, the first error, whether the form is right. -/
def segL : Nat → List UInt8 → List UInt8 → List Nat → Nat → List UInt8 × List Nat × Nat × Bool
  | 0, _, rest, acc, err => (rest, acc, err, false)
  | f + 1, b, rest, acc, err =>
    if unm rest = [] then (rest, acc, (if err = 0 then (parse (unm rest)).2 else err), false)
    else if Lib.hasPrefix (rest.drop (unm rest).length) b = true ∧ unm ((rest.drop (unm rest).length).drop b.length) ≠ [] then
      segL f b ((rest.drop (unm rest).length).drop b.length) (acc ++ [(parse (unm rest)).1]) (if err = 0 then (parse (unm rest)).2 else err)
    else (rest.drop (unm rest).length, acc ++ [(parse (unm rest)).1], (if err = 0 then (parse (unm rest)).2 else err), true)
structure PS where
  rest : List UInt8
  read : List Seg
  err : Nat
def segM (k : Nat) (s : PS) : PS × Bool :=
  let R := segL (s.rest.length + 1) (betw k) (s.rest.drop (opens k).length) [] s.err
  if R.2.2.2 = false then (⟨R.1, s.read, R.2.2.1⟩, false)
  else (⟨Lib.trimPrefix R.1 (ends k), s.read ++ [(UInt8.ofNat k, R.2.1)], R.2.2.1⟩, Lib.hasPrefix R.1 (ends k))
def pathL : Nat → Nat → PS → PS × Bool
  | 0, _, s => (s, false)
  | f + 1, k, s =>
    if (segM k s).2 = false then ((segM k s).1, false)
    else if (segM k s).1.rest = [] then ((segM k s).1, true)
    else if Lib.hasPrefix (segM k s).1.rest (gap k (kindOf ((segM k s).1.rest.drop 1))) = true then
      pathL f (kindOf ((segM k s).1.rest.drop 1)) ⟨(segM k s).1.rest.drop (gap k (kindOf ((segM k s).1.rest.drop 1))).length, (segM k s).1.read, (segM k s).1.err⟩
    else ((segM k s).1, false)
/-- What is read of a text: the path, the error. -/
def parseP (l : List UInt8) : List Seg × Nat :=
  if l = [45] then ([], 0)
  else
    let R := pathL (l.length + 1) (kindOf l) ⟨l, [], 0⟩
    if R.2 = false then ([], 5) else if R.1.err ≠ 0 then ([], R.1.err) else if may R.1.read = false then ([], 7) else (R.1.read, 0)

theorem unm_len (l : List UInt8) : (unm l).length ≤ l.length := (List.takeWhile_prefix _).length_le
theorem unm_take (l : List UInt8) : l.take (unm l).length = unm l := by
  have := List.takeWhile_prefix (p := fun c => !marks.contains c) (l := l)
  exact (List.prefix_iff_eq_take.1 this).symm
theorem unm_prefix (l : List UInt8) : Lib.hasPrefix l (unm l) = true := by
  unfold Lib.hasPrefix
  rw [List.isPrefixOf_iff_prefix]
  exact List.takeWhile_prefix _
theorem indexAny_unm : ∀ l : List UInt8, Lib.indexAny l marks = if (unm l).length = l.length then -1 else ((unm l).length : Int)
  | [] => rfl
  | b :: l => by
    have ih := indexAny_unm l
    have hle := unm_len l
    unfold Lib.indexAny
    by_cases hb : marks.contains b = true
    · have e : unm (b :: l) = [] := by unfold unm; rw [List.takeWhile_cons, if_neg (by rw [hb]; simp)]
      rw [if_pos hb, e]
      simp
    · have e : unm (b :: l) = b :: unm l := by unfold unm; rw [List.takeWhile_cons, if_pos (by simpa using hb)]
      rw [if_neg hb, e, ih]
      by_cases h2 : (unm l).length = l.length
      · rw [if_pos h2, if_pos (show (b :: unm l).length = (b :: l).length by rw [List.length_cons, List.length_cons, h2])]
        rfl
      · have hn : (((unm l).length : Int) == -1) = false := by rw [beq_eq_false_iff_ne]; omega
        rw [if_neg h2, if_neg (show ¬ (b :: unm l).length = (b :: l).length by rw [List.length_cons, List.length_cons]; omega), hn, if_neg (by simp), List.length_cons]
        omega
end Pt

/-- Once: only bytes below 128; now any bytes (the name is kept for the texts that hand it on). -/
def Asc (l : List UInt8) : Prop := ∀ b ∈ l, b.toNat < 256
theorem asc_all (l : List UInt8) : Asc l := fun b _ => b.toNat_lt
theorem Asc.drop {l : List UInt8} (h : Asc l) (n : Nat) : Asc (l.drop n) := fun b hb => h b (List.mem_of_mem_drop hb)
theorem Asc.trim {l : List UInt8} (h : Asc l) (s : List UInt8) : Asc (Lib.trimPrefix l s) := by
  unfold Lib.trimPrefix
  split
  · exact h.drop _
  · exact h

/-- A reading at block p. -/
def RB (w : World) (p : Nat) (rest : List UInt8) (rv : Value) (err : Nat) : Prop := Blk w p 128 #[.string ⟨rest.toArray⟩, rv, .int .i64 (err : Int)]
theorem RB.put0 {w : World} {p : Nat} {rest : List UInt8} {rv : Value} {err : Nat} (h : RB w p rest rv err) (r2 : List UInt8) : RB (w.setCell ⟨p, 0, none⟩ (.string ⟨r2.toArray⟩)) p r2 rv err := h.put 0 _
theorem RB.put1 {w : World} {p : Nat} {rest : List UInt8} {rv : Value} {err : Nat} (h : RB w p rest rv err) (v2 : Value) : RB (w.setCell ⟨p, 1, none⟩ v2) p rest v2 err := h.put 1 _
theorem RB.put2 {w : World} {p : Nat} {rest : List UInt8} {rv : Value} {err : Nat} (h : RB w p rest rv err) (e2 : Nat) : RB (w.setCell ⟨p, 2, none⟩ (.int .i64 (e2 : Int))) p rest rv e2 := h.put 2 _

theorem take60 (s : ByteArray) (k : Nat) : s.extract 0 k = ⟨(s.data.toList.take k).toArray⟩ := by
  have : s = ⟨s.data.toList.toArray⟩ := by cases s; rfl
  conv => lhs; rw [this]
  exact ext_lo _ k
theorem unm_any (l : List UInt8) (_ha : Asc l) (hl : l.length ≤ 100000) (w : World) :
    Calls Tryz.prog 178 #[.string ⟨l.toArray⟩] w fun e w' => e = .returned (.string ⟨(Pt.unm l).toArray⟩) ∧ Kept Nothing w w' := by
  have HI : Hid (∀ w, Calls Tryz.prog 192 #[.string ⟨l.toArray⟩, .string ⟨#[123, 125, 40, 41, 91, 93, 44, 124, 32]⟩] w fun e w' => e = .returned (.int .i64 (if (Pt.unm l).length = l.length then -1 else ((Pt.unm l).length : Int))) ∧ Kept Nothing w w') := Lib.hid (fun w => by
    have h1 := marks_any ⟨l.toArray⟩ (by show l.toArray.size < _; simp; omega) w
    refine h1.mono fun e w' ⟨he, hk⟩ => ⟨?_, grows hk⟩
    rw [he]
    exact congrArg (fun z => Ending.returned (.int .i64 z)) (Pt.indexAny_unm l))
  have hu := Pt.unm_len l
  have ht := Pt.unm_take l
  by_cases hc : (Pt.unm l).length = l.length
  · rw [if_pos hc] at HI
    have e : Pt.unm l = l := by rw [← ht, hc]; simp
    rw [e]
    clear hc hu ht e
    go_enter Tryz.func178, Tryz.ntmps178
    go_wp2_with (go_at_call 192; refine (HI.out _).mono ?_; rintro e w1 ⟨rfl, k1⟩)
    go_ret
    exact ⟨rfl, k1⟩
  · rw [if_neg hc] at HI
    have HT := Lib.hid ht
    have HE := take60 ⟨l.toArray⟩ (Pt.unm l).length
    have e2 : (⟨l.toArray⟩ : ByteArray).data.toList.take (Pt.unm l).length = Pt.unm l := ht
    rw [e2] at HE
    generalize Pt.unm l = u at *
    have hul : (u.length : Int) ≤ (l.length : Int) := by omega
    clear hc ht e2
    go_enter Tryz.func178, Tryz.ntmps178
    go_wp2_with (go_at_call 192; refine (HI.out _).mono ?_; rintro e w1 ⟨rfl, k1⟩)
    go_ret
    exact ⟨rfl, k1⟩

theorem cutP_any (l s : List UInt8) (w : World) : Calls Tryz.prog 156 #[.string ⟨l.toArray⟩, .string ⟨s.toArray⟩] w fun e w' => e = .returned (.tuple #[.string ⟨(Lib.trimPrefix l s).toArray⟩, .bool (Lib.hasPrefix l s)]) ∧ w = w' :=
  (Tryz.strings_CutPrefix ⟨l.toArray⟩ ⟨s.toArray⟩ w).mono fun _ _ ⟨h1, h2⟩ => ⟨h1, h2.symm⟩
theorem hasP_any (l s : List UInt8) (w : World) : Calls Tryz.prog 153 #[.string ⟨l.toArray⟩, .string ⟨s.toArray⟩] w fun e w' => e = .returned (.bool (Lib.hasPrefix l s)) ∧ w = w' :=
  (Tryz.strings_HasPrefix ⟨l.toArray⟩ ⟨s.toArray⟩ w).mono fun _ _ ⟨h1, h2⟩ => ⟨h1, h2.symm⟩

theorem rg_cut (p : Nat) (l s : List UInt8) (rv : Value) (err : Nat) (w : World) (h : RB w p l rv err) :
    Calls Tryz.prog 113 #[.pointer (some ⟨p, 0, none⟩), .string ⟨s.toArray⟩] w fun e w' => e = .returned (.bool (Lib.hasPrefix l s)) ∧ RB w' p (Lib.trimPrefix l s) rv err ∧ Kept (Only p) w w' := by
  have HC := Lib.hid (fun w => cutP_any l s w)
  have HB := Lib.hid h
  have c0 := h.cell 0
  have f0 := h.free 0
  clear h
  cases hp : Lib.hasPrefix l s with
  | true =>
    rw [hp] at HC
    clear hp
    generalize Lib.trimPrefix l s = r at *
    go_enter Tryz.func113, Tryz.ntmps113
    go_wp2_with (go_at_call 156; refine (HC.out _).mono ?_; rintro e w1 ⟨rfl, rfl⟩)
    go_ret
    exact ⟨rfl, HB.out.put0 r, Kept.own w p 0 _⟩
  | false =>
    have e : Lib.trimPrefix l s = l := by unfold Lib.trimPrefix; rw [hp]; rfl
    rw [hp] at HC
    rw [e]
    clear hp e
    generalize Lib.trimPrefix l s = r at *
    go_enter Tryz.func113, Tryz.ntmps113
    go_wp2_with (go_at_call 156; refine (HC.out _).mono ?_; rintro e w1 ⟨rfl, rfl⟩)
    go_ret
    exact ⟨rfl, HB.out, Kept.refl _ _⟩
theorem rg_number (p : Nat) (l : List UInt8) (ha : Asc l) (hl : l.length ≤ 100000) (rv : Value) (err : Nat) (w : World) (hr : Rdy2 w) (h : RB w p l rv err) :
    Calls Tryz.prog 154 #[.pointer (some ⟨p, 0, none⟩)] w fun e w' => e = .returned (.tuple #[.int .u32 ((parse (Pt.unm l)).1 : Int), .bool (!decide (Pt.unm l = []))]) ∧
      RB w' p (l.drop (Pt.unm l).length) rv (if err = 0 then (parse (Pt.unm l)).2 else err) ∧ Kept (Only p) w w' := by
  have HU := Lib.hid (fun w => unm_any l ha hl w)
  have HN := Lib.hid (fun w h => parse_any (Pt.unm l) (by have := Pt.unm_len l; omega) w h)
  have HB := Lib.hid h
  have HR := Lib.hid hr
  have ED : Hid (Lib.trimPrefix l (Pt.unm l) = l.drop (Pt.unm l).length) := Lib.hid (by unfold Lib.trimPrefix; rw [Pt.unm_prefix]; rfl)
  have HCT : Hid (∀ err w, RB w p l rv err → Calls Tryz.prog 113 #[.pointer (some ⟨p, 0, none⟩), .string ⟨(Pt.unm l).toArray⟩] w fun e w' => e = .returned (.bool true) ∧ RB w' p (l.drop (Pt.unm l).length) rv err ∧ Kept (Only p) w w') := Lib.hid (fun err w h => by
    have := rg_cut p l (Pt.unm l) rv err w h
    rwa [Pt.unm_prefix, ED.out] at this)
  have c0 := h.cell 0
  clear ha h hr ED
  by_cases hu : Pt.unm l = []
  · have hd : decide (Pt.unm l = []) = true := by simpa using hu
    have EN : Hid (l.drop (Pt.unm l).length = l) := Lib.hid (by rw [hu]; rfl)
    rw [EN.out, hd]
    rw [hu] at HU HN ⊢
    clear hd HCT EN hu
    generalize (parse []).1 = x at *
    generalize (parse []).2 = y at *
    by_cases h0 : err = 0
    · have HI := Lib.hid (show (if err = 0 then y else err) = y from if_pos h0)
      rw [HI.out]
      subst h0
      clear HI
      go_enter Tryz.func154, Tryz.ntmps154
      go_wp2_with (first | (go_at_call 178; refine (HU.out _).mono ?_; rintro e w1 ⟨rfl, k1⟩) | (go_at_call 179; refine (HN.out _ (HR.out.kept k1)).mono ?_; rintro e w2 ⟨rfl, k2⟩; (have b2 := HB.out.kept (k1.trans k2) (fun x => x)); (have d2 := b2.cell 2); (have f2 := b2.free 2); (have B2 := Lib.hid b2); clear b2))
      go_ret2
      exact ⟨rfl, B2.out.put 2 _, ((k1.trans k2).mono (fun _ x => x.elim)).trans (Kept.own w2 p 2 _)⟩
    · have HI := Lib.hid (show (if err = 0 then y else err) = err from if_neg h0)
      rw [HI.out]
      clear HI
      have h0i : ((err : Int) == 0) = false := by simp; omega
      go_enter Tryz.func154, Tryz.ntmps154
      go_wp2_with (first | (go_at_call 178; refine (HU.out _).mono ?_; rintro e w1 ⟨rfl, k1⟩) | (go_at_call 179; refine (HN.out _ (HR.out.kept k1)).mono ?_; rintro e w2 ⟨rfl, k2⟩; (have b2 := HB.out.kept (k1.trans k2) (fun x => x)); (have d2 := b2.cell 2); (have f2 := b2.free 2); (have B2 := Lib.hid b2); clear b2))
      go_ret2
      exact ⟨rfl, B2.out, (k1.trans k2).mono (fun _ x => x.elim)⟩
  · have hd : decide (Pt.unm l = []) = false := by simpa using hu
    rw [hd]
    clear hd
    generalize (parse (Pt.unm l)).1 = x at *
    generalize (parse (Pt.unm l)).2 = y at *
    generalize l.drop (Pt.unm l).length = r at *
    generalize Pt.unm l = u at *
    have hie : u.isEmpty = false := List.isEmpty_eq_false_iff.2 hu
    by_cases h0 : err = 0
    · have HI := Lib.hid (show (if err = 0 then y else err) = y from if_pos h0)
      rw [HI.out]
      subst h0
      clear HI
      go_enter Tryz.func154, Tryz.ntmps154
      go_wp2_with (first | (go_at_call 178; refine (HU.out _).mono ?_; rintro e w1 ⟨rfl, k1⟩) | (go_at_call 179; refine (HN.out _ (HR.out.kept k1)).mono ?_; rintro e w2 ⟨rfl, k2⟩; (have b2 := HB.out.kept (k1.trans k2) (fun x => x)); (have d2 := b2.cell 2); (have f2 := b2.free 2); (have B2 := Lib.hid b2); clear b2) | (go_at_call 113; refine (HCT.out y _ (by exact B2.out.put 2 _)).mono ?_; rintro e w3 ⟨rfl, b3, k3⟩))
      go_ret2
      exact ⟨rfl, b3, (((k1.trans k2).mono (fun _ x => x.elim)).trans (Kept.own w2 p 2 _)).trans k3⟩
    · have HI := Lib.hid (show (if err = 0 then y else err) = err from if_neg h0)
      rw [HI.out]
      clear HI
      have h0i : ((err : Int) == 0) = false := by simp; omega
      go_enter Tryz.func154, Tryz.ntmps154
      go_wp2_with (first | (go_at_call 178; refine (HU.out _).mono ?_; rintro e w1 ⟨rfl, k1⟩) | (go_at_call 179; refine (HN.out _ (HR.out.kept k1)).mono ?_; rintro e w2 ⟨rfl, k2⟩; (have b2 := HB.out.kept (k1.trans k2) (fun x => x)); (have d2 := b2.cell 2); (have f2 := b2.free 2); (have B2 := Lib.hid b2); clear b2) | (go_at_call 113; refine (HCT.out err _ (by exact B2.out)).mono ?_; rintro e w3 ⟨rfl, b3, k3⟩))
      go_ret2
      exact ⟨rfl, b3, ((k1.trans k2).mono (fun _ x => x.elim)).trans k3⟩

theorem rg_goesOn (p : Nat) (l s : List UInt8) (ha : Asc l) (hl : l.length ≤ 100000) (rv : Value) (err : Nat) (w : World) (h : RB w p l rv err) :
    Calls Tryz.prog 155 #[.pointer (some ⟨p, 0, none⟩), .string ⟨s.toArray⟩] w fun e w' => e = .returned (.bool (Lib.hasPrefix l s && !decide (Pt.unm (l.drop s.length) = []))) ∧
      RB w' p (if Lib.hasPrefix l s = true ∧ Pt.unm (l.drop s.length) ≠ [] then l.drop s.length else l) rv err ∧ Kept (Only p) w w' := by
  have HC := Lib.hid (fun w => cutP_any l s w)
  have HB := Lib.hid h
  have c0 := h.cell 0
  clear h
  cases hp : Lib.hasPrefix l s with
  | false =>
    have HI := Lib.hid (show (if false = true ∧ Pt.unm (l.drop s.length) ≠ [] then l.drop s.length else l) = l from if_neg (by simp))
    rw [hp] at HC
    rw [HI.out, Bool.false_and]
    clear hp HI
    generalize Lib.trimPrefix l s = r at *
    go_enter Tryz.func155, Tryz.ntmps155
    go_wp2_with (go_at_call 156; refine (HC.out _).mono ?_; rintro e w1 ⟨rfl, rfl⟩)
    go_ret
    exact ⟨rfl, HB.out, Kept.refl _ _⟩
  | true =>
    have et : Lib.trimPrefix l s = l.drop s.length := by unfold Lib.trimPrefix; rw [hp]; rfl
    have HU := Lib.hid (fun w => unm_any (l.drop s.length) (ha.drop _) (by rw [List.length_drop]; omega) w)
    have HCT := Lib.hid (fun w h => rg_cut p l s rv err w h)
    rw [hp] at HC HCT
    rw [et] at HC HCT
    by_cases hu : Pt.unm (l.drop s.length) = []
    · have HI := Lib.hid (show (if true = true ∧ Pt.unm (l.drop s.length) ≠ [] then l.drop s.length else l) = l from if_neg (fun x => x.2 hu))
      have hd : decide (Pt.unm (l.drop s.length) = []) = true := by simpa using hu
      rw [HI.out, hd]
      rw [hu] at HU
      clear hp HI hd hu et HCT
      generalize l.drop s.length = r at *
      go_enter Tryz.func155, Tryz.ntmps155
      go_wp2_with (first | (go_at_call 156; refine (HC.out _).mono ?_; rintro e w1 ⟨rfl, rfl⟩) | (go_at_call 178; refine (HU.out _).mono ?_; rintro e w2 ⟨rfl, k2⟩))
      go_ret
      exact ⟨rfl, HB.out.kept k2 (fun x => x), k2.mono (fun _ x => x.elim)⟩
    · have HI := Lib.hid (show (if true = true ∧ Pt.unm (l.drop s.length) ≠ [] then l.drop s.length else l) = l.drop s.length from if_pos ⟨rfl, hu⟩)
      have hd : decide (Pt.unm (l.drop s.length) = []) = false := by simpa using hu
      rw [HI.out, hd]
      clear hp HI hd et
      generalize l.drop s.length = r at *
      generalize Pt.unm r = u at *
      have hie : u.isEmpty = false := List.isEmpty_eq_false_iff.2 hu
      go_enter Tryz.func155, Tryz.ntmps155
      go_wp2_with (first | (go_at_call 156; refine (HC.out _).mono ?_; rintro e w1 ⟨rfl, rfl⟩) | (go_at_call 178; refine (HU.out _).mono ?_; rintro e w2 ⟨rfl, k2⟩) | (go_at_call 113; refine (HCT.out _ (by exact HB.out.kept k2 (fun x => x))).mono ?_; rintro e w3 ⟨rfl, b3, k3⟩))
      go_ret
      exact ⟨rfl, b3, (k2.mono (fun _ x => x.elim)).trans k3⟩

theorem gap_any (k m : Nat) (hk : k < 256) (hm : m < 256) (w : World) : Calls Tryz.prog 53 #[.int .u8 (k : Int), .int .u8 (m : Int)] w fun e w' => e = .returned (.string ⟨(Pt.gap k m).toArray⟩) ∧ w = w' := by
  by_cases h : k = 2 ∧ m = 2
  · have HG : Hid (Pt.gap k m = [32, 124, 32]) := Lib.hid (if_pos h)
    obtain ⟨rfl, rfl⟩ := h
    rw [HG.out]
    go_enter Tryz.func53, Tryz.ntmps53
    go_wp2
    go_ret
    exact ⟨rfl, rfl⟩
  · have HG : Hid (Pt.gap k m = [32]) := Lib.hid (if_neg h)
    rw [HG.out]
    by_cases hk2 : k = 2
    · have hm2 : ((m : Int) == 2) = false := by simp; omega
      subst hk2
      clear h
      go_enter Tryz.func53, Tryz.ntmps53
      go_wp2
      go_ret
      exact ⟨rfl, rfl⟩
    · have hk3 : ((k : Int) == 2) = false := by simp; omega
      clear h hk2
      go_enter Tryz.func53, Tryz.ntmps53
      go_wp2
      go_ret
      exact ⟨rfl, rfl⟩
end Go.Proofs.YtdeblmolgmadiaaGreatDoor
