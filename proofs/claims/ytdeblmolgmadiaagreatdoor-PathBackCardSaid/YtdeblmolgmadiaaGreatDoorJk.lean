
/-
  Paths' texts, read: the table of brackets; kindOf; a segment.
-/
import Derived.Test.YtdeblmolgmadiaaGreatDoorJj
namespace Go.Proofs.YtdeblmolgmadiaaGreatDoor
open Go.RowKit

def str (l : List UInt8) : Value := .string ⟨l.toArray⟩
/-- The table of brackets. -/
def bkc : Array Value := #[.string ⟨#[]⟩, .string ⟨#[]⟩, .string ⟨#[]⟩, .string ⟨#[123]⟩, .string ⟨#[44]⟩, .string ⟨#[125]⟩, .string ⟨#[]⟩, .string ⟨#[32]⟩, .string ⟨#[]⟩, .string ⟨#[40]⟩, .string ⟨#[32]⟩, .string ⟨#[41]⟩, .string ⟨#[91]⟩, .string ⟨#[44]⟩, .string ⟨#[93]⟩]
/-- The table is there. -/
def Bkt (w : World) : Prop := ∃ t fr, w.heap[1]? = some (.cells bkc t fr)
theorem Bkt.kept {w w' : World} (h : Bkt w) (k : Kept Nothing w w') : Bkt w' := by
  obtain ⟨t, fr, h⟩ := h
  exact ⟨t, fr, (k.block _ (Array.getElem?_eq_some_iff.1 h).1 (fun x => x)).trans h⟩
theorem Bkt.cell {w : World} (h : Bkt w) (i : Nat) : w.cell? ⟨1, i, none⟩ = bkc[i]? := by
  obtain ⟨t, fr, h⟩ := h
  exact cell_of_row w _ i bkc t fr h
theorem bk_at (k : Nat) (hk : k < 5) (w : World) : (Instr.index 175 (.agg bkc) (.int .i64 (k : Int))).run Tryz.prog w = .ok (.agg #[str (Pt.opens k), str (Pt.betw k), str (Pt.ends k)]) w := by
  obtain rfl | rfl | rfl | rfl | rfl : k = 0 ∨ k = 1 ∨ k = 2 ∨ k = 3 ∨ k = 4 := by omega
  all_goals kernel_rfl
theorem bk_cells (k : Nat) (hk : k < 5) : bkc[k * 3]? = some (str (Pt.opens k)) ∧ bkc[k * 3 + 1]? = some (str (Pt.betw k)) ∧ bkc[k * 3 + 2]? = some (str (Pt.ends k)) := by
  obtain rfl | rfl | rfl | rfl | rfl : k = 0 ∨ k = 1 ∨ k = 2 ∨ k = 3 ∨ k = 4 := by omega
  all_goals exact ⟨rfl, rfl, rfl⟩

namespace Pt
def mt (l : List UInt8) (k : Nat) : Bool := !(opens k).isEmpty && Lib.hasPrefix l (opens k)
theorem mt_one (c d : UInt8) (l : List UInt8) : Lib.hasPrefix (c :: l) [d] = (d == c) := by simp [Lib.hasPrefix, List.isPrefixOf]
theorem kind_hit (l : List UInt8) (k : Nat) (hk : k < 5) (hm : mt l k = true) : kindOf l = k := by
  obtain rfl | rfl | rfl | rfl | rfl : k = 0 ∨ k = 1 ∨ k = 2 ∨ k = 3 ∨ k = 4 := by omega
  all_goals cases l with
    | nil => simp [mt, opens, Lib.hasPrefix] at hm
    | cons c l =>
      simp [mt, opens, mt_one] at hm
      try (subst hm; rfl)
theorem kindOf_cons (c : UInt8) (l : List UInt8) : kindOf (c :: l) = if c = 123 then 1 else if c = 40 then 3 else if c = 91 then 4 else 2 := rfl
theorem kind_miss (l : List UInt8) (h : ∀ j, j < 5 → mt l j = false) : kindOf l = 2 := by
  cases l with
  | nil => rfl
  | cons c l =>
    have h1 := h 1 (by omega)
    have h3 := h 3 (by omega)
    have h4 := h 4 (by omega)
    simp [mt, opens, mt_one] at h1 h3 h4
    rw [kindOf_cons, if_neg (fun e => h1 e.symm), if_neg (fun e => h3 e.symm), if_neg (fun e => h4 e.symm)]
theorem kind_open (l : List UInt8) : Lib.hasPrefix l (opens (kindOf l)) = true ∧ 1 ≤ kindOf l ∧ kindOf l ≤ 4 := by
  cases l with
  | nil => exact ⟨rfl, by decide, by decide⟩
  | cons c l =>
    rw [kindOf_cons]
    by_cases h1 : c = 123
    · subst h1; rw [if_pos rfl]; exact ⟨by simp [opens, mt_one], by decide, by decide⟩
    · rw [if_neg h1]
      by_cases h3 : c = 40
      · subst h3; rw [if_pos rfl]; exact ⟨by simp [opens, mt_one], by decide, by decide⟩
      · rw [if_neg h3]
        by_cases h4 : c = 91
        · subst h4; rw [if_pos rfl]; exact ⟨by simp [opens, mt_one], by decide, by decide⟩
        · rw [if_neg h4]; exact ⟨rfl, by decide, by decide⟩
end Pt

set_option maxHeartbeats 1600000 in
theorem kindOf_any (l : List UInt8) (w : World) (hs : Bkt w) :
    Calls Tryz.prog 111 #[.string ⟨l.toArray⟩] w fun e w' => e = .returned (.int .u8 (Pt.kindOf l : Int)) ∧ Kept Nothing w w' := by
  obtain ⟨tt, fr, hg⟩ := hs
  go_enter Tryz.func111, Tryz.ntmps111
  go_wp2_with (refine wpList_load_row rfl 175 _ rfl 1 rfl tt _ fr _ hg Tryz.underlying175 rfl (by kernel_rfl) ?_)
  clear hg
  go_loopw [6] (fun i wr => ∃ k : Nat, i = .int .i64 (k : Int) ∧ k ≤ 5 ∧ Hid (∀ j, j < k → Pt.mt l j = false) ∧ Kept Nothing w wr) (fun i _ => 5 - (intOf i).toNat)
  case atStart => exact ⟨0, rfl, by omega, Lib.hid (fun j hj => absurd hj (Nat.not_lt_zero _)), Kept.refl _ _⟩
  case round =>
    obtain ⟨k, rfl, hk, HM, hkk⟩ := hrel
    have KK := Lib.hid hkk
    clear hkk
    by_cases hlt : k < 5
    · have EN : Hid (Pt.mt l k = false → ∀ j, j < k + 1 → Pt.mt l j = false) := Lib.hid (fun e j hj => by
        by_cases hjk : j = k
        · subst hjk; exact e
        · exact HM.out j (by omega))
      have EH : Hid (Pt.mt l k = true → Pt.kindOf l = k) := Lib.hid (fun e => Pt.kind_hit l k hlt e)
      have HA := bk_at k hlt
      clear HM
      obtain rfl | rfl | rfl | rfl | rfl : k = 0 ∨ k = 1 ∨ k = 2 ∨ k = 3 ∨ k = 4 := by omega
      · have HA1 : ∀ w, (Instr.index 175 (.agg bkc) (.int .i64 0)).run Tryz.prog w = .ok (.agg #[.string ⟨#[]⟩, .string ⟨#[]⟩, .string ⟨#[]⟩]) w := HA
        clear HA
        have HN := Lib.hid (EN.out rfl)
        clear EN EH
        go_wp2
        go_roundw
        case rel => exact ⟨1, by go_num, by omega, HN, KK.out.alloc _⟩
        case measure => simp [intOf]
      · have HA1 : ∀ w, (Instr.index 175 (.agg bkc) (.int .i64 1)).run Tryz.prog w = .ok (.agg #[.string ⟨#[123]⟩, .string ⟨#[44]⟩, .string ⟨#[125]⟩]) w := HA
        clear HA
        have HH := Lib.hid (fun w => hasP_any l [123] w)
        have EM : Pt.mt l 1 = Lib.hasPrefix l [123] := rfl
        rw [EM] at EN EH
        clear EM
        generalize Lib.hasPrefix l [123] = hb at *
        cases hb with
        | true =>
          have HE := Lib.hid (EH.out rfl)
          clear EN EH
          go_wp2_with (go_at_call 153; refine (HH.out _).mono ?_; rintro e w2 ⟨rfl, rfl⟩)
          go_ret
          exact ⟨by rw [HE.out]; rfl, KK.out.alloc _⟩
        | false =>
          have HN := Lib.hid (EN.out rfl)
          clear EN EH
          go_wp2_with (go_at_call 153; refine (HH.out _).mono ?_; rintro e w2 ⟨rfl, rfl⟩)
          go_roundw
          case rel => exact ⟨2, by go_num, by omega, HN, KK.out.alloc _⟩
          case measure => simp [intOf]
      · have HA1 : ∀ w, (Instr.index 175 (.agg bkc) (.int .i64 2)).run Tryz.prog w = .ok (.agg #[.string ⟨#[]⟩, .string ⟨#[32]⟩, .string ⟨#[]⟩]) w := HA
        clear HA
        have HN := Lib.hid (EN.out rfl)
        clear EN EH
        go_wp2
        go_roundw
        case rel => exact ⟨3, by go_num, by omega, HN, KK.out.alloc _⟩
        case measure => simp [intOf]
      · have HA1 : ∀ w, (Instr.index 175 (.agg bkc) (.int .i64 3)).run Tryz.prog w = .ok (.agg #[.string ⟨#[40]⟩, .string ⟨#[32]⟩, .string ⟨#[41]⟩]) w := HA
        clear HA
        have HH := Lib.hid (fun w => hasP_any l [40] w)
        have EM : Pt.mt l 3 = Lib.hasPrefix l [40] := rfl
        rw [EM] at EN EH
        clear EM
        generalize Lib.hasPrefix l [40] = hb at *
        cases hb with
        | true =>
          have HE := Lib.hid (EH.out rfl)
          clear EN EH
          go_wp2_with (go_at_call 153; refine (HH.out _).mono ?_; rintro e w2 ⟨rfl, rfl⟩)
          go_ret
          exact ⟨by rw [HE.out]; rfl, KK.out.alloc _⟩
        | false =>
          have HN := Lib.hid (EN.out rfl)
          clear EN EH
          go_wp2_with (go_at_call 153; refine (HH.out _).mono ?_; rintro e w2 ⟨rfl, rfl⟩)
          go_roundw
          case rel => exact ⟨4, by go_num, by omega, HN, KK.out.alloc _⟩
          case measure => simp [intOf]
      · have HA1 : ∀ w, (Instr.index 175 (.agg bkc) (.int .i64 4)).run Tryz.prog w = .ok (.agg #[.string ⟨#[91]⟩, .string ⟨#[44]⟩, .string ⟨#[93]⟩]) w := HA
        clear HA
        have HH := Lib.hid (fun w => hasP_any l [91] w)
        have EM : Pt.mt l 4 = Lib.hasPrefix l [91] := rfl
        rw [EM] at EN EH
        clear EM
        generalize Lib.hasPrefix l [91] = hb at *
        cases hb with
        | true =>
          have HE := Lib.hid (EH.out rfl)
          clear EN EH
          go_wp2_with (go_at_call 153; refine (HH.out _).mono ?_; rintro e w2 ⟨rfl, rfl⟩)
          go_ret
          exact ⟨by rw [HE.out]; rfl, KK.out.alloc _⟩
        | false =>
          have HN := Lib.hid (EN.out rfl)
          clear EN EH
          go_wp2_with (go_at_call 153; refine (HH.out _).mono ?_; rintro e w2 ⟨rfl, rfl⟩)
          go_roundw
          case rel => exact ⟨5, by go_num, by omega, HN, KK.out.alloc _⟩
          case measure => simp [intOf]
    · obtain rfl : k = 5 := by omega
      have HE := Lib.hid (Pt.kind_miss l HM.out)
      go_wp2
      go_ret
      exact ⟨by rw [HE.out]; rfl, KK.out⟩
end Go.Proofs.YtdeblmolgmadiaaGreatDoor
