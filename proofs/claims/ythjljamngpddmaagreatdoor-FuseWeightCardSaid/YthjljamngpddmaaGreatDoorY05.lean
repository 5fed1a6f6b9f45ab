
/-
  Numbers told: strconv.FormatUint at base 10, Text, Dotted, Wide, Short.
-/
import Derived.Test.YthjljamngpddmaaGreatDoorY03
import Derived.Test.YthjljamngpddmaaGreatDoorShelf
import Derived.Lib.SmallJoins
import Derived.IntWalk
import Derived.Test.YthjljamngpddmaaGreatDoorY01
import Derived.Lib.AppendIntMem
import Derived.Laws.Concat
namespace Go.Proofs.YthjljamngpddmaaGreatDoor
open Go.RowKit

/-- What the calls of Go's library need of the world: strconv's table. -/
def Rdy (w : World) : Prop := Lib.TabIs Tryz.prog w "internal/strconv.uint64pow10" .u64 Lib.pow10Tab

/-- The byte of an address. -/
def oct (x k : Nat) : Nat := x / 2 ^ (8 * (3 - k)) % 256
/-- Joined so far. -/
def jn (a b c d : Nat) : Nat → Nat
  | 0 => 0
  | 1 => a
  | 2 => a * 256 + b
  | 3 => (a * 256 + b) * 256 + c
  | _ => ((a * 256 + b) * 256 + c) * 256 + d
theorem or_byte (p b : Nat) (hp : p < 16777216) (hb : b < 256) : bits .or .u32 ((p : Int) * 256 % 4294967296) (b : Int) = ((p * 256 + b : Nat) : Int) := by
  have e : (p : Int) * 256 % 4294967296 = ((p * 256 : Nat) : Int) := by omega
  rw [e, u32_or_nat _ _ (by omega) (by omega), nat_join 8 _ _ (by omega) (by omega)]
theorem Rdy.kept {w w' : World} (h : Rdy w) (k : Kept Nothing w w') : Rdy w' :=
  Joins.tab_stays (g := 1) (by kernel_rfl) h (B := w.heap.size) ⟨k.os, k.tape, k.output, k.size, fun i hi => k.block i hi (fun x => x)⟩ (Nat.le_refl _)
theorem kept_grow (w : World) (k : Nat) (os : Array Obj) : Kept Nothing w (Go.Sort.grow (w.drewN k) os) :=
  ⟨rfl, rfl, rfl, by simp [Go.Sort.grow, World.drewN], fun i hi _ => by simp [Go.Sort.grow, World.drewN, Array.getElem?_append_left hi]⟩
theorem itoa_any (n : Nat) (hn : n < 4294967296) (w : World) (h : Rdy w) :
    Calls Tryz.prog 151 #[.int .i64 (n : Int)] w fun e w' => e = .returned (.string ⟨(Lib.decDigits n).toArray⟩) ∧ Kept Nothing w w' :=
  (Tryz.strconv_Itoa (n : Int) (by omega) (by omega) w h).mono fun e w' ⟨he, k, os, hw⟩ => by
    refine ⟨?_, by rw [hw]; exact kept_grow w k os⟩
    rw [he]
    unfold Lib.itoa
    rw [if_neg (by omega), Int.toNat_natCast]

/-- The digits of a number below 1000. -/
def dd (n : Nat) : List UInt8 := if n < 10 then [UInt8.ofNat (48 + n)] else if n < 100 then [UInt8.ofNat (48 + n / 10), UInt8.ofNat (48 + n % 10)] else [UInt8.ofNat (48 + n / 100), UInt8.ofNat (48 + n / 10 % 10), UInt8.ofNat (48 + n % 10)]
theorem dd_eq (n : Nat) (h : n < 1000) : Lib.decDigits n = dd n := by
  unfold dd
  by_cases h1 : n < 10
  · rw [if_pos h1, Lib.decDigits_one h1]
  · by_cases h2 : n < 100
    · rw [if_neg h1, if_pos h2, Lib.decDigits_two h1 h2]
    · rw [if_neg h1, if_neg h2, Lib.decDigits, dif_neg h1, Lib.decDigits_two (by omega) (by omega), Nat.div_div_eq_div_mul]
      rfl
theorem dd_len (n : Nat) : (dd n).length ≤ 3 := by unfold dd; split; simp; split; simp; simp
/-- An address's text (call 79). -/
def ipText (x : Nat) : List UInt8 := Lib.join [Lib.decDigits (oct x 0), Lib.decDigits (oct x 1), Lib.decDigits (oct x 2), Lib.decDigits (oct x 3)] [46]
theorem ipText_len (x : Nat) : (ipText x).length ≤ 15 := by
  have e0 := dd_len (oct x 0)
  have e1 := dd_len (oct x 1)
  have e2 := dd_len (oct x 2)
  have e3 := dd_len (oct x 3)
  have h : ∀ k, oct x k < 1000 := fun k => by unfold oct; omega
  unfold ipText
  rw [dd_eq _ (h 0), dd_eq _ (h 1), dd_eq _ (h 2), dd_eq _ (h 3)]
  simp [Lib.join, List.intercalate]
  omega
def bstr (l : List UInt8) : Value := .string ⟨l.toArray⟩
/-- The first k texts. -/
def txs (x : Nat) : Nat → Array Value
  | 0 => #[bstr [], bstr [], bstr [], bstr []]
  | 1 => #[bstr (Lib.decDigits (oct x 0)), bstr [], bstr [], bstr []]
  | 2 => #[bstr (Lib.decDigits (oct x 0)), bstr (Lib.decDigits (oct x 1)), bstr [], bstr []]
  | 3 => #[bstr (Lib.decDigits (oct x 0)), bstr (Lib.decDigits (oct x 1)), bstr (Lib.decDigits (oct x 2)), bstr []]
  | _ => #[bstr (Lib.decDigits (oct x 0)), bstr (Lib.decDigits (oct x 1)), bstr (Lib.decDigits (oct x 2)), bstr (Lib.decDigits (oct x 3))]
theorem oct_lt (x k : Nat) : oct x k < 256 := by unfold oct; omega
end Go.Proofs.YthjljamngpddmaaGreatDoor
namespace Go.Proofs.YthjljamngpddmaaGreatDoor
open Go.RowKit

def isD (c : UInt8) : Bool := decide (48 ≤ c.toNat) && decide (c.toNat ≤ 57)
def numV (l : List UInt8) : Nat := l.foldl (fun n c => n * 10 + (c.toNat - 48)) 0
def numOk (l : List UInt8) : Bool := decide (0 < l.length) && decide (l.length ≤ 10) && !(decide (l.getD 0 0 = 48) && decide (1 < l.length)) && l.all isD
/-- The number that the digits tell, if they are one. -/
def num (l : List UInt8) : Option Nat := if numOk l = true then some (numV l) else none

theorem numV_snoc (l : List UInt8) (c : UInt8) : numV (l ++ [c]) = numV l * 10 + (c.toNat - 48) := by unfold numV; rw [List.foldl_append]; rfl
theorem numV_from : ∀ (l : List UInt8) (n : Nat), l.all isD = true → l.foldl (fun n c => n * 10 + (c.toNat - 48)) n < (n + 1) * 10 ^ l.length
  | [], n, _ => by simp
  | c :: l, n, h => by
    rw [List.all_cons, Bool.and_eq_true] at h
    have h1 := numV_from l (n * 10 + (c.toNat - 48)) h.2
    have h2 : c.toNat ≤ 57 := by have := h.1; simp [isD] at this; exact this.2
    have h3 : (n * 10 + (c.toNat - 48) + 1) * 10 ^ l.length ≤ (n + 1) * 10 * 10 ^ l.length := Nat.mul_le_mul_right _ (by omega)
    rw [List.length_cons, Nat.pow_succ, Nat.mul_comm (10 ^ l.length) 10, ← Nat.mul_assoc]
    exact Nat.lt_of_lt_of_le h1 h3
theorem numV_lt (l : List UInt8) (h : l.all isD = true) : numV l < 10 ^ l.length := by
  have := numV_from l 0 h
  unfold numV
  simpa using this
theorem take_snoc (s : ByteArray) (k : Nat) (h : k < s.size) : s.data.toList.take (k + 1) = s.data.toList.take k ++ [s[k]] := by
  rw [List.take_succ_eq_append_getElem (by simpa using h)]; rfl

theorem num_bad (s : ByteArray) (k : Nat) (hk : k < s.size) (h : s[k].toNat < 48 ∨ 57 < s[k].toNat) : num s.data.toList = none := by
  unfold num
  rw [if_neg]
  intro ho
  unfold numOk at ho
  simp only [Bool.and_eq_true] at ho
  have hm : s[k] ∈ s.data.toList := by
    have e : s[k] = s.data.toList[k]'(by simpa using hk) := rfl
    rw [e]
    exact List.getElem_mem _
  have := List.all_eq_true.1 ho.2 s[k] hm
  simp [isD] at this
  omega
theorem num_short (s : ByteArray) (h : s.size = 0 ∨ 10 < s.size) : num s.data.toList = none := by
  unfold num
  rw [if_neg]
  intro ho
  unfold numOk at ho
  simp at ho
  omega
theorem num_nought (s : ByteArray) (h1 : 1 < s.size) (h : s[0].toNat = 48) : num s.data.toList = none := by
  unfold num
  rw [if_neg]
  intro ho
  unfold numOk at ho
  have h2 : s.data.toList.getD 0 0 = s[0] := by rw [List.getD_eq_getElem?_getD, List.getElem?_eq_getElem (by simpa using (by omega : 0 < s.size))]; rfl
  rw [h2] at ho
  have h3 : s[0] = 48 := UInt8.toNat_inj.1 (by rw [h]; rfl)
  simp [h3] at ho
  omega
theorem num_good (s : ByteArray) (h0 : 0 < s.size) (h1 : s.size ≤ 10) (h2 : s[0].toNat ≠ 48 ∨ s.size ≤ 1) (h : s.data.toList.all isD = true) : num s.data.toList = some (numV s.data.toList) := by
  unfold num
  rw [if_pos]
  unfold numOk
  have h3 : s.data.toList.getD 0 0 = s[0] := by rw [List.getD_eq_getElem?_getD, List.getElem?_eq_getElem (by simpa using h0)]; rfl
  have h4 : s.data.toList.length = s.size := by simp
  rw [h3, h4, h]
  have h5 : (decide (s[0] = 48) && decide (1 < s.size)) = false := by
    rcases h2 with h2 | h2
    · have : s[0] ≠ 48 := fun e => h2 (by rw [e]; rfl)
      simp [this]
    · simp; omega
  rw [h5]
  simp [h0, h1]
end Go.Proofs.YthjljamngpddmaaGreatDoor
namespace Go.Proofs.YthjljamngpddmaaGreatDoor
open Go.RowKit

/-- What stands ahead of the first sign c, and what behind it. -/
def cutAt (c : UInt8) : List UInt8 → List UInt8 × List UInt8
  | [] => ([], [])
  | b :: l => if b = c then ([], l) else (b :: (cutAt c l).1, (cutAt c l).2)
theorem cut_index (c : UInt8) : ∀ l : List UInt8, (l = (cutAt c l).1 ++ c :: (cutAt c l).2 ∧ Lib.indexByte l c = ((cutAt c l).1.length : Int)) ∨ (cutAt c l = (l, []) ∧ Lib.indexByte l c = -1)
  | [] => .inr ⟨rfl, rfl⟩
  | b :: l => by
    unfold Lib.indexByte cutAt
    by_cases hb : b = c
    · subst hb
      exact .inl ⟨by simp, by simp⟩
    · have h1 : (b == c) = false := by simpa using hb
      rw [h1, if_neg hb]
      rcases cut_index c l with ⟨hm, hi⟩ | ⟨hm, hi⟩
      · refine .inl ⟨by simp only [List.cons_append]; rw [← hm], ?_⟩
        rw [hi]
        have : (((cutAt c l).1.length : Int) == -1) = false := beq_eq_false_iff_ne.2 (by omega)
        simp only [Bool.false_eq_true, if_false, this, List.length_cons]
        omega
      · refine .inr ⟨by rw [hm], ?_⟩
        rw [hi]
        rfl
theorem cut_len (c : UInt8) (l : List UInt8) : (cutAt c l).1.length ≤ l.length ∧ (cutAt c l).2.length ≤ l.length := by
  rcases cut_index c l with ⟨hm, _⟩ | ⟨hm, _⟩
  · have := congrArg List.length hm
    simp only [List.length_append, List.length_cons] at this
    omega
  · rw [hm]; simp
def cutB (c : UInt8) (l : List UInt8) : Bool := decide (0 ≤ Lib.indexByte l c)
theorem ext_lo (l : List UInt8) (i : Nat) : (⟨l.toArray⟩ : ByteArray).extract 0 i = ⟨(l.take i).toArray⟩ := by
  apply ByteArray.ext
  rw [ByteArray.data_extract]
  simp
theorem ext_hi (l : List UInt8) (i : Nat) : (⟨l.toArray⟩ : ByteArray).extract i l.length = ⟨(l.drop i).toArray⟩ := by
  apply ByteArray.ext
  rw [ByteArray.data_extract]
  simp
  exact List.take_of_length_le (by simp)
theorem take_cut {l t d : List UInt8} {c : UInt8} (h : l = t ++ c :: d) : l.take t.length = t ∧ l.drop (t.length + 1) = d := by
  subst h
  exact ⟨List.take_left .., by rw [← List.drop_drop, List.drop_left]; rfl⟩
theorem cutl_any (c : UInt8) (l : List UInt8) (hl : l.length ≤ 100000) (w : World) :
    Calls Tryz.prog 128 #[.string ⟨l.toArray⟩, .string ⟨#[c]⟩] w fun e w' => e = .returned (.tuple #[.string ⟨(cutAt c l).1.toArray⟩, .string ⟨(cutAt c l).2.toArray⟩, .bool (cutB c l)]) ∧ Kept Nothing w w' := by
  have HI := Tryz.stringslite_Index_one ⟨l.toArray⟩ c
  have e0 : (⟨l.toArray⟩ : ByteArray).data.toList = l := rfl
  rw [e0] at HI
  rcases cut_index c l with ⟨hm, hi⟩ | ⟨hm, hi⟩
  · have hB := Lib.hid (show cutB c l = true by unfold cutB; rw [hi]; simp)
    have hlen : (cutAt c l).1.length + 1 ≤ l.length := by have := congrArg List.length hm; simp at this; omega
    have HT := Lib.hid (take_cut hm)
    rw [hi] at HI
    clear hm hi e0
    have HI := Lib.hid HI
    generalize (cutAt c l).1.length = n at HI hlen HT
    have h0 : (0 : Int) ≤ (n : Int) := by omega
    have h1 : (n : Int) ≤ (l.length : Int) := by omega
    have h2 : (n : Int) + 1 ≤ (l.length : Int) := by omega
    have hw : IntKind.i64.wrap ((n : Int) + 1) = (n : Int) + 1 := IntWalk.i64_in _ (by omega)
    go_enter Tryz.func128, Tryz.ntmps128
    go_wp2_with (go_at_call 136; refine (HI.out _).mono ?_; rintro e w' ⟨rfl, rfl⟩)
    go_quiet (fail)
    go_wp2
    rw [ext_lo, ext_hi, HT.out.1, HT.out.2]
    go_ret3
    exact ⟨by rw [hB.out]; rfl, (Kept.refl _ _).drewN _⟩
  · have hB := Lib.hid (show cutB c l = false by unfold cutB; rw [hi]; rfl)
    rw [hi] at HI
    have HI := Lib.hid HI
    have HM := Lib.hid hm
    clear hm hi e0
    rw [HM.out, hB.out]
    go_enter Tryz.func128, Tryz.ntmps128
    go_wp2_with (go_at_call 136; refine (HI.out _).mono ?_; rintro e w' ⟨rfl, rfl⟩)
    go_ret3
    exact ⟨rfl, Kept.refl _ _⟩
theorem cut_any (c : UInt8) (l : List UInt8) (hl : l.length ≤ 100000) (w : World) :
    Calls Tryz.prog 115 #[.string ⟨l.toArray⟩, .string ⟨#[c]⟩] w fun e w' => e = .returned (.tuple #[.string ⟨(cutAt c l).1.toArray⟩, .string ⟨(cutAt c l).2.toArray⟩, .bool (cutB c l)]) ∧ Kept Nothing w w' := by
  have HI := Lib.hid (cutl_any c l hl)
  go_enter Tryz.func115, Tryz.ntmps115
  go_wp2_with (go_at_call 128; refine (HI.out _).mono ?_; rintro e w1 ⟨rfl, hk⟩)
  go_ret3
  exact ⟨rfl, hk⟩

/-- What is left of the text behind k fields. -/
def rst (l : List UInt8) : Nat → List UInt8
  | 0 => l
  | k + 1 => (cutAt 46 (rst l k)).2
/-- Field number k of the first three. -/
def fld (l : List UInt8) (k : Nat) : List UInt8 := (cutAt 46 (rst l k)).1
theorem rst_len (l : List UInt8) : ∀ k, (rst l k).length ≤ l.length
  | 0 => Nat.le_refl _
  | k + 1 => Nat.le_trans (cut_len 46 _).2 (rst_len l k)
def fls (l : List UInt8) : Nat → Array Value
  | 0 => #[bstr [], bstr [], bstr [], bstr []]
  | 1 => #[bstr (fld l 0), bstr [], bstr [], bstr []]
  | 2 => #[bstr (fld l 0), bstr (fld l 1), bstr [], bstr []]
  | 3 => #[bstr (fld l 0), bstr (fld l 1), bstr (fld l 2), bstr []]
  | _ => #[bstr (fld l 0), bstr (fld l 1), bstr (fld l 2), bstr (rst l 3)]

end Go.Proofs.YthjljamngpddmaaGreatDoor
namespace Go.Proofs.YthjljamngpddmaaGreatDoor
open Go.RowKit Go.Sort

/-- What the calls of strconv need of the world: its table, and what ErrSyntax holds. -/
def Rdy2 (w : World) : Prop := Rdy w ∧ ∃ tp p, w.cell? ⟨5, 0, none⟩ = some (.iface tp p)
theorem Rdy2.kept {w w' : World} (h : Rdy2 w) (k : Kept Nothing w w') : Rdy2 w' := by
  obtain ⟨h1, tp, p, h2⟩ := h
  exact ⟨h1.kept k, tp, p, k.cell_some h2 (fun x => x)⟩

theorem pum : ∀ (l : List UInt8) (acc : Nat), (acc + 1) * 10 ^ l.length ≤ 10000000000 →
    Lib.parseUintM 18446744073709551615 acc l = if l.all isD = true then .ok (l.foldl (fun n c => n * 10 + (c.toNat - 48)) acc) else .syntax
  | [], acc, _ => by simp [Lib.parseUintM]
  | c :: l, acc, h => by
    rw [List.length_cons, Nat.pow_succ, Nat.mul_comm (10 ^ l.length) 10, ← Nat.mul_assoc] at h
    have h1 : (acc + 1) * 10 ≤ 10000000000 := Nat.le_trans (Nat.le_mul_of_pos_right _ (Nat.pow_pos (by omega))) h
    unfold Lib.parseUintM
    by_cases hd : 48 ≤ c.toNat ∧ c.toNat ≤ 57
    · have hD : isD c = true := by simp [isD, hd.1, hd.2]
      rw [if_pos hd, if_neg (by omega), if_neg (by omega), pum l _ (Nat.le_trans (Nat.mul_le_mul_right _ (by omega)) h)]
      simp [hD]
    · have hD : isD c = false := by simp only [isD, Bool.and_eq_false_iff, decide_eq_false_iff_not]; omega
      rw [if_neg hd]
      simp [hD]
theorem pub_num (l : List UInt8) (h10 : l.length ≤ 10) (hz : ¬ (1 < l.length ∧ l.getD 0 0 = 48)) :
    Lib.parseUintB 64 l = match num l with | some v => .ok v | none => .syntax := by
  unfold Lib.parseUintB
  by_cases h0 : l = []
  · subst h0; rfl
  · rw [if_neg h0]
    have e : (2 : Nat) ^ 64 - 1 = 18446744073709551615 := by decide
    rw [e, pum l 0 (by simpa using Nat.pow_le_pow_right (n := 10) (by omega) h10)]
    have hl : 0 < l.length := List.length_pos_iff.2 h0
    have ho : numOk l = l.all isD := by
      unfold numOk
      have h2 : (decide (l.getD 0 0 = 48) && decide (1 < l.length)) = false := by
        simp only [Bool.and_eq_false_iff, decide_eq_false_iff_not]
        by_cases h1 : 1 < l.length
        · exact .inl (fun e => hz ⟨h1, e⟩)
        · exact .inr h1
      rw [h2]
      simp [hl, h10]
    unfold num
    rw [ho]
    cases h : l.all isD
    · simp
    · simp [numV]
theorem pu_kept {w w' : World} {s : ByteArray} (h : w' = w ∨ w' = Lib.bytesWorld w 5 s) : Kept Nothing w w' := by
  rcases h with rfl | rfl
  · exact Kept.refl _ _
  · exact grows (Lib.bytesWorld_below _ _ _)
theorem row_any (s : ByteArray) (hs : s.size ≤ 100000) (w : World) (hr : Rdy2 w) :
    Calls Tryz.prog 117 #[.string s] w fun e w' => e = .returned (.tuple #[.int .u64 ((num s.data.toList).getD 0 : Nat), .bool (num s.data.toList).isSome]) ∧ Kept Nothing w w' := by
  by_cases h10 : 10 < s.size
  · have hN := Lib.hid (num_short s (.inr h10))
    have hi : (10 : Int) < (s.size : Int) := by omega
    go_enter Tryz.func117, Tryz.ntmps117
    go_wp2
    go_ret2
    exact ⟨by rw [hN.out]; rfl, Kept.refl _ _⟩
  have hle : (s.size : Int) ≤ 10 := by omega
  have hparts : (∃ h : 1 < s.size, s[0].toNat = 48) ∨ s.size ≤ 1 ∨ (∃ h : 1 < s.size, s[0].toNat ≠ 48) := by
    by_cases h1 : 1 < s.size
    · by_cases h : s[0].toNat = 48
      · exact .inl ⟨h1, h⟩
      · exact .inr (.inr ⟨h1, h⟩)
    · exact .inr (.inl (by omega))
  rcases hparts with ⟨h1, hc⟩ | hparts
  · have hN := Lib.hid (num_nought s h1 hc)
    have hi : (1 : Int) < (s.size : Int) := by omega
    have hpos : 0 < s.size := by omega
    have hz : ((s[0].toNat : Int) == 48) = true := by simp [hc]
    clear hc
    go_enter Tryz.func117, Tryz.ntmps117
    go_wp2
    go_ret2
    exact ⟨by rw [hN.out]; rfl, Kept.refl _ _⟩
  have hP := pub_num s.data.toList (by simpa using (by omega : s.size ≤ 10)) (fun ⟨h1, h2⟩ => by
    have h1 : 1 < s.size := by simpa using h1
    rcases hparts with h | ⟨_, h⟩
    · omega
    · have h3 : s.data.toList.getD 0 0 = s[0] := by rw [List.getD_eq_getElem?_getD, List.getElem?_eq_getElem (by simpa using (by omega : 0 < s.size))]; rfl
      rw [h3] at h2
      exact h (by rw [h2]; rfl))
  have HC : Hid (Calls Tryz.prog 129 #[.string s, .int .i64 10, .int .i64 64] w fun e w' => (∃ u : Value, e = .returned (.tuple #[.int .u64 ((num s.data.toList).getD 0 : Nat), u]) ∧ ((num s.data.toList).isSome = true ∧ u = .nilIface ∨ (num s.data.toList).isSome = false ∧ ∃ p, u = .iface 195 p)) ∧ Kept Nothing w w') := by
    obtain ⟨hr1, tp, p, hr2⟩ := hr
    cases hn : num s.data.toList with
    | some v =>
      rw [hn] at hP
      exact Lib.hid ((Tryz.strconv_ParseUint_10_at64_ok s (by omega) v hP w).mono fun e w' ⟨he, hw⟩ => ⟨⟨_, he, .inl ⟨rfl, rfl⟩⟩, pu_kept hw⟩)
    | none =>
      rw [hn] at hP
      exact Lib.hid ((Tryz.strconv_ParseUint_10_at64_syntax s (by omega) hP _ w hr2 (.inr ⟨_, _, rfl⟩)).mono fun e w' ⟨N, he, _, _, hb⟩ => ⟨⟨_, he, .inr ⟨rfl, _, rfl⟩⟩, grows hb⟩)
  clear hP hr
  generalize (num s.data.toList).isSome = ok at HC ⊢
  generalize (num s.data.toList).getD 0 = v at HC ⊢
  rcases hparts with h1 | ⟨h1, hc⟩
  · have hi : (s.size : Int) ≤ 1 := by omega
    go_enter Tryz.func117, Tryz.ntmps117
    go_wp2_with (go_at_call 129; refine (HC.out).mono ?_; rintro e w1 ⟨⟨u, rfl, hu⟩, hk⟩)
    rcases hu with ⟨rfl, rfl⟩ | ⟨rfl, p, rfl⟩
    all_goals
      go_quiet (fail)
      go_wp2
      go_ret2
      exact ⟨rfl, hk.drewN _⟩
  · have hi : (1 : Int) < (s.size : Int) := by omega
    have hpos : 0 < s.size := by omega
    have hz : ((s[0].toNat : Int) == 48) = false := by simp; omega
    clear hc
    go_enter Tryz.func117, Tryz.ntmps117
    go_wp2_with (go_at_call 129; refine (HC.out).mono ?_; rintro e w1 ⟨⟨u, rfl, hu⟩, hk⟩)
    rcases hu with ⟨rfl, rfl⟩ | ⟨rfl, p, rfl⟩
    all_goals
      go_quiet (fail)
      go_wp2
      go_ret2
      exact ⟨rfl, hk.drewN _⟩
end Go.Proofs.YthjljamngpddmaaGreatDoor
namespace Go.Proofs.YthjljamngpddmaaGreatDoor
open Go.RowKit

theorem dec_small {n : Nat} (h : n < 10) : Lib.decDigits n = [UInt8.ofNat (48 + n)] := by rw [Lib.decDigits, dif_pos h]
theorem dec_step {n : Nat} (h : ¬ n < 10) : Lib.decDigits n = Lib.decDigits (n / 10) ++ [UInt8.ofNat (48 + n % 10)] := by rw [Lib.decDigits, dif_neg h]
theorem dg_nat (d : Nat) (h : d < 10) : (UInt8.ofNat (48 + d)).toNat = 48 + d := by
  rw [UInt8.toNat_ofNat']
  omega
theorem dg_isD (d : Nat) (h : d < 10) : isD (UInt8.ofNat (48 + d)) = true := by
  unfold isD
  rw [dg_nat d h]
  simp
  omega
theorem dec_ne : ∀ n : Nat, Lib.decDigits n ≠ [] := fun n => by
  by_cases h : n < 10
  · rw [dec_small h]; simp
  · rw [dec_step h]; simp
theorem dec_all (n : Nat) : (Lib.decDigits n).all isD = true := by
  induction n using Nat.strongRecOn with
  | ind n ih =>
    by_cases h : n < 10
    · rw [dec_small h, List.all_cons, List.all_nil, dg_isD n h]; rfl
    · rw [dec_step h, List.all_append, ih (n / 10) (by omega), List.all_cons, List.all_nil, dg_isD (n % 10) (by omega)]; rfl
theorem dec_numV (n : Nat) : numV (Lib.decDigits n) = n := by
  induction n using Nat.strongRecOn with
  | ind n ih =>
    by_cases h : n < 10
    · rw [dec_small h]
      have := dg_nat n h
      simp only [numV, List.foldl_cons, List.foldl_nil]
      omega
    · rw [dec_step h, numV_snoc, ih (n / 10) (by omega), dg_nat (n % 10) (by omega)]
      omega
theorem getD_app (a b : List UInt8) (h : a ≠ []) : (a ++ b).getD 0 0 = a.getD 0 0 := by
  cases a with
  | nil => exact absurd rfl h
  | cons x y => rfl
theorem dec_head (n : Nat) : (Lib.decDigits n).getD 0 0 = 48 → n = 0 := by
  induction n using Nat.strongRecOn with
  | ind n ih =>
    by_cases h : n < 10
    · rw [dec_small h]
      intro e
      have e : UInt8.ofNat (48 + n) = 48 := e
      have := congrArg UInt8.toNat e
      rw [dg_nat n h] at this
      have h2 : (48 : UInt8).toNat = 48 := rfl
      omega
    · rw [dec_step h]
      intro e
      rw [getD_app _ _ (dec_ne (n / 10))] at e
      have := ih (n / 10) (by omega) e
      omega
theorem dec_len (k n : Nat) (hk : 0 < k) (h : n < 10 ^ k) : (Lib.decDigits n).length ≤ k := by
  induction k generalizing n with
  | zero => omega
  | succ k ih =>
    by_cases h1 : n < 10
    · rw [dec_small h1]; simp
    · rw [dec_step h1]
      rw [Nat.pow_succ] at h
      by_cases hk0 : k = 0
      · subst hk0; omega
      · have := ih (n / 10) (by omega) (by omega)
        simp
        omega
theorem dec_len32 (n : Nat) (h : n < 4294967296) : (Lib.decDigits n).length ≤ 10 := dec_len 10 n (by omega) (by omega)
theorem num_dec (n : Nat) (h : n < 10000000000) : num (Lib.decDigits n) = some n := by
  have h1 := dec_len 10 n (by omega) (by omega)
  have h2 := List.length_pos_iff.2 (dec_ne n)
  have h3 : numOk (Lib.decDigits n) = true := by
    unfold numOk
    rw [dec_all n]
    have h4 : (decide ((Lib.decDigits n).getD 0 0 = 48) && decide (1 < (Lib.decDigits n).length)) = false := by
      by_cases h0 : n = 0
      · subst h0; rw [dec_small (by omega)]; simp
      · have : ¬ (Lib.decDigits n).getD 0 0 = 48 := fun e => h0 (dec_head n e)
        rw [decide_eq_false this]; rfl
    rw [h4]
    simp [h1, h2]
  unfold num
  rw [if_pos h3, dec_numV]
theorem isD_range {c : UInt8} (h : isD c = true) : 48 ≤ c.toNat ∧ c.toNat ≤ 57 := by simpa [isD] using h
theorem dec_of (k : Nat) : ∀ l : List UInt8, l.length = k → l ≠ [] → l.all isD = true → ¬ (l.getD 0 0 = 48 ∧ 1 < l.length) → Lib.decDigits (numV l) = l ∧ (1 < l.length → 0 < numV l) := by
  induction k with
  | zero => intro l hl h; exact absurd (List.eq_nil_of_length_eq_zero hl) h
  | succ k ih =>
    intro l hl hne hall hz
    obtain ⟨i, c, rfl⟩ : ∃ i c, l = i ++ [c] := ⟨l.dropLast, l.getLast hne, (List.dropLast_concat_getLast hne).symm⟩
    have hc : isD c = true := by rw [List.all_append] at hall; simp at hall; exact hall.2
    have hi : i.all isD = true := by rw [List.all_append] at hall; simp only [Bool.and_eq_true] at hall; exact hall.1
    obtain ⟨c1, c2⟩ := isD_range hc
    have hcc : UInt8.ofNat (48 + (c.toNat - 48)) = c := by
      have : 48 + (c.toNat - 48) = c.toNat := by omega
      rw [this]
      exact UInt8.ofNat_toNat
    rw [numV_snoc]
    by_cases h0 : i = []
    · subst h0
      have e : numV [] * 10 + (c.toNat - 48) = c.toNat - 48 := by simp [numV]
      rw [e, dec_small (by omega), hcc]
      exact ⟨rfl, fun h => by simp at h⟩
    · have hpos := List.length_pos_iff.2 h0
      have hg : (i ++ [c]).getD 0 0 = i.getD 0 0 := getD_app _ _ h0
      have hz' : ¬ i.getD 0 0 = 48 := fun e => hz ⟨by rw [hg]; exact e, by simp; omega⟩
      have hv : 0 < numV i := by
        by_cases h1 : 1 < i.length
        · exact (ih i (by simpa using hl) h0 hi (fun ⟨e, _⟩ => hz' e)).2 h1
        · obtain ⟨b, rfl⟩ := List.length_eq_one_iff.1 (by omega : i.length = 1)
          have hb : isD b = true := by simpa using hi
          have := isD_range hb
          have hb2 : b ≠ 48 := hz'
          have hb3 : b.toNat ≠ 48 := fun e => hb2 (UInt8.toNat_inj.1 (by rw [e]; rfl))
          simp only [numV, List.foldl_cons, List.foldl_nil]
          omega
      have := (ih i (by simpa using hl) h0 hi (fun ⟨e, _⟩ => hz' e)).1
      refine ⟨?_, fun _ => by omega⟩
      rw [dec_step (by omega)]
      have e1 : (numV i * 10 + (c.toNat - 48)) / 10 = numV i := by omega
      have e2 : (numV i * 10 + (c.toNat - 48)) % 10 = c.toNat - 48 := by omega
      rw [e1, e2, this, hcc]
theorem num_some {l : List UInt8} {v : Nat} (h : num l = some v) : l = Lib.decDigits v ∧ v < 10000000000 := by
  unfold num at h
  split at h
  case isFalse => cases h
  next ho =>
  injection h with h
  unfold numOk at ho
  simp only [Bool.and_eq_true, decide_eq_true_eq, Bool.not_eq_true', Bool.and_eq_false_iff, decide_eq_false_iff_not] at ho
  obtain ⟨⟨⟨hl0, hl10⟩, hz⟩, hall⟩ := ho
  have hb := numV_lt l hall
  have hp : (10 : Nat) ^ l.length ≤ 10 ^ 10 := Nat.pow_le_pow_right (by omega) hl10
  have := (dec_of l.length l rfl (List.length_pos_iff.1 hl0) hall (fun ⟨h1, h2⟩ => by rcases hz with hz | hz; exact hz h1; exact hz h2)).1
  rw [h] at this
  exact ⟨this.symm, by omega⟩
theorem num_zero_dec (n : Nat) : num (48 :: Lib.decDigits n) = none := by
  unfold num
  rw [if_neg]
  intro ho
  unfold numOk at ho
  have := List.length_pos_iff.2 (dec_ne n)
  simp at ho
  exact dec_ne n ho.1.2
theorem dec_inj {n m : Nat} (h : Lib.decDigits n = Lib.decDigits m) : n = m := by rw [← dec_numV n, ← dec_numV m, h]
theorem no_dot {l : List UInt8} (h : l.all isD = true) : (46 : UInt8) ∉ l := fun hm => by
  have := List.all_eq_true.1 h _ hm
  simp [isD] at this
theorem cut_none (c : UInt8) : ∀ l : List UInt8, c ∉ l → cutAt c l = (l, []) ∧ cutB c l = false := fun l h => by
  rcases cut_index c l with ⟨hm, _⟩ | ⟨hm, hi⟩
  · exact absurd (by rw [hm]; simp) h
  · exact ⟨hm, by unfold cutB; rw [hi]; rfl⟩
theorem cut_at2 (c : UInt8) : ∀ (d r : List UInt8), c ∉ d → cutAt c (d ++ c :: r) = (d, r) ∧ cutB c (d ++ c :: r) = true
  | [], r, _ => ⟨by simp [cutAt], by simp [cutB, Lib.indexByte]⟩
  | b :: d, r, h => by
    have hb : b ≠ c := fun e => h (by simp [e])
    have ⟨i1, i2⟩ := cut_at2 c d r (fun e => h (by simp [e]))
    refine ⟨by simp [cutAt, hb, i1], ?_⟩
    rcases cut_index c (b :: d ++ c :: r) with ⟨_, hi⟩ | ⟨hm, _⟩
    · unfold cutB; rw [hi]; simp
    · exfalso
      have : cutAt c (b :: d ++ c :: r) = (b :: (cutAt c (d ++ c :: r)).1, (cutAt c (d ++ c :: r)).2) := by simp [cutAt, hb]
      rw [this, i1] at hm
      have := congrArg (fun p => p.1.length) hm
      simp at this
theorem cut_split {c : UInt8} {l : List UInt8} (h : cutB c l = true) : l = (cutAt c l).1 ++ c :: (cutAt c l).2 := by
  rcases cut_index c l with ⟨hm, _⟩ | ⟨_, hi⟩
  · exact hm
  · unfold cutB at h
    rw [hi] at h
    cases h

/-- A number read of a text: the number, and what was wrong. -/
def parse (l : List UInt8) : Nat × Nat :=
  if cutB 46 l = true then
    match num (cutAt 46 l).1, num (cutAt 46 l).2 with
    | some a, some b => if 65535 < max a b then (0, 24) else (a * 65536 + b, 0)
    | _, _ => (0, 5)
  else match num l with
    | some n => if 4294967295 < n then (0, 24) else (n, 0)
    | none => (0, 5)
theorem parse_lt (l : List UInt8) : (parse l).1 < 4294967296 := by
  unfold parse
  split
  · split
    · split
      · simp
      · simp only; omega
    · simp
  · split
    · split
      · simp
      · simp only; omega
    · simp
theorem parse_err (l : List UInt8) : (parse l).2 = 0 ∨ (parse l).1 = 0 ∧ ((parse l).2 = 5 ∨ (parse l).2 = 24) := by
  unfold parse
  split
  · split
    · split <;> simp
    · simp
  · split
    · split <;> simp
    · simp
def dot (n : Nat) : List UInt8 := if 65535 < n then Lib.decDigits (n / 65536) ++ 46 :: Lib.decDigits (n % 65536) else Lib.decDigits n
theorem parse_dec (n : Nat) (h : n < 4294967296) : parse (Lib.decDigits n) = (n, 0) := by
  have ⟨_, h2⟩ := cut_none 46 (Lib.decDigits n) (no_dot (dec_all n))
  unfold parse
  rw [h2, num_dec n (by omega)]
  simp
  omega
theorem parse_pair (a b : Nat) (ha : a ≤ 65535) (hb : b ≤ 65535) : parse (Lib.decDigits a ++ 46 :: Lib.decDigits b) = (a * 65536 + b, 0) := by
  have ⟨h1, h2⟩ := cut_at2 46 (Lib.decDigits a) (Lib.decDigits b) (no_dot (dec_all a))
  unfold parse
  rw [h2, h1, num_dec a (by omega), num_dec b (by omega)]
  simp
  omega
theorem parse_dot (n : Nat) (h : n < 4294967296) : parse (dot n) = (n, 0) := by
  unfold dot
  split
  · rw [parse_pair _ _ (by omega) (by omega)]
    congr 1
    omega
  · exact parse_dec n h
theorem parse_nought (n : Nat) : (parse (48 :: Lib.decDigits n)).2 = 5 := by
  have hno : (46 : UInt8) ∉ 48 :: Lib.decDigits n := no_dot (by rw [List.all_cons, dec_all n]; rfl)
  have ⟨_, h2⟩ := cut_none 46 _ hno
  unfold parse
  rw [h2, num_zero_dec n]
  simp
/-- What is read of a text has that text, or that dotted one, unless it has a point behind 0. -/
theorem parse_inv (l : List UInt8) (h : (parse l).2 = 0) : Lib.decDigits (parse l).1 = l ∨ dot (parse l).1 = l ∨ (∃ r, l = 48 :: 46 :: r) ∧ l = 48 :: 46 :: Lib.decDigits (parse l).1 := by
  unfold parse at h ⊢
  split at h
  next hc =>
    rw [if_pos hc]
    have hs := cut_split hc
    split at h
    next a b ea eb =>
      split at h
      · cases h
      next hm =>
        simp only [if_neg hm]
        obtain ⟨e1, _⟩ := num_some ea
        obtain ⟨e2, _⟩ := num_some eb
        rw [e1, e2] at hs
        by_cases h0 : a = 0
        · subst h0
          refine .inr (.inr ?_)
          have e0 : Lib.decDigits 0 = [48] := dec_small (by omega)
          rw [e0] at hs
          have e3 : 0 * 65536 + b = b := by omega
          rw [e3]
          exact ⟨⟨_, hs⟩, hs⟩
        · refine .inr (.inl ?_)
          unfold dot
          rw [if_pos (by omega)]
          have e3 : (a * 65536 + b) / 65536 = a := by omega
          have e4 : (a * 65536 + b) % 65536 = b := by omega
          rw [e3, e4]
          exact hs.symm
    · cases h
  next hc =>
    rw [if_neg hc]
    split at h
    next n en =>
      split at h
      · cases h
      next hm =>
        simp only [if_neg hm]
        exact .inl (num_some en).1.symm
    · cases h
end Go.Proofs.YthjljamngpddmaaGreatDoor
namespace Go.Proofs.YthjljamngpddmaaGreatDoor
open Go.RowKit Go.Sort

theorem fmtu_in (u : Nat) (hu : u < 4294967296) (w : World) (hr : Rdy2 w) :
    Calls Tryz.prog 100 #[.int .u64 (u : Int), .int .i64 10] w fun e w' => e = .returned (.string ⟨(Lib.decDigits u).toArray⟩) ∧ Kept Nothing w w' := by
  by_cases hi : u < 100
  · have hi2 : (u : Int) < 100 := by omega
    go_enter Tryz.func100, Tryz.ntmps100
    go_wp2_with (go_at_call 108; refine (Tryz.internal_strconv_small u hi _).mono ?_; rintro e w' ⟨rfl, rfl⟩)
    go_ret
    exact ⟨rfl, Kept.refl _ _⟩
  · have hi2 : (100 : Int) ≤ (u : Int) := by omega
    have hu1 : 1 ≤ u := by omega
    have hu64 : u < 18446744073709551616 := by omega
    have hnd20 : Lib.nDigits u ≤ 20 := by have := Lib.numDigits_eq u hu1 hu64; split at this <;> omega
    have hal : Tryz.prog.arrayLen 161 = 24 := by kernel_rfl
    have hsl : ∀ W, (Instr.sliceAt 161 (.pointer (some ⟨w.heap.size, 0, none⟩)) none (some (.int .i64 (Lib.nDigits u : Int))) none).run Tryz.prog W = .ok (.slice (some ⟨w.heap.size, 0, none⟩) (Lib.nDigits u) 24) W := fun W => by
      rw [run_sliceAt_array_h W 161 ⟨w.heap.size, 0, none⟩ (by kernel_rfl) .i64 (Lib.nDigits u : Int) (by omega) (by rw [hal]; omega)]
      go_simp
    have hH0 := Lib.holds_zero0 w 161 (Lib.nDigits u) (by omega)
    have hfmt := Tryz.internal_strconv_formatBase10 w.heap.size 0 24 u (Array.replicate (Lib.nDigits u) 0) (w.alloc (.cells Lib.zeros24 161)) hH0 (by rw [Array.size_replicate]; exact Lib.lt_pow_nDigits u) hu64 (by rw [Array.size_replicate]; omega)
    rw [Array.size_replicate] at hfmt
    have HH0 := Lib.hid hH0
    have HF := Lib.hid hfmt
    have htab := Lib.hid hr.1
    clear hH0 hal hfmt hr
    go_enter Tryz.func100, Tryz.ntmps100
    go_wp2_with (first
      | (go_at_call 109; refine (Tryz.internal_strconv_numDigits u hu1 hu64 _ (Lib.tabIs_alloc htab.out _)).mono ?_; rintro e w' ⟨rfl, rfl⟩))
    go_at_call 110
    refine (HF.out).mono ?_
    rintro e w' ⟨rfl, k, v', dk, rfl, hF⟩
    have hcv : (convert 28 9 (.slice (some ⟨w.heap.size, 0, none⟩) (Lib.nDigits u) 24)).run Tryz.prog ((putRow (fun (b : UInt8) => Value.int .u8 (b.toNat : Int)) (w.alloc (.cells Lib.zeros24 161)) w.heap.size 0 dk).drewN k) = .ok (.string ⟨(Lib.decDigits u).toArray⟩) ((putRow (fun (b : UInt8) => Value.int .u8 (b.toNat : Int)) (w.alloc (.cells Lib.zeros24 161)) w.heap.size 0 dk).drewN k) := by
      have h := run_convert_bytes_back (P := Tryz.prog) ((putRow (fun (b : UInt8) => Value.int .u8 (b.toNat : Int)) (w.alloc (.cells Lib.zeros24 161)) w.heap.size 0 dk).drewN k) 28 9 5 ⟨w.heap.size, 0, none⟩ 24 (Lib.decDigits u) Tryz.underlying28 Tryz.underlying5 Tryz.underlying9 (fun j hj => by
        rw [Lib.row_is_numeral hF j hj, Lib.add_plain, World.cell?_drewN]
        exact cell?_putRow (fun (b : UInt8) => Value.int .u8 (b.toNat : Int)) _ w.heap.size 0 _ dk HH0.out (by rw [hF.size, Array.size_replicate]) j (by rw [hF.size]; rw [Lib.decDigits_length] at hj; exact hj))
      rw [Lib.decDigits_length] at h
      exact h
    go_wp2
    go_ret
    obtain ⟨os, eo⟩ := Lib.fin_at w (.cells Lib.zeros24 161) dk k 0
    exact ⟨rfl, by rw [eo]; exact kept_grow w k os⟩
theorem fmtu_any (u : Nat) (hu : u < 4294967296) (w : World) (hr : Rdy2 w) :
    Calls Tryz.prog 89 #[.int .u64 (u : Int), .int .i64 10] w fun e w' => e = .returned (.string ⟨(Lib.decDigits u).toArray⟩) ∧ Kept Nothing w w' := by
  go_enter Tryz.func89, Tryz.ntmps89
  go_wp2_with (go_at_call 100; refine (fmtu_in u hu _ hr).mono ?_; rintro e w1 ⟨rfl, hk⟩)
  go_ret
  exact ⟨rfl, hk⟩
theorem text_any (u : Nat) (hu : u < 4294967296) (w : World) (hr : Rdy2 w) :
    Calls Tryz.prog 78 #[.int .u32 (u : Int)] w fun e w' => e = .returned (.string ⟨(Lib.decDigits u).toArray⟩) ∧ Kept Nothing w w' := by
  go_enter Tryz.func78, Tryz.ntmps78
  go_wp2_with (go_at_call 89; refine (fmtu_any u hu _ hr).mono ?_; rintro e w1 ⟨rfl, hk⟩)
  go_ret
  exact ⟨rfl, hk⟩
def wide (n : Nat) : Bool := decide (65535 < n)
theorem wide_any (n : Nat) (w : World) :
    Calls Tryz.prog 71 #[.int .u32 (n : Int)] w fun e w' => e = .returned (.bool (wide n)) ∧ w = w' := by
  go_enter Tryz.func71, Tryz.ntmps71
  go_wp2
  go_ret
  exact ⟨ret_bool (by unfold wide; simp; omega), rfl⟩
def short (n : Nat) : Nat := if 65535 < n then 23456 else n
theorem short_any (n : Nat) (hn : n < 4294967296) (w : World) :
    Calls Tryz.prog 63 #[.int .u32 (n : Int)] w fun e w' => e = .returned (.int .u16 (short n : Nat)) ∧ w = w' := by
  by_cases h : 65535 < n
  · have hW : wide n = true := by simp [wide, h]
    have hS := Lib.hid (show short n = 23456 from if_pos h)
    go_enter Tryz.func63, Tryz.ntmps63
    go_wp2_with (go_at_call 71; refine (wide_any n _).mono ?_; rintro e w1 ⟨rfl, rfl⟩)
    go_ret
    exact ⟨by rw [hS.out]; rfl, rfl⟩
  · have hW : wide n = false := by simp [wide]; omega
    have hS := Lib.hid (show short n = n from if_neg h)
    go_enter Tryz.func63, Tryz.ntmps63
    go_wp2_with (go_at_call 71; refine (wide_any n _).mono ?_; rintro e w1 ⟨rfl, rfl⟩)
    go_ret
    exact ⟨by rw [hS.out]; exact ret_int (by omega), rfl⟩
theorem add_run (x y : List UInt8) (hx : x.length ≤ 100000) (hy : y.length ≤ 100000) (w : World) : (Op.stringOp .add ⟨x.toArray⟩ ⟨y.toArray⟩).run Tryz.prog w = .ok (.string ⟨(x ++ y).toArray⟩) w := by
  rw [run_string_add_sum _ _ _ (by show x.toArray.size + y.toArray.size ≤ _; simp; omega)]
  congr 2
theorem dot_len (n : Nat) (h : n < 4294967296) : (dot n).length ≤ 100 := by
  unfold dot
  split
  · have := dec_len32 (n / 65536) (by omega)
    have := dec_len32 (n % 65536) (by omega)
    simp
    omega
  · have := dec_len32 n h
    omega
end Go.Proofs.YthjljamngpddmaaGreatDoor
