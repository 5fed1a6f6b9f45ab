
/-
  attrs: bit, lost, besides, isHost.
-/
import Derived.Test.YteofbpdogmajoaaGreatDoorZa
namespace Go.Proofs.YteofbpdogmajoaaGreatDoor
open Go.RowKit

namespace Ax
def wants : List UInt8 := [0, 64, 64, 64, 128, 64, 64, 192, 192, 0, 0, 0, 0, 0, 0, 0, 0, 192, 192]
/-- The flags that a known type wants; nothing, if it is not known. -/
def wanted (t : UInt8) : UInt8 := wants.getD t.toNat 0
def known (t : UInt8) : Bool := wanted t != 0
def lost (t : UInt8) : Nat := if t.toNat = 6 ∨ t.toNat = 7 ∨ t.toNat = 17 ∨ t.toNat = 18 then 1 else 2
def host (ip : Nat) : Bool := decide (1 ≤ ip / 16777216) && decide (ip / 16777216 ≤ 223) && decide (ip / 16777216 ≠ 127)
end Ax

def wtc : Array Value := (Ax.wants.map by8).toArray
/-- The table is there. -/
def Wtd (w : World) : Prop := ∃ t fr, w.heap[0]? = some (.cells wtc t fr)
theorem Wtd.kept {w w' : World} (h : Wtd w) (k : Kept Nothing w w') : Wtd w' := by
  obtain ⟨t, fr, h⟩ := h
  exact ⟨t, fr, (k.block _ (Array.getElem?_eq_some_iff.1 h).1 (fun x => x)).trans h⟩
theorem Wtd.cell {w : World} (h : Wtd w) (i : Nat) (hi : i < 19) : w.cell? ⟨0, i, none⟩ = some (.int .u8 ((Ax.wants.getD i 0).toNat : Int)) := by
  obtain ⟨t, fr, h⟩ := h
  have h1 := cell_of_row w _ i wtc t fr h
  rw [h1]
  unfold wtc
  rw [List.getElem?_toArray, List.getElem?_map, List.getD_eq_getElem?_getD, List.getElem?_eq_getElem (show i < Ax.wants.length from hi)]
  rfl

theorem wanted_any (t : UInt8) (w : World) (h : Wtd w) :
    Calls Tryz.prog 29 #[.int .u8 (t.toNat : Int)] w fun e w' => e = .returned (.int .u8 ((Ax.wanted t).toNat : Int)) ∧ w = w' := by
  have ht := t.toNat_lt
  have hw : IntKind.i64.wrap (t.toNat : Int) = (t.toNat : Int) := by rw [IntKind.wrap_i64]; omega
  have HE : Hid (Ax.wanted t = Ax.wants.getD t.toNat 0) := Lib.hid rfl
  by_cases hk : t.toNat < 19
  · have c0 := h.cell t.toNat hk
    rw [← HE.out] at c0
    have hki : (t.toNat : Int) < 19 := by omega
    generalize Ax.wanted t = x at *
    generalize t.toNat = k at *
    clear HE h
    go_enter Tryz.func29, Tryz.ntmps29
    go_wp2
    go_ret
    exact ⟨rfl, rfl⟩
  · have hki : ¬ (t.toNat : Int) < 19 := by omega
    have HZ : Hid (Ax.wanted t = 0) := Lib.hid (by rw [HE.out, List.getD_eq_getElem?_getD, List.getElem?_eq_none (by show 19 ≤ _; omega)]; rfl)
    rw [HZ.out]
    clear HE HZ h
    generalize t.toNat = k at *
    go_enter Tryz.func29, Tryz.ntmps29
    go_wp2
    go_ret
    exact ⟨rfl, rfl⟩

theorem known_any (t : UInt8) (w : World) (h : Wtd w) :
    Calls Tryz.prog 28 #[.int .u8 (t.toNat : Int)] w fun e w' => e = .returned (.bool (Ax.known t)) ∧ w = w' := by
  have HW := Lib.hid (wanted_any t w h)
  have HE : Hid (Ax.known t = (((Ax.wanted t).toNat : Int) != 0)) := Lib.hid (by
    unfold Ax.known
    rw [Bool.eq_iff_iff, bne_iff_ne, bne_iff_ne]
    constructor
    · intro h1 h2
      exact h1 (UInt8.toNat_inj.1 (by show _ = 0; omega))
    · intro h1 h2
      rw [h2] at h1
      exact h1 rfl)
  rw [HE.out]
  generalize Ax.wanted t = x at *
  clear HE h
  go_enter Tryz.func28, Tryz.ntmps28
  go_wp2_with (go_at_call 29; refine HW.out.mono ?_; rintro e w1 ⟨rfl, rfl⟩)
  go_ret
  exact ⟨rfl, rfl⟩
end Go.Proofs.YteofbpdogmajoaaGreatDoor
namespace Go.Proofs.YteofbpdogmajoaaGreatDoor
open Go.RowKit

theorem lost_any (t : UInt8) (w : World) :
    Calls Tryz.prog 88 #[.int .u8 (t.toNat : Int)] w fun e w' => e = .returned (.int .i64 (Ax.lost t : Int)) ∧ w = w' := by
  have HE : Hid (Ax.lost t = if t.toNat = 6 ∨ t.toNat = 7 ∨ t.toNat = 17 ∨ t.toNat = 18 then 1 else 2) := Lib.hid rfl
  generalize Ax.lost t = x at *
  generalize t.toNat = k at *
  by_cases h : k = 6 ∨ k = 7 ∨ k = 17 ∨ k = 18
  · have hx : x = 1 := by rw [HE.out, if_pos h]
    subst hx
    clear HE
    rcases h with rfl | rfl | rfl | rfl
    all_goals
      go_enter Tryz.func88, Tryz.ntmps88
      go_wp2
      go_ret
      exact ⟨rfl, rfl⟩
  · have hx : x = 2 := by rw [HE.out, if_neg h]
    subst hx
    have h6 : ((k : Int) == 6) = false := by rw [beq_eq_false_iff_ne]; omega
    have h7 : ((k : Int) == 7) = false := by rw [beq_eq_false_iff_ne]; omega
    have h17 : ((k : Int) == 17) = false := by rw [beq_eq_false_iff_ne]; omega
    have h18 : ((k : Int) == 18) = false := by rw [beq_eq_false_iff_ne]; omega
    clear HE h
    go_enter Tryz.func88, Tryz.ntmps88
    go_wp2
    go_ret
    exact ⟨rfl, rfl⟩

theorem besides_any (t : UInt8) (w : World) :
    Calls Tryz.prog 48 #[.int .u8 (t.toNat : Int)] w fun e w' => e = .returned (.bool (decide (t.toNat = 17 ∨ t.toNat = 18))) ∧ w = w' := by
  generalize t.toNat = k at *
  by_cases h17 : k = 17
  · subst h17
    go_enter Tryz.func48, Tryz.ntmps48
    go_wp2
    go_ret
    exact ⟨rfl, rfl⟩
  · have i17 : ((k : Int) == 17) = false := by rw [beq_eq_false_iff_ne]; omega
    by_cases h18 : k = 18
    · subst h18
      go_enter Tryz.func48, Tryz.ntmps48
      go_wp2
      go_ret
      exact ⟨rfl, rfl⟩
    · have i18 : ((k : Int) == 18) = false := by rw [beq_eq_false_iff_ne]; omega
      rw [decide_eq_false (show ¬ (k = 17 ∨ k = 18) by omega)]
      go_enter Tryz.func48, Tryz.ntmps48
      go_wp2
      go_ret
      exact ⟨rfl, rfl⟩

namespace Ax
/-- A type's bit. -/
def bit (t : UInt8) : Nat := if t.toNat < 32 then 2 ^ t.toNat else 0
end Ax
theorem bit_any7 (t : UInt8) (w : World) :
    Calls Tryz.prog 45 #[.int .u8 (t.toNat : Int)] w fun e w' => e = .returned (.int .u32 (Ax.bit t : Int)) ∧ w = w' := by
  have ht := t.toNat_lt
  have HE : Hid (Ax.bit t = if t.toNat < 32 then 2 ^ t.toNat else 0) := Lib.hid rfl
  generalize Ax.bit t = x at *
  generalize t.toNat = k at *
  have HX : Hid ((2 : Int) ^ min k 32 % 4294967296 = (x : Int)) := Lib.hid (by
    by_cases h : k < 32
    · rw [HE.out, if_pos h, Nat.min_eq_left (by omega)]
      have h2 : 2 ^ k < 2 ^ 32 := Nat.pow_lt_pow_right (by omega) h
      have h3 : ((2 : Int) ^ k) = ((2 ^ k : Nat) : Int) := by simp
      rw [h3]
      generalize 2 ^ k = m at h2 ⊢
      have h4 : (m : Int) < 4294967296 := by omega
      exact Int.emod_eq_of_lt (by omega) h4
    · rw [HE.out, if_neg h, Nat.min_eq_right (by omega)]
      rfl)
  clear HE
  go_enter Tryz.func45, Tryz.ntmps45
  go_wp2
  rw [HX.out]
  go_ret
  exact ⟨rfl, rfl⟩

/-- A four-part number's first part is such as hosts have. -/
theorem host_any (ip : Nat) (w : World) :
    Calls Tryz.prog 100 #[.int .u32 (ip : Int)] w fun e w' => e = .returned (.bool (Ax.host ip)) ∧ w = w' := by
  have HE : Hid (Ax.host ip = (decide (1 ≤ ip / 16777216) && decide (ip / 16777216 ≤ 223) && decide (ip / 16777216 ≠ 127))) := Lib.hid rfl
  generalize Ax.host ip = x at *
  have hsh : (ip : Int) / 16777216 = ((ip / 16777216 : Nat) : Int) := by omega
  generalize hf : ip / 16777216 = f at *
  by_cases h1 : 1 ≤ f
  · have i1 : (1 : Int) ≤ (f : Int) := by omega
    by_cases h2 : f ≤ 223
    · have i2 : (f : Int) ≤ 223 := by omega
      by_cases h3 : f = 127
      · subst h3
        have hx : x = false := by rw [HE.out]; decide
        subst hx
        clear HE
        go_enter Tryz.func100, Tryz.ntmps100
        go_wp2
        go_ret
        exact ⟨rfl, rfl⟩
      · have i3 : ((f : Int) != 127) = true := bne_iff_ne.2 (by omega)
        have hx : x = true := by rw [HE.out]; simp [h1, h2, h3]
        subst hx
        clear HE
        go_enter Tryz.func100, Tryz.ntmps100
        go_wp2
        go_ret
        exact ⟨rfl, rfl⟩
    · have i2 : ¬ (f : Int) ≤ 223 := by omega
      have hx : x = false := by rw [HE.out]; simp [h2]
      subst hx
      clear HE
      go_enter Tryz.func100, Tryz.ntmps100
      go_wp2
      go_ret
      exact ⟨rfl, rfl⟩
  · have i1 : ¬ (1 : Int) ≤ (f : Int) := by omega
    have hx : x = false := by rw [HE.out]; simp [h1]
    subst hx
    clear HE
    go_enter Tryz.func100, Tryz.ntmps100
    go_wp2
    go_ret
    exact ⟨rfl, rfl⟩
end Go.Proofs.YteofbpdogmajoaaGreatDoor
