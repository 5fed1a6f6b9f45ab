
/-
  What the calls of package scroll's reader do: numbers.
-/
import Derived.Test.YtembdobkgpojfaaDoorRp
namespace Go.Proofs.YtembdobkgpojfaaDoor
open Go.RowKit

theorem RS.num_snoc (l : List UInt8) (b : UInt8) : RS.num (l ++ [b]) = 256 * RS.num l + b.toNat := by
  unfold RS.num; rw [List.foldl_append]; rfl
theorem RS.num_lt (l : List UInt8) : RS.num l < 256 ^ l.length := by
  suffices ∀ m : Nat, ∀ l : List UInt8, l.length = m → RS.num l < 256 ^ m from this _ l rfl
  intro m
  induction m with
  | zero => intro l h; rw [List.eq_nil_of_length_eq_zero h]; decide
  | succ m ih =>
    intro l h
    have hne : l ≠ [] := fun e => by rw [e] at h; simp at h
    rw [← List.dropLast_concat_getLast hne, RS.num_snoc]
    have h1 := ih l.dropLast (by simp [h])
    have h2 := (l.getLast hne).toNat_lt
    rw [Nat.pow_succ]
    omega

theorem or_byte (x b : Nat) (hb : b < 256) (hx : x * 256 + b < 4294967296) : bits .or .u32 ((x : Int) * 256 % 4294967296) ((b : Int) % 4294967296) = ((256 * x + b : Nat) : Int) := by
  have ha : x * 256 < 4294967296 := Nat.lt_of_le_of_lt (Nat.le_add_right _ b) hx
  have hb' : b < 4294967296 := Nat.lt_of_le_of_lt (Nat.le_add_left _ (x * 256)) hx
  have e1 : (x : Int) * 256 % 4294967296 = ((x * 256 : Nat) : Int) := by omega
  have e2 : (b : Int) % 4294967296 = (b : Int) := by omega
  rw [e1, e2, u32_or_nat (x * 256) b ha hb']
  have := Nat.shiftLeft_add_eq_or_of_lt (i := 8) (b := b) (Nat.lt_of_lt_of_eq hb (by decide)) x
  rw [Nat.shiftLeft_eq] at this
  rw [← this]
  omega
theorem RS.num_take (l : List UInt8) (k : Nat) (h : k < l.length) (h4 : l.length ≤ 4) :
    bits .or .u32 ((RS.num (l.take k) : Int) * 256 % 4294967296) ((l[k].toNat : Int) % 4294967296) = (RS.num (l.take (k + 1)) : Int) := by
  rw [List.take_succ_eq_append_getElem h, RS.num_snoc]
  have h1 := RS.num_lt (l.take k)
  have h2 := (l[k]).toNat_lt
  have h3 : 256 ^ (l.take k).length ≤ 256 ^ 3 := Nat.pow_le_pow_right (by decide) (by simp; omega)
  exact or_byte _ _ h2 (by omega)
theorem RS.got_len {s : RS} {n : Nat} : (s.got n).length ≤ n := by
  unfold RS.got
  split <;> simp
  omega

set_option maxHeartbeats 400000 in
theorem rd_next32 (p : Nat) (s : RS) (w : World) (h : Rd w p s) :
    Calls Tryd.prog 123 #[.pointer (some ⟨p, 0, none⟩), .int .i64 4] w fun r w' => r = .returned (.int .u32 (RS.num (s.got 4) : Int)) ∧ Rd w' p (s.pass 4) ∧ Kept (Only p) w w' := by
  have HW := Lib.hid (rd_pass p s 4 w h)
  have hlen : (s.got 4).length ≤ 4 := RS.got_len (n := 4)
  clear h
  generalize s.got 4 = l at *
  generalize s.pass 4 = s' at *
  go_enter Tryd.func123, Tryd.ntmps123
  go_wp2_with fail
  refine HW.out.mono ?_
  rintro e w1 ⟨v, rfl, hb, hr, hk⟩
  have HR := Lib.hid hr
  have HK := Lib.hid hk
  have HB := Lib.hid hb
  obtain ⟨A, c, rfl, _, _⟩ := hb.form
  clear hb hr hk HW
  go_wp2
  go_loop [5, 12] (fun n i => ∃ k : Nat, k ≤ l.length ∧ i = .int .i64 k ∧ n = .int .u32 (RS.num (l.take k) : Int)) (fun _ i => l.length - (intOf i).toNat)
  case atStart => exact ⟨0, Nat.zero_le _, rfl, rfl⟩
  case round =>
    obtain ⟨k, hk, rfl, rfl⟩ := hrel
    by_cases hlt : k < l.length
    · obtain ⟨b, o, rfl, hcell⟩ := HB.out.cell hlt
      unfold by8 at hcell
      go_wp2
      refine ⟨⟨k + 1, by omega, by go_num, ?_⟩, by simp [intOf]; omega⟩
      rw [RS.num_take l k hlt (by omega)]
    · have hlast : (RS.num (l.take k)) < 256 ^ 4 := by
        refine Nat.lt_of_lt_of_le (RS.num_lt _) (Nat.pow_le_pow_right (by decide) ?_)
        rw [List.length_take]; omega
      have HE : Hid (RS.num (l.take k) = RS.num l) := by show _ = _; rw [List.take_of_length_le (by omega)]
      go_wp2
      go_ret
      refine ⟨ret_int ?_, HR.out, HK.out⟩
      rw [HE.out] at *

theorem rd_four (p : Nat) (s : RS) (w : World) (h : Rd w p s) :
    Calls Tryd.prog 111 #[.pointer (some ⟨p, 0, none⟩)] w fun r w' => r = .returned (.int .u32 (RS.num (s.got 4) : Int)) ∧ Rd w' p (s.pass 4) ∧ Kept (Only p) w w' := by
  have HW := Lib.hid (rd_next32 p s w h)
  clear h
  generalize s.got 4 = l at *
  generalize s.pass 4 = s' at *
  go_enter Tryd.func111, Tryd.ntmps111
  go_wp2_with fail
  refine HW.out.mono ?_
  rintro e w1 ⟨rfl, hr, hk⟩
  have HR := Lib.hid hr
  have HK := Lib.hid hk
  clear hr hk HW
  go_wp2
  go_ret
  exact ⟨rfl, HR.out, HK.out⟩
end Go.Proofs.YtembdobkgpojfaaDoor
