
/-
  What a message's form is, as the document has it: Bytes where it tells what is wrong.
-/
import Derived.Test.YtgndhkhhjpffnaaGb
namespace Go.Proofs.Ytgndhkhhjpffnaa
open Go.RowKit

set_option maxRecDepth 100000 in
set_option maxHeartbeats 1600000 in
/-- What is wrong with a message: the document's Bytes tells. -/
theorem r3_bytes_err (m : Msg) (bv : Value) (W : World) (h : By W bv m.2) (hb : m.2.length ≤ 5000) (he : (Fr.bytes m).2 ≠ 0) :
    Calls Try.prog 20 #[.agg #[.int .u8 (m.1.toNat : Int), bv]] W fun r w' => ∃ v', r = .returned (.tuple #[v', .int .i64 (Fr.bytes m).2]) ∧ Bs w' v' (Fr.bytes m).1 ∧ Kept Nothing W w' := by
  obtain ⟨A, c, rfl, hc, hm⟩ := h.form
  have KA := Lib.hid (fun o => (Kept.refl Nothing W).alloc o)
  have e19 : ((19 + m.2.length : Nat) : Int) = 19 + (m.2.length : Int) := by omega
  have h255 : m.1.toNat < 256 := m.1.toNat_lt
  by_cases ht : 1 ≤ m.1.toNat ∧ m.1.toNat ≤ 5
  · have HW := Lib.hid (fun w => r3_wrong m.1.toNat (19 + m.2.length) ht w)
    rw [e19] at HW
    have g1 : ¬ ((m.1.toNat : Int) < 1) := by omega
    have g2 : ¬ ((m.1.toNat : Int) > 5) := by omega
    by_cases h1 : Fr.fits m.1.toNat (19 + m.2.length) = false
    · have hB : Fr.bytes m = ([], 1) := if_pos h1
      rw [hB]
      rw [h1] at HW
      clear h1 hB h e19 he ht
      generalize (m.1.toNat : Int) = t at *
      go_enter Try.func20, Try.ntmps20
      go_wp2_with fail
      refine (HW.out _).mono ?_
      rintro e w' ⟨rfl, rfl⟩
      go_wp2
      go_ret2
      exact ⟨_, rfl, Bs.nil _, KA.out _⟩
    · have h1' : Fr.fits m.1.toNat (19 + m.2.length) = true := by simpa using h1
      have h2 : 4096 < 19 + m.2.length := by
        rcases Nat.lt_or_ge 4096 (19 + m.2.length) with x | x
        · exact x
        · exact absurd (by unfold Fr.bytes; rw [if_neg h1, if_neg (by omega)]) he
      have hB : Fr.bytes m = ([], 3) := by unfold Fr.bytes; rw [if_neg h1, if_pos h2]
      rw [hB]
      rw [h1'] at HW
      have h2' : (4096 : Int) < 19 + (m.2.length : Int) := by omega
      clear h1 h1' hB h e19 he ht h2
      generalize (m.1.toNat : Int) = t at *
      go_enter Try.func20, Try.ntmps20
      go_wp2_with fail
      refine (HW.out _).mono ?_
      rintro e w' ⟨rfl, rfl⟩
      go_wp2
      go_ret2
      exact ⟨_, rfl, Bs.nil _, KA.out _⟩
  · have h1 : Fr.fits m.1.toNat (19 + m.2.length) = false := by
      cases hf : Fr.fits m.1.toNat (19 + m.2.length) with
      | false => rfl
      | true => exact absurd (Fr.fits_kind hf) ht
    have hB : Fr.bytes m = ([], 1) := if_pos h1
    rw [hB]
    clear h1 hB h e19 he
    by_cases hlo : m.1.toNat < 1
    · have g1 : (m.1.toNat : Int) < 1 := by omega
      clear ht hlo
      generalize (m.1.toNat : Int) = t at *
      go_enter Try.func20, Try.ntmps20
      go_wp2
      go_ret2
      exact ⟨_, rfl, Bs.nil _, KA.out _⟩
    · have g1 : ¬ ((m.1.toNat : Int) < 1) := by omega
      have g2 : (5 : Int) < (m.1.toNat : Int) := by omega
      clear ht hlo
      generalize (m.1.toNat : Int) = t at *
      go_enter Try.func20, Try.ntmps20
      go_wp2
      go_ret2
      exact ⟨_, rfl, Bs.nil _, KA.out _⟩
end Go.Proofs.Ytgndhkhhjpffnaa
