
/-
  Chapter 6, there and back, as plain data.
-/
import Derived.Test.YtohgkibpcgfihaaDoorEl
import Derived.Test.YtohgkibpcgfihaaDoorEm
namespace Go.Proofs.YtohgkibpcgfihaaDoor
open Go.RowKit

namespace Opn
def head9 (o : Opn) : List UInt8 := [UInt8.ofNat o.ver, UInt8.ofNat (o.asn / 256), UInt8.ofNat o.asn, UInt8.ofNat (o.hold / 256), UInt8.ofNat o.hold, UInt8.ofNat (o.id / 16777216), UInt8.ofNat (o.id / 65536), UInt8.ofNat (o.id / 256), UInt8.ofNat o.id]
theorem put_lit (o : Opn) (he : (Cp.bytes o.caps).2 = 0) : o.put = (o.head9 ++ UInt8.ofNat (Cp.bytes o.caps).1.length :: (Cp.bytes o.caps).1, 0) := by
  unfold put head9
  rw [if_neg (by rw [he]; simp)]
  simp [two, be4]
theorem put_err {o : Opn} (he : (Cp.bytes o.caps).2 ≠ 0) : o.put = ([], (Cp.bytes o.caps).2) := if_pos he
theorem num1 (x : UInt8) : RS.num [x] = x.toNat := by simp [RS.num]
theorem num2 (x y : UInt8) : RS.num [x, y] = 256 * x.toNat + y.toNat := by simp [RS.num]
theorem num4 (x y z t : UInt8) : RS.num [x, y, z, t] = 256 * (256 * (256 * x.toNat + y.toNat) + z.toNat) + t.toNat := by simp [RS.num]
theorem got_put (o : Opn) (ho : o.fine) (n : UInt8) (cb : List UInt8) (hc : (Cp.out [] cb).1 = o.caps) : got (o.head9 ++ n :: cb) = o := by
  obtain ⟨ver, asn, hold, id, caps⟩ := o
  obtain ⟨f0, f1, f2, f3⟩ := ho
  simp only at f0 f1 f2 f3 hc
  show (⟨RS.num [UInt8.ofNat ver], RS.num [UInt8.ofNat (asn / 256), UInt8.ofNat asn], RS.num [UInt8.ofNat (hold / 256), UInt8.ofNat hold], RS.num [UInt8.ofNat (id / 16777216), UInt8.ofNat (id / 65536), UInt8.ofNat (id / 256), UInt8.ofNat id], (Cp.out [] cb).1⟩ : Opn) = _
  rw [num1, num2, num2, num4, hc]
  simp only [UInt8.toNat_ofNat']
  congr 1 <;> omega
theorem get_short {b : List UInt8} (h : b.length < 10) : get b = bad 0 := if_pos h
theorem get_long {b : List UInt8} (h : ¬ b.length < 10) (hv : (b.getD 0 0).toNat = 4) (hl : b.length ≠ 10 + (b.getD 9 0).toNat) : get b = bad 0 := by
  unfold get
  rw [if_neg h, if_neg (by simpa using hv), if_pos hl]
theorem get_put {o : Opn} (ho : o.fine) (hv : o.ver = 4) (he : (Cp.bytes o.caps).2 = 0) : get o.put.1 = (o, 0, 0, []) := by
  have hs := Cp.bytes_short he
  have hb := Cp.bytes_back he
  rw [put_lit o he]
  simp only
  generalize (Cp.bytes o.caps).1 = cb at *
  have hd : (o.head9 ++ UInt8.ofNat cb.length :: cb).drop 10 = cb := rfl
  unfold get
  rw [if_neg (by simp [head9]), if_neg (by show ¬ (UInt8.ofNat o.ver).toNat ≠ 4; rw [hv]; decide), if_neg (by
    show ¬ (o.head9 ++ UInt8.ofNat cb.length :: cb).length ≠ 10 + (UInt8.ofNat cb.length).toNat
    simp [head9]
    omega), hd, if_neg (by rw [hb]; simp), got_put o ho _ cb (by rw [hb])]
theorem get_more {o : Opn} (hv : o.ver = 4) (he : (Cp.bytes o.caps).2 = 0) (x : UInt8) : get (o.put.1 ++ [x]) = bad 0 := by
  have hs := Cp.bytes_short he
  rw [put_lit o he]
  simp only
  generalize (Cp.bytes o.caps).1 = cb at *
  refine get_long (by simp [head9]) (by show (UInt8.ofNat o.ver).toNat = 4; rw [hv]; rfl) ?_
  show (o.head9 ++ UInt8.ofNat cb.length :: cb ++ [x]).length ≠ 10 + (UInt8.ofNat cb.length).toNat
  simp [head9]
  omega
theorem get_less {o : Opn} (hv : o.ver = 4) (he : (Cp.bytes o.caps).2 = 0) {k : Nat} (hk : k < o.put.1.length) : get (o.put.1.take k) = bad 0 := by
  have hs := Cp.bytes_short he
  rw [put_lit o he] at hk ⊢
  simp only at hk ⊢
  generalize (Cp.bytes o.caps).1 = cb at *
  have hl : ((o.head9 ++ UInt8.ofNat cb.length :: cb).take k).length = k := by rw [List.length_take]; omega
  by_cases h10 : k < 10
  · exact get_short (by rw [hl]; exact h10)
  · obtain ⟨q, rfl⟩ : ∃ q, k = q + 10 := ⟨k - 10, by omega⟩
    refine get_long (by rw [hl]; exact h10) (by show (UInt8.ofNat o.ver).toNat = 4; rw [hv]; rfl) ?_
    rw [hl]
    show q + 10 ≠ 10 + (UInt8.ofNat cb.length).toNat
    have : (o.head9 ++ UInt8.ofNat cb.length :: cb).length = 10 + cb.length := by simp [head9]; omega
    have e : (UInt8.ofNat cb.length).toNat = cb.length := by rw [UInt8.toNat_ofNat']; omega
    omega
theorem put_len {o : Opn} (he : (Cp.bytes o.caps).2 = 0) : o.put.1.length = 10 + (Cp.bytes o.caps).1.length := by
  rw [put_lit o he]
  simp [head9]
  omega
theorem put_snd (o : Opn) : o.put.2 = (Cp.bytes o.caps).2 := by
  by_cases he : (Cp.bytes o.caps).2 = 0
  · rw [put_lit o he, he]
  · rw [put_err he]
/-- What is got: a fault and no capabilities, or version 4, and its form is no longer. -/
theorem get_bad {b : List UInt8} (h : (get b).2.1 ≠ 0) : (get b).1 = zero ∧ (get b).2.1 = 2 ∧ ((get b).2.2.1 = 0 ∨ (get b).2.2.1 = 1 ∨ (get b).2.2.1 = 4) := by
  have hf := Cp.out_fault (b.drop 10) []
  unfold get at h ⊢
  split
  · exact ⟨rfl, rfl, .inl rfl⟩
  · split
    · exact ⟨rfl, rfl, .inr (.inl rfl)⟩
    · split
      · exact ⟨rfl, rfl, .inl rfl⟩
      · split
        · next hne =>
          obtain ⟨_, h2, h3⟩ := hf hne
          refine ⟨rfl, h2, ?_⟩
          rcases h3 with h3 | h3
          · exact .inl h3
          · exact .inr (.inr h3)
        · next h1 h2 h3 h4 => rw [if_neg h1, if_neg h2, if_neg h3, if_neg h4] at h; exact absurd rfl h
theorem get_ok {b : List UInt8} (h : (get b).2.1 = 0) : (get b).2.2.1 = 0 ∧ (get b).1.ver = 4 ∧ ((Cp.bytes (get b).1.caps).2 = 0 → (get b).1.put.1.length ≤ b.length) ∧ (get b).2.2.2 = [] := by
  have hl := fun y => Cp.out_len (b.drop 10) [] y
  unfold get at h ⊢
  split
  · next h1 => rw [if_pos h1] at h; cases h
  · split
    · next h1 h2 => rw [if_neg h1, if_pos h2] at h; cases h
    · split
      · next h1 h2 h3 => rw [if_neg h1, if_neg h2, if_pos h3] at h; cases h
      · split
        · next h1 h2 h3 h4 => rw [if_neg h1, if_neg h2, if_neg h3, if_pos h4] at h; exact absurd h h4
        · next h1 h2 h3 h4 =>
          refine ⟨rfl, ?_, fun he => ?_, rfl⟩
          · show RS.num (b.take 1) = 4
            have hv : (b.getD 0 0).toNat = 4 := by simpa using h2
            match b, h1, hv with
            | [], h1, _ => exact absurd (by decide) h1
            | x :: r, _, hv => rw [show (x :: r).take 1 = [x] from rfl, num1]; exact hv
          · rw [put_len he]
            have h0 : (Cp.out [] (b.drop 10)).2.1 = 0 := by simpa using h4
            obtain ⟨m, hy, _, hyl⟩ := hl _ (Prod.ext rfl (Prod.ext h0 (Cp.out_none _ _ h0)))
            rw [List.nil_append] at hy
            have e : (got b).caps = m := hy
            rw [e] at he ⊢
            have hb : b.length = 10 + (b.drop 10).length := by rw [List.length_drop]; omega
            obtain ⟨_, ⟨g1, g2⟩ | ⟨g1, g2, g3⟩⟩ := Cp.bytes_ok he
            · rw [g2]; simp; omega
            · have := hyl g1
              have h5 : (Cp.bytes m).1.length = (Cp.forms m).length + 2 := by rw [g3]; rfl
              omega
end Opn
theorem few6_small (o : Opn) : (few6 o.caps).length ≤ 1000000 := by have := few6_len o.caps; omega
end Go.Proofs.YtohgkibpcgfihaaDoor
