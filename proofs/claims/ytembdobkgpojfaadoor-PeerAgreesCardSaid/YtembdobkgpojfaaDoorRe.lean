
/-
  What the calls of package scroll's reader do: those that may note an error.
-/
import Derived.Test.YtembdobkgpojfaaDoorRd
namespace Go.Proofs.YtembdobkgpojfaaDoor
open Go.RowKit

theorem Rd.drewN {w : World} {p : Nat} {s : RS} (h : Rd w p s) (n : Nat) : Rd (w.drewN n) p s := h.kept (S := Nothing) ((Kept.refl _ w).drewN n) (NoRd.nothing w)

theorem rd_fits (p : Nat) (s : RS) (n : Int) (w : World) (h : Rd w p s) :
    Calls Tryd.prog 126 #[.pointer (some ⟨p, 0, none⟩), .int .i64 n] w fun r w' => r = .returned (.bool ((s.fits n).e == 0)) ∧ Rd w' p (s.fits n) ∧ Kept (Only p) w w' := by
  have HR := Lib.hid h
  clear h
  by_cases h0 : n < 0
  · have HF : Hid (s.fits n = s.fail 4) := if_pos (Or.inl h0)
    go_enter Tryd.func126, Tryd.ntmps126
    go_wp2_with fail
    refine (rd_fail p s 4 w HR.out).mono ?_
    rintro e w1 ⟨rfl, hr, hk⟩
    have HR1 := Lib.hid hr
    clear hr
    go_wp2_with fail
    refine (rd_err p _ w1 HR1.out).mono ?_
    rintro e w2 ⟨rfl, rfl⟩
    go_wp2
    go_ret
    rw [HF.out]
    exact ⟨rfl, HR1.out, hk⟩
  · go_enter Tryd.func126, Tryd.ntmps126
    go_wp2_with fail
    refine (rd_left p s w HR.out).mono ?_
    rintro e w1 ⟨rfl, m, rfl⟩
    have HR1 := Lib.hid (HR.out.drewN m)
    by_cases h1 : (s.left : Int) < n
    · have HF : Hid (s.fits n = s.fail 4) := if_pos (Or.inr h1)
      go_wp2_with fail
      refine (rd_fail p s 4 _ HR1.out).mono ?_
      rintro e w1 ⟨rfl, hr, hk⟩
      have HR2 := Lib.hid hr
      clear hr
      go_wp2_with fail
      refine (rd_err p _ w1 HR2.out).mono ?_
      rintro e w2 ⟨rfl, rfl⟩
      go_wp2
      go_ret
      rw [HF.out]
      exact ⟨rfl, HR2.out, ((Kept.refl _ w).drewN m).trans hk⟩
    · have HF : Hid (s.fits n = s) := if_neg (by omega)
      go_wp2_with fail
      refine (rd_err p _ _ HR1.out).mono ?_
      rintro e w2 ⟨rfl, rfl⟩
      go_wp2
      go_ret
      rw [HF.out]
      exact ⟨rfl, HR1.out, (Kept.refl _ w).drewN m⟩

theorem RS.fail_ne {s : RS} {x : Int} (hx : x ≠ 0) : ((s.fail x).e == 0) = false := by
  unfold RS.fail
  split
  · simpa using hx
  · next h => simpa using h

/-- Behind the stores of Skip. -/
theorem Rd.put_skip {w : World} {p : Nat} {l : List UInt8} {k a : Nat} {r : List Nat} {e : Int} (h : Rd w p ⟨l, k, a :: r, e⟩) :
    ∃ q v', (w.cell? ⟨p, 3, none⟩ = some (.pointer (some ⟨q, 0, none⟩)) ∧ w.cell? ⟨q, 0, none⟩ = some (.int .i64 (a : Int)) ∧ w.cell? ⟨q, 2, none⟩ = some v' ∧ q ≠ p) ∧
      Rd ((w.setCell ⟨p, 2, none⟩ (.int .i64 (a : Int))).setCell ⟨p, 3, none⟩ v') p ⟨l, a, r, e⟩ ∧ (∃ A, v' = .pointer A) := by
  obtain ⟨bs, inn, hb, hs, ⟨q, v', rfl, hq, hc⟩, hk⟩ := h
  obtain ⟨⟨-, -, -, h3, -⟩, -⟩ := cells5 hb
  obtain ⟨g0, -, g2⟩ := cells3 hq
  refine ⟨q, v', ⟨h3, g0, g2, hq.apart hb (by decide)⟩, ⟨bs, v', (hb.put 2 _).put 3 _, (hs.own hb).own (hb.put 2 _), (hc.own hb).own (hb.put 2 _), hk.1.2, hk.2⟩, ?_⟩
  cases r with
  | nil => exact ⟨none, hc⟩
  | cons b r => obtain ⟨q', _, e, _⟩ := hc; exact ⟨_, e⟩

end Go.Proofs.YtembdobkgpojfaaDoor
