
/-
  What the calls of package scroll's reader do: those that may note an error.
-/
import Derived.Test.YtdhbfhjlholnlaaGreatDoorRd
namespace Go.Proofs.YtdhbfhjlholnlaaGreatDoor
open Go.RowKit

theorem Rd.drewN {w : World} {p : Nat} {s : RS} (h : Rd w p s) (n : Nat) : Rd (w.drewN n) p s := h.kept (S := Nothing) ((Kept.refl _ w).drewN n) (NoRd.nothing w)

theorem rd_fits (p : Nat) (s : RS) (n : Int) (w : World) (h : Rd w p s) :
    Calls Tryz.prog 118 #[.pointer (some ⟨p, 0, none⟩), .int .i64 n] w fun r w' => r = .returned (.bool ((s.fits n).e == 0)) ∧ Rd w' p (s.fits n) ∧ Kept (Only p) w w' := by
  have HR := Lib.hid h
  clear h
  by_cases h0 : n < 0
  · have HF : Hid (s.fits n = s.fail 4) := if_pos (Or.inl h0)
    go_enter Tryz.func118, Tryz.ntmps118
    go_wp2_with fail
    refine (rd_fail p s 4 w HR.out).mono ?_
    rintro e w1 ⟨rfl, hr, hk⟩
    have HR1 := Lib.hid hr
    clear hr
    go_wp2_with fail
    refine (rd_err p _ w1 HR1.out).mono ?_
    rintro e w2 ⟨rfl, rfl⟩
    go_wp2
    go_ret
    rw [HF.out]
    exact ⟨rfl, HR1.out, hk⟩
  · go_enter Tryz.func118, Tryz.ntmps118
    go_wp2_with fail
    refine (rd_left p s w HR.out).mono ?_
    rintro e w1 ⟨rfl, m, rfl⟩
    have HR1 := Lib.hid (HR.out.drewN m)
    by_cases h1 : (s.left : Int) < n
    · have HF : Hid (s.fits n = s.fail 4) := if_pos (Or.inr h1)
      go_wp2_with fail
      refine (rd_fail p s 4 _ HR1.out).mono ?_
      rintro e w1 ⟨rfl, hr, hk⟩
      have HR2 := Lib.hid hr
      clear hr
      go_wp2_with fail
      refine (rd_err p _ w1 HR2.out).mono ?_
      rintro e w2 ⟨rfl, rfl⟩
      go_wp2
      go_ret
      rw [HF.out]
      exact ⟨rfl, HR2.out, ((Kept.refl _ w).drewN m).trans hk⟩
    · have HF : Hid (s.fits n = s) := if_neg (by omega)
      go_wp2_with fail
      refine (rd_err p _ _ HR1.out).mono ?_
      rintro e w2 ⟨rfl, rfl⟩
      go_wp2
      go_ret
      rw [HF.out]
      exact ⟨rfl, HR1.out, (Kept.refl _ w).drewN m⟩

theorem rd_within (p : Nat) (s : RS) (w : World) (h : Rd w p s) :
    Calls Tryz.prog 155 #[.pointer (some ⟨p, 0, none⟩)] w fun r w' => r = .returned (.bool ((if s.es = [] then s.fail 26 else s).e == 0)) ∧ Rd w' p (if s.es = [] then s.fail 26 else s) ∧ Kept (Only p) w w' := by
  have HR := Lib.hid h
  clear h
  by_cases h0 : s.es = []
  · have hl : ((s.es.length : Int) == 0) = true := by simp [h0]
    have HF : Hid ((if s.es = [] then s.fail 26 else s) = s.fail 26) := if_pos h0
    rw [HF.out]
    clear h0
    go_enter Tryz.func155, Tryz.ntmps155
    go_wp2_with fail
    refine (rd_deep p s w HR.out).mono ?_
    rintro e w1 ⟨rfl, rfl⟩
    go_wp2_with fail
    refine (rd_fail p s 26 w HR.out).mono ?_
    rintro e w1 ⟨rfl, hr, hk⟩
    have HR1 := Lib.hid hr
    clear hr
    go_wp2_with fail
    refine (rd_err p _ w1 HR1.out).mono ?_
    rintro e w2 ⟨rfl, rfl⟩
    go_wp2
    go_ret
    exact ⟨rfl, HR1.out, hk⟩
  · have hl : ((s.es.length : Int) == 0) = false := by
      have : s.es.length ≠ 0 := fun e => h0 (List.eq_nil_of_length_eq_zero e)
      simpa using h0
    have HF : Hid ((if s.es = [] then s.fail 26 else s) = s) := if_neg h0
    rw [HF.out]
    clear h0
    go_enter Tryz.func155, Tryz.ntmps155
    go_wp2_with fail
    refine (rd_deep p s w HR.out).mono ?_
    rintro e w1 ⟨rfl, rfl⟩
    go_wp2_with fail
    refine (rd_err p _ _ HR.out).mono ?_
    rintro e w2 ⟨rfl, rfl⟩
    go_wp2
    go_ret
    exact ⟨rfl, HR.out, Kept.refl _ _⟩

theorem RS.fail_ne {s : RS} {x : Int} (hx : x ≠ 0) : ((s.fail x).e == 0) = false := by
  unfold RS.fail
  split
  · simpa using hx
  · next h => simpa using h

/-- Behind the stores of Skip. -/
theorem Rd.put_skip {w : World} {p : Nat} {l : List UInt8} {k a : Nat} {r : List Nat} {e : Int} (h : Rd w p ⟨l, k, a :: r, e⟩) :
    ∃ q v', (w.cell? ⟨p, 3, none⟩ = some (.pointer (some ⟨q, 0, none⟩)) ∧ w.cell? ⟨q, 0, none⟩ = some (.int .i64 (a : Int)) ∧ w.cell? ⟨q, 2, none⟩ = some v' ∧ q ≠ p) ∧
      Rd ((w.setCell ⟨p, 2, none⟩ (.int .i64 (a : Int))).setCell ⟨p, 3, none⟩ v') p ⟨l, a, r, e⟩ ∧ (∃ A, v' = .pointer A) := by
  obtain ⟨bs, inn, hb, hs, ⟨q, v', rfl, hq, hc⟩, hk⟩ := h
  obtain ⟨⟨-, -, -, h3, -⟩, -⟩ := cells5 hb
  obtain ⟨g0, -, g2⟩ := cells3 hq
  refine ⟨q, v', ⟨h3, g0, g2, hq.apart hb (by decide)⟩, ⟨bs, v', (hb.put 2 _).put 3 _, (hs.own hb).own (hb.put 2 _), (hc.own hb).own (hb.put 2 _), hk.1.2, hk.2⟩, ?_⟩
  cases r with
  | nil => exact ⟨none, hc⟩
  | cons b r => obtain ⟨q', _, e, _⟩ := hc; exact ⟨_, e⟩

theorem rd_skip (p : Nat) (s : RS) (w : World) (h : Rd w p s) :
    Calls Tryz.prog 121 #[.pointer (some ⟨p, 0, none⟩)] w fun r w' => r = .returned (.tuple #[]) ∧ Rd w' p s.skip ∧ Kept (Only p) w w' := by
  have HR := Lib.hid h
  clear h
  have HW := Lib.hid (rd_within p s w HR.out)
  by_cases h0 : s.es = []
  · have HF : Hid (s.skip = s.fail 26) := if_pos h0
    have HG : Hid ((if s.es = [] then s.fail 26 else s) = s.fail 26) := if_pos h0
    have hn : ((s.fail 26).e == 0) = false := RS.fail_ne (by decide)
    rw [HF.out]
    rw [HG.out] at HW
    clear h0 HG HF
    go_enter Tryz.func121, Tryz.ntmps121
    go_wp2_with fail
    refine HW.out.mono ?_
    rintro e w1 ⟨rfl, hr, hk⟩
    have HR1 := Lib.hid hr
    clear hr
    go_wp2
    go_end0
    exact ⟨rfl, HR1.out, hk⟩
  · have HG : Hid ((if s.es = [] then s.fail 26 else s) = s) := if_neg h0
    rw [HG.out] at HW
    by_cases h1 : s.e = 0
    · obtain ⟨l, k, es, e⟩ := s
      obtain rfl : e = 0 := h1
      cases es with
      | nil => exact absurd rfl h0
      | cons a r =>
        clear h0 HG
        go_enter Tryz.func121, Tryz.ntmps121
        go_wp2_with fail
        refine HW.out.mono ?_
        rintro e w1 ⟨rfl, hr, hk⟩
        obtain ⟨q, v', ⟨h3, g0, g2, hne⟩, hR, A, rfl⟩ := hr.put_skip
        have HR1 := Lib.hid hR
        clear hR
        have f2 : w1.frozen? ⟨p, 2, none⟩ = false := by obtain ⟨_, _, hb, _⟩ := hr; exact hb.free 2
        have f3 : w1.frozen? ⟨p, 3, none⟩ = false := by obtain ⟨_, _, hb, _⟩ := hr; exact hb.free 3
        have h2 : w1.cell? ⟨p, 2, none⟩ = some (.int .i64 (k : Int)) := by obtain ⟨_, _, hb, _⟩ := hr; exact hb.cell 2
        clear hr
        go_wp2
        go_end0
        exact ⟨rfl, HR1.out, (hk.trans (Kept.own _ _ _ _)).trans (Kept.own _ _ _ _)⟩
    · have hn : (s.e == 0) = false := by simpa using h1
      have HF : Hid (s.skip = s) := by unfold RS.skip; show _ = _; rw [if_neg h0, if_neg h1]
      rw [HF.out]
      clear h0 h1 HG HF
      go_enter Tryz.func121, Tryz.ntmps121
      go_wp2_with fail
      refine HW.out.mono ?_
      rintro e w1 ⟨rfl, hr, hk⟩
      have HR1 := Lib.hid hr
      clear hr
      go_wp2
      go_end0
      exact ⟨rfl, HR1.out, hk⟩

theorem rd_close (p : Nat) (s : RS) (w : World) (h : Rd w p s) :
    Calls Tryz.prog 89 #[.pointer (some ⟨p, 0, none⟩)] w fun r w' => r = .returned (.tuple #[]) ∧ Rd w' p s.close ∧ Kept (Only p) w w' := by
  have HR := Lib.hid h
  clear h
  by_cases h0 : s.es = []
  · have hl : decide (0 < s.es.length) = false := by simp [h0]
    have HF : Hid (s.close = s.skip) := if_neg (fun x => x.1 h0)
    rw [HF.out]
    clear h0 HF
    go_enter Tryz.func89, Tryz.ntmps89
    go_wp2_with fail
    refine (rd_deep p s w HR.out).mono ?_
    rintro e w1 ⟨rfl, rfl⟩
    go_wp2_with fail
    refine (rd_skip p s w HR.out).mono ?_
    rintro e w1 ⟨rfl, hr, hk⟩
    have HR1 := Lib.hid hr
    clear hr
    go_wp2
    go_end0
    exact ⟨rfl, HR1.out, hk⟩
  · have hl : 0 < s.es.length := List.length_pos_iff.2 h0
    have hlI : (0 : Int) < s.es.length := by omega
    by_cases h1 : 0 < s.left
    · have HF : Hid (s.close = s.fail 5) := if_pos ⟨h0, h1⟩
      rw [HF.out]
      clear h0 HF
      go_enter Tryz.func89, Tryz.ntmps89
      go_wp2_with fail
      refine (rd_deep p s w HR.out).mono ?_
      rintro e w1 ⟨rfl, rfl⟩
      go_wp2_with fail
      refine (rd_left p s w HR.out).mono ?_
      rintro e w1 ⟨rfl, m, rfl⟩
      have HR1 := Lib.hid (HR.out.drewN m)
      go_wp2_with fail
      refine (rd_fail p s 5 _ HR1.out).mono ?_
      rintro e w1 ⟨rfl, hr, hk⟩
      have HR2 := Lib.hid hr
      clear hr
      go_wp2
      refine bodyPost_ret (results_none rfl _ _ _) rfl ?_
      exact ⟨rfl, HR2.out, ((Kept.refl _ w).drewN m).trans hk⟩
    · have HF : Hid (s.close = s.skip) := if_neg (fun x => h1 x.2)
      rw [HF.out]
      clear h0 HF
      have hlz : decide (0 < s.left) = false := by simpa using h1
      go_enter Tryz.func89, Tryz.ntmps89
      go_wp2_with fail
      refine (rd_deep p s w HR.out).mono ?_
      rintro e w1 ⟨rfl, rfl⟩
      go_wp2_with fail
      refine (rd_left p s w HR.out).mono ?_
      rintro e w1 ⟨rfl, m, rfl⟩
      have HR1 := Lib.hid (HR.out.drewN m)
      go_wp2_with fail
      refine (rd_skip p s _ HR1.out).mono ?_
      rintro e w1 ⟨rfl, hr, hk⟩
      have HR2 := Lib.hid hr
      clear hr
      go_wp2
      go_end0
      exact ⟨rfl, HR2.out, ((Kept.refl _ w).drewN m).trans hk⟩
end Go.Proofs.YtdhbfhjlholnlaaGreatDoor
