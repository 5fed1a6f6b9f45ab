
/-
  Paths' texts, read: Parse itself.
-/
import Derived.Test.YtfjpphfadglohaaDoorJm
import Derived.BigQuiet
namespace Go.Proofs.YtfjpphfadglohaaDoor
open Go.RowKit

set_option maxRecDepth 20000 in
set_option maxHeartbeats 4000000 in
theorem parseP_any (l : List UInt8) (ha : Asc l) (hl : l.length ≤ 90000) (w : World) (hr : Rdy2 w) (hs : Bkt w) :
    Calls Tryd.prog 57 #[.string ⟨l.toArray⟩] w fun e w' => ∃ rv, e = .returned (.tuple #[rv, .int .i64 ((Pt.parseP l).2 : Int)]) ∧ Pown w' w.heap.size rv (Pt.parseP l).1 ∧ Kept Nothing w w' := by
  obtain ⟨R, HRR⟩ : ∃ R, Hid (Pt.parseP l = R) := ⟨_, Lib.hid rfl⟩
  rw [HRR.out]
  by_cases h45 : l = [45]
  · have HE : Hid (R = ([], 0)) := Lib.hid (by rw [← HRR.out]; unfold Pt.parseP; rw [if_pos h45])
    clear HRR ha hr hs
    subst h45
    go_enter Tryd.func57, Tryd.ntmps57
    go_wp2
    go_ret2
    rw [HE.out]
    exact ⟨_, rfl, Pown.nil _ _, Kept.refl _ _⟩
  · have hq45 : (l == [45]) = false := beq_false_of_ne h45
    have HPA := Lib.hid (fun w1 (h : SegSt w w.heap.size ⟨l, [], 0⟩ w1) => rg_path w hr hs w.heap.size ⟨l, [], 0⟩ w1 h ha (by simpa using hl))
    have HR2 : Hid (R = let S := Pt.pathL (l.length + 1) (Pt.kindOf l) ⟨l, [], 0⟩; if S.2 = false then ([], 5) else if S.1.err ≠ 0 then ([], S.1.err) else if Pt.may S.1.read = false then ([], 7) else (S.1.read, 0)) := Lib.hid (by rw [← HRR.out]; unfold Pt.parseP; rw [if_neg h45])
    have HM := Lib.hid (fun v (l : List Seg) w h hl => path_may v l w h hl)
    clear HRR ha hr hs
    revert HPA HR2
    generalize Pt.pathL (l.length + 1) (Pt.kindOf l) ⟨l, [], 0⟩ = S
    intro HPA HR2
    obtain ⟨⟨sr, sl, se⟩, sb⟩ := S
    have ST0 : SegSt w w.heap.size ⟨l, [], 0⟩ (w.alloc (.cells #[.string ⟨l.toArray⟩, .slice none 0 0, .int .i64 0] 118)) :=
      ⟨.slice none 0 0, Blk.fresh _ _ _, Pown.nil _ _, (Kept.refl Nothing w).alloc _, Nat.le_refl _⟩
    simp only at HPA HR2
    cases sb with
    | false =>
      have HE : Hid (R = ([], 5)) := Lib.hid (by rw [HR2.out]; rfl)
      rw [HE.out]
      clear HR2 HE
      go_enter Tryd.func57, Tryd.ntmps57
      go_wp2_with (go_at_call 86; refine (HPA.out _ ST0).mono ?_; rintro e w4 ⟨rfl, st4, hrl⟩; (obtain ⟨rv4, b4, p4, kk4, -⟩ := st4); (have c4 := b4.cell 0); (have c41 := b4.cell 1); (have c42 := b4.cell 2); (have P4 := Lib.hid p4); (have K4 := Lib.hid kk4); clear b4 p4 kk4)
      go_ret2
      exact ⟨_, rfl, Pown.nil _ _, K4.out⟩
    | true =>
      by_cases he : se = 0
      · subst he
        cases hm : Pt.may sl with
        | false =>
          have HE : Hid (R = ([], 7)) := Lib.hid (by rw [HR2.out, if_neg (by simp), if_neg (by simp), if_pos hm])
          rw [HE.out]
          clear HR2 HE
          go_enter Tryd.func57, Tryd.ntmps57
          go_wp2_with (first | (go_at_call 86; refine (HPA.out _ ST0).mono ?_; rintro e w4 ⟨rfl, st4, hrl⟩; (obtain ⟨rv4, b4, p4, kk4, -⟩ := st4); (have c4 := b4.cell 0); (have c41 := b4.cell 1); (have c42 := b4.cell 2); (have P4 := Lib.hid p4); (have K4 := Lib.hid kk4); clear b4 p4 kk4) | (go_at_call 50; refine (HM.out _ _ _ P4.out.pts (by omega)).mono ?_; rw [hm]; rintro e w5 ⟨rfl, k5⟩))
          go_ret2
          exact ⟨_, rfl, Pown.nil _ _, K4.out.trans k5⟩
        | true =>
          have HE : Hid (R = (sl, 0)) := Lib.hid (by rw [HR2.out, if_neg (by simp), if_neg (by simp), if_neg (by simp [hm])])
          rw [HE.out]
          clear HR2 HE
          go_enter Tryd.func57, Tryd.ntmps57
          go_wp2_with (first | (go_at_call 86; refine (HPA.out _ ST0).mono ?_; rintro e w4 ⟨rfl, st4, hrl⟩; (obtain ⟨rv4, b4, p4, kk4, -⟩ := st4); (have c4 := b4.cell 0); (have c41 := b4.cell 1); (have c42 := b4.cell 2); (have B4 := Lib.hid b4); (have P4 := Lib.hid p4); (have K4 := Lib.hid kk4); clear b4 p4 kk4) | (go_at_call 50; refine (HM.out _ _ _ P4.out.pts (by omega)).mono ?_; rw [hm]; rintro e w5 ⟨rfl, k5⟩; (have c51 := (B4.out.kept k5 (fun x => x)).cell 1)))
          go_ret2
          exact ⟨_, rfl, P4.out.old k5, K4.out.trans k5⟩
      · have HE : Hid (R = ([], se)) := Lib.hid (by rw [HR2.out, if_neg (by simp), if_pos he])
        rw [HE.out]
        clear HR2 HE
        have hz : ¬ ((se : Int) = 0) := by omega
        go_enter Tryd.func57, Tryd.ntmps57
        go_upto_region 7 with (go_at_call 86; refine (HPA.out _ ST0).mono ?_; rintro e w4 ⟨rfl, st4, hrl⟩; (obtain ⟨rv4, b4, p4, kk4, -⟩ := st4); (have c4 := b4.cell 0); (have c41 := b4.cell 1); (have c42 := b4.cell 2); (have P4 := Lib.hid p4); (have K4 := Lib.hid kk4); clear b4 p4 kk4)
        go_quiet (fail)
        go_wp2_with fail
        go_ret2
        exact ⟨_, rfl, Pown.nil _ _, K4.out.drewN _⟩
end Go.Proofs.YtfjpphfadglohaaDoor
