
/-
  clock: Next, Go.
-/
import Derived.Test.YtdhbfhjlholnlaaZc
namespace Go.Proofs.Ytdhbfhjlholnlaa
open Go.RowKit

namespace Ck
def bt (b : Option (Nat × Int)) : Int := match b with | none => 0 | some (k, _) => (k : Int)
def ba (b : Option (Nat × Int)) : Int := match b with | none => 0 | some (_, x) => x
end Ck

set_option maxHeartbeats 1000000 in
theorem ck_next (p : Nat) (c : Ck.C) (w : World) (h : Ckp w p c) :
    Calls Try.prog 22 #[.pointer (some ⟨p, 0, none⟩)] w fun r w' =>
      r = .returned (.tuple #[.int .i64 (Ck.bt (Ck.next c)), .int .i64 (Ck.ba (Ck.next c)), .bool (Ck.next c).isSome]) ∧ Kept Nothing w w' := by
  have HI := Lib.hid (ck_is p c w h)
  obtain ⟨a0, a1, a2, a3, ht, hb⟩ := h
  unfold Ck.next
  have ⟨⟨_, h1, c2, c3, c4, c5, c6, c7, c8, c9⟩, hf⟩ := cells10 hb
  have HT := Lib.hid ht
  clear hb ht
  go_enter Try.func22, Try.ntmps22
  go_wp2_with (go_at_call 29; refine (HI.out).mono ?_; rintro e w' ⟨rfl, rfl⟩)
  clear h1 c2 c3 c4 c5 c6 c7 c8 c9 hf HI
  go_loopw [2, 3, 4, 14] (fun t a i n wr => ∃ k : Nat, n = .int .i64 (k : Int) ∧ k ≤ 4 ∧ t = .int .i64 (Ck.bt (Ck.bestN c.t k)) ∧ a = .int .i64 (Ck.ba (Ck.bestN c.t k)) ∧ i = .bool (Ck.bestN c.t k).isSome ∧ Kept Nothing w wr) (fun _ _ _ n _ => 4 - (intOf n).toNat)
  case atStart => exact ⟨0, rfl, by omega, rfl, rfl, rfl, Kept.refl _ w⟩
  case round =>
    obtain ⟨k, rfl, hk, rfl, rfl, rfl, hkw⟩ := hrel
    by_cases h4 : k < 4
    · have hi : (k : Int) < 4 := by omega
      have hx : ∀ u, (Instr.index 63 (.agg #[.bool a0.isSome, .int .i64 (a0.getD 0), .bool a1.isSome, .int .i64 (a1.getD 0), .bool a2.isSome, .int .i64 (a2.getD 0), .bool a3.isSome, .int .i64 (a3.getD 0)]) (.int .i64 (k : Int))).run Try.prog u = .ok (.agg #[.bool (c.t.getD k none).isSome, .int .i64 ((c.t.getD k none).getD 0)]) u := by
        intro u
        rw [HT.out]
        obtain rfl | rfl | rfl | rfl : k = 0 ∨ k = 1 ∨ k = 2 ∨ k = 3 := by omega
        all_goals rfl
      have hst : Hid (Ck.bestN c.t (k + 1) = Ck.stp k (c.t.getD k none) (Ck.bestN c.t k)) := Lib.hid rfl
      have kk : ∀ f x, Kept Nothing w (wr.alloc (.cells #[.bool f, .int .i64 x] 62)) := fun f x => hkw.alloc _
      generalize c.t.getD k none = o at hx hst
      generalize Ck.bestN c.t k = b at hst ⊢
      cases o with
      | none =>
        simp only [Option.isSome_none, Option.getD_none] at hx
        have kk0 := kk false 0
        clear kk
        go_wp2
        go_roundw
        case rel => exact ⟨k + 1, by go_num, by omega, by rw [hst.out]; rfl, by rw [hst.out]; rfl, by rw [hst.out]; rfl, kk0⟩
        case measure => simp [intOf]; omega
      | some x =>
        simp only [Option.isSome_some, Option.getD_some] at hx
        have kk1 := kk true x
        clear kk
        cases b with
        | none =>
          simp only [Ck.bt, Ck.ba, Option.isSome_none]
          go_wp2
          go_quiet (fail)
          go_wp2
          go_roundw
          case rel => exact ⟨k + 1, by go_num, by omega, by rw [hst.out]; rfl, by rw [hst.out]; rfl, by rw [hst.out]; rfl, kk1.drewN _⟩
          case measure => simp [intOf]; omega
        | some jy =>
          obtain ⟨j, y⟩ := jy
          simp only [Ck.bt, Ck.ba, Option.isSome_some]
          by_cases hlt : x < y
          · have hst2 : Hid (Ck.bestN c.t (k + 1) = some (k, x)) := Lib.hid (hst.out.trans (if_pos hlt))
            clear hst
            go_wp2
            go_quiet (fail)
            go_wp2
            go_roundw
            case rel => exact ⟨k + 1, by go_num, by omega, by rw [hst2.out], by rw [hst2.out], by rw [hst2.out]; rfl, kk1.drewN _⟩
            case measure => simp [intOf]; omega
          · have hst2 : Hid (Ck.bestN c.t (k + 1) = some (j, y)) := Lib.hid (hst.out.trans (if_neg hlt))
            have hge : y ≤ x := by omega
            clear hst hlt
            go_wp2
            go_roundw
            case rel => exact ⟨k + 1, by go_num, by omega, by rw [hst2.out], by rw [hst2.out], by rw [hst2.out]; rfl, kk1⟩
            case measure => simp [intOf]; omega
    · obtain rfl : k = 4 := by omega
      go_wp2
      go_ret3
      exact ⟨rfl, hkw⟩

theorem Ckp.time {w : World} {p : Nat} {c : Ck.C} (h : Ckp w p c) (n : Int) :
    Ckp (w.setCell ⟨p, 1, none⟩ (.int .i64 n)) p ⟨n, c.t⟩ ∧ Kept (Only p) w (w.setCell ⟨p, 1, none⟩ (.int .i64 n)) := by
  obtain ⟨a0, a1, a2, a3, ht, hb⟩ := h
  exact ⟨⟨a0, a1, a2, a3, ht, hb.put 1 _⟩, Kept.own w p 1 _⟩
theorem Ckp.cells {w : World} {p : Nat} {c : Ck.C} (h : Ckp w p c) : w.cell? ⟨p, 1, none⟩ = some (.int .i64 c.now) ∧ w.frozen? ⟨p, 1, none⟩ = false := by
  obtain ⟨a0, a1, a2, a3, ht, hb⟩ := h
  exact ⟨hb.cell 1, hb.free 1⟩
theorem not_nothing {p : Nat} : ¬ Nothing p := fun x => x

set_option maxHeartbeats 1000000 in
theorem ck_go (p : Nat) (c : Ck.C) (u : Int) (hg : Ck.Good c) (w : World) (h : Ckp w p c) :
    Calls Try.prog 18 #[.pointer (some ⟨p, 0, none⟩), .int .i64 u] w fun r w' =>
      r = .returned (.tuple #[.int .i64 (((Ck.go c u).1.getD 0 : Nat) : Int), .bool (Ck.go c u).1.isSome]) ∧ Ckp w' p (Ck.go c u).2 ∧ Kept (Only p) w w' := by
  have HI := Lib.hid (ck_is p c w h)
  have HX := Lib.hid (ck_next p c w h)
  have hlo := hg.lo
  have hhi : c.now ≤ 1099511627776 := hg.hi
  have HG := Lib.hid hg
  have HP := Lib.hid h
  have ⟨h1, hf⟩ := h.cells
  have hlim : Hid (min (max u c.now) 1099511627776 = Ck.lim c u) := Lib.hid rfl
  clear h hg
  have hgo : Ck.go c u = match Ck.next c with
    | none => (none, ⟨Ck.lim c u, c.t⟩)
    | some (k, x) => if Ck.lim c u < x then (none, ⟨Ck.lim c u, c.t⟩) else (some k, ⟨x, c.t.set k none⟩) := rfl
  have HO := Lib.hid hgo
  clear hgo
  generalize Ck.go c u = R at HO ⊢
  go_enter Try.func18, Try.ntmps18
  go_upto_region 3 with (go_at_call 29; refine (HI.out).mono ?_; rintro e w' ⟨rfl, rfl⟩)
  go_cut [1] (fun x wx => x = .int .i64 (Ck.lim c u) ∧ w = wx)
  case first =>
    go_wp2
    all_goals
      go_meet
      refine ⟨?_, rfl⟩
      rw [← hlim.out]
      congr 1
      omega
  case rest =>
    obtain ⟨rfl, rfl⟩ := hcut
    clear hlim h1 hf
    generalize Ck.lim c u = L at HO ⊢
    cases hn : Ck.next c with
    | none =>
      rw [hn] at HX HO
      simp only [Ck.bt, Ck.ba, Option.isSome_none] at HX
      obtain rfl := HO.out
      go_upto_region 5 with (go_at_call 22; refine (HX.out).mono ?_; rintro e w1 ⟨rfl, hk1⟩)
      have HP1 := Lib.hid (HP.out.kept hk1 not_nothing)
      have ⟨h1, hf⟩ := HP1.out.cells
      go_wp2
      go_ret2
      exact ⟨rfl, (HP1.out.time L).1, (hk1.mono (fun _ x => x.elim)).trans (HP1.out.time L).2⟩
    | some kx =>
      obtain ⟨k, x⟩ := kx
      rw [hn] at HX HO
      simp only [Ck.bt, Ck.ba, Option.isSome_some] at HX
      have hk4 : k < 4 := (Ck.best_some hn).1
      by_cases hlt : L < x
      · have hR := HO.out
        simp only [if_pos hlt] at hR
        subst hR
        go_upto_region 5 with (go_at_call 22; refine (HX.out).mono ?_; rintro e w1 ⟨rfl, hk1⟩)
        have HP1 := Lib.hid (HP.out.kept hk1 not_nothing)
        have ⟨h1, hf⟩ := HP1.out.cells
        go_wp2
        go_ret2
        exact ⟨rfl, (HP1.out.time L).1, (hk1.mono (fun _ x => x.elim)).trans (HP1.out.time L).2⟩
      · have hR := HO.out
        simp only [if_neg hlt] at hR
        subst hR
        have hle : x ≤ L := by omega
        clear hlt
        go_upto_region 5 with (go_at_call 22; refine (HX.out).mono ?_; rintro e w1 ⟨rfl, hk1⟩)
        have HP1 := Lib.hid (HP.out.kept hk1 not_nothing)
        have ⟨h1, hf⟩ := HP1.out.cells
        have HH := Lib.hid (ck_halt p ⟨x, c.t⟩ k hk4 _ (HP1.out.time x).1)
        go_wp2_with (go_at_call 32; refine (HH.out).mono ?_; rintro e w2 ⟨rfl, hc2, hk2⟩)
        go_ret2
        exact ⟨rfl, hc2, ((hk1.mono (fun _ x => x.elim)).trans (HP1.out.time x).2).trans hk2⟩
end Go.Proofs.Ytdhbfhjlholnlaa
