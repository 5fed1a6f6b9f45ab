
/-
  The law ClockPlays.
-/
import Derived.Test.YtdhbfhjlholnlaaZj
import Derived.Deep.RegionHeldLaw
namespace Go.Proofs.Ytdhbfhjlholnlaa
open Go.RowKit

/-- Both clocks, the copy, and the call that is played. -/
structure Pa (W w : World) (p q : Nat) (c d : Ck.C) (t x : Value) (g : Nat) (a b n : Int) : Prop where
  ph : Ph W w p q c d
  tw : Tw w p q t x
  blk : Blk w g 32 #[.int .i64 a, .int .i64 b, .int .i64 n]
theorem Pa.ne {W w : World} {p q : Nat} {c d : Ck.C} {t x : Value} {g : Nat} {a b n : Int} (h : Pa W w p q c d t x g a b n) : g ≠ p ∧ g ≠ q := by
  obtain ⟨a0, a1, a2, a3, _, hb⟩ := h.ph.cl.at_
  obtain ⟨b0, b1, b2, b3, _, hb'⟩ := h.ph.rc
  exact ⟨h.blk.apart hb (by decide), h.blk.apart hb' (by decide)⟩
theorem Pa.to {W w w' : World} {p q : Nat} {c d c' d' : Ck.C} {t x : Value} {g : Nat} {a b n : Int} (h : Pa W w p q c d t x g a b n) {S : Nat → Prop} (k : Kept S w w') (hS : ∀ r, S r → r = p ∨ r = q) (hp : Ph W w' p q c' d') : Pa W w' p q c' d' t x g a b n :=
  ⟨hp, h.tw.kept k hS, h.blk.kept k (fun e => by rcases hS g e with e | e; exact h.ne.1 e; exact h.ne.2 e)⟩
theorem Pa.cells {W w : World} {p q : Nat} {c d : Ck.C} {t x : Value} {g : Nat} {a b n : Int} (h : Pa W w p q c d t x g a b n) : w.cell? ⟨g, 0, none⟩ = some (.int .i64 a) ∧ w.cell? ⟨g, 1, none⟩ = some (.int .i64 b) ∧ w.cell? ⟨g, 2, none⟩ = some (.int .i64 n) := ⟨h.blk.cell 0, h.blk.cell 1, h.blk.cell 2⟩
theorem Pa.old {W w w' : World} {p q : Nat} {c d : Ck.C} {t x : Value} {g : Nat} {a b n : Int} (h : Pa W w p q c d t x g a b n) (k : Kept Nothing w w') : Pa W w' p q c d t x g a b n := h.to k (fun _ e => e.elim) (h.ph.old k)
theorem only_p {p q : Nat} : ∀ r, Only p r → r = p ∨ r = q := fun _ e => .inl e
theorem only_q {p q : Nat} : ∀ r, Only q r → r = p ∨ r = q := fun _ e => .inr e
theorem pa_startp (W : World) (p q : Nat) (c d : Ck.C) (t x : Value) (g : Nat) (a b n : Int) (w : World) (h : Pa W w p q c d t x g a b n) :
    Calls Try.prog 14 #[.pointer (some ⟨p, 0, none⟩), .int .i64 b, .int .i64 n] w fun r w' => r = .returned (.int .i64 (Ck.startR c b n).1) ∧ Pa W w' p q ((Ck.startR c b n).2) (d) t x g a b n :=
  (pp_start W p q c d b n w h.ph).mono fun _ _ ⟨hr, hp, hk⟩ => ⟨hr, h.to hk only_p hp⟩
theorem pa_stopp (W : World) (p q : Nat) (c d : Ck.C) (t x : Value) (g : Nat) (a b n : Int) (w : World) (h : Pa W w p q c d t x g a b n) :
    Calls Try.prog 16 #[.pointer (some ⟨p, 0, none⟩), .int .i64 b] w fun r w' => r = .returned (.int .i64 (Ck.stopR c b).1) ∧ Pa W w' p q ((Ck.stopR c b).2) (d) t x g a b n :=
  (pp_stop W p q c d b w h.ph).mono fun _ _ ⟨hr, hp, hk⟩ => ⟨hr, h.to hk only_p hp⟩
theorem pa_gop (W : World) (p q : Nat) (c d : Ck.C) (t x : Value) (g : Nat) (a b n : Int) (w : World) (h : Pa W w p q c d t x g a b n) :
    Calls Try.prog 18 #[.pointer (some ⟨p, 0, none⟩), .int .i64 n] w fun r w' => r = .returned (.tuple #[.int .i64 (((Ck.go c n).1.getD 0 : Nat) : Int), .bool (Ck.go c n).1.isSome]) ∧ Pa W w' p q ((Ck.go c n).2) (d) t x g a b n :=
  (pp_go W p q c d n w h.ph).mono fun _ _ ⟨hr, hp, hk⟩ => ⟨hr, h.to hk only_p hp⟩
theorem pa_leftp (W : World) (p q : Nat) (c d : Ck.C) (t x : Value) (g : Nat) (a b n : Int) (w : World) (h : Pa W w p q c d t x g a b n) :
    Calls Try.prog 20 #[.pointer (some ⟨p, 0, none⟩), .int .i64 b] w fun r w' => r = .returned (.tuple #[.int .i64 (Ck.leftR c b).1, .bool (Ck.leftR c b).2]) ∧ Pa W w' p q (c) (d) t x g a b n :=
  (pp_left W p q c d b w h.ph).mono fun _ _ ⟨hr, hp, hk⟩ => ⟨hr, h.to hk (fun _ e => e.elim) hp⟩
theorem pa_nextp (W : World) (p q : Nat) (c d : Ck.C) (t x : Value) (g : Nat) (a b n : Int) (w : World) (h : Pa W w p q c d t x g a b n) :
    Calls Try.prog 22 #[.pointer (some ⟨p, 0, none⟩)] w fun r w' => r = .returned (.tuple #[.int .i64 (Ck.bt (Ck.next c)), .int .i64 (Ck.ba (Ck.next c)), .bool (Ck.next c).isSome]) ∧ Pa W w' p q (c) (d) t x g a b n :=
  (pp_next W p q c d w h.ph).mono fun _ _ ⟨hr, hp, hk⟩ => ⟨hr, h.to hk (fun _ e => e.elim) hp⟩
theorem pa_startq (W : World) (p q : Nat) (c d : Ck.C) (t x : Value) (g : Nat) (a b n : Int) (w : World) (h : Pa W w p q c d t x g a b n) :
    Calls Try.prog 15 #[.pointer (some ⟨q, 0, none⟩), .int .i64 b, .int .i64 n] w fun r w' => r = .returned (.int .i64 (Ck.startR d b n).1) ∧ Pa W w' p q (c) ((Ck.startR d b n).2) t x g a b n :=
  (pq_start W p q c d b n w h.ph).mono fun _ _ ⟨hr, hp, hk⟩ => ⟨hr, h.to hk only_q hp⟩
theorem pa_stopq (W : World) (p q : Nat) (c d : Ck.C) (t x : Value) (g : Nat) (a b n : Int) (w : World) (h : Pa W w p q c d t x g a b n) :
    Calls Try.prog 17 #[.pointer (some ⟨q, 0, none⟩), .int .i64 b] w fun r w' => r = .returned (.int .i64 (Ck.stopR d b).1) ∧ Pa W w' p q (c) ((Ck.stopR d b).2) t x g a b n :=
  (pq_stop W p q c d b w h.ph).mono fun _ _ ⟨hr, hp, hk⟩ => ⟨hr, h.to hk only_q hp⟩
theorem pa_goq (W : World) (p q : Nat) (c d : Ck.C) (t x : Value) (g : Nat) (a b n : Int) (w : World) (h : Pa W w p q c d t x g a b n) :
    Calls Try.prog 19 #[.pointer (some ⟨q, 0, none⟩), .int .i64 n] w fun r w' => r = .returned (.tuple #[.int .i64 (((Ck.go d n).1.getD 0 : Nat) : Int), .bool (Ck.go d n).1.isSome]) ∧ Pa W w' p q (c) ((Ck.go d n).2) t x g a b n :=
  (pq_go W p q c d n w h.ph).mono fun _ _ ⟨hr, hp, hk⟩ => ⟨hr, h.to hk only_q hp⟩
theorem pa_leftq (W : World) (p q : Nat) (c d : Ck.C) (t x : Value) (g : Nat) (a b n : Int) (w : World) (h : Pa W w p q c d t x g a b n) :
    Calls Try.prog 21 #[.pointer (some ⟨q, 0, none⟩), .int .i64 b] w fun r w' => r = .returned (.tuple #[.int .i64 (Ck.leftR d b).1, .bool (Ck.leftR d b).2]) ∧ Pa W w' p q (c) (d) t x g a b n :=
  (pq_left W p q c d b w h.ph).mono fun _ _ ⟨hr, hp, hk⟩ => ⟨hr, h.to hk (fun _ e => e.elim) hp⟩
theorem pa_nextq (W : World) (p q : Nat) (c d : Ck.C) (t x : Value) (g : Nat) (a b n : Int) (w : World) (h : Pa W w p q c d t x g a b n) :
    Calls Try.prog 23 #[.pointer (some ⟨q, 0, none⟩)] w fun r w' => r = .returned (.tuple #[.int .i64 (Ck.bt (Ck.next d)), .int .i64 (Ck.ba (Ck.next d)), .bool (Ck.next d).isSome]) ∧ Pa W w' p q (c) (d) t x g a b n :=
  (pq_next W p q c d w h.ph).mono fun _ _ ⟨hr, hp, hk⟩ => ⟨hr, h.to hk (fun _ e => e.elim) hp⟩

theorem qck_now {w : World} {p : Nat} {c : Ck.C} (h : Ckp w p c) (m : Nat) : Calls Try.prog 13 #[.pointer (some ⟨p, 0, none⟩)] (w.drewN m) fun e w'' => e = .returned (.int .i64 c.now) ∧ ∃ m, w'' = w.drewN m :=
  (ck_now p c _ (h.kept ((Kept.refl Nothing w).drewN m) not_nothing)).mono fun _ _ ⟨h1, h2⟩ => ⟨h1, m, h2.symm⟩
set_option maxRecDepth 100000 in
set_option maxHeartbeats 4000000 in
theorem plays_law (n : Int) (v : Value) (l : List (Int × Int × Int)) (W : World) (hl : Acs W v l) :
    Calls Try.prog 3 #[.int .i64 n, v] W fun r w' => r = .returned (.bool true) ∧ Kept Nothing W w' := by
  obtain ⟨A, cc, rfl, hm, hp⟩ := hl
  unfold maxLen at hm
  have HP := Lib.hid hp
  clear hp
  have HN := Lib.hid (ck_new n W)
  by_cases hn : 0 ≤ n ∧ n ≤ Ck.MT
  · have HR := Lib.hid (fun w => rc_new n w)
    have HH := Lib.hid hn
    clear hn
    go_enter Try.func3, Try.ntmps3
    go_wp2_with fail
    refine (HN.out).mono ?_
    rintro e w1 ⟨h1, -⟩
    obtain ⟨p, rfl, hc, hpz, hk⟩ := h1 HH.out
    have C1 : Hid (Cl W w1 p ⟨n, [none, none, none, none]⟩) := Lib.hid ⟨hk, hc, ⟨HH.out.1, HH.out.2, rfl, fun k x hx => by rcases k with _ | _ | _ | _ | k <;> simp at hx⟩, hpz⟩
    clear hc hpz hk h1 HN
    go_wp2_with fail
    refine (HR.out w1).mono ?_
    rintro e w2 ⟨h1, -⟩
    obtain ⟨q, rfl, hc, hqz, hk⟩ := h1 HH.out
    have P2 : Hid (Ph W w2 p q ⟨n, [none, none, none, none]⟩ ⟨n, [none, none, none, none]⟩) := Lib.hid ⟨C1.out.old hk, hc, C1.out.good, Nat.le_trans C1.out.keep.size hqz⟩
    clear hc hqz hk h1 HR C1 HH
    go_wp2
    generalize (⟨n, [none, none, none, none]⟩ : Ck.C) = c0 at P2
    go_loopw [9, 10, 50] (fun t x i wr => ∃ (k : Nat), i = .int .i64 (k : Int) ∧ k ≤ l.length ∧ k ≤ 60 ∧ Hid ((∃ c, Ph W wr p q c c) ∧ Tw wr p q t x)) (fun _ _ i _ => l.length - (intOf i).toNat)
    case atStart => exact ⟨0, rfl, by omega, by omega, Lib.hid ⟨⟨_, P2.out⟩, .inl rfl⟩⟩
    case round =>
      clear P2
      obtain ⟨k, rfl, hkl, hk60, hH⟩ := hrel
      by_cases hlt : k < l.length
      · have hlt' : (k : Int) < (l.length : Int) := by omega
        obtain ⟨b0, o0, rfl, hcp⟩ := HP.out (by omega)
        obtain ⟨⟨c, hP⟩, hT⟩ := hH.out
        have k0 := hP.cl.keep
        have c0' := k0.cell_some (hcp k hlt).1 (fun x => x)
        have c1' := k0.cell_some (hcp k hlt).2.1 (fun x => x)
        have c2' := k0.cell_some (hcp k hlt).2.2 (fun x => x)
        generalize (l.getD k (0, 0, 0)).1 = a at *
        generalize (l.getD k (0, 0, 0)).2.1 = b at *
        generalize (l.getD k (0, 0, 0)).2.2 = m at *
        have ka := (Kept.refl Nothing wr).alloc (.cells #[.int .i64 a, .int .i64 b, .int .i64 m] 32)
        have PA : Hid (Pa W _ p q c c u9 u10 wr.heap.size a b m) := Lib.hid ⟨hP.old ka, hT.old ka, Blk.fresh wr _ _⟩
        clear hcp hP hT k0 ka hH
        by_cases h60 : k = 60
        · subst h60
          have hT := PA.out.tw
          have HK := Lib.hid (PA.out.ph.cl.keep)
          clear PA
          rcases hT with rfl | ⟨r, d, rfl, hc, rfl, -, -⟩
          · have HWK := Lib.hid ck_wakes
            go_wp2_with (go_at_call 11; refine (HWK.out _).mono ?_; rintro e w8 ⟨rfl, hk8⟩)
            go_ret
            exact ⟨rfl, HK.out.trans hk8⟩
          · have HWK := Lib.hid ck_wakes
            have HNW := Lib.hid (ck_now r d _ hc)
            have hbe : (d.now == d.now) = true := beq_self_eq_true _
            clear hc
            go_wp2_with (first
              | (go_at_call 13; refine (HNW.out).mono ?_; rintro e w' ⟨rfl, rfl⟩)
              | (go_at_call 11; refine (HWK.out _).mono ?_; rintro e w8 ⟨rfl, hk8⟩))
            go_ret
            exact ⟨rfl, HK.out.trans hk8⟩
        · have hk60b : ((k : Int) == 60) = false := by simp; omega
          have hw : wrap64 ((l.length : Int) / 2) = (l.length : Int) / 2 := by unfold wrap64; omega
          have hne := PA.out.ne
          have HCy := Lib.hid (ck_copy p c _ PA.out.ph.cl.at_)
          go_upto_if 61 with fail
          generalize wr.alloc (.cells #[.int .i64 a, .int .i64 b, .int .i64 m] 32) = w3 at *
          generalize wr.heap.size = g at *
          go_cut [9, 10] (fun t x wx => Hid (Pa W wx p q c c t x g a b m))
          case first =>
            by_cases hk2 : k = l.length / 2
            · have hq2 : ((k : Int) == (l.length : Int) / 2) = true := by simp; omega
              clear hk2
              go_wp2_with fail
              refine (HCy.out).mono ?_
              rintro e w4 ⟨r, rfl, hc4, hr, hk4⟩
              have PB := Lib.hid (PA.out.old hk4)
              have hC4 := Lib.hid hc4
              have hrp : r ≠ p := fun e => by have := PA.out.ph.cl.at_.lt; omega
              have hrq : r ≠ q := fun e => by have := PA.out.ph.rc.lt; omega
              clear hc4 hr hk4 HCy
              go_wp2_with fail
              refine (ck_now r c w4 hC4.out).mono ?_
              rintro e w' ⟨rfl, rfl⟩
              go_wp2
              go_meet
              exact Lib.hid ⟨PB.out.ph, .inr ⟨r, c, rfl, hC4.out, rfl, hrp, hrq⟩, PB.out.blk⟩
            · have hq2 : ((k : Int) == (l.length : Int) / 2) = false := by simp; omega
              clear hk2 HCy
              go_wp2
              go_meet
              exact PA
          case rest =>
            have PB := Lib.hid hcut.out
            clear hcut PA HCy hw
            obtain ⟨z0, z1, z2⟩ := PB.out.cells
            go_upto_block 2 with fail
            go_cut [13] (fun ok wx => ok = .bool true ∧ Hid (∃ c', Pa W wx p q c' c' u9 u10 g a b m))
            case first =>
              skip
              by_cases hx0 : a = 0
              · subst hx0
                as_aux_lemma =>
                  have hbe : ((Ck.startR c b m).1 == (Ck.startR c b m).1) = true := beq_self_eq_true _
                  have HC1 := Lib.hid (fun u h => pa_startp W p q c c u9 u10 g 0 b m u h)
                  have HC2 := Lib.hid (fun u h => pa_startq W p q (Ck.startR c b m).2 c u9 u10 g 0 b m u h)
                  generalize Ck.startR c b m = R at hbe HC1 HC2
                  go_wp2
                  go_region_held_law (fun u => u.cell? ⟨g, 1, none⟩ = some (.int .i64 b) ∧ u.cell? ⟨g, 2, none⟩ = some (.int .i64 m)) (first | exact PD.out.cells.2 | exact PC.out.cells.2 | exact PB.out.cells.2)
                    (first
                      | (go_simp; go_at_call 14; refine (HC1.out _ (by exact PB.out.old ((Kept.refl Nothing _).drew))).mono ?_; rintro e w4 ⟨rfl, hq⟩; (have PC := Lib.hid hq); clear hq)
                      | (go_simp; go_at_call 15; refine (HC2.out _ (by exact PC.out)).mono ?_; rintro e w5 ⟨rfl, hq⟩; (have PD := Lib.hid hq); clear hq))
                  all_goals
                    go_wp2
                    go_meet
                    exact ⟨by simp, Lib.hid ⟨_, PD.out⟩⟩
              by_cases hx1 : a = 1
              · subst hx1
                as_aux_lemma =>
                  have hbe : ((Ck.startR c b m).1 == (Ck.startR c b m).1) = true := beq_self_eq_true _
                  have HC1 := Lib.hid (fun u h => pa_startp W p q c c u9 u10 g 1 b m u h)
                  have HC2 := Lib.hid (fun u h => pa_startq W p q (Ck.startR c b m).2 c u9 u10 g 1 b m u h)
                  generalize Ck.startR c b m = R at hbe HC1 HC2
                  go_wp2
                  go_region_held_law (fun u => u.cell? ⟨g, 1, none⟩ = some (.int .i64 b) ∧ u.cell? ⟨g, 2, none⟩ = some (.int .i64 m)) (first | exact PD.out.cells.2 | exact PC.out.cells.2 | exact PB.out.cells.2)
                    (first
                      | (go_simp; go_at_call 14; refine (HC1.out _ (by exact PB.out.old ((Kept.refl Nothing _).drew))).mono ?_; rintro e w4 ⟨rfl, hq⟩; (have PC := Lib.hid hq); clear hq)
                      | (go_simp; go_at_call 15; refine (HC2.out _ (by exact PC.out)).mono ?_; rintro e w5 ⟨rfl, hq⟩; (have PD := Lib.hid hq); clear hq))
                  all_goals
                    go_wp2
                    go_meet
                    exact ⟨by simp, Lib.hid ⟨_, PD.out⟩⟩
              by_cases hx2 : a = 2
              · subst hx2
                as_aux_lemma =>
                  have hbe : ((Ck.stopR c b).1 == (Ck.stopR c b).1) = true := beq_self_eq_true _
                  have HC1 := Lib.hid (fun u h => pa_stopp W p q c c u9 u10 g 2 b m u h)
                  have HC2 := Lib.hid (fun u h => pa_stopq W p q (Ck.stopR c b).2 c u9 u10 g 2 b m u h)
                  generalize Ck.stopR c b = R at hbe HC1 HC2
                  go_wp2
                  go_region_held_law (fun u => u.cell? ⟨g, 1, none⟩ = some (.int .i64 b) ∧ u.cell? ⟨g, 2, none⟩ = some (.int .i64 m)) (first | exact PD.out.cells.2 | exact PC.out.cells.2 | exact PB.out.cells.2)
                    (first
                      | (go_simp; go_at_call 16; refine (HC1.out _ (by exact PB.out.old ((Kept.refl Nothing _).drew))).mono ?_; rintro e w4 ⟨rfl, hq⟩; (have PC := Lib.hid hq); clear hq)
                      | (go_simp; go_at_call 17; refine (HC2.out _ (by exact PC.out)).mono ?_; rintro e w5 ⟨rfl, hq⟩; (have PD := Lib.hid hq); clear hq))
                  all_goals
                    go_wp2
                    go_meet
                    exact ⟨by simp, Lib.hid ⟨_, PD.out⟩⟩
              by_cases hx3 : a = 3
              · subst hx3
                as_aux_lemma =>
                  go_wp2_with fail
                  refine (pa_gop W p q c c u9 u10 g 3 b m _ PB.out).mono ?_
                  rintro e w4 ⟨rfl, hq⟩
                  have PC := Lib.hid hq
                  obtain ⟨y0, y1, y2⟩ := hq.cells
                  clear hq
                  go_wp2_with fail
                  refine (pa_goq W p q _ c u9 u10 g 3 b m w4 PC.out).mono ?_
                  rintro e w5 ⟨rfl, hq⟩
                  have PD := Lib.hid hq
                  obtain ⟨x0, x1, x2⟩ := hq.cells
                  clear hq
                  have hb1 : ((((Ck.go c m).1.getD 0 : Nat) : Int) == (((Ck.go c m).1.getD 0 : Nat) : Int)) = true := beq_self_eq_true _
                  have hb2 : ((Ck.go c m).1.isSome == (Ck.go c m).1.isSome) = true := beq_self_eq_true _
                  go_wp2
                  go_meet
                  exact ⟨rfl, Lib.hid ⟨_, PD.out⟩⟩
              by_cases hx4 : a = 4
              · subst hx4
                as_aux_lemma =>
                  go_wp2_with fail
                  refine (pa_gop W p q c c u9 u10 g 4 b m _ PB.out).mono ?_
                  rintro e w4 ⟨rfl, hq⟩
                  have PC := Lib.hid hq
                  obtain ⟨y0, y1, y2⟩ := hq.cells
                  clear hq
                  go_wp2_with fail
                  refine (pa_goq W p q _ c u9 u10 g 4 b m w4 PC.out).mono ?_
                  rintro e w5 ⟨rfl, hq⟩
                  have PD := Lib.hid hq
                  obtain ⟨x0, x1, x2⟩ := hq.cells
                  clear hq
                  have hb1 : ((((Ck.go c m).1.getD 0 : Nat) : Int) == (((Ck.go c m).1.getD 0 : Nat) : Int)) = true := beq_self_eq_true _
                  have hb2 : ((Ck.go c m).1.isSome == (Ck.go c m).1.isSome) = true := beq_self_eq_true _
                  go_wp2
                  go_meet
                  exact ⟨rfl, Lib.hid ⟨_, PD.out⟩⟩
              by_cases hx5 : a = 5
              · subst hx5
                as_aux_lemma =>
                  go_wp2_with fail
                  refine (pa_gop W p q c c u9 u10 g 5 b m _ PB.out).mono ?_
                  rintro e w4 ⟨rfl, hq⟩
                  have PC := Lib.hid hq
                  obtain ⟨y0, y1, y2⟩ := hq.cells
                  clear hq
                  go_wp2_with fail
                  refine (pa_goq W p q _ c u9 u10 g 5 b m w4 PC.out).mono ?_
                  rintro e w5 ⟨rfl, hq⟩
                  have PD := Lib.hid hq
                  obtain ⟨x0, x1, x2⟩ := hq.cells
                  clear hq
                  have hb1 : ((((Ck.go c m).1.getD 0 : Nat) : Int) == (((Ck.go c m).1.getD 0 : Nat) : Int)) = true := beq_self_eq_true _
                  have hb2 : ((Ck.go c m).1.isSome == (Ck.go c m).1.isSome) = true := beq_self_eq_true _
                  go_wp2
                  go_meet
                  exact ⟨rfl, Lib.hid ⟨_, PD.out⟩⟩
              by_cases hx6 : a = 6
              · subst hx6
                as_aux_lemma =>
                  go_wp2_with fail
                  refine (pa_leftp W p q c c u9 u10 g 6 b m _ PB.out).mono ?_
                  rintro e w4 ⟨rfl, hq⟩
                  have PC := Lib.hid hq
                  obtain ⟨y0, y1, y2⟩ := hq.cells
                  clear hq
                  go_wp2_with fail
                  refine (pa_leftq W p q _ c u9 u10 g 6 b m w4 PC.out).mono ?_
                  rintro e w5 ⟨rfl, hq⟩
                  have PD := Lib.hid hq
                  obtain ⟨x0, x1, x2⟩ := hq.cells
                  clear hq
                  have hb1 : ((Ck.leftR c b).1 == (Ck.leftR c b).1) = true := beq_self_eq_true _
                  have hb2 : ((Ck.leftR c b).2 == (Ck.leftR c b).2) = true := beq_self_eq_true _
                  go_wp2
                  go_meet
                  exact ⟨rfl, Lib.hid ⟨_, PD.out⟩⟩
              have hxx : (a == 0) = false ∧ (a == 1) = false ∧ (a == 2) = false ∧ (a == 3) = false ∧ (a == 4) = false ∧ (a == 5) = false ∧ (a == 6) = false := by simp [*]
              obtain ⟨e0, e1, e2, e3, e4, e5, e6⟩ := hxx
              clear hx0 hx1 hx2 hx3 hx4 hx5 hx6
              go_wp2
              go_meet
              exact ⟨rfl, Lib.hid ⟨_, PB.out⟩⟩
            case rest =>
              obtain ⟨rfl, hC⟩ := hcut
              obtain ⟨c', hP'⟩ := hC.out
              have PE := Lib.hid hP'
              clear hC hP' PB z0 z1 z2
              go_wp2_with fail
              refine (pa_nextp W p q c' c' u9 u10 g a b m _ PE.out).mono ?_
              rintro e w6 ⟨rfl, hq⟩
              have PF := Lib.hid hq
              clear hq PE
              go_wp2_with fail
              refine (pa_nextq W p q c' c' u9 u10 g a b m w6 PF.out).mono ?_
              rintro e w7 ⟨rfl, hq⟩
              have PG := Lib.hid hq
              have q0 := hq.ph.rc.cells.1
              clear hq PF
              generalize Ck.next c' = N
              have hb1 : (Ck.bt N != Ck.bt N) = false := by simp
              have hb2 : (Ck.ba N != Ck.ba N) = false := by simp
              have hb3 : (N.isSome != N.isSome) = false := by simp
              have hb4 : (c'.now != c'.now) = false := by simp
              generalize Ck.bt N = N1 at *
              generalize Ck.ba N = N2 at *
              generalize N.isSome = N3 at *
              go_wp2
              go_quiet ((go_at_call 13; exact qck_now PG.out.ph.cl.at_ _))
              go_wp2
              go_roundw
              case rel => exact ⟨k + 1, by go_num, by omega, by omega, Lib.hid ⟨⟨c', PG.out.ph.old ((Kept.refl Nothing _).drewN _)⟩, PG.out.tw.old ((Kept.refl Nothing _).drewN _)⟩⟩
              case measure => simp [intOf]; omega
      · obtain rfl : k = l.length := by omega
        have hT := hH.out.2
        have HK := Lib.hid ((by obtain ⟨c, h⟩ := hH.out.1; exact h.cl.keep : Kept Nothing W wr))
        clear hH
        rcases hT with rfl | ⟨r, d, rfl, hc, rfl, -, -⟩
        · have HWK := Lib.hid ck_wakes
          go_wp2_with (go_at_call 11; refine (HWK.out _).mono ?_; rintro e w8 ⟨rfl, hk8⟩)
          go_ret
          exact ⟨rfl, HK.out.trans hk8⟩
        · have HWK := Lib.hid ck_wakes
          have HNW := Lib.hid (ck_now r d _ hc)
          have hbe : (d.now == d.now) = true := beq_self_eq_true _
          clear hc
          go_wp2_with (first
            | (go_at_call 13; refine (HNW.out).mono ?_; rintro e w' ⟨rfl, rfl⟩)
            | (go_at_call 11; refine (HWK.out _).mono ?_; rintro e w8 ⟨rfl, hk8⟩))
          go_ret
          exact ⟨rfl, HK.out.trans hk8⟩
  · have HR := Lib.hid (fun w => rc_new n w)
    have HH := Lib.hid hn
    clear hn
    go_enter Try.func3, Try.ntmps3
    go_wp2_with fail
    refine (HN.out).mono ?_
    rintro e w1 ⟨-, h1⟩
    obtain ⟨rfl, rfl⟩ := h1 HH.out
    go_wp2_with fail
    refine (HR.out _).mono ?_
    rintro e w2 ⟨-, h1⟩
    obtain ⟨rfl, rfl⟩ := h1 HH.out
    have HWK := Lib.hid ck_wakes
    go_wp2_with (go_at_call 11; refine (HWK.out _).mono ?_; rintro e w8 ⟨rfl, hk8⟩)
    go_ret
    exact ⟨rfl, hk8⟩
end Go.Proofs.Ytdhbfhjlholnlaa
