/-
  The law ScrollWithin: it returns true, whatever it is given, and leaves what was there as it was.
-/
import Derived.Test.YtcncjfjdnmookaaLaw
import Derived.Test.YtcncjfjdnmookaaWk
import Derived.Test.YtcncjfjdnmookaaSt
import Derived.Deep.DeepCutAuto
import Derived.Deep.CutBlock
namespace Go.Proofs.Ytcncjfjdnmookaa
open Go.RowKit


/-- What holds at each round's head. -/
def WiRel (W : World) (p : Nat) (b : List UInt8) (len : Nat) (en i : Value) (wr : World) : Prop :=
  ∃ (k : Nat) (s : RS), i = .int .i64 (k : Int) ∧ k ≤ len ∧ k ≤ 60 ∧ Rd wr p s ∧ s.l = b ∧ s.es.length ≤ k ∧ wr.ownsRow W.heap.size 3 1 en (ends s).length (ints (ends s)) ∧ Kept Nothing W wr

/-- What holds behind the call of a round. -/
def SwRel (W : World) (p q : Nat) (s : RS) (x n : Int) (en gv : Value) (wx : World) : Prop :=
  Rd wx p (s.act x n) ∧ By wx gv (s.took x n) ∧ wx.ownsRow W.heap.size 3 1 en (mid s (s.act x n) n).length (ints (mid s (s.act x n) n)) ∧ Blk wx q 32 #[.int .i64 x, .int .i64 n] ∧ Kept Nothing W wx

theorem int_info : (Try.prog.info? 3).map (fun i => (i.zero, i.size, i.bytes)) = some (some (.int .i64 0), 1, 8) := by kernel_rfl

/-- A step of the reader's own leaves the law's row. -/
theorem own_reader {w w' : World} {base n p : Nat} {v : Value} {xs : List Value} {s : RS} (h : w.ownsRow base 3 1 v n xs) (hr : Rd w p s) (k : Kept (Only p) w w') : w'.ownsRow base 3 1 v n xs :=
  own_kept h k (fun g hg e => by
    obtain ⟨cs, hh⟩ := own_lt h hg
    obtain ⟨_, _, hb, _⟩ := hr
    exact hb.apart (t' := 3) hh (by decide) (e.symm))

/-- SwRel, where the call opened nothing. -/
theorem SwRel.of {W w3 wx : World} {p q : Nat} {s : RS} {x n : Int} {en gv : Value} (h3 : Rd w3 p s) (hr : Rd wx p (s.act x n)) (hg : By wx gv (s.took x n)) (ho : w3.ownsRow W.heap.size 3 1 en (ends s).length (ints (ends s)))
    (hq : Blk w3 q 32 #[.int .i64 x, .int .i64 n]) (hk : Kept Nothing W w3) (hpW : W.heap.size ≤ p) {k : World} (k1 : Kept (Only p) w3 k) (k2 : Kept Nothing k wx) (hle : (s.act x n).es.length ≤ s.es.length) : SwRel W p q s x n en gv wx := by
  have kk : Kept (Only p) w3 wx := k1.trans (k2.mono (fun _ x => x.elim))
  have hm : mid s (s.act x n) n = ends s := by unfold mid; rw [if_neg (by omega)]
  refine ⟨hr, hg, by rw [hm]; exact own_reader ho h3 kk, hq.kept kk (fun e => ?_), hk.news kk (Sub.only hpW)⟩
  obtain ⟨_, _, hb, _⟩ := h3
  exact hb.apart hq (by decide) e.symm

theorem own_base {w : World} {base : Nat} {e : TypeId} {size n : Nat} {v : Value} {xs : List Value} (h : w.ownsRow base e size v n xs) {g : Nat} (hg : v.ownBlock = some g) : base ≤ g := by
  rcases h.2 with ⟨rfl, _⟩ | ⟨g', cap, cur, rfl, hb, _⟩
  · simp [Value.ownBlock] at hg
  · have : g' = g := by simpa [Value.ownBlock] using hg
    omega
theorem SwRel.of_open {W w2 w4 : World} {p q : Nat} {s : RS} {n : Int} {en v' : Value} {o : Obj} (R4 : Rd w2 p { s with es := (s.k + n.toNat) :: s.es }) (O4 : w2.ownsRow W.heap.size 3 1 en (ends s).length (ints (ends s)))
    (B4 : Blk w2 q 32 #[.int .i64 5, .int .i64 n]) (hk : Kept Nothing W w2) (ho : w4.ownsRow W.heap.size 3 1 v' ((ends s).length + 1) (ints (ends s) ++ [.int .i64 ((s.k : Int) + n)]))
    (hg : (w2.alloc o).grownBy w4 en.ownBlock) (hA : s.act 5 n = { s with es := (s.k + n.toNat) :: s.es }) (hn : 0 ≤ n) : SwRel W p q s 5 n v' (.slice none 0 0) w4 := by
  have kg : Kept (fun k => en.ownBlock = some k) w2 w4 := ((Kept.refl _ w2).alloc o).grown hg (fun k hk _ => hk)
  have ty : ∀ k, en.ownBlock = some k → ∃ cs, w2.heap[k]? = some (.cells cs 3 (0, 0)) := fun k hk => own_lt O4 hk
  have hm : mid s (s.act 5 n) n = ends s ++ [s.k + n.toNat] := by unfold mid; rw [hA, if_pos (by simp)]
  have nr : NoRd w2 (fun k => en.ownBlock = some k) := fun k hk cs t f e => by
    obtain ⟨cs', h'⟩ := ty k hk
    rw [e] at h'
    injection h' with h'
    injection h' with _ ht
    rw [ht]
    decide
  refine ⟨by rw [hA]; exact R4.kept kg nr, (Bs.nil _).by, ?_, B4.kept kg (fun e => ?_), ?_⟩
  · rw [hm, List.length_append, ints_append]
    rw [show ((s.k : Int) + n) = ((s.k + n.toNat : Nat) : Int) from by omega] at ho
    exact ho
  · obtain ⟨cs', h'⟩ := ty q e
    exact B4.apart (t' := 3) h' (by decide) rfl
  · exact hk.trans_new kg (fun i hi e => by have := own_base O4 e; omega)

/-- What holds behind the closing of a block, in a round. -/
def CkRel (W : World) (p q : Nat) (t : RS) (x n : Int) (took : List UInt8) (en gv : Value) (wx : World) : Prop :=
  ∃ g c, en = .slice (some ⟨g, 0, none⟩) (t.es.length + 1) c ∧ t.es.length + 1 ≤ c ∧ Rd wx p t ∧ By wx gv took ∧ wx.ownsRow W.heap.size 3 1 en (ends t).length (ints (ends t)) ∧ Blk wx q 32 #[.int .i64 x, .int .i64 n] ∧ Kept Nothing W wx

/-- .. the row's block and room named. -/
structure CkAt (W : World) (p q : Nat) (t : RS) (x n : Int) (took : List UInt8) (g c : Nat) (gv : Value) (wx : World) : Prop where
  room : t.es.length + 1 ≤ c
  rd : Rd wx p t
  tk : By wx gv took
  own : wx.ownsRow W.heap.size 3 1 (.slice (some ⟨g, 0, none⟩) (t.es.length + 1) c) (t.es.length + 1) (ints (ends t))
  act : Blk wx q 32 #[.int .i64 x, .int .i64 n]
  kept : Kept Nothing W wx
theorem CkRel.at_ {W : World} {p q : Nat} {t : RS} {x n : Int} {took : List UInt8} {en gv : Value} {wx : World} (h : CkRel W p q t x n took en gv wx) : ∃ g c, en = .slice (some ⟨g, 0, none⟩) (t.es.length + 1) c ∧ CkAt W p q t x n took g c gv wx := by
  obtain ⟨g, c, rfl, h2, h3, h4, h5, h6, h7⟩ := h
  exact ⟨g, c, rfl, h2, h3, h4, by rw [length_ends] at h5; exact h5, h6, h7⟩
theorem CkAt.drewN {W : World} {p q : Nat} {t : RS} {x n : Int} {took : List UInt8} {g c : Nat} {gv : Value} {wx : World} (h : CkAt W p q t x n took g c gv wx) (m : Nat) : CkAt W p q t x n took g c gv (wx.drewN m) :=
  ⟨h.room, h.rd.drewN m, h.tk.old ((Kept.refl Nothing wx).drewN m), own_kept h.own ((Kept.refl Nothing wx).drewN m) (fun _ _ x => x), h.act.drewN m, h.kept.drewN m⟩
theorem CkAt.last {W : World} {p q : Nat} {t : RS} {x n : Int} {took : List UInt8} {g c : Nat} {gv : Value} {wx : World} (h : CkAt W p q t x n took g c gv wx) : wx.cell? ⟨g, t.es.length, none⟩ = some (.int .i64 (t.top : Int)) := by
  obtain ⟨g', cap, cur, hv, hbk, hcap, hcm, hcs, htk⟩ := own_open h.own (by omega)
  injection hv with hv1 hv2 hv3
  injection hv1 with hv1
  injection hv1 with hv1
  subst hv1
  rw [hbk.cell, ← Array.getElem?_toList, ← List.getElem?_take_of_lt (j := (t.es.length + 1) * 1) (by omega), htk]
  exact ends_last t

theorem q_at {w : World} {p : Nat} {s : RS} (h : Rd w p s) (m : Nat) : Calls Try.prog 14 #[.pointer (some ⟨p, 0, none⟩)] (w.drewN m) fun e w'' => e = .returned (.int .i64 (s.k : Int)) ∧ ∃ m, w'' = w.drewN m :=
  (rd_at p s _ (h.drewN m)).mono fun _ _ ⟨h1, h2⟩ => ⟨h1, m, h2.symm⟩
theorem q_err {w : World} {p : Nat} {s : RS} (h : Rd w p s) (m : Nat) : Calls Try.prog 15 #[.pointer (some ⟨p, 0, none⟩)] (w.drewN m) fun e w'' => e = .returned (.int .i64 s.e) ∧ ∃ m, w'' = w.drewN m :=
  (rd_err p s _ (h.drewN m)).mono fun _ _ ⟨h1, h2⟩ => ⟨h1, m, h2.symm⟩
theorem q_deep {w : World} {p : Nat} {s : RS} (h : Rd w p s) (m : Nat) : Calls Try.prog 13 #[.pointer (some ⟨p, 0, none⟩)] (w.drewN m) fun e w'' => e = .returned (.int .i64 (s.es.length : Int)) ∧ ∃ m, w'' = w.drewN m :=
  (rd_deep p s _ (h.drewN m)).mono fun _ _ ⟨h1, h2⟩ => ⟨h1, m, h2.symm⟩
theorem q_left {w : World} {p : Nat} {s : RS} (h : Rd w p s) (m : Nat) : Calls Try.prog 11 #[.pointer (some ⟨p, 0, none⟩)] (w.drewN m) fun e w'' => e = .returned (.int .i64 (s.left : Int)) ∧ ∃ m, w'' = w.drewN m :=
  (rd_left p s _ (h.drewN m)).mono fun _ _ ⟨h1, j, h2⟩ => ⟨h1, m + j, by rw [h2, World.drewN_drewN]⟩
theorem q_left0 {w : World} {p : Nat} {s : RS} (h : Rd w p s) (he : s.e ≠ 0) (m : Nat) : Calls Try.prog 11 #[.pointer (some ⟨p, 0, none⟩)] (w.drewN m) fun e w'' => e = .returned (.int .i64 0) ∧ ∃ m, w'' = w.drewN m := by
  have := q_left h m
  rwa [show (s.left : Int) = 0 from by unfold RS.left; rw [if_neg he]; rfl] at this
theorem q_left1 {w : World} {p : Nat} {s : RS} (h : Rd w p s) (he : s.e = 0) (m : Nat) : Calls Try.prog 11 #[.pointer (some ⟨p, 0, none⟩)] (w.drewN m) fun e w'' => e = .returned (.int .i64 ((s.top : Int) - (s.k : Int))) ∧ ∃ m, w'' = w.drewN m := by
  have := q_left h m
  have hl := h.ok.le
  rwa [show (s.left : Int) = (s.top : Int) - (s.k : Int) from by rw [RS.left_zero he]; omega] at this
theorem CkRel.drewN {W : World} {p q : Nat} {t : RS} {x n : Int} {took : List UInt8} {en gv : Value} {wx : World} (h : CkRel W p q t x n took en gv wx) (m : Nat) : CkRel W p q t x n took en gv (wx.drewN m) := by
  obtain ⟨g, c, h1, h2, h3, h4, h5, h6, h7⟩ := h
  have k := (Kept.refl Nothing wx).drewN m
  exact ⟨g, c, h1, h2, h3.drewN m, h4.old k, own_kept h5 k (fun _ _ x => x), h6.drewN m, h7.trans k⟩

set_option maxRecDepth 100000 in
set_option maxHeartbeats 16000000 in
theorem within_any (v0 v1 : Value) (l : List UInt8) (acts : List (Int × Int)) (W : World) (h0 : By W v0 l) (h1 : Prs W v1 acts) :
    Calls Try.prog 6 #[v0, v1] W fun e w' => e = .returned (.bool true) ∧ Kept Nothing W w' := by
  obtain ⟨A, c, rfl, hc, hm⟩ := h0.form
  obtain ⟨A1, c1, rfl, hm1, hr1, hp1⟩ := h1
  have H0 := Lib.hid h0
  have HP := Lib.hid hp1
  have HR := Lib.hid hr1
  clear h0 hp1 hr1
  unfold maxLen at hm hm1
  go_enter Try.func6, Try.ntmps6
  go_upto_region 1 with fail
  go_cut [0] (fun v wx => ∃ b : List UInt8, v = .slice A b.length c ∧ By W (.slice A b.length c) b ∧ b.length ≤ 100 ∧ W = wx)
  case first =>
    by_cases hle : l.length ≤ 100
    · go_wp2_with fail
      go_meet
      exact ⟨l, rfl, H0.out, hle, rfl⟩
    · go_wp2_with fail
      go_meet
      have e : (l.take 100).length = 100 := by rw [List.length_take]; omega
      refine ⟨l.take 100, by rw [e], ?_, by omega, rfl⟩
      rw [e]
      exact H0.out.pre (by omega)
  case rest =>
    obtain ⟨b, rfl, hb, hle, rfl⟩ := hcut
    have HB := Lib.hid hb
    clear hb H0 hc
    go_wp2_with fail
    refine (rd_new _ _ _ HB.out (by omega)).mono ?_
    rintro e w1 ⟨p, rfl, hr, hk, hp⟩
    have K1 := Lib.hid hk
    have R1 := Lib.hid hr
    clear hk hr
    go_wp2_with fail
    go_loopw [6, 26] (fun en i wr => WiRel W p b acts.length en i wr) (fun _ i _ => acts.length - (intOf i).toNat)
    case atStart =>
      have kb := (Kept.refl Nothing w1).alloc (.cells #[.int .i64 (b.length : Int)] 3)
      refine ⟨0, ⟨b, 0, [], 0⟩, rfl, Nat.zero_le _, by omega, R1.out.kept_old kb, rfl, Nat.le_refl _, ?_, K1.out.trans kb⟩
      exact ⟨rfl, .inr ⟨w1.heap.size, 1, #[.int .i64 (b.length : Int)], rfl, K1.out.size, Blk.fresh w1 _ _, Nat.le_refl _, by simp [maxLen], rfl, rfl⟩⟩
    case round =>
      obtain ⟨k, s, rfl, hk1, hk2, hr, hsl, hd, hown, hkw⟩ := hrel
      have R2 := Lib.hid hr
      have O2 := Lib.hid hown
      have K2 := Lib.hid hkw
      have HD := Lib.hid hd
      have HSL := Lib.hid hsl
      obtain ⟨A6, c6, rfl, _, _⟩ := own_form hown
      clear hr hown hkw hd hsl
      by_cases hlt : k < acts.length
      · by_cases h60 : k = 60
        · subst h60
          as_aux_lemma =>
            obtain ⟨ba, oa, rfl, hcell⟩ := HP.out (by omega)
            obtain ⟨g0, g1⟩ := hcell 60 hlt
            have G0 := (K2.out.cell_some g0 (fun x => x))
            have G1 := (K2.out.cell_some g1 (fun x => x))
            clear g0 g1 hcell
            generalize (acts.getD 60 (0, 0)).1 = x at *
            generalize (acts.getD 60 (0, 0)).2 = n at *
            go_wp2_with fail
            refine (wakes_any _).mono ?_
            rintro e w2 ⟨rfl, hkk⟩
            go_wp2
            go_ret
            exact ⟨rfl, (K2.out.trans ((Kept.refl Nothing wr).alloc _)).trans hkk⟩
        · have hk60 : ((k : Int) == 60) = false := by simp; omega
          obtain ⟨ba, oa, rfl, hcell⟩ := HP.out (by omega)
          obtain ⟨g0, g1⟩ := hcell k hlt
          have G0 := (K2.out.cell_some g0 (fun x => x))
          have G1 := (K2.out.cell_some g1 (fun x => x))
          clear g0 g1 hcell
          generalize (acts.getD k (0, 0)).1 = x at *
          generalize (acts.getD k (0, 0)).2 = n at *
          have k1 := (Kept.refl Nothing wr).alloc (.cells #[.int .i64 x, .int .i64 n] 32)
          have R3 := Lib.hid (R2.out.kept_old k1)
          have B3 := Lib.hid (Blk.fresh wr 32 #[.int .i64 x, .int .i64 n])
          go_wp2_with fail
          refine (rd_at p _ _ R3.out).mono ?_
          rintro e w' ⟨rfl, rfl⟩
          go_wp2_with fail
          refine (rd_err p _ _ R3.out).mono ?_
          rintro e w' ⟨rfl, rfl⟩
          go_wp2_with fail
          refine (rd_deep p _ _ R3.out).mono ?_
          rintro e w' ⟨rfl, rfl⟩
          have O3 := Lib.hid (own_kept O2.out k1 (fun _ _ x => x))
          have K3 := Lib.hid (K2.out.trans k1)
          have P3 := Lib.hid hp
          clear k1
          go_upto_block 2 with fail
          go_cut [6, 12] (fun en gv wx => SwRel W p wr.heap.size s x n en gv wx)
          case first =>
            by_cases hx0 : x = 0
            · subst hx0
              as_aux_lemma =>
                go_wp2_with fail
                refine (rd_byte p s _ R3.out).mono ?_
                rintro e w2 ⟨rfl, hr, hk⟩
                have R4 := Lib.hid hr
                have K4 := Lib.hid hk
                clear hr hk
                go_wp2_with fail
                go_meet
                have ka := (Kept.refl Nothing w2).alloc (.cells #[.int .u8 (RS.num (s.got 1) : Int)] 5)
                refine SwRel.of (gv := .slice (some ⟨w2.heap.size, 0, none⟩) 1 1) R3.out (R4.out.kept_old ka) ?_ O3.out B3.out K3.out P3.out K4.out ka (RS.act_up R3.out.ok (by decide))
                refine (Bs.made (l := [UInt8.ofNat (RS.num (s.got 1))]) (Blk.fresh w2 5 #[.int .u8 (RS.num (s.got 1) : Int)]) ?_ (by simp [maxLen])).by
                have hn := RS.num_lt (s.got 1)
                have hg := RS.got_len (s := s) (n := 1)
                have hp2 : 256 ^ (s.got ((1 : Nat) : Int)).length ≤ 256 ^ 1 := Nat.pow_le_pow_right (by decide) hg
                have h256 : RS.num (s.got 1) < 256 := by
                  have e : s.got 1 = s.got ((1 : Nat) : Int) := rfl
                  rw [e] at hn ⊢
                  omega
                show [_] = [_]
                rw [by8_of (m := RS.num (s.got 1)) (by rw [Nat.mod_eq_of_lt h256])]
            by_cases hx3 : x = 3
            · subst hx3
              as_aux_lemma =>
                go_wp2_with fail
                refine (rd_take p s n _ R3.out).mono ?_
                rintro e w2 ⟨v, rfl, hb, hr, hk⟩
                have R4 := Lib.hid hr
                have K4 := Lib.hid hk
                have B4 := Lib.hid hb
                clear hr hk hb
                go_wp2_with fail
                go_meet
                exact SwRel.of R3.out R4.out B4.out.by O3.out B3.out K3.out P3.out K4.out (Kept.refl _ _) (RS.act_up R3.out.ok (by decide))
            by_cases hx4 : x = 4
            · subst hx4
              as_aux_lemma =>
                go_wp2_with fail
                refine (rd_rest p s _ R3.out).mono ?_
                rintro e w2 ⟨v, rfl, hb, hr, hk⟩
                have R4 := Lib.hid hr
                have K4 := Lib.hid hk
                have B4 := Lib.hid hb
                clear hr hk hb
                go_wp2_with fail
                go_meet
                exact SwRel.of R3.out R4.out B4.out.by O3.out B3.out K3.out P3.out K4.out (Kept.refl _ _) (RS.act_up R3.out.ok (by decide))
            by_cases hx6 : x = 6
            · subst hx6
              as_aux_lemma =>
                go_wp2_with fail
                refine (rd_close p s _ R3.out).mono ?_
                rintro e w2 ⟨rfl, hr, hk⟩
                have R4 := Lib.hid hr
                have K4 := Lib.hid hk
                clear hr hk
                go_wp2_with fail
                go_meet
                exact SwRel.of R3.out R4.out (Bs.nil _).by O3.out B3.out K3.out P3.out K4.out (Kept.refl _ _) (RS.act_up R3.out.ok (by decide))
            by_cases hx7 : x = 7
            · subst hx7
              as_aux_lemma =>
                go_wp2_with fail
                refine (rd_skip p s _ R3.out).mono ?_
                rintro e w2 ⟨rfl, hr, hk⟩
                have R4 := Lib.hid hr
                have K4 := Lib.hid hk
                clear hr hk
                go_wp2_with fail
                go_meet
                exact SwRel.of R3.out R4.out (Bs.nil _).by O3.out B3.out K3.out P3.out K4.out (Kept.refl _ _) (RS.act_up R3.out.ok (by decide))
            by_cases hx8 : x = 8
            · subst hx8
              as_aux_lemma =>
                go_wp2_with fail
                refine (rd_fail p s n _ R3.out).mono ?_
                rintro e w2 ⟨rfl, hr, hk⟩
                have R4 := Lib.hid hr
                have K4 := Lib.hid hk
                clear hr hk
                go_wp2_with fail
                go_meet
                exact SwRel.of R3.out R4.out (Bs.nil _).by O3.out B3.out K3.out P3.out K4.out (Kept.refl _ _) (RS.act_up R3.out.ok (by decide))
            by_cases hx5 : x = 5
            · subst hx5
              by_cases hf : (s.fits n).e = 0
              · as_aux_lemma =>
                  obtain ⟨e1, he, hn0, hn1⟩ := RS.fits_zero hf
                  have hE : s.opened n = { s with es := (s.k + n.toNat) :: s.es } := if_pos hf
                  have C := Lib.hid (rd_open p s n _ R3.out (by have := HD.out; omega))
                  have hkl := R3.out.ok.le
                  have hkt := R3.out.ok.top_le
                  have hkm := R3.out.ok.2
                  rw [RS.left_zero he] at hn1
                  have hn2 : n ≤ 1099511627776 := by omega
                  have hn3 : s.k ≤ 1099511627776 := by omega
                  have hdl : s.es.length ≤ 60 := by have := HD.out; omega
                  have HOK := Lib.hid (RS.opened_ok R3.out.ok n)
                  have HA : Hid (s.act 5 n = { s with es := (s.k + n.toNat) :: s.es }) := hE
                  rw [hE] at C HOK
                  have HEz := Lib.hid he
                  clear hf e1 hn1 hkl hkt hkm hE he HEz
                  go_wp2_with fail
                  refine C.out.mono ?_
                  rintro e w2 ⟨rfl, hr, hk⟩
                  have R4 := Lib.hid hr
                  have K4 := Lib.hid hk
                  have qp : wr.heap.size ≠ p := by obtain ⟨_, _, hb, _⟩ := R3.out; exact (hb.apart B3.out (by decide)).symm
                  have B4 := Lib.hid (B3.out.kept hk (fun e => qp e))
                  have G1 : w2.cell? ⟨wr.heap.size, 1, none⟩ = some (.int .i64 n) := B4.out.cell 1
                  have O4 := Lib.hid (own_reader O3.out R3.out hk)
                  clear hr hk C qp
                  go_wp2_with fail
                  refine (rd_deep p _ _ R4.out).mono ?_
                  rintro e w' ⟨rfl, rfl⟩
                  obtain ⟨i1, hi, hz0, hz1, hz2⟩ := info_parts int_info
                  have HLn : Hid ((ends s).length + 1 ≤ maxLen ∧ ((ends s).length + 1) * 8 ≤ 140737488355328) := by rw [length_ends]; exact ⟨by unfold maxLen; omega, by omega⟩
                  have qlt : wr.heap.size < w2.heap.size := B4.out.lt
                  simp only [List.length_cons]
                  go_wp2_with (at_builtin; refine wpList_app _ rfl _ _ 28 rfl W.heap.size 3 i1 (.int .i64 0) 1 8 Try.underlying28 hi hz0 hz1 hz2 rfl (by decide) (.slice A6 (ends s).length c6) (ends s).length (ints (ends s)) rfl (own_kept O4.out ((Kept.refl Nothing w2).alloc _) (fun _ _ x => x)) (some ⟨w2.heap.size, 0, none⟩) 1 1 [.int .i64 ((s.k : Int) + n)] rfl (cells_src (Blk.fresh w2 3 #[.int .i64 ((s.k : Int) + n)]) rfl (by simp [Value.oneCell'])) HLn.out.1 HLn.out.2 (Nat.le_trans (K3.out.news K4.out (Sub.only P3.out)).size (by simp)) ?_; intro v' w4 ho hg hat; (have HO := Lib.hid ho); (have HG := Lib.hid hg); clear ho hg hat)
                  go_meet
                  exact SwRel.of_open R4.out O4.out B4.out (K3.out.news K4.out (Sub.only P3.out)) HO.out HG.out HA.out hn0
              · as_aux_lemma =>
                  have hE : s.opened n = s.fits n := if_neg hf
                  have C := Lib.hid (rd_open p s n _ R3.out (by have := HD.out; omega))
                  rw [hE] at C
                  have HA : Hid (s.act 5 n = s.fits n) := hE
                  have hd5 : ¬ s.es.length < (s.fits n).es.length := by rw [(RS.fits_l s n).2.2]; omega
                  clear hf hE
                  go_wp2_with fail
                  refine C.out.mono ?_
                  rintro e w2 ⟨rfl, hr, hk⟩
                  have R4 := Lib.hid hr
                  have K4 := Lib.hid hk
                  clear hr hk C
                  go_wp2_with fail
                  refine (rd_deep p _ _ R4.out).mono ?_
                  rintro e w' ⟨rfl, rfl⟩
                  go_wp2_with fail
                  go_meet
                  exact SwRel.of R3.out (by rw [HA.out]; exact R4.out) (Bs.nil _).by O3.out B3.out K3.out P3.out K4.out (Kept.refl _ _) (by rw [HA.out]; omega)
            · as_aux_lemma =>
                have t0 : (x == 0) = false := by simpa using hx0
                have t3 : (x == 3) = false := by simpa using hx3
                have t4 : (x == 4) = false := by simpa using hx4
                have t5 : (x == 5) = false := by simpa using hx5
                have t6 : (x == 6) = false := by simpa using hx6
                have t7 : (x == 7) = false := by simpa using hx7
                have t8 : (x == 8) = false := by simpa using hx8
                go_wp2_with fail
                go_meet
                have e1 : s.act x n = s := by unfold RS.act; rw [if_neg hx0, if_neg hx3, if_neg hx4, if_neg hx5, if_neg hx6, if_neg hx7, if_neg hx8]
                have e2 : s.took x n = [] := by unfold RS.took; rw [if_neg hx0, if_neg hx3, if_neg hx4]
                exact SwRel.of R3.out (by rw [e1]; exact R3.out) (by rw [e2]; exact (Bs.nil _).by) O3.out B3.out K3.out P3.out (Kept.refl _ _) (Kept.refl _ _) (by rw [e1]; exact Nat.le_refl _)
          case rest =>
            obtain ⟨hr, hg, ho, hq, hk⟩ := hcut
            have hway := RS.act_way R3.out.ok x n
            have hbad : s.e ≠ 0 → s.act x n = s := fun h => RS.act_bad h x n
            have htook : x < 5 → s.k < (s.act x n).k → s.took x n = (s.l.drop s.k).take ((s.act x n).k - s.k) := RS.took_eq R3.out.ok
            have hup : (s.act x n).es.length ≤ k + 1 := by
              have := HD.out
              rcases hway.2.2 with e | ⟨e, _, _⟩ | e
              · rw [e]; omega
              · rw [e]; simp; omega
              · have := congrArg List.length e; simp at this; omega
            generalize s.act x n = t at *
            generalize s.took x n = tk at *
            have R5 := Lib.hid hr
            have G5 := Lib.hid hg
            have O5 := Lib.hid ho
            have B5 := Lib.hid hq
            have K5 := Lib.hid hk
            have HWAY := Lib.hid hway
            have HBAD := Lib.hid hbad
            have HTOOK := Lib.hid htook
            have HUP := Lib.hid hup
            clear hr hg ho hq hk hway hbad htook hup
            obtain ⟨A7, c7, rfl, _, _⟩ := own_form O5.out
            have HML : Hid ((mid s t n).length = (mid s t n).length) := rfl
            generalize hml : (mid s t n).length = m at *
            have HM := Lib.hid hml
            clear hml HML
            go_upto_if 90 with (go_at_call 13; refine (rd_deep p t _ R5.out).mono ?_; rintro e w' ⟨rfl, rfl⟩)
            go_cut [6, 12] (fun en gv wx => CkRel W p wr.heap.size t x n tk en gv wx)
            case first =>
              by_cases hD : t.es.length < s.es.length
              · as_aux_lemma =>
                  have hmd := mid_less HWAY.out.1 HWAY.out.2.2 hD
                  have o5 := O5.out
                  rw [hmd] at o5
                  have hmm := HM.out
                  rw [hmd, List.length_append, length_ends] at hmm
                  simp only [List.length_cons, List.length_nil, Nat.zero_add] at hmm
                  obtain rfl : m = t.es.length + 2 := by omega
                  obtain ⟨g, cap, cur, hv, hbk, hcap, hcm, hcs, htk⟩ := own_open o5 (by omega)
                  injection hv with hv1 hv2 hv3
                  subst hv1 hv3
                  have cl : wc.cell? ⟨g, t.es.length + 1, none⟩ = some (.int .i64 (t.k : Int)) := by
                    rw [hbk.cell, ← Array.getElem?_toList, ← List.getElem?_take_of_lt (j := (t.es.length + 2) * 1) (by omega), htk, ints_append, List.getElem?_append_right (by rw [length_ints, length_ends]; omega)]
                    rw [length_ints, length_ends, Nat.sub_self]
                    rfl
                  have HO5 := Lib.hid o5
                  unfold maxLen at hcm
                  clear o5 hbk hcs htk hmd hmm
                  go_wp2_with fail
                  go_quiet ((go_at_call 14; exact q_at R5.out _))
                  go_wp2_with fail
                  go_meet
                  have kq := (Kept.refl Nothing wc).drewN nq
                  refine CkRel.drewN ⟨g, c7, rfl, by omega, R5.out, G5.out, ?_, B5.out, K5.out⟩ nq
                  have hs := own_shrink HO5.out (m := t.es.length + 1) (by omega)
                  rw [Nat.mul_one, ints_append, ← length_ends, ← length_ints, List.take_left, length_ints] at hs
                  rw [length_ends] at hs ⊢
                  exact hs
              · as_aux_lemma =>
                  have hmd := mid_eq HWAY.out.1 HWAY.out.2.2 hD
                  have o5 := O5.out
                  rw [hmd] at o5
                  have hmm := HM.out
                  rw [hmd, length_ends] at hmm
                  obtain rfl : m = t.es.length + 1 := by omega
                  obtain ⟨g, cap, cur, hv, hbk, hcap, hcm, hcs, htk⟩ := own_open o5 (by omega)
                  injection hv with hv1 hv2 hv3
                  subst hv1 hv3
                  have HO5 := Lib.hid o5
                  clear o5 hbk hcs htk hmd hmm
                  go_wp2_with fail
                  go_meet
                  refine ⟨g, c7, rfl, hcap, R5.out, G5.out, ?_, B5.out, K5.out⟩
                  rw [length_ends]
                  exact HO5.out
            case rest =>
              obtain ⟨g, c8, rfl, hat⟩ := hcut.at_
              have C6 := Lib.hid hat
              have R6 := Lib.hid hat.rd
              have cl := hat.last
              have hkt := hat.rd.ok.le
              have htl := hat.rd.ok.top_le
              have hmx := hat.rd.ok.2
              have hroom := hat.room
              have hupI := HUP.out
              have hback := HWAY.out.2.1
              clear hat R5 G5 O5 B5 K5 HM
              go_upto_region 31 with fail
              go_cut [154] (fun c wx => c = .bool false ∧ CkAt W p wr.heap.size t x n tk g c8 u12 wx)
              case first =>
                have f1 : decide (t.k < s.k) = false := by simp; omega
                have f2 : decide (t.top < t.k) = false := by simp; omega
                by_cases he : s.e = 0
                · as_aux_lemma =>
                    have f3 : (s.e != 0) = false := by simpa using he
                    clear he
                    go_quiet (first | (go_at_call 14; exact q_at R6.out _) | (go_at_call 13; exact q_deep R6.out _))
                    go_wp2_with fail
                    go_meet
                    exact ⟨rfl, C6.out.drewN nq⟩
                · as_aux_lemma =>
                    have f3 : (s.e != 0) = true := by simpa using he
                    have HE := Lib.hid he
                    obtain rfl : t = s := HBAD.out he
                    clear he
                    go_quiet (first | (go_at_call 14; exact q_at R6.out _) | (go_at_call 13; exact q_deep R6.out _) | (go_at_call 15; exact q_err R6.out _) | (go_at_call 11; exact q_left0 R6.out HE.out _))
                    go_wp2_with fail
                    go_meet
                    exact ⟨rfl, C6.out.drewN nq⟩
              case rest =>
                obtain ⟨rfl, hat⟩ := hcut
                have C7 := Lib.hid hat
                have R7 := Lib.hid hat.rd
                have cl7 := hat.last
                have a0 : wc.cell? ⟨wr.heap.size, 0, none⟩ = some (.int .i64 x) := hat.act.cell 0
                have HBW := Lib.hid (HB.out.old hat.kept)
                have hbl : t.l.length = b.length := by rw [HWAY.out.1, HSL.out]
                have htb : t.k ≤ b.length := by omega
                have HBL := Lib.hid hbl
                clear hat C6 R6 cl hbl
                go_upto_region 34 with (go_at_call 14; refine (rd_at p t _ R7.out).mono ?_; rintro e w' ⟨rfl, rfl⟩)
                go_cut [175] (fun c wx => c = .bool false ∧ CkAt W p wr.heap.size t x n tk g c8 u12 wx)
                case first =>
                  by_cases hx5 : x < 5
                  · by_cases hkk : s.k < t.k
                    · as_aux_lemma =>
                        have hpos : (0 : Int) < (t.k : Int) - (s.k : Int) := by omega
                        have hcne : ¬ c = s.k := by have := HB.out.form; obtain ⟨A9, c9, e9, l9, _⟩ := this; injection e9 with _ _ e9; omega
                        have hcb : (t.k : Int) ≤ (c : Int) := by have := HB.out.form; obtain ⟨A9, c9, e9, l9, _⟩ := this; injection e9 with _ _ e9; omega
                        have hsl : (s.k : Int) ≤ (t.k : Int) := by omega
                        go_wp2_with fail
                        refine (rd_at p t _ R7.out).mono ?_
                        rintro e w' ⟨rfl, rfl⟩
                        have hpc := HBW.out.piece (k := s.k) (m := t.k - s.k) (by omega)
                        rw [if_neg hcne] at hpc
                        have htk : tk = (b.drop s.k).take (t.k - s.k) := by rw [HTOOK.out hx5 hkk, HSL.out]
                        have hE := by_equal _ _ _ _ _ C7.out.tk hpc
                        rw [htk, beq_self_eq_true] at hE
                        have HE := Lib.hid hE
                        clear hpc htk hE
                        go_wp2_with fail
                        refine HE.out.mono ?_
                        rintro e w' ⟨rfl, rfl⟩
                        go_wp2_with fail
                        go_meet
                        exact ⟨rfl, C7.out⟩
                    · as_aux_lemma =>
                        have hpos : decide ((0 : Int) < (t.k : Int) - (s.k : Int)) = false := by simp; omega
                        go_wp2_with fail
                        go_meet
                        exact ⟨rfl, C7.out⟩
                  · as_aux_lemma =>
                      have hx5' : decide (x < 5) = false := by simpa using hx5
                      go_wp2_with fail
                      go_meet
                      exact ⟨rfl, C7.out⟩
                case rest =>
                  obtain ⟨rfl, hat⟩ := hcut
                  have C8 := Lib.hid hat
                  have R8 := Lib.hid hat.rd
                  have cl8 := hat.last
                  clear hat C7 R7 cl7 a0 HBW
                  go_upto_region 36 with fail
                  go_cut [192] (fun c wx => c = .bool false ∧ CkAt W p wr.heap.size t x n tk g c8 u12 wx)
                  case first =>
                    by_cases he : t.e = 0
                    · as_aux_lemma =>
                        have f3 : (t.e == 0) = true := by simpa using he
                        have HE := Lib.hid he
                        clear he
                        go_quiet (first | (go_at_call 14; exact q_at R8.out _) | (go_at_call 15; exact q_err R8.out _) | (go_at_call 11; exact q_left1 R8.out HE.out _))
                        go_wp2_with fail
                        go_meet
                        exact ⟨rfl, C8.out.drewN nq⟩
                    · as_aux_lemma =>
                        have f3 : (t.e == 0) = false := by simpa using he
                        clear he
                        go_quiet (first | (go_at_call 15; exact q_err R8.out _))
                        go_wp2_with fail
                        go_meet
                        exact ⟨rfl, C8.out.drewN nq⟩
                  case rest =>
                    obtain ⟨rfl, hat⟩ := hcut
                    have C9 := Lib.hid hat
                    clear hat C8 R8 cl8
                    go_wp2
                    go_roundw
                    case rel =>
                      have h9 := C9.out
                      refine ⟨k + 1, t, by go_num, by omega, by omega, h9.rd, by rw [HWAY.out.1, HSL.out], by omega, ?_, h9.kept⟩
                      rw [length_ends]
                      exact h9.own
                    case measure => simp [intOf]; omega
      · as_aux_lemma =>
          go_wp2_with fail
          refine (wakes_any _).mono ?_
          rintro e w2 ⟨rfl, hkk⟩
          go_wp2
          go_ret
          exact ⟨rfl, K2.out.trans hkk⟩
end Go.Proofs.Ytcncjfjdnmookaa
