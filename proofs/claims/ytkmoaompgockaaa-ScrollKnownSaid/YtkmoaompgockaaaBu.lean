
/-
  The law ScrollKnown: readers and writers that were not made; what is wrong first; the document's lengths.
-/
import Derived.Test.YtkmoaompgockaaaBw
import Derived.Deep.DeepCutAuto
import Derived.Deep.CutBlock
namespace Go.Proofs.Ytkmoaompgockaaa
open Go.RowKit


set_option maxRecDepth 20000 in
set_option maxHeartbeats 8000000 in
theorem known_law (W : World) : Calls Try.prog 3 #[] W fun e w' => e = .returned (.bool true) ∧ Kept Nothing W w' := by
  have ZR := Lib.hid ((Blk.fresh W 27 zeroR).alloc (.cells zeroW 31))
  have ZW := Lib.hid (Blk.fresh (W.alloc (.cells zeroR 27)) 31 zeroW)
  have KK1 := Lib.hid (((Kept.refl Nothing W).alloc (.cells zeroR 27)).alloc (.cells zeroW 31))
  have SZ : (W.alloc (.cells zeroR 27)).heap.size = W.heap.size + 1 := by simp
  rw [SZ] at ZW
  clear SZ
  have mk256 : ∀ w : World, (Instr.makeSlice 23 (.int .i64 256) (.int .i64 256)).run Try.prog w = .ok (.slice (some ⟨w.heap.size, 0, none⟩) 256 256) (w.alloc (.cells (zk 256) 5)) := make_zk 256 (by decide)
  have mk255 : ∀ w : World, (Instr.makeSlice 23 (.int .i64 255) (.int .i64 255)).run Try.prog w = .ok (.slice (some ⟨w.heap.size, 0, none⟩) 255 255) (w.alloc (.cells (zk 255) 5)) := make_zk 255 (by decide)
  have mk65536 : ∀ w : World, (Instr.makeSlice 23 (.int .i64 65536) (.int .i64 65536)).run Try.prog w = .ok (.slice (some ⟨w.heap.size, 0, none⟩) 65536 65536) (w.alloc (.cells (zk 65536) 5)) := make_zk 65536 (by decide)
  go_enter Try.func3, Try.ntmps3
  go_wp2_with fail
  generalize (W.alloc (.cells zeroR 27)).alloc (.cells zeroW 31) = w1 at *
  generalize W.heap.size = z at *
  have DR : Hid (∀ u, Kept Nothing w1 u → DeadR u (.pointer (some ⟨z, 0, none⟩))) := Lib.hid (fun u k => .inr ⟨z, rfl, ZR.out.kept k (fun x => x)⟩)
  have DW : Hid (∀ u, Kept Nothing w1 u → DeadW u (.pointer (some ⟨z + 1, 0, none⟩))) := Lib.hid (fun u k => .inr ⟨z + 1, rfl, ZW.out.kept k (fun x => x)⟩)
  clear ZR ZW
  have J1 := Lib.hid (Kept.refl Nothing w1)
  refine (dr_fail _ 1 _ (.inl rfl)).mono ?_
  rintro e w' ⟨rfl, rfl⟩
  go_wp2_with fail
  refine (dr_open _ 0 (by decide) _ (.inl rfl)).mono ?_
  rintro e w' ⟨rfl, rfl⟩
  go_wp2_with fail
  refine (dr_close _ _ (DR.out _ J1.out)).mono ?_
  rintro e w' ⟨rfl, rfl⟩
  have J2 := Lib.hid (J1.out.alloc (.cells #[.int .u8 1] 5))
  go_wp2_with fail
  refine (dw_byte _ _ _ (.inl rfl)).mono ?_
  rintro e w' ⟨rfl, rfl⟩
  have J3 := Lib.hid (J2.out.alloc (.cells #[.int .u16 2] 36))
  have C2 : Hid (((w1.alloc (.cells #[.int .u8 1] 5)).alloc (.cells #[.int .u16 2] 36)).cell? ⟨(w1.alloc (.cells #[.int .u8 1] 5)).heap.size, 0, none⟩ = some (.int .u16 2)) := Lib.hid ((Blk.fresh (w1.alloc (.cells #[.int .u8 1] 5)) 36 #[.int .u16 2]).cell 0)
  rw [show (w1.alloc (.cells #[.int .u8 1] 5)).heap.size = w1.heap.size + 1 by simp] at C2
  go_wp2_with fail
  refine (dw_two1 _ _ _ (.inl rfl) C2.out).mono ?_
  rintro e w2 ⟨rfl, hk⟩
  have J4 := Lib.hid (J3.out.trans hk)
  clear hk C2 J3 J2
  go_wp2_with fail
  refine (dw_hold1 _ _ (.inl rfl)).mono ?_
  rintro e w' ⟨rfl, rfl⟩
  go_wp2_with fail
  refine (dw_fill _ _ (.inl rfl)).mono ?_
  rintro e w' ⟨rfl, rfl⟩
  go_wp2_with fail
  refine (dw_done _ _ (.inl rfl)).mono ?_
  rintro e w' ⟨rfl, rfl⟩
  have J5 := Lib.hid (J4.out.alloc (.cells #[.int .u8 1] 5))
  go_wp2_with fail
  refine (dw_byte _ _ _ (DW.out _ J5.out)).mono ?_
  rintro e w' ⟨rfl, rfl⟩
  go_wp2_with fail
  refine (dw_done _ _ (DW.out _ J5.out)).mono ?_
  rintro e w' ⟨rfl, rfl⟩
  go_wp2_with fail
  refine (dr_err _ _ (.inl rfl)).mono ?_
  rintro e w' ⟨rfl, rfl⟩
  go_wp2_with fail
  refine (dr_err _ _ (DR.out _ J5.out)).mono ?_
  rintro e w' ⟨rfl, rfl⟩
  go_wp2_with fail
  refine (dr_byte _ _ (.inl rfl)).mono ?_
  rintro e w' ⟨rfl, rfl⟩
  go_wp2_with fail
  refine (dr_four _ _ (DR.out _ J5.out)).mono ?_
  rintro e w' ⟨rfl, rfl⟩
  as_aux_lemma =>
    go_wp2_with fail
    refine (dr_rest _ _ (DR.out _ J5.out)).mono ?_
    rintro e w3 ⟨⟨A3, c3, rfl⟩, hk⟩
    have J6 := Lib.hid (J5.out.trans hk)
    clear hk J4 J5 J1
    go_wp2_with fail
    refine (dr_left _ _ (.inl rfl)).mono ?_
    rintro e w' ⟨rfl, rfl⟩
    go_wp2_with fail
    refine (dr_deep _ _ (.inl rfl)).mono ?_
    rintro e w' ⟨rfl, rfl⟩
    go_wp2_with fail
    refine (nr_at _).mono ?_
    rintro e w' ⟨rfl, rfl⟩
    go_wp2_with fail
    refine (nw_len _).mono ?_
    rintro e w' ⟨rfl, rfl⟩
    go_wp2_with fail
    refine (dw_err _ _ (.inl rfl)).mono ?_
    rintro e w' ⟨rfl, rfl⟩
    have Q3 := Lib.hid (KK1.out.trans J6.out)
    clear J6 DR DW KK1
    as_aux_lemma =>
      go_wp2_with fail
      refine (kn_run2 _).mono ?_
      rintro e w4 ⟨rfl, hk⟩
      have Q4 := Lib.hid (Q3.out.trans hk)
      clear hk Q3
      go_wp2_with fail
      refine (kn_run3 _).mono ?_
      rintro e w5 ⟨rfl, hk⟩
      have Q5 := Lib.hid (Q4.out.trans hk)
      clear hk Q4
      go_wp2_with fail
      refine (kn_run4 _).mono ?_
      rintro e w6 ⟨rfl, hk⟩
      have Q6 := Lib.hid (Q5.out.trans hk)
      clear hk Q5
      go_wp2_with fail
      refine (kn_run5 _).mono ?_
      rintro e w7 ⟨rfl, hk⟩
      have Q7 := Lib.hid (Q6.out.trans hk)
      clear hk Q6
      as_aux_lemma =>
        go_wp2_with fail
        refine (kn_run6 _).mono ?_
        rintro e w8 ⟨rfl, hk⟩
        have Q8 := Lib.hid (Q7.out.trans hk)
        clear hk Q7
        go_wp2_with fail
        refine (kn_run7 _).mono ?_
        rintro e w9 ⟨rfl, hk⟩
        have Q9 := Lib.hid (Q8.out.trans hk)
        clear hk Q8
        go_wp2_with fail
        refine (kn_run8 _).mono ?_
        rintro e w10 ⟨rfl, hk⟩
        have Q10 := Lib.hid (Q9.out.trans hk)
        clear hk Q9
        go_wp2_with fail
        refine (kn_run9 _).mono ?_
        rintro e w11 ⟨rfl, hk⟩
        have Q11 := Lib.hid (Q10.out.trans hk)
        clear hk Q10
        go_wp2_with fail
        refine (wr_lay _).mono ?_
        rintro e w12 ⟨p12, F, rfl, hw, hk, hs⟩
        have Wb := Lib.hid hw
        have Mb := Lib.hid hk
        have Tb := Lib.hid hs
        clear hw hk hs
        go_wp2_with fail
        have C := Lib.hid (wr_hold p12 _ _ 3 _ Wb.out (by decide) (by decide))
        rw [show WS.hold ⟨[], [], 0⟩ 3 = ⟨[], [], 1⟩ from rfl] at C
        refine C.out.mono ?_
        rintro e w13 ⟨F2, rfl, hw, hk, hs⟩
        have Wc := Lib.hid hw
        have Tc := Lib.hid (Tb.out.trans hs Mb.out.size)
        have Mc := Lib.hid (Mb.out.news hk Tb.out)
        clear hw hk hs C Wb Tb Mb
        have Wb := Wc
        have Tb := Tc
        have Mb := Mc
        clear Wc Tc Mc
        go_wp2_with fail
        have C := Lib.hid (wr_done p12 _ _ _ Wb.out)
        rw [show WS.done ⟨[], [], 1⟩ = ([], 1) from rfl] at C
        refine C.out.mono ?_
        rintro e w14 ⟨v14, rfl, hb, hk⟩
        have Q14 := Lib.hid (Q11.out.trans (Mb.out.trans hk))
        clear hb hk C Wb Mb Tb Q11
        as_aux_lemma =>
          go_wp2_with fail
          refine (wr_lay _).mono ?_
          rintro e w15 ⟨p15, F, rfl, hw, hk, hs⟩
          have Wb := Lib.hid hw
          have Mb := Lib.hid hk
          have Tb := Lib.hid hs
          clear hw hk hs
          go_wp2_with fail
          have C := Lib.hid (wr_fill p15 _ _ _ Wb.out)
          rw [show WS.fill ⟨[], [], 0⟩ = ⟨[], [], 26⟩ from rfl] at C
          refine C.out.mono ?_
          rintro e w16 ⟨F2, rfl, hw, hk, hs⟩
          have Wc := Lib.hid hw
          have Tc := Lib.hid (Tb.out.trans hs Mb.out.size)
          have Mc := Lib.hid (Mb.out.news hk Tb.out)
          clear hw hk hs C Wb Tb Mb
          have Wb := Wc
          have Tb := Tc
          have Mb := Mc
          clear Wc Tc Mc
          go_wp2_with fail
          have C := Lib.hid (wr_done p15 _ _ _ Wb.out)
          rw [show WS.done ⟨[], [], 26⟩ = ([], 26) from rfl] at C
          refine C.out.mono ?_
          rintro e w17 ⟨v17, rfl, hb, hk⟩
          have Q17 := Lib.hid (Q14.out.trans (Mb.out.trans hk))
          clear hb hk C Wb Mb Tb Q14
          as_aux_lemma =>
            go_wp2_with fail
            refine (wr_lay _).mono ?_
            rintro e w18 ⟨p18, F, rfl, hw, hk, hs⟩
            have Wb := Lib.hid hw
            have Mb := Lib.hid hk
            have Tb := Lib.hid hs
            clear hw hk hs
            go_wp2_with fail
            have C := Lib.hid (wr_hold p18 _ _ 2 _ Wb.out (by decide) (by decide))
            rw [show WS.hold ⟨[], [], 0⟩ 2 = ⟨[0, 0], [(2, 2)], 0⟩ from rfl] at C
            refine C.out.mono ?_
            rintro e w19 ⟨F2, rfl, hw, hk, hs⟩
            have Wc := Lib.hid hw
            have Tc := Lib.hid (Tb.out.trans hs Mb.out.size)
            have Mc := Lib.hid (Mb.out.news hk Tb.out)
            clear hw hk hs C Wb Tb Mb
            have Wb := Wc
            have Tb := Tc
            have Mb := Mc
            clear Wc Tc Mc
            go_wp2_with fail
            have C := Lib.hid (wr_done p18 _ _ _ Wb.out)
            rw [show WS.done ⟨[0, 0], [(2, 2)], 0⟩ = ([], 26) from rfl] at C
            refine C.out.mono ?_
            rintro e w20 ⟨v20, rfl, hb, hk⟩
            have Q20 := Lib.hid (Q17.out.trans (Mb.out.trans hk))
            clear hb hk C Wb Mb Tb Q17
            as_aux_lemma =>
              go_wp2_with fail
              go_cut [24, 25] (fun a e wx => e = .int .i64 3 ∧ Kept Nothing w20 wx)
              case first => as_aux_lemma =>
                go_wp2
                go_region_law (first
                  | (go_simp; go_at_call 34; with_reducible refine (wr_lay _).mono ?_; rintro e u1 ⟨p, F, rfl, hw, hk, hs⟩; (have WA := Lib.hid hw); (have MA : Hid (Kept Nothing w20 u1) := Lib.hid (Kept.trans (by (repeat (first | with_reducible exact Kept.refl _ _ | with_reducible apply Kept.alloc | with_reducible apply Kept.drew)); done) hk)); (first | (have TA := Lib.hid (sub_dr (w0 := w20) hs)) | (have TA := Lib.hid (sub_al (w0 := w20) hs))); (try have ZA := Lib.hid ((Blk.fresh w20 5 (zk 256)).drew.kept hk (fun x => x))); (try have NA : Hid (¬ F w20.heap.size) := Lib.hid (na_of hs)); clear hw hk hs)
                  | (go_simp; go_at_call 9; (first | with_reducible refine (wr_hold _ _ _ 1 u1 WA.out (by decide) (by decide)).mono ?_ | with_reducible refine (wr_hold _ _ _ 1 (u1.alloc _) (WA.out.kept ((Kept.refl Nothing _).alloc _) (fun _ _ x => x)) (by decide) (by decide)).mono ?_); rintro e u2 ⟨F2, rfl, hw, hk, hs⟩; rw [show WS.hold ⟨[], [], 0⟩ 1 = ⟨[0], [(1, 1)], 0⟩ from rfl] at hw; (have WB := Lib.hid hw); (have MB := Lib.hid (Kept.news (Kept.trans MA.out (by (repeat (first | with_reducible exact Kept.refl _ _ | with_reducible apply Kept.alloc | with_reducible apply Kept.drew)); done)) hk TA.out)); (have TB := Lib.hid (sub_on TA.out hs (Nat.le_trans MA.out.size (Kept.size (S := Nothing) (by (repeat (first | with_reducible exact Kept.refl _ _ | with_reducible apply Kept.alloc | with_reducible apply Kept.drew)); done))))); (first | ((have ZB := Lib.hid (ZA.out.kept hk NA.out)); (have NB := Lib.hid (nb_old hs NA.out ZA.out.lt))) | ((have ZB := Lib.hid ((Blk.fresh u1 5 (zk 256)).kept hk (fun x => absurd (WA.out.lt x) (Nat.lt_irrefl _)))); (have NB := Lib.hid (nb_new hs (fun _ x => WA.out.lt x)))) | skip); clear hw hk hs)
                  | (go_simp; go_at_call 7; (first | with_reducible refine (wr_byte _ _ _ _ (zl 256) u2 WB.out (zk_by 256 (by decide) ZB.out) (by rw [zl_len]; decide)).mono ?_ | with_reducible refine (wr_byte _ _ _ _ (zl 256) (u2.alloc _) (WB.out.kept ((Kept.refl Nothing _).alloc _) (fun _ _ x => x)) (zk_by 256 (by decide) (Blk.fresh u2 5 (zk 256))) (by rw [zl_len]; decide)).mono ?_); rintro e u3 ⟨F3, rfl, hw, hk, hs⟩; (have WC := Lib.hid hw); (have MC := Lib.hid (Kept.news (Kept.trans MB.out (by (repeat (first | with_reducible exact Kept.refl _ _ | with_reducible apply Kept.alloc | with_reducible apply Kept.drew)); done)) hk TB.out)); (have TC := Lib.hid (sub_on TB.out hs (Nat.le_trans MB.out.size (Kept.size (S := Nothing) (by (repeat (first | with_reducible exact Kept.refl _ _ | with_reducible apply Kept.alloc | with_reducible apply Kept.drew)); done))))); clear hw hk hs)
                  | (go_simp; go_at_call 10; with_reducible refine (wr_fill _ _ _ _ WC.out).mono ?_; rintro e u4 ⟨F4, rfl, hw, hk, hs⟩; (have WD := Lib.hid hw); (have MD := Lib.hid (Kept.news MC.out hk TC.out)); clear hw hk hs)
                  | (go_simp; go_at_call 11; with_reducible refine (wr_done _ _ _ _ WD.out).mono ?_; rintro e u5 ⟨v5, he, hb, hk⟩; rw [f256] at hb he; subst he; (have HB := Lib.hid hb); (have ME := Lib.hid (Kept.trans MD.out hk)); clear hb hk))
                all_goals
                  go_wp2
                  go_meet
                  exact ⟨rfl, ME.out⟩
              case rest =>
                obtain ⟨rfl, hq⟩ := hcut
                have Q21 := Lib.hid (Q20.out.trans hq)
                clear hq Q20 mk256
                go_wp2_with fail
                go_cut [26, 27] (fun a e wx => e = .int .i64 0 ∧ (∃ b o c, a = .slice (some ⟨b, o, none⟩) 256 c ∧ wx.cell? ⟨b, o, none⟩ = some (.int .u8 255)) ∧ Kept Nothing wc wx)
                case first => as_aux_lemma =>
                  go_wp2
                  go_region_law (first
                    | (go_simp; go_at_call 34; with_reducible refine (wr_lay _).mono ?_; rintro e u1 ⟨p, F, rfl, hw, hk, hs⟩; (have WA := Lib.hid hw); (have MA : Hid (Kept Nothing wc u1) := Lib.hid (Kept.trans (by (repeat (first | with_reducible exact Kept.refl _ _ | with_reducible apply Kept.alloc | with_reducible apply Kept.drew)); done) hk)); (first | (have TA := Lib.hid (sub_dr (w0 := wc) hs)) | (have TA := Lib.hid (sub_al (w0 := wc) hs))); (try have ZA := Lib.hid ((Blk.fresh wc 5 (zk 255)).drew.kept hk (fun x => x))); (try have NA : Hid (¬ F wc.heap.size) := Lib.hid (na_of hs)); clear hw hk hs)
                    | (go_simp; go_at_call 9; (first | with_reducible refine (wr_hold _ _ _ 1 u1 WA.out (by decide) (by decide)).mono ?_ | with_reducible refine (wr_hold _ _ _ 1 (u1.alloc _) (WA.out.kept ((Kept.refl Nothing _).alloc _) (fun _ _ x => x)) (by decide) (by decide)).mono ?_); rintro e u2 ⟨F2, rfl, hw, hk, hs⟩; rw [show WS.hold ⟨[], [], 0⟩ 1 = ⟨[0], [(1, 1)], 0⟩ from rfl] at hw; (have WB := Lib.hid hw); (have MB := Lib.hid (Kept.news (Kept.trans MA.out (by (repeat (first | with_reducible exact Kept.refl _ _ | with_reducible apply Kept.alloc | with_reducible apply Kept.drew)); done)) hk TA.out)); (have TB := Lib.hid (sub_on TA.out hs (Nat.le_trans MA.out.size (Kept.size (S := Nothing) (by (repeat (first | with_reducible exact Kept.refl _ _ | with_reducible apply Kept.alloc | with_reducible apply Kept.drew)); done))))); (first | ((have ZB := Lib.hid (ZA.out.kept hk NA.out)); (have NB := Lib.hid (nb_old hs NA.out ZA.out.lt))) | ((have ZB := Lib.hid ((Blk.fresh u1 5 (zk 255)).kept hk (fun x => absurd (WA.out.lt x) (Nat.lt_irrefl _)))); (have NB := Lib.hid (nb_new hs (fun _ x => WA.out.lt x)))) | skip); clear hw hk hs)
                    | (go_simp; go_at_call 7; (first | with_reducible refine (wr_byte _ _ _ _ (zl 255) u2 WB.out (zk_by 255 (by decide) ZB.out) (by rw [zl_len]; decide)).mono ?_ | with_reducible refine (wr_byte _ _ _ _ (zl 255) (u2.alloc _) (WB.out.kept ((Kept.refl Nothing _).alloc _) (fun _ _ x => x)) (zk_by 255 (by decide) (Blk.fresh u2 5 (zk 255))) (by rw [zl_len]; decide)).mono ?_); rintro e u3 ⟨F3, rfl, hw, hk, hs⟩; (have WC := Lib.hid hw); (have MC := Lib.hid (Kept.news (Kept.trans MB.out (by (repeat (first | with_reducible exact Kept.refl _ _ | with_reducible apply Kept.alloc | with_reducible apply Kept.drew)); done)) hk TB.out)); (have TC := Lib.hid (sub_on TB.out hs (Nat.le_trans MB.out.size (Kept.size (S := Nothing) (by (repeat (first | with_reducible exact Kept.refl _ _ | with_reducible apply Kept.alloc | with_reducible apply Kept.drew)); done))))); clear hw hk hs)
                    | (go_simp; go_at_call 10; with_reducible refine (wr_fill _ _ _ _ WC.out).mono ?_; rintro e u4 ⟨F4, rfl, hw, hk, hs⟩; (have WD := Lib.hid hw); (have MD := Lib.hid (Kept.news MC.out hk TC.out)); clear hw hk hs)
                    | (go_simp; go_at_call 11; with_reducible refine (wr_done _ _ _ _ WD.out).mono ?_; rintro e u5 ⟨v5, he, hb, hk⟩; rw [f255] at hb he; subst he; (have HB := Lib.hid hb); (have ME := Lib.hid (Kept.trans MD.out hk)); clear hb hk))
                  all_goals
                    go_wp2
                    go_meet
                    exact ⟨rfl, first_of HB.out, ME.out⟩
                case rest =>
                  obtain ⟨rfl, ⟨b6, o6, c6, rfl, hc6⟩, hq⟩ := hcut
                  have Q22 := Lib.hid (Q21.out.trans hq)
                  have X6 := Lib.hid hc6
                  clear hq hc6 Q21 mk255
                  go_wp2_with fail
                  refine (wr_lay _).mono ?_
                  rintro e w23 ⟨p23, F, rfl, hw, hk, hs⟩
                  have Wb := Lib.hid hw
                  have Mb := Lib.hid hk
                  have Tb := Lib.hid hs
                  clear hw hk hs
                  go_wp2_with fail
                  have C := Lib.hid (wr_hold p23 _ _ 2 _ Wb.out (by decide) (by decide))
                  rw [show WS.hold ⟨[], [], 0⟩ 2 = ⟨[0, 0], [(2, 2)], 0⟩ from rfl] at C
                  refine C.out.mono ?_
                  rintro e w24 ⟨F2, rfl, hw, hk, hs⟩
                  have Wc := Lib.hid hw
                  have Tc := Lib.hid (Tb.out.trans hs Mb.out.size)
                  have Mc := Lib.hid (Mb.out.news hk Tb.out)
                  clear hw hk hs C Wb Tb Mb
                  have Wb := Wc
                  have Tb := Tc
                  have Mb := Mc
                  clear Wc Tc Mc
                  go_wp2_with fail
                  have C := Lib.hid (wr_hold p23 _ _ 1 _ Wb.out (by decide) (by decide))
                  rw [show WS.hold ⟨[0, 0], [(2, 2)], 0⟩ 1 = ⟨[0, 0, 0], [(2, 2), (1, 3)], 0⟩ from rfl] at C
                  refine C.out.mono ?_
                  rintro e w25 ⟨F2, rfl, hw, hk, hs⟩
                  have Wc := Lib.hid hw
                  have Tc := Lib.hid (Tb.out.trans hs Mb.out.size)
                  have Mc := Lib.hid (Mb.out.news hk Tb.out)
                  clear hw hk hs C Wb Tb Mb
                  have Wb := Wc
                  have Tb := Tc
                  have Mb := Mc
                  clear Wc Tc Mc
                  go_wp2_with fail
                  have kb := (Kept.refl Nothing w25).alloc (.cells #[.int .u32 16909060] 43)
                  have UB := Us.made (k := .u32) (l := [16909060]) (Blk.fresh w25 43 #[.int .u32 16909060]) rfl (by decide)
                  have Wb := Lib.hid (Wb.out.kept kb (fun _ _ x => x))
                  have Mb := Lib.hid (Mb.out.trans kb)
                  have C := Lib.hid (wr_four p23 _ _ _ [16909060] _ Wb.out UB (by simp) (by decide))
                  rw [show WS.lay ⟨[0, 0, 0], [(2, 2), (1, 3)], 0⟩ (fours [16909060]) = ⟨[0, 0, 0, 1, 2, 3, 4], [(2, 2), (1, 3)], 0⟩ from rfl] at C
                  refine C.out.mono ?_
                  rintro e w26 ⟨F2, rfl, hw, hk, hs⟩
                  have Wc := Lib.hid hw
                  have Tc := Lib.hid (Tb.out.trans hs Mb.out.size)
                  have Mc := Lib.hid (Mb.out.news hk Tb.out)
                  clear hw hk hs C Wb Tb Mb
                  have Wb := Wc
                  have Tb := Tc
                  have Mb := Mc
                  clear Wc Tc Mc
                  go_wp2_with fail
                  have C := Lib.hid (wr_fill p23 _ _ _ Wb.out)
                  rw [show WS.fill ⟨[0, 0, 0, 1, 2, 3, 4], [(2, 2), (1, 3)], 0⟩ = ⟨[0, 0, 4, 1, 2, 3, 4], [(2, 2)], 0⟩ from rfl] at C
                  refine C.out.mono ?_
                  rintro e w27 ⟨F2, rfl, hw, hk, hs⟩
                  have Wc := Lib.hid hw
                  have Tc := Lib.hid (Tb.out.trans hs Mb.out.size)
                  have Mc := Lib.hid (Mb.out.news hk Tb.out)
                  clear hw hk hs C Wb Tb Mb
                  have Wb := Wc
                  have Tb := Tc
                  have Mb := Mc
                  clear Wc Tc Mc
                  go_wp2_with fail
                  have kb := (Kept.refl Nothing w27).alloc (.cells #[.int .u16 5] 36)
                  have UB := Us.made (k := .u16) (l := [5]) (Blk.fresh w27 36 #[.int .u16 5]) rfl (by decide)
                  have Wb := Lib.hid (Wb.out.kept kb (fun _ _ x => x))
                  have Mb := Lib.hid (Mb.out.trans kb)
                  have C := Lib.hid (wr_two p23 _ _ _ [5] _ Wb.out UB (by simp) (by decide))
                  rw [show WS.lay ⟨[0, 0, 4, 1, 2, 3, 4], [(2, 2)], 0⟩ (twos [5]) = ⟨[0, 0, 4, 1, 2, 3, 4, 0, 5], [(2, 2)], 0⟩ from rfl] at C
                  refine C.out.mono ?_
                  rintro e w28 ⟨F2, rfl, hw, hk, hs⟩
                  have Wc := Lib.hid hw
                  have Tc := Lib.hid (Tb.out.trans hs Mb.out.size)
                  have Mc := Lib.hid (Mb.out.news hk Tb.out)
                  clear hw hk hs C Wb Tb Mb
                  have Wb := Wc
                  have Tb := Tc
                  have Mb := Mc
                  clear Wc Tc Mc
                  go_wp2_with fail
                  have C := Lib.hid (wr_fill p23 _ _ _ Wb.out)
                  rw [show WS.fill ⟨[0, 0, 4, 1, 2, 3, 4, 0, 5], [(2, 2)], 0⟩ = ⟨[0, 7, 4, 1, 2, 3, 4, 0, 5], [], 0⟩ from rfl] at C
                  refine C.out.mono ?_
                  rintro e w29 ⟨F2, rfl, hw, hk, hs⟩
                  have Wc := Lib.hid hw
                  have Tc := Lib.hid (Tb.out.trans hs Mb.out.size)
                  have Mc := Lib.hid (Mb.out.news hk Tb.out)
                  clear hw hk hs C Wb Tb Mb
                  have Wb := Wc
                  have Tb := Tc
                  have Mb := Mc
                  clear Wc Tc Mc
                  go_wp2_with fail
                  have C := Lib.hid (wr_done p23 _ _ _ Wb.out)
                  rw [show WS.done ⟨[0, 7, 4, 1, 2, 3, 4, 0, 5], [], 0⟩ = ([0, 7, 4, 1, 2, 3, 4, 0, 5], 0) from rfl] at C
                  refine C.out.mono ?_
                  rintro e w30 ⟨v30, rfl, hb, hk⟩
                  have Q30 := Lib.hid (Q22.out.trans (Mb.out.trans hk))
                  have HV := Lib.hid hb
                  have X6 := Lib.hid ((Mb.out.trans hk).cell_some X6.out (fun x => x))
                  clear hb hk C Wb Mb Tb Q22
                  as_aux_lemma =>
                    go_wp2_with fail
                    go_cut [30, 31] (fun a e wx => e = .int .i64 3 ∧ Kept Nothing w30 wx)
                    case first => as_aux_lemma =>
                      go_wp2
                      go_region_law (first
                        | (go_simp; go_at_call 34; with_reducible refine (wr_lay _).mono ?_; rintro e u1 ⟨p, F, rfl, hw, hk, hs⟩; (have WA := Lib.hid hw); (have MA : Hid (Kept Nothing w30 u1) := Lib.hid (Kept.trans (by (repeat (first | with_reducible exact Kept.refl _ _ | with_reducible apply Kept.alloc | with_reducible apply Kept.drew)); done) hk)); (first | (have TA := Lib.hid (sub_dr (w0 := w30) hs)) | (have TA := Lib.hid (sub_al (w0 := w30) hs))); (try have ZA := Lib.hid ((Blk.fresh w30 5 (zk 65536)).drew.kept hk (fun x => x))); (try have NA : Hid (¬ F w30.heap.size) := Lib.hid (na_of hs)); clear hw hk hs)
                        | (go_simp; go_at_call 9; (first | with_reducible refine (wr_hold _ _ _ 2 u1 WA.out (by decide) (by decide)).mono ?_ | with_reducible refine (wr_hold _ _ _ 2 (u1.alloc _) (WA.out.kept ((Kept.refl Nothing _).alloc _) (fun _ _ x => x)) (by decide) (by decide)).mono ?_); rintro e u2 ⟨F2, rfl, hw, hk, hs⟩; rw [show WS.hold ⟨[], [], 0⟩ 2 = ⟨[0, 0], [(2, 2)], 0⟩ from rfl] at hw; (have WB := Lib.hid hw); (have MB := Lib.hid (Kept.news (Kept.trans MA.out (by (repeat (first | with_reducible exact Kept.refl _ _ | with_reducible apply Kept.alloc | with_reducible apply Kept.drew)); done)) hk TA.out)); (have TB := Lib.hid (sub_on TA.out hs (Nat.le_trans MA.out.size (Kept.size (S := Nothing) (by (repeat (first | with_reducible exact Kept.refl _ _ | with_reducible apply Kept.alloc | with_reducible apply Kept.drew)); done))))); (first | ((have ZB := Lib.hid (ZA.out.kept hk NA.out)); (have NB := Lib.hid (nb_old hs NA.out ZA.out.lt))) | ((have ZB := Lib.hid ((Blk.fresh u1 5 (zk 65536)).kept hk (fun x => absurd (WA.out.lt x) (Nat.lt_irrefl _)))); (have NB := Lib.hid (nb_new hs (fun _ x => WA.out.lt x)))) | skip); clear hw hk hs)
                        | (go_simp; go_at_call 7; (first | with_reducible refine (wr_byte _ _ _ _ (zl 65536) u2 WB.out (zk_by 65536 (by decide) ZB.out) (by rw [zl_len]; decide)).mono ?_ | with_reducible refine (wr_byte _ _ _ _ (zl 65536) (u2.alloc _) (WB.out.kept ((Kept.refl Nothing _).alloc _) (fun _ _ x => x)) (zk_by 65536 (by decide) (Blk.fresh u2 5 (zk 65536))) (by rw [zl_len]; decide)).mono ?_); rintro e u3 ⟨F3, rfl, hw, hk, hs⟩; (have WC := Lib.hid hw); (have MC := Lib.hid (Kept.news (Kept.trans MB.out (by (repeat (first | with_reducible exact Kept.refl _ _ | with_reducible apply Kept.alloc | with_reducible apply Kept.drew)); done)) hk TB.out)); (have TC := Lib.hid (sub_on TB.out hs (Nat.le_trans MB.out.size (Kept.size (S := Nothing) (by (repeat (first | with_reducible exact Kept.refl _ _ | with_reducible apply Kept.alloc | with_reducible apply Kept.drew)); done))))); clear hw hk hs)
                        | (go_simp; go_at_call 10; with_reducible refine (wr_fill _ _ _ _ WC.out).mono ?_; rintro e u4 ⟨F4, rfl, hw, hk, hs⟩; (have WD := Lib.hid hw); (have MD := Lib.hid (Kept.news MC.out hk TC.out)); clear hw hk hs)
                        | (go_simp; go_at_call 11; with_reducible refine (wr_done _ _ _ _ WD.out).mono ?_; rintro e u5 ⟨v5, he, hb, hk⟩; rw [f65536] at hb he; subst he; (have HB := Lib.hid hb); (have ME := Lib.hid (Kept.trans MD.out hk)); clear hb hk))
                      all_goals
                        go_wp2
                        go_meet
                        exact ⟨rfl, ME.out⟩
                    case rest =>
                      obtain ⟨rfl, hq⟩ := hcut
                      have TW := Lib.hid (Q30.out.trans hq)
                      have X6 := Lib.hid (hq.cell_some X6.out (fun x => x))
                      have HV := Lib.hid (HV.out.kept hq (NoBytes.nothing _))
                      clear hq Q30 mk65536
                      go_upto_region 29 with fail
                      refine kn_tail b6 o6 c6 v30 wc X6 HV _ (by rfl) _ (by rfl) rfl rfl rfl rfl rfl rfl rfl rfl rfl rfl rfl rfl rfl rfl rfl rfl rfl rfl ?_
                      intro A u hku hA' hdef
                      have hr := results_tmp (fn := Try.f3) (t := 0) (by rfl) A.tmps Try.prog u
                      rw [hA'] at hr
                      go_wp2
                      exact bodyPost_ret hr hdef ⟨rfl, TW.out.trans hku⟩
end Go.Proofs.Ytkmoaompgockaaa
