
/-
  The law SessionTimers.
-/
import Derived.Test.YtlghmjipnkmeeaaDoorSMw
namespace Go.Proofs.YtlghmjipnkmeeaaDoor
open Go.RowKit

theorem drop_consT {α : Type} {l : List α} {q : Nat} (h : q < l.length) : l.drop q = l[q] :: l.drop (q + 1) := List.drop_eq_getElem_cons h
theorem Sm.tims_timer {w w' : Sm.Wa} {a : Sm.Act} {l : List Sm.Act} (h : w.tims (a :: l) = some w') (ha : a.act = 3 ∨ a.act = 4) : ∃ w1, w.does a = some w1 ∧ w1.tims l = some w' := by
  unfold Sm.Wa.tims at h
  rw [if_pos ha] at h
  cases hd : w.does a with
  | none => rw [hd] at h; cases h
  | some w1 => rw [hd] at h; exact ⟨w1, rfl, h⟩
theorem Sm.tims_other {w w' : Sm.Wa} {a : Sm.Act} {l : List Sm.Act} (h : w.tims (a :: l) = some w') (ha : ¬ (a.act = 3 ∨ a.act = 4)) : w.tims l = some w' := by
  unfold Sm.Wa.tims at h
  rwa [if_neg ha] at h
/-- A timer that does not run goes off. -/
def Sm.Wa.skip (w : Sm.Wa) (e : Sm.Ev) : Bool := decide (e.kind = 6) && (decide (e.what < 1) || decide (3 < e.what) || !(w.runs e.what))
structure Sit (W u : World) (mB : Nat) (m : Sm.M) (wa wf : Sm.Wa) (acts : List Sm.Act) (av : Value) (q : Nat) (bs : List UInt8) : Prop where
  xx : Sx W u mB m wa
  aa : Acs .u8 u av acts bs
  all : wa.tims (acts.drop q) = some wf
set_option maxRecDepth 100000 in
set_option maxHeartbeats 16000000 in
theorem timers_law (v : Value) (l : List EvB) (W : World) (hR : RdS W) (hl : Evs W v l) :
    Calls Tryd.prog 5 #[v] W fun e w' => e = .returned (.bool true) ∧ Kept Nothing W w' := by
  obtain ⟨A, cc, rfl, hlm, hdb, hp⟩ := hl
  unfold maxLen at hlm
  have HR := Lib.hid hR
  have HP := Lib.hid hp
  have HD := Lib.hid hdb
  have HT := Lib.hid (fun u (k : Kept Nothing W u) => s_tells u (hR.old k))
  clear hR hp hdb
  go_enter Tryd.func5, Tryd.ntmps5
  go_wp2_with fail
  refine (se_new _).mono ?_
  rintro e w1 ⟨rfl, hk⟩
  have wb := (Blk.fresh (w1.alloc (.cells #[.int .i64 1, .int .i64 0] 24)) 46 (Sm.Wa.wc ⟨false, false, false, false, false, false, false, false⟩))
  rw [World.size_alloc] at wb
  have S0 : Hid (Sx W ((w1.alloc (.cells #[.int .i64 1, .int .i64 0] 24)).alloc (.cells (Sm.Wa.wc ⟨false, false, false, false, false, false, false, false⟩) 46)) w1.heap.size ⟨1, 0⟩ ⟨false, false, false, false, false, false, false, false⟩) :=
    Lib.hid ⟨⟨(hk.alloc _).alloc _, (Blk.fresh w1 24 #[.int .i64 1, .int .i64 0]).alloc _, hk.size, Sm.ok_new⟩, wb⟩
  clear wb hk
  go_wp2
  change Code.wp _ _ _ _ ((w1.alloc (.cells #[.int .i64 1, .int .i64 0] 24)).alloc (.cells (Sm.Wa.wc ⟨false, false, false, false, false, false, false, false⟩) 46))
  generalize (w1.alloc (.cells #[.int .i64 1, .int .i64 0] 24)).alloc (.cells (Sm.Wa.wc ⟨false, false, false, false, false, false, false, false⟩) 46) = w2 at *
  generalize w1.heap.size = mB at *
  have hI0 : Hid (Sm.It ⟨false, false, false, false, false, false, false, false⟩ ⟨1, 0⟩) := Lib.hid ⟨fun _ => ⟨rfl, rfl⟩, by decide, by decide, rfl, by decide⟩
  go_loopw [15] (fun i wr => ∃ k : Nat, i = .int .i64 (k : Int) ∧ k ≤ l.length ∧ k ≤ 80 ∧ Hid (∃ m wa, Sx W wr mB m wa ∧ Sm.It wa m)) (fun i _ => l.length - (intOf i).toNat)
  case atStart => exact ⟨0, rfl, by omega, by omega, Lib.hid ⟨_, _, S0.out, hI0.out⟩⟩
  case round =>
    clear S0 hI0
    obtain ⟨k, rfl, hkl, hk80, hS⟩ := hrel
    by_cases hlt : k < l.length
    · have hlt' : (k : Int) < (l.length : Int) := by omega
      obtain ⟨b0, o0, rfl, hcp⟩ := HP.out (by omega)
      obtain ⟨m, wa, hX, hI⟩ := hS.out
      obtain ⟨e, bs, dA, dn, dc, hbl, hby, e0, e1, e2, e3, e4, e5⟩ := Evs.at hcp hX.q.kk HD.out hlt
      have k0 := (Kept.refl Nothing wr).alloc (.cells #[.int .i64 e.kind, .int .u8 e.what, .int .i64 e.hold, .int .u8 e.code, .int .u8 e.sub, .slice dA dn dc] 31)
      have SX := Lib.hid (hX.old k0)
      have hsz : mB + 1 < wr.heap.size := hX.w.lt
      have SE : Hid (Se (wr.alloc (.cells #[.int .i64 e.kind, .int .u8 e.what, .int .i64 e.hold, .int .u8 e.code, .int .u8 e.sub, .slice dA dn dc] 31)) mB wr.heap.size e (.slice dA dn dc)) := Lib.hid ⟨hsz, Blk.fresh wr _ _⟩
      have HB := Lib.hid hby
      have HBL := Lib.hid hbl
      have HI := Lib.hid hI
      clear hcp hX hI hbl hby k0 hsz hS
      by_cases h80 : k = 80
      · subst h80
        go_wp2_with (go_at_call 13; refine (HT.out _ (by exact SX.out.q.kk)).mono ?_; rintro e' w8 ⟨rfl, hk8⟩)
        go_ret
        exact ⟨rfl, SX.out.q.kk.trans hk8⟩
      · have h80b : ((k : Int) == 80) = false := by simp; omega
        go_upto_region 7 with fail
        change Code.wp _ _ _ _ (wr.alloc (.cells #[.int .i64 e.kind, .int .u8 e.what, .int .i64 e.hold, .int .u8 e.code, .int .u8 e.sub, .slice dA dn dc] 31))
        generalize wr.alloc (.cells #[.int .i64 e.kind, .int .u8 e.what, .int .i64 e.hold, .int .u8 e.code, .int .u8 e.sub, .slice dA dn dc] 31) = w3 at *
        generalize wr.heap.size = eB at *
        clear e0 e1 e2 e3 e4 e5 h80b
        obtain ⟨c0, c1, c2, c3, c4, c6, c7, c8, -⟩ := wcells SX.out.w
        obtain ⟨y0, y1, -, -, -, -⟩ := SE.out.cells
        go_cut [42] (fun b wx => b = .bool (wa.skip e) ∧ Hid (Sx W wx mB m wa ∧ Se wx mB eB e (.slice dA dn dc)))
        case first =>
          clear c0 c1 c2 c3 c4
          by_cases q6 : e.kind = 6
          · rw [q6] at y0
            by_cases w1_ : e.what < 1
            · have hw1 : (e.what : Int) < 1 := by omega
              go_wp2
              go_meet
              exact ⟨by simp [Sm.Wa.skip, q6, w1_], Lib.hid ⟨SX.out, SE.out⟩⟩
            · have hw1 : 1 ≤ (e.what : Int) := by omega
              by_cases w3_ : 3 < e.what
              · have hw3 : 3 < (e.what : Int) := by omega
                go_wp2
                go_meet
                exact ⟨by simp [Sm.Wa.skip, q6, w3_], Lib.hid ⟨SX.out, SE.out⟩⟩
              · obtain hx | hx | hx : e.what = 1 ∨ e.what = 2 ∨ e.what = 3 := by omega
                all_goals
                  rw [hx] at y1
                  clear hw1
                  go_wp2
                  go_meet
                  exact ⟨by simp [Sm.Wa.skip, Sm.Wa.runs, q6, hx], Lib.hid ⟨SX.out, SE.out⟩⟩
          · have q6i : (e.kind == 6) = false := by simpa using q6
            go_wp2
            go_meet
            exact ⟨by simp [Sm.Wa.skip, q6], Lib.hid ⟨SX.out, SE.out⟩⟩
        case rest =>
          obtain ⟨rfl, hcut⟩ := hcut
          clear SX SE c0 c1 c2 c3 c4 c6 c7 c8 y0 y1
          have SX := Lib.hid hcut.out.1
          have SE := Lib.hid hcut.out.2
          clear hcut
          cases hsk : wa.skip e with
          | true =>
            have HX := Lib.hid SX.out
            have HN := Lib.hid (show ∃ m wa, Sx W wc mB m wa ∧ Sm.It wa m from ⟨m, wa, SX.out, HI.out⟩)
            go_wp2
            go_roundw
            case rel => exact ⟨k + 1, by go_num, by omega, by omega, HN⟩
            case measure => simp [intOf]; omega
          | false =>
            have HSK := Lib.hid hsk
            clear hsk
            obtain ⟨y0, y1, -, -, -, -⟩ := SE.out.cells
            go_upto_region 8 with fail
            go_cut [45] (fun b wx => b = .bool (decide (e.kind = 6)) ∧ Hid (Sx W wx mB m wa ∧ Se wx mB eB e (.slice dA dn dc)))
            case first =>
              by_cases q6 : e.kind = 6
              · have q6i : (e.kind == 6) = true := by simpa using q6
                go_wp2
                go_meet
                exact ⟨by simp [q6], Lib.hid ⟨SX.out, SE.out⟩⟩
              · have q6i : (e.kind == 6) = false := by simpa using q6
                go_wp2
                go_meet
                exact ⟨by simp [q6], Lib.hid ⟨SX.out, SE.out⟩⟩
            case rest =>
              obtain ⟨rfl, hcut⟩ := hcut
              clear SX SE y0 y1
              have SX := Lib.hid hcut.out.1
              have SE := Lib.hid hcut.out.2
              clear hcut
              obtain ⟨c0, c1, c2, c3, c4, c6, c7, c8, -⟩ := wcells SX.out.w
              obtain ⟨f0, f1, f2, f3, f4, f6, f7, f8⟩ := wfrozen SX.out.w
              obtain ⟨y0, y1, -, -, -, -⟩ := SE.out.cells
              generalize hbb : decide (e.kind = 6) = bb at *
              have HBB := Lib.hid hbb
              clear hbb
              go_upto_if 45 with fail
              go_cut [] (fun wx => Hid (Sx W wx mB m (wa.fire e) ∧ Se wx mB eB e (.slice dA dn dc)))
              case first =>
                have KF : ∀ (i : Nat) (wa2 : Sm.Wa), wa.wc.setIfInBounds i (.bool false) = wa2.wc → Hid (Sx W (World.setCell _ ⟨mB + 1, i, none⟩ (.bool false)) mB m wa2 ∧ Se (World.setCell _ ⟨mB + 1, i, none⟩ (.bool false)) mB eB e (.slice dA dn dc)) :=
                  fun i wa2 hb => Lib.hid ⟨SX.out.flag i false hb, SE.out.old (Kept.own _ (mB + 1) i (.bool false)) (only_le (Nat.le_refl _))⟩
                clear c0 c1 c2 c3 c4 f0 f1 f2 f3 f4
                cases bb with
                | false =>
                  have q6 : ¬ e.kind = 6 := by have := HBB.out; simpa using this
                  have hF : wa.fire e = wa := by unfold Sm.Wa.fire; rw [if_neg q6]
                  go_wp2
                  go_meet
                  rw [hF]
                  exact Lib.hid ⟨SX.out, SE.out⟩
                | true =>
                  have q6 : e.kind = 6 := by have := HBB.out; simpa using this
                  have hr : 1 ≤ e.what ∧ e.what ≤ 3 := by
                    have := HSK.out
                    unfold Sm.Wa.skip at this
                    simp [q6] at this
                    omega
                  have hF : wa.fire e = wa.timer e.what false := by unfold Sm.Wa.fire; rw [if_pos q6]
                  have HF := Lib.hid hF
                  clear hF
                  obtain hx | hx | hx : e.what = 1 ∨ e.what = 2 ∨ e.what = 3 := by omega
                  · rw [hx] at y1 HF
                    go_wp2
                    go_meet
                    rw [HF.out]
                    exact KF 6 _ (by simp [Sm.Wa.wc, Sm.Wa.timer])
                  · rw [hx] at y1 HF
                    go_wp2
                    go_meet
                    rw [HF.out]
                    exact KF 7 _ (by simp [Sm.Wa.wc, Sm.Wa.timer])
                  · rw [hx] at y1 HF
                    go_wp2
                    go_meet
                    rw [HF.out]
                    exact KF 8 _ (by simp [Sm.Wa.wc, Sm.Wa.timer])
              case rest =>
                clear SX SE c0 c1 c2 c3 c4 c6 c7 c8 f0 f1 f2 f3 f4 f6 f7 f8 y0 y1 HBB
                have SX := Lib.hid hcut.out.1
                have SE := Lib.hid hcut.out.2
                clear hcut
                have hru : e.kind = 6 → wa.runs e.what = true := fun q6 => by
                  have := HSK.out
                  unfold Sm.Wa.skip at this
                  simp [q6] at this
                  exact this.2
                obtain ⟨wf, hall, hIt⟩ := Sm.timers_step wa m e HI.out SX.out.q.ok hru
                have hok := Sm.ok_step m e SX.out.q.ok
                have HDo : Hid (∀ u, Kept Nothing W u → Calls Tryd.prog 9 #[.agg #[.int .i64 m.state, .int .i64 m.hold], .agg #[.int .i64 e.kind, .int .u8 e.what, .int .i64 e.hold, .int .u8 e.code, .int .u8 e.sub, .slice dA dn dc]] u fun e' w' => Res .u8 u w' e' (Sm.step m e) bs) :=
                  Lib.hid (fun u hu => se_do m.state m.hold m SX.out.q.ok (Nm.self m) e.kind e.hold e.what e.code e.sub dA dn dc bs u (HR.out.old hu) (HB.out.old hu) HBL.out)
                generalize Sm.step m e = r at *
                obtain ⟨m2, acts⟩ := r
                generalize wa.fire e = wq0 at *
                have HALL := Lib.hid (show Sm.Wa.tims { wq0 with line := true } acts = some wf from hall)
                have HIT := Lib.hid (show Sm.It wf m2 from hIt)
                have HOK := Lib.hid (show Sm.Ok m2 from hok)
                clear hall hIt hok HI HSK hru
                obtain ⟨m0, m1, -, -⟩ := SX.out.q.cells
                obtain ⟨y0, y1, y2, y3, y4, y5⟩ := SE.out.cells
                go_wp2_with fail
                refine (HDo.out _ SX.out.q.kk).mono ?_
                rintro e' w9 ⟨Az, cz, rfl, ha, hk⟩
                obtain ⟨n0, n1, n2, n3⟩ := (SX.out.old hk).q.cells
                have SX9 := Lib.hid (SX.out.put hk HOK.out)
                have kk := kept_two (v := w9) mB (.int .i64 (m2.state : Int)) (.int .i64 (m2.hold : Int))
                have HA9 := Lib.hid (ha.mach (SX.out.old hk).q.mm kk)
                clear ha hk kk m0 m1 y0 y1 y2 y3 y4 y5 HDo SX SE
                go_upto_region 12 with fail
                change Code.wp _ _ _ _ ((w9.setCell ⟨mB, 0, none⟩ (.int .i64 (m2.state : Int))).setCell ⟨mB, 1, none⟩ (.int .i64 (m2.hold : Int)))
                generalize (w9.setCell ⟨mB, 0, none⟩ (.int .i64 (m2.state : Int))).setCell ⟨mB, 1, none⟩ (.int .i64 (m2.hold : Int)) = w10 at *
                clear n0 n1 n2 n3
                obtain ⟨c0, -, -, -, -, -, -, -, -⟩ := wcells SX9.out.w
                obtain ⟨f0, -, -, -, -, -, -, -⟩ := wfrozen SX9.out.w
                go_upto_region 13 with fail
                have SX10 := Lib.hid (SX9.out.flag (wa2 := { wq0 with line := true }) 0 true (by simp [Sm.Wa.wc]))
                have HA10 := Lib.hid (HA9.out.watch SX9.out.w (Kept.own w10 (mB + 1) 0 (.bool true)))
                clear SX9 HA9 c0 f0
                generalize w10.setCell ⟨mB + 1, 0, none⟩ (.bool true) = w12 at *
                have hal : acts.length ≤ 9223372036854775807 := by
                  obtain ⟨_, _, e1, h1, h2⟩ := HA10.out.form
                  unfold maxLen at h2
                  omega
                go_wp2
                go_loopw [59] (fun j wx => ∃ q : Nat, j = .int .i64 (q : Int) ∧ q ≤ acts.length ∧ Hid (∃ wq, Sit W wx mB m2 wq wf acts (.slice Az acts.length cz) q bs)) (fun j _ => acts.length - (intOf j).toNat)
                case atStart => exact ⟨0, rfl, by omega, Lib.hid ⟨_, SX10.out, HA10.out, HALL.out⟩⟩
                case round =>
                  clear SX10 HA10 HALL
                  obtain ⟨q, rfl, hql, hS⟩ := hrel
                  by_cases hq : q < acts.length
                  · have hqi : (q : Int) < (acts.length : Int) := by omega
                    obtain ⟨wq, hN⟩ := hS.out
                    have hall := hN.all
                    rw [drop_consT hq] at hall
                    obtain ⟨b1, o1, rfl, hc⟩ := hN.aa.at (by omega)
                    obtain ⟨gA, gn, gc, -, a0, a1, a2, a3, a4, a5⟩ := hc q hq
                    have HX := Lib.hid hN.xx
                    have HAc := Lib.hid hN.aa
                    have HALL := Lib.hid hall
                    generalize ha_ : acts[q] = a at *
                    have k11 := (Kept.refl Nothing wr).alloc (.cells #[.int .i64 a.act, .int .u8 a.what, .int .i64 a.ticks, .int .u8 a.code, .int .u8 a.sub, .slice gA gn gc] 48)
                    have HX1 := Lib.hid (HX.out.old k11)
                    have HA1 := Lib.hid (HAc.out.old k11)
                    clear hc hN hS hall ha_ k11 HX HAc
                    by_cases h34 : a.act = 3 ∨ a.act = 4
                    · obtain ⟨w1', hdo, hal'⟩ := Sm.tims_timer HALL.out h34
                      have HDOE := Lib.hid hdo
                      have HALL' := Lib.hid hal'
                      clear HALL hdo hal'
                      rcases h34 with h3 | h4
                      · have h3i : ((a.act : Int) == 3) = true := by simp; omega
                        clear h3
                        go_wp2_with fail
                        refine (s_does (mB + 1) wq w1' a.act a.what a.ticks a.code a.sub a.d HDOE.out gA gn gc _ HX1.out.w).mono ?_
                        rintro e' w11 ⟨rfl, hB, hk⟩
                        have HN := Lib.hid (show Sit W w11 mB m2 w1' wf acts (.slice (some ⟨b1, o1, none⟩) acts.length cz) (q + 1) bs from ⟨HX1.out.watch hk hB, HA1.out.watch HX1.out.w hk, HALL'.out⟩)
                        clear hB hk HX1 HA1 HDOE HALL' a0 a1 a2 a3 a4 a5
                        go_wp2
                        go_roundw
                        case rel => exact ⟨q + 1, by go_num, by omega, Lib.hid ⟨w1', HN.out⟩⟩
                        case measure => simp [intOf]; omega
                      · have h3i : ((a.act : Int) == 3) = false := by simp; omega
                        have h4i : ((a.act : Int) == 4) = true := by simp; omega
                        clear h4
                        go_wp2_with fail
                        refine (s_does (mB + 1) wq w1' a.act a.what a.ticks a.code a.sub a.d HDOE.out gA gn gc _ HX1.out.w).mono ?_
                        rintro e' w11 ⟨rfl, hB, hk⟩
                        have HN := Lib.hid (show Sit W w11 mB m2 w1' wf acts (.slice (some ⟨b1, o1, none⟩) acts.length cz) (q + 1) bs from ⟨HX1.out.watch hk hB, HA1.out.watch HX1.out.w hk, HALL'.out⟩)
                        clear hB hk HX1 HA1 HDOE HALL' a0 a1 a2 a3 a4 a5
                        go_wp2
                        go_roundw
                        case rel => exact ⟨q + 1, by go_num, by omega, Lib.hid ⟨w1', HN.out⟩⟩
                        case measure => simp [intOf]; omega
                    · have hal' := Sm.tims_other HALL.out h34
                      have h3i : ((a.act : Int) == 3) = false := by simp; omega
                      have h4i : ((a.act : Int) == 4) = false := by simp; omega
                      have HN := Lib.hid (show Sit W (wr.alloc (.cells #[.int .i64 a.act, .int .u8 a.what, .int .i64 a.ticks, .int .u8 a.code, .int .u8 a.sub, .slice gA gn gc] 48)) mB m2 wq wf acts (.slice (some ⟨b1, o1, none⟩) acts.length cz) (q + 1) bs from ⟨HX1.out, HA1.out, hal'⟩)
                      clear h34 HALL hal' HX1 HA1
                      go_wp2
                      go_roundw
                      case rel => exact ⟨q + 1, by go_num, by omega, Lib.hid ⟨wq, HN.out⟩⟩
                      case measure => simp [intOf]; omega
                  · obtain rfl : q = acts.length := by omega
                    obtain ⟨wq, hN⟩ := hS.out
                    have hall := hN.all
                    rw [List.drop_length] at hall
                    obtain rfl : wq = wf := by unfold Sm.Wa.tims at hall; injection hall
                    have HX := Lib.hid hN.xx
                    clear hN hall hS
                    obtain ⟨-, -, -, -, -, c6, c7, c8, -⟩ := wcells HX.out.w
                    obtain ⟨m0, m1, -, -⟩ := HX.out.q.cells
                    have HN := Lib.hid (show ∃ m wa, Sx W wr mB m wa ∧ Sm.It wa m from ⟨m2, wq, HX.out, HIT.out⟩)
                    have hst : m2.state = 1 ∨ m2.state = 2 ∨ m2.state = 3 ∨ m2.state = 4 ∨ m2.state = 5 ∨ m2.state = 6 := by have h1 := HOK.out.1; have h2 := HOK.out.2.1; omega
                    have hh := HOK.out.2.2.2.1
                    obtain ⟨i1, i2, i3, i4, i5⟩ := HIT.out
                    clear HX
                    have hz : m2.hold = 0 ∨ 0 < m2.hold := by omega
                    rcases hst with hs | hs | hs | hs | hs | hs
                    · rw [hs] at m0 i1 i2 i3 i4 i5 hh
                      rw [hh (by decide)] at m1
                      simp at i1 i4
                      rw [i1.1] at c7
                      rw [i1.2] at c8
                      clear i1 i2 i3 i4 i5 hs hh hz c6
                      go_wp2
                      go_roundw
                      case rel => exact ⟨k + 1, by go_num, by omega, by omega, HN⟩
                      case measure => simp [intOf]; omega
                    · rw [hs] at m0 i1 i2 i3 i4 i5 hh
                      rw [hh (by decide)] at m1
                      simp at i1 i3
                      rw [i1.1] at c7
                      rw [i1.2] at c8
                      rw [i3] at c6
                      clear i1 i2 i3 i4 i5 hs hh hz
                      go_wp2
                      go_roundw
                      case rel => exact ⟨k + 1, by go_num, by omega, by omega, HN⟩
                      case measure => simp [intOf]; omega
                    · rw [hs] at m0 i1 i2 i3 i4 i5 hh
                      rw [hh (by decide)] at m1
                      simp at i1 i3
                      rw [i1.1] at c7
                      rw [i1.2] at c8
                      rw [i3] at c6
                      clear i1 i2 i3 i4 i5 hs hh hz
                      go_wp2
                      go_roundw
                      case rel => exact ⟨k + 1, by go_num, by omega, by omega, HN⟩
                      case measure => simp [intOf]; omega
                    · rw [hs] at m0 i1 i2 i3 i4 i5 hh
                      rw [hh (by decide)] at m1
                      simp at i2 i4 i5
                      rw [i2] at c6
                      rw [i5] at c7
                      rw [i4] at c8
                      clear i1 i2 i3 i4 i5 hs hh hz
                      go_wp2
                      go_roundw
                      case rel => exact ⟨k + 1, by go_num, by omega, by omega, HN⟩
                      case measure => simp [intOf]; omega
                    all_goals
                      rw [hs] at m0 i1 i2 i3 i4 i5 hh
                      rcases hz with hz | hz
                      · rw [hz] at m1 i4 i5
                        simp at i2 i4 i5
                        rw [i2] at c6
                        rw [i5] at c7
                        rw [i4] at c8
                        clear i1 i2 i3 i4 i5 hs hh hz
                        go_wp2
                        go_roundw
                        case rel => exact ⟨k + 1, by go_num, by omega, by omega, HN⟩
                        case measure => simp [intOf]; omega
                      · have hzi : (0 : Int) < (m2.hold : Int) := by omega
                        simp [hz] at i2 i4 i5
                        rw [i2] at c6
                        rw [i5] at c7
                        rw [i4] at c8
                        clear i1 i2 i3 i4 i5 hs hh hz
                        go_wp2
                        go_roundw
                        case rel => exact ⟨k + 1, by go_num, by omega, by omega, HN⟩
                        case measure => simp [intOf]; omega
    · obtain rfl : k = l.length := by omega
      obtain ⟨m, wa, hX, hI⟩ := hS.out
      have HK := Lib.hid hX.q.kk
      clear hX hI hS
      go_wp2_with (go_at_call 13; refine (HT.out _ (by exact HK.out)).mono ?_; rintro e' w8 ⟨rfl, hk8⟩)
      go_ret
      exact ⟨rfl, HK.out.trans hk8⟩
end Go.Proofs.YtlghmjipnkmeeaaDoor
