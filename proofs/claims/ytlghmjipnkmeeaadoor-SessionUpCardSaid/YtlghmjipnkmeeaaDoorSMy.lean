
/-
  The law SessionUp.
-/
import Derived.Test.YtlghmjipnkmeeaaDoorSMw
namespace Go.Proofs.YtlghmjipnkmeeaaDoor
open Go.RowKit

/-- How an event counts for the line alone. -/
def Sm.Wa.line1 (w : Sm.Wa) (kd : Int) (st : Nat) : Sm.Wa := { w with line := w.line || (decide (kd = 3) && (decide (st = 2) || decide (st = 3))) }
def Sm.Wa.heard1 (w : Sm.Wa) (x st : Nat) : Sm.Wa := { w with heard := w.heard || (decide (x = 1) && decide (st = 4)) }
def Sm.Wa.kept1 (w : Sm.Wa) (x st : Nat) : Sm.Wa := { w with kept := w.kept || (decide (x = 4) && decide (st = 5)) }
theorem Sm.comes_eq (w : Sm.Wa) (m : Sm.M) (e : Sm.Ev) : w.comes m e = if e.kind = 5 ∧ (w.line1 e.kind m.state).line = true then ((w.line1 e.kind m.state).heard1 e.what m.state).kept1 e.what m.state else w.line1 e.kind m.state := rfl
theorem Sm.all_cons {w w' : Sm.Wa} {a : Sm.Act} {l : List Sm.Act} (h : w.all (a :: l) = some w') : ∃ w1, w.does a = some w1 ∧ w1.all l = some w' := by
  unfold Sm.Wa.all at h
  cases hd : w.does a with
  | none => rw [hd] at h; cases h
  | some w1 => rw [hd] at h; exact ⟨w1, rfl, h⟩
theorem Sm.told_cons {e : Sm.Ev} {a : Sm.Act} {l : List Sm.Act} (h : Sm.told e (a :: l) = true) : Sm.told e l = true ∧ (a.act = 2 → (∃ b r, l = b :: r ∧ b.act = 5) ∧ ¬ (e.kind = 5 ∧ e.what = 3)) := by
  unfold Sm.told at h
  rw [Bool.and_eq_true] at h
  refine ⟨h.2, fun h2 => ?_⟩
  have h1 := h.1
  rw [if_pos h2, Bool.and_eq_true] at h1
  cases l with
  | nil => simp at h1
  | cons b r => exact ⟨⟨b, r, rfl, by simpa using h1.1⟩, fun hh => by have := h1.2; simp [hh.1, hh.2] at this⟩
/-- Within the walk over what is done. -/
structure Sin (W u : World) (mB eB : Nat) (m : Sm.M) (wa wf : Sm.Wa) (e : Sm.Ev) (dv : Value) (acts : List Sm.Act) (av : Value) (q : Nat) (bs : List UInt8) : Prop where
  xx : Sx W u mB m wa
  ee : Se u mB eB e dv
  aa : Acs .u8 u av acts bs
  all : wa.all (acts.drop q) = some wf
  told : Sm.told e (acts.drop q) = true
theorem drop_cons {α : Type} {l : List α} {q : Nat} (h : q < l.length) : l.drop q = l[q] :: l.drop (q + 1) := List.drop_eq_getElem_cons h
set_option maxRecDepth 100000 in
set_option maxHeartbeats 16000000 in
theorem up_law (v : Value) (l : List EvB) (W : World) (hR : RdS W) (hl : Evs W v l) :
    Calls Tryd.prog 4 #[v] W fun e w' => e = .returned (.bool true) ∧ Kept Nothing W w' := by
  obtain ⟨A, cc, rfl, hlm, hdb, hp⟩ := hl
  unfold maxLen at hlm
  have HR := Lib.hid hR
  have HP := Lib.hid hp
  have HD := Lib.hid hdb
  have HT := Lib.hid (fun u (k : Kept Nothing W u) => s_tells u (hR.old k))
  clear hR hp hdb
  go_enter Tryd.func4, Tryd.ntmps4
  go_wp2_with fail
  refine (se_new _).mono ?_
  rintro e w1 ⟨rfl, hk⟩
  have wb := (Blk.fresh (w1.alloc (.cells #[.int .i64 1, .int .i64 0] 24)) 46 (Sm.Wa.wc ⟨false, false, false, false, false, false, false, false⟩))
  rw [World.size_alloc] at wb
  have S0 : Hid (Sx W ((w1.alloc (.cells #[.int .i64 1, .int .i64 0] 24)).alloc (.cells (Sm.Wa.wc ⟨false, false, false, false, false, false, false, false⟩) 46)) w1.heap.size ⟨1, 0⟩ ⟨false, false, false, false, false, false, false, false⟩) :=
    Lib.hid ⟨⟨(hk.alloc _).alloc _, (Blk.fresh w1 24 #[.int .i64 1, .int .i64 0]).alloc _, hk.size, Sm.ok_new⟩, wb⟩
  clear wb hk
  go_wp2
  change Code.wp _ _ _ _ ((w1.alloc (.cells #[.int .i64 1, .int .i64 0] 24)).alloc (.cells (Sm.Wa.wc ⟨false, false, false, false, false, false, false, false⟩) 46))
  generalize (w1.alloc (.cells #[.int .i64 1, .int .i64 0] 24)).alloc (.cells (Sm.Wa.wc ⟨false, false, false, false, false, false, false, false⟩) 46) = w2 at *
  generalize w1.heap.size = mB at *
  have hI0 : Hid (Sm.Iu ⟨false, false, false, false, false, false, false, false⟩ ⟨1, 0⟩) := Lib.hid ⟨rfl, rfl, by decide, by decide, by decide⟩
  go_loopw [15] (fun i wr => ∃ k : Nat, i = .int .i64 (k : Int) ∧ k ≤ l.length ∧ k ≤ 80 ∧ Hid (∃ m wa, Sx W wr mB m wa ∧ Sm.Iu wa m)) (fun i _ => l.length - (intOf i).toNat)
  case atStart => exact ⟨0, rfl, by omega, by omega, Lib.hid ⟨_, _, S0.out, hI0.out⟩⟩
  case round =>
    clear S0 hI0
    obtain ⟨k, rfl, hkl, hk80, hS⟩ := hrel
    by_cases hlt : k < l.length
    · have hlt' : (k : Int) < (l.length : Int) := by omega
      obtain ⟨b0, o0, rfl, hcp⟩ := HP.out (by omega)
      obtain ⟨m, wa, hX, hI⟩ := hS.out
      obtain ⟨e, bs, dA, dn, dc, hbl, hby, e0, e1, e2, e3, e4, e5⟩ := Evs.at hcp hX.q.kk HD.out hlt
      have k0 := (Kept.refl Nothing wr).alloc (.cells #[.int .i64 e.kind, .int .u8 e.what, .int .i64 e.hold, .int .u8 e.code, .int .u8 e.sub, .slice dA dn dc] 31)
      have SX := Lib.hid (hX.old k0)
      have hsz : mB + 1 < wr.heap.size := hX.w.lt
      have SE : Hid (Se (wr.alloc (.cells #[.int .i64 e.kind, .int .u8 e.what, .int .i64 e.hold, .int .u8 e.code, .int .u8 e.sub, .slice dA dn dc] 31)) mB wr.heap.size e (.slice dA dn dc)) := Lib.hid ⟨hsz, Blk.fresh wr _ _⟩
      have HB := Lib.hid hby
      have HBL := Lib.hid hbl
      have HI := Lib.hid hI
      clear hcp hX hI hbl hby k0 hsz hS
      by_cases h80 : k = 80
      · subst h80
        go_wp2_with (go_at_call 13; refine (HT.out _ (by exact SX.out.q.kk)).mono ?_; rintro e' w8 ⟨rfl, hk8⟩)
        go_ret
        exact ⟨rfl, SX.out.q.kk.trans hk8⟩
      · have h80b : ((k : Int) == 80) = false := by simp; omega
        go_upto_region 7 with fail
        change Code.wp _ _ _ _ (wr.alloc (.cells #[.int .i64 e.kind, .int .u8 e.what, .int .i64 e.hold, .int .u8 e.code, .int .u8 e.sub, .slice dA dn dc] 31))
        generalize wr.alloc (.cells #[.int .i64 e.kind, .int .u8 e.what, .int .i64 e.hold, .int .u8 e.code, .int .u8 e.sub, .slice dA dn dc] 31) = w3 at *
        generalize wr.heap.size = eB at *
        clear e0 e1 e2 e3 e4 e5 h80b
        obtain ⟨m0, m1, -, -⟩ := SX.out.q.cells
        go_upto_region 8 with fail
        go_cut [8] (fun wv wx => wv = .bool (decide (m.state = 2) || decide (m.state = 3)) ∧ Hid (Sx W wx mB m wa ∧ Se wx mB eB e (.slice dA dn dc)))
        case first =>
          by_cases q2 : m.state = 2
          · have q2i : ((m.state : Int) == 2) = true := by simp; omega
            go_wp2
            go_meet
            exact ⟨by simp [q2], Lib.hid ⟨SX.out, SE.out⟩⟩
          · have q2i : ((m.state : Int) == 2) = false := by simp; omega
            by_cases q3 : m.state = 3
            · have q3i : ((m.state : Int) == 3) = true := by simp; omega
              go_wp2
              go_meet
              exact ⟨by simp [q3], Lib.hid ⟨SX.out, SE.out⟩⟩
            · have q3i : ((m.state : Int) == 3) = false := by simp; omega
              go_wp2
              go_meet
              exact ⟨by simp [q2, q3], Lib.hid ⟨SX.out, SE.out⟩⟩
        case rest =>
          obtain ⟨rfl, hZ⟩ := hcut
          clear SX SE m0 m1
          have SX := Lib.hid hZ.out.1
          have SE := Lib.hid hZ.out.2
          clear hZ
          obtain ⟨c0, c1, c2, c3, c4, c5, c6, c7, -⟩ := wcells SX.out.w
          obtain ⟨f0, f1, f2, f3, f4, f5, f6, f7⟩ := wfrozen SX.out.w
          obtain ⟨y0, y1, -, -, -, -⟩ := SE.out.cells
          generalize hwt : (decide (m.state = 2) || decide (m.state = 3)) = wt at *
          have HWT := Lib.hid hwt
          clear hwt
          go_upto_region 9 with fail
          go_cut [] (fun wx => Hid (Sx W wx mB m (wa.line1 e.kind m.state) ∧ Se wx mB eB e (.slice dA dn dc)))
          case first =>
            have KF : ∀ (b : Bool) (wa2 : Sm.Wa), wa.wc.setIfInBounds 0 (.bool b) = wa2.wc → Hid (Sx W (wc.setCell ⟨mB + 1, 0, none⟩ (.bool b)) mB m wa2 ∧ Se (wc.setCell ⟨mB + 1, 0, none⟩ (.bool b)) mB eB e (.slice dA dn dc)) :=
              fun b wa2 hb => Lib.hid ⟨SX.out.flag 0 b hb, SE.out.old (Kept.own wc (mB + 1) 0 (.bool b)) (only_le (Nat.le_refl _))⟩
            clear c1 c2 c3 c4 c5 c6 c7 f1 f2 f3 f4 f5 f6 f7 y1
            by_cases ql : wa.line = true
            · rw [ql] at c0
              go_wp2
              go_meet
              exact KF true _ (by simp [Sm.Wa.wc, Sm.Wa.line1, ql])
            · have ql' : wa.line = false := by simpa using ql
              rw [ql'] at c0
              by_cases q3 : e.kind = 3
              · have q3i : (e.kind == 3) = true := by simpa using q3
                cases wt with
                | true =>
                  go_wp2
                  go_meet
                  exact KF true _ (by simp [Sm.Wa.wc, Sm.Wa.line1, ql', q3, HWT.out])
                | false =>
                  go_wp2
                  go_meet
                  exact KF false _ (by simp [Sm.Wa.wc, Sm.Wa.line1, ql', q3, HWT.out])
              · have q3i : (e.kind == 3) = false := by simpa using q3
                go_wp2
                go_meet
                exact KF false _ (by simp [Sm.Wa.wc, Sm.Wa.line1, ql', q3])
          case rest =>
            clear SX SE c0 c1 c2 c3 c4 c5 c6 c7 f0 f1 f2 f3 f4 f5 f6 f7 y0 y1 HWT
            have SX := Lib.hid hcut.out.1
            have SE := Lib.hid hcut.out.2
            clear hcut
            obtain ⟨c0, c1, c2, c3, c4, c5, c6, c7, -⟩ := wcells SX.out.w
            obtain ⟨f0, f1, f2, f3, f4, f5, f6, f7⟩ := wfrozen SX.out.w
            obtain ⟨y0, y1, -, -, -, -⟩ := SE.out.cells
            have HC := Lib.hid (Sm.comes_eq wa m e)
            generalize wa.line1 e.kind m.state = wb at *
            go_upto_region 10 with fail
            go_cut [47] (fun b wx => b = .bool (decide (e.kind = 5) && wb.line) ∧ Hid (Sx W wx mB m wb ∧ Se wx mB eB e (.slice dA dn dc)))
            case first =>
              by_cases q5 : e.kind = 5
              · have q5i : (e.kind == 5) = true := by simpa using q5
                go_wp2
                go_meet
                exact ⟨by simp [q5], Lib.hid ⟨SX.out, SE.out⟩⟩
              · have q5i : (e.kind == 5) = false := by simpa using q5
                go_wp2
                go_meet
                exact ⟨by simp [q5], Lib.hid ⟨SX.out, SE.out⟩⟩
            case rest =>
              obtain ⟨rfl, hcut⟩ := hcut
              clear SX SE c0 c1 c2 c3 c4 c5 c6 c7 f0 f1 f2 f3 f4 f5 f6 f7 y0 y1
              have SX := Lib.hid hcut.out.1
              have SE := Lib.hid hcut.out.2
              clear hcut
              obtain ⟨c0, c1, c2, c3, c4, c5, c6, c7, -⟩ := wcells SX.out.w
              obtain ⟨f0, f1, f2, f3, f4, f5, f6, f7⟩ := wfrozen SX.out.w
              obtain ⟨y0, y1, -, -, -, -⟩ := SE.out.cells
              generalize hbb : (decide (e.kind = 5) && wb.line) = bb at *
              have HBB := Lib.hid hbb
              clear hbb
              go_upto_if 47 with fail
              go_cut [] (fun wx => Hid (Sx W wx mB m (wa.comes m e) ∧ Se wx mB eB e (.slice dA dn dc)))
              case first =>
                cases bb with
                | false =>
                  go_wp2
                  go_meet
                  rw [HC.out, if_neg (by have := HBB.out; simp at this; exact fun h => by simp [h.1, h.2] at this)]
                  exact Lib.hid ⟨SX.out, SE.out⟩
                | true =>
                  have HC2 : Hid (wa.comes m e = (wb.heard1 e.what m.state).kept1 e.what m.state) := Lib.hid (by rw [HC.out, if_pos (by have := HBB.out; simpa using this)])
                  clear HC HBB
                  go_upto_region 11 with fail
                  go_cut [] (fun wx => Hid (Sx W wx mB m (wb.heard1 e.what m.state) ∧ Se wx mB eB e (.slice dA dn dc)))
                  case first =>
                    have KF : ∀ (b : Bool) (wa2 : Sm.Wa), (wb).wc.setIfInBounds 2 (.bool b) = wa2.wc → Hid (Sx W (World.setCell _ ⟨mB + 1, 2, none⟩ (.bool b)) mB m wa2 ∧ Se (World.setCell _ ⟨mB + 1, 2, none⟩ (.bool b)) mB eB e (.slice dA dn dc)) :=
                      fun b wa2 hb => Lib.hid ⟨SX.out.flag 2 b hb, SE.out.old (Kept.own _ (mB + 1) 2 (.bool b)) (only_le (Nat.le_refl _))⟩
                    by_cases qh : (wb).heard = true
                    · rw [qh] at c2
                      go_wp2
                      go_meet
                      exact KF true _ (by simp [Sm.Wa.wc, Sm.Wa.heard1] at qh ⊢; simp [qh])
                    · have qh' : (wb).heard = false := by simpa using qh
                      rw [qh'] at c2
                      by_cases qx : e.what = 1
                      · have qxi : ((e.what : Int) == 1) = true := by simp; omega
                        by_cases qs : m.state = 4
                        · have qsi : ((m.state : Int) == 4) = true := by simp; omega
                          go_wp2
                          go_meet
                          exact KF true _ (by simp [Sm.Wa.wc, Sm.Wa.heard1, qx, qs])
                        · have qsi : ((m.state : Int) == 4) = false := by simp; omega
                          go_wp2
                          go_meet
                          exact KF false _ (by simp [Sm.Wa.wc, Sm.Wa.heard1, qs] at qh' ⊢; simp [qh'])
                      · have qxi : ((e.what : Int) == 1) = false := by simp; omega
                        go_wp2
                        go_meet
                        exact KF false _ (by simp [Sm.Wa.wc, Sm.Wa.heard1, qx] at qh' ⊢; simp [qh'])
                  case rest =>
                    clear SX SE c0 c1 c2 c3 c4 c5 c6 c7 f0 f1 f2 f3 f4 f5 f6 f7 y0 y1
                    have SX := Lib.hid hcut.out.1
                    have SE := Lib.hid hcut.out.2
                    clear hcut
                    obtain ⟨c0, c1, c2, c3, c4, c5, c6, c7, -⟩ := wcells SX.out.w
                    obtain ⟨f0, f1, f2, f3, f4, f5, f6, f7⟩ := wfrozen SX.out.w
                    obtain ⟨y0, y1, -, -, -, -⟩ := SE.out.cells
                    generalize wb.heard1 e.what m.state = wh at *
                    go_upto_region 12 with fail
                    have KF : ∀ (b : Bool) (wa2 : Sm.Wa), wh.wc.setIfInBounds 3 (.bool b) = wa2.wc → Hid (Sx W (World.setCell _ ⟨mB + 1, 3, none⟩ (.bool b)) mB m wa2 ∧ Se (World.setCell _ ⟨mB + 1, 3, none⟩ (.bool b)) mB eB e (.slice dA dn dc)) :=
                      fun b wa2 hb => Lib.hid ⟨SX.out.flag 3 b hb, SE.out.old (Kept.own _ (mB + 1) 3 (.bool b)) (only_le (Nat.le_refl _))⟩
                    by_cases qh : wh.kept = true
                    · rw [qh] at c3
                      go_wp2
                      go_meet
                      rw [HC2.out]
                      exact KF true _ (by simp [Sm.Wa.wc, Sm.Wa.kept1, qh])
                    · have qh' : wh.kept = false := by simpa using qh
                      rw [qh'] at c3
                      by_cases qx : e.what = 4
                      · have qxi : ((e.what : Int) == 4) = true := by simp; omega
                        by_cases qs : m.state = 5
                        · have qsi : ((m.state : Int) == 5) = true := by simp; omega
                          go_wp2
                          go_meet
                          rw [HC2.out]
                          exact KF true _ (by simp [Sm.Wa.wc, Sm.Wa.kept1, qx, qs])
                        · have qsi : ((m.state : Int) == 5) = false := by simp; omega
                          go_wp2
                          go_meet
                          rw [HC2.out]
                          exact KF false _ (by simp [Sm.Wa.wc, Sm.Wa.kept1, qs, qh'])
                      · have qxi : ((e.what : Int) == 4) = false := by simp; omega
                        go_wp2
                        go_meet
                        rw [HC2.out]
                        exact KF false _ (by simp [Sm.Wa.wc, Sm.Wa.kept1, qx, qh'])
              case rest =>
                clear SX SE c0 c1 c2 c3 c4 c5 c6 c7 f0 f1 f2 f3 f4 f5 f6 f7 y0 y1 HC HBB
                have SX := Lib.hid hcut.out.1
                have SE := Lib.hid hcut.out.2
                clear hcut
                obtain ⟨wf, hall, hIu, htold⟩ := Sm.up_step wa m e HI.out SX.out.q.ok
                have hok := Sm.ok_step m e SX.out.q.ok
                have HDo : Hid (∀ u, Kept Nothing W u → Calls Tryd.prog 9 #[.agg #[.int .i64 m.state, .int .i64 m.hold], .agg #[.int .i64 e.kind, .int .u8 e.what, .int .i64 e.hold, .int .u8 e.code, .int .u8 e.sub, .slice dA dn dc]] u fun e' w' => Res .u8 u w' e' (Sm.step m e) bs) :=
                  Lib.hid (fun u hu => se_do m.state m.hold m SX.out.q.ok (Nm.self m) e.kind e.hold e.what e.code e.sub dA dn dc bs u (HR.out.old hu) (HB.out.old hu) HBL.out)
                generalize Sm.step m e = r at *
                obtain ⟨m2, acts⟩ := r
                generalize wa.comes m e = wq0 at *
                have HALL := Lib.hid (show wq0.all acts = some wf from hall)
                have HTOLD := Lib.hid (show Sm.told e acts = true from htold)
                have HIU := Lib.hid (show Sm.Iu wf m2 from hIu)
                have HOK := Lib.hid (show Sm.Ok m2 from hok)
                clear hall htold hIu hok HI
                obtain ⟨m0, m1, -, -⟩ := SX.out.q.cells
                obtain ⟨y0, y1, y2, y3, y4, y5⟩ := SE.out.cells
                go_wp2_with fail
                refine (HDo.out _ SX.out.q.kk).mono ?_
                rintro e' w9 ⟨Az, cz, rfl, ha, hk⟩
                obtain ⟨n0, n1, n2, n3⟩ := (SX.out.old hk).q.cells
                have SX9 := Lib.hid (SX.out.put hk HOK.out)
                have kk := kept_two (v := w9) mB (.int .i64 (m2.state : Int)) (.int .i64 (m2.hold : Int))
                have SE9 := Lib.hid ((SE.out.old hk nothing_le).old kk (only_le (Nat.le_succ mB)))
                have HA9 := Lib.hid (ha.mach (SX.out.old hk).q.mm kk)
                clear ha hk kk m0 m1 y0 y1 y2 y3 y4 y5 HDo SX SE
                go_upto_region 15 with fail
                change Code.wp _ _ _ _ ((w9.setCell ⟨mB, 0, none⟩ (.int .i64 (m2.state : Int))).setCell ⟨mB, 1, none⟩ (.int .i64 (m2.hold : Int)))
                generalize (w9.setCell ⟨mB, 0, none⟩ (.int .i64 (m2.state : Int))).setCell ⟨mB, 1, none⟩ (.int .i64 (m2.hold : Int)) = w10 at *
                clear n0 n1 n2 n3
                have hal : acts.length ≤ 9223372036854775807 := by
                  obtain ⟨_, _, e1, h1, h2⟩ := HA9.out.form
                  unfold maxLen at h2
                  omega
                go_wp2
                go_loopw [80] (fun j wx => ∃ q : Nat, j = .int .i64 (q : Int) ∧ q ≤ acts.length ∧ Hid (∃ wq, Sin W wx mB eB m2 wq wf e (.slice dA dn dc) acts (.slice Az acts.length cz) q bs)) (fun j _ => acts.length - (intOf j).toNat)
                case atStart => exact ⟨0, rfl, by omega, Lib.hid ⟨wq0, SX9.out, SE9.out, HA9.out, HALL.out, HTOLD.out⟩⟩
                case round =>
                  clear SX9 SE9 HA9 HALL HTOLD
                  obtain ⟨q, rfl, hql, hS⟩ := hrel
                  by_cases hq : q < acts.length
                  · have hqi : (q : Int) < (acts.length : Int) := by omega
                    obtain ⟨wq, hN⟩ := hS.out
                    have hall := hN.all
                    have htold := hN.told
                    rw [drop_cons hq] at hall htold
                    obtain ⟨w1', hdo, hall⟩ := Sm.all_cons hall
                    obtain ⟨htold, ht2⟩ := Sm.told_cons htold
                    obtain ⟨b1, o1, rfl, hc⟩ := hN.aa.at (by omega)
                    obtain ⟨gA, gn, gc, -, a0, a1, a2, a3, a4, a5⟩ := hc q hq
                    have HX := Lib.hid hN.xx
                    have HE := Lib.hid hN.ee
                    have HAc := Lib.hid hN.aa
                    have HDOE := Lib.hid hdo
                    have HALL := Lib.hid hall
                    have HTOLD := Lib.hid htold
                    have HT2 := Lib.hid ht2
                    generalize ha_ : acts[q] = a at *
                    have k11 := (Kept.refl Nothing wr).alloc (.cells #[.int .i64 a.act, .int .u8 a.what, .int .i64 a.ticks, .int .u8 a.code, .int .u8 a.sub, .slice gA gn gc] 48)
                    have HX1 := Lib.hid (HX.out.old k11)
                    have HE1 := Lib.hid (HE.out.old k11 nothing_le)
                    have HA1 := Lib.hid (HAc.out.old k11)
                    have HB1 := Lib.hid (Blk.fresh wr 48 #[.int .i64 a.act, .int .u8 a.what, .int .i64 a.ticks, .int .u8 a.code, .int .u8 a.sub, .slice gA gn gc])
                    have hsz : mB + 1 < wr.heap.size := HX.out.w.lt
                    have HSZ := Lib.hid hsz
                    clear hc hN hS hdo hall htold ht2 ha_ k11 hsz HX HE HAc
                    go_wp2_with fail
                    refine (s_does (mB + 1) wq w1' a.act a.what a.ticks a.code a.sub a.d HDOE.out gA gn gc _ HX1.out.w).mono ?_
                    rintro e' w11 ⟨rfl, hB, hk⟩
                    have HX2 := Lib.hid (HX1.out.watch hk hB)
                    have HE2 := Lib.hid (HE1.out.old hk (only_le (Nat.le_refl _)))
                    have HA2 := Lib.hid (HA1.out.watch HX1.out.w hk)
                    have z0 : w11.cell? ⟨wr.heap.size, 0, none⟩ = some (.int .i64 a.act) := (HB1.out.kept hk (fun (e : wr.heap.size = mB + 1) => by have := HSZ.out; omega)).cell 0
                    obtain ⟨y0, y1, -, -, -, -⟩ := HE2.out.cells
                    have HN := Lib.hid (show Sin W w11 mB eB m2 w1' wf e (.slice dA dn dc) acts (.slice (some ⟨b1, o1, none⟩) acts.length cz) (q + 1) bs from ⟨HX2.out, HE2.out, HA2.out, HALL.out, HTOLD.out⟩)
                    clear hB hk HX1 HE1 HA1 HB1 HDOE HALL HTOLD HX2 HE2 a0 a1 a2 a3 a4 a5
                    by_cases hact : a.act = 2
                    · have hai : ((a.act : Int) == 2) = true := by simp; omega
                      obtain ⟨⟨b, r, hbr, hb5⟩, hn53⟩ := HT2.out hact
                      have hlen1 : q + 1 < acts.length := by
                        have := congrArg List.length hbr
                        rw [List.length_drop, List.length_cons] at this
                        omega
                      have hb : acts[q + 1]'hlen1 = b := by
                        rw [drop_cons hlen1] at hbr
                        exact (List.cons.inj hbr).1
                      obtain ⟨b2, o2, e2, hc⟩ := HA2.out.at (by omega)
                      injection e2 with e2
                      injection e2 with e2 e3 _
                      subst e2 e3
                      obtain ⟨_, _, _, -, g0, -⟩ := hc (q + 1) hlen1
                      rw [hb, hb5] at g0
                      have hw : wrap64 ((q : Int) + 1) = (q : Int) + 1 := by unfold wrap64; omega
                      have hlt1 : (q : Int) + 1 < (acts.length : Int) := by omega
                      have htn : ((q : Int) + 1).toNat = q + 1 := by omega
                      have hq0 : 0 ≤ (q : Int) + 1 := by omega
                      clear HT2 hbr hb5 hb hc HA2 hact
                      by_cases hk5 : e.kind = 5
                      · have hk5i : (e.kind == 5) = true := by simpa using hk5
                        have hw3 : ((e.what : Int) == 3) = false := by
                          have : ¬ e.what = 3 := fun h => hn53 ⟨hk5, h⟩
                          simp
                          omega
                        clear hn53 hk5
                        go_wp2
                        go_roundw
                        case rel => exact ⟨q + 1, by go_num, by omega, Lib.hid ⟨w1', HN.out⟩⟩
                        case measure => simp [intOf]; omega
                      · have hk5i : (e.kind == 5) = false := by simpa using hk5
                        clear hn53 hk5
                        go_wp2
                        go_roundw
                        case rel => exact ⟨q + 1, by go_num, by omega, Lib.hid ⟨w1', HN.out⟩⟩
                        case measure => simp [intOf]; omega
                    · have hai : ((a.act : Int) == 2) = false := by simp; omega
                      clear HT2 HA2 hact
                      go_wp2
                      go_roundw
                      case rel => exact ⟨q + 1, by go_num, by omega, Lib.hid ⟨w1', HN.out⟩⟩
                      case measure => simp [intOf]; omega
                  · obtain rfl : q = acts.length := by omega
                    obtain ⟨wq, hN⟩ := hS.out
                    have hall := hN.all
                    rw [List.drop_length] at hall
                    obtain rfl : wq = wf := by unfold Sm.Wa.all at hall; injection hall
                    have HX := Lib.hid hN.xx
                    clear hN hall hS
                    obtain ⟨c0, -, -, -, c4, -, -, -, -⟩ := wcells HX.out.w
                    obtain ⟨m0, m1, -, -⟩ := HX.out.q.cells
                    rw [HIU.out.2.1] at c0
                    rw [HIU.out.1] at c4
                    have hst : m2.state = 1 ∨ m2.state = 2 ∨ m2.state = 3 ∨ m2.state = 4 ∨ m2.state = 5 ∨ m2.state = 6 := by have h1 := HOK.out.1; have h2 := HOK.out.2.1; omega
                    have HN := Lib.hid (show ∃ m wa, Sx W wr mB m wa ∧ Sm.Iu wa m from ⟨m2, wq, HX.out, HIU.out⟩)
                    clear HX
                    rcases hst with hs | hs | hs | hs | hs | hs
                    all_goals
                      rw [hs] at c0 c4 m0
                      simp at c0 c4
                      clear hs
                      go_wp2
                      go_roundw
                      case rel => exact ⟨k + 1, by go_num, by omega, by omega, HN⟩
                      case measure => simp [intOf]; omega
    · obtain rfl : k = l.length := by omega
      obtain ⟨m, wa, hX, hI⟩ := hS.out
      have HK := Lib.hid hX.q.kk
      clear hX hI hS
      go_wp2_with (go_at_call 13; refine (HT.out _ (by exact HK.out)).mono ?_; rintro e' w8 ⟨rfl, hk8⟩)
      go_ret
      exact ⟨rfl, HK.out.trans hk8⟩
end Go.Proofs.YtlghmjipnkmeeaaDoor
