
/-
  The law SessionEnds: end 3 (printed by wip/gen_sna.py).
-/
import Derived.Test.YtlghmjipnkmeeaaDoorSNb
namespace Go.Proofs.YtlghmjipnkmeeaaDoor
open Go.RowKit

def klE3 (_nB _wB eB oB c s : Nat) (up : Bool) : List (Option Value) := [some (.agg #[.int .i64 1, .int .i64 0]), some (.agg #[.int .i64 1, .int .i64 0]), some (.bool true), some (.bool true), some (.agg #[.int .u8 c, .int .u8 s]), some (.agg #[.int .u8 c, .int .u8 s]), some (.bool true), some (.bool true), some (.bool true), some (.bool up), some (.bool up), some (.bool true), some (.bool true), some (.bool true), some (.bool true), some (.bool true), some (.bool true), some (.bool true), some (.pointer (some ⟨eB, 0, none⟩)), some (.int .i64 8), some (.bool true), some (.bool true), some (.bool true), some (.bool true), some (.pointer (some ⟨oB, 0, none⟩)), some (.int .i64 2), some (.bool true), some (.bool true), some (.bool true), some (.bool true), some (.bool true), some (.bool true)]
set_option maxRecDepth 100000 in
set_option maxHeartbeats 16000000 in
theorem ends_law3 (v : Value) (l : List EvB) (x c s : Nat) (h5 : x % 5 = 3) (W : World) (hR : RdS W) (hl : Evs W v l) :
    Calls Tryd.prog 6 #[v, .int .u8 x, .agg #[.int .u8 c, .int .u8 s]] W fun e w' => e = .returned (.bool true) ∧ Kept Nothing W w' := by
  obtain ⟨A, cc, rfl, hlm, hdb, hp⟩ := hl
  unfold maxLen at hlm
  have HR := Lib.hid hR
  have HP := Lib.hid hp
  have HD := Lib.hid hdb
  have HT := Lib.hid (fun u (k : Kept Nothing W u) => s_tells u (hR.old k))
  have hk0 := (Kept.refl Nothing W).alloc (.cells #[.int .u8 c, .int .u8 s] 28)
  have hf0 := Blk.fresh W 28 #[.int .u8 c, .int .u8 s]
  have HX5 := Lib.hid h5
  clear hR hp hdb
  go_enter Tryd.func6, Tryd.ntmps6
  go_wp2_with fail
  refine (se_new _).mono ?_
  rintro e w1 ⟨rfl, hk⟩
  have hsz : W.heap.size < w1.heap.size := by
    have := hk.size
    rw [World.size_alloc] at this
    omega
  have S0 : Hid (Fx W (w1.alloc (.cells #[.int .i64 1, .int .i64 0] 24)) W.heap.size w1.heap.size ⟨1, 0⟩ c s) :=
    Lib.hid ⟨⟨(hk0.trans hk).alloc _, Blk.fresh w1 24 #[.int .i64 1, .int .i64 0], Nat.le_of_lt hsz, Sm.ok_new⟩, (hf0.kept hk (fun x => x)).alloc _, hsz⟩
  clear hk hk0 hf0 hsz h5
  go_upto_block 0 with fail
  change Code.wp _ _ _ _ (w1.alloc (.cells #[.int .i64 1, .int .i64 0] 24))
  generalize w1.alloc (.cells #[.int .i64 1, .int .i64 0] 24) = w2 at *
  generalize w1.heap.size = mB at *
  generalize W.heap.size = fB at S0 ⊢
  go_cut [] (fun wx => Hid (∃ m, Fx W wx fB mB m c s))
  case first =>
    go_wp2
    go_loopw [26] (fun i wr => ∃ k : Nat, i = .int .i64 (k : Int) ∧ k ≤ l.length ∧ k ≤ 80 ∧ Hid (∃ m, Fx W wr fB mB m c s)) (fun i _ => l.length - (intOf i).toNat)
    case atStart => exact ⟨0, rfl, by omega, by omega, Lib.hid ⟨_, S0.out⟩⟩
    case round =>
      clear S0
      obtain ⟨k, rfl, hkl, hk80, hS⟩ := hrel
      by_cases hlt : k < l.length
      · have hlt' : (k : Int) < (l.length : Int) := by omega
        obtain ⟨b0, o0, rfl, hcp⟩ := HP.out (by omega)
        obtain ⟨m, hX⟩ := hS.out
        obtain ⟨e, bs, dA, dn, dc, hbl, hby, e0, e1, e2, e3, e4, e5⟩ := Evs.at hcp hX.q.kk HD.out hlt
        have k0 := (Kept.refl Nothing wr).alloc (.cells #[.int .i64 e.kind, .int .u8 e.what, .int .i64 e.hold, .int .u8 e.code, .int .u8 e.sub, .slice dA dn dc] 31)
        have SX := Lib.hid (hX.old k0)
        have SE := Lib.hid (Blk.fresh wr 31 #[.int .i64 e.kind, .int .u8 e.what, .int .i64 e.hold, .int .u8 e.code, .int .u8 e.sub, .slice dA dn dc])
        have HB := Lib.hid hby
        have HBL := Lib.hid hbl
        clear hcp hX hbl hby k0 hS
        by_cases h80 : k = 80
        · subst h80
          go_wp2
          go_meet
          exact Lib.hid ⟨_, SX.out⟩
        · have h80b : ((k : Int) == 80) = false := by simp; omega
          go_upto_region 6 with fail
          change Code.wp _ _ _ _ (wr.alloc (.cells #[.int .i64 e.kind, .int .u8 e.what, .int .i64 e.hold, .int .u8 e.code, .int .u8 e.sub, .slice dA dn dc] 31))
          generalize wr.alloc (.cells #[.int .i64 e.kind, .int .u8 e.what, .int .i64 e.hold, .int .u8 e.code, .int .u8 e.sub, .slice dA dn dc] 31) = w3 at *
          generalize wr.heap.size = eB at *
          clear e0 e1 e2 e3 e4 e5 h80b
          have hok := Sm.ok_step m e SX.out.q.ok
          have HDo : Hid (∀ u, Kept Nothing W u → Calls Tryd.prog 9 #[.agg #[.int .i64 m.state, .int .i64 m.hold], .agg #[.int .i64 e.kind, .int .u8 e.what, .int .i64 e.hold, .int .u8 e.code, .int .u8 e.sub, .slice dA dn dc]] u fun e' w' => Res .u8 u w' e' (Sm.step m e) bs) :=
            Lib.hid (fun u hu => se_do m.state m.hold m SX.out.q.ok (Nm.self m) e.kind e.hold e.what e.code e.sub dA dn dc bs u (HR.out.old hu) (HB.out.old hu) HBL.out)
          generalize Sm.step m e = r at *
          obtain ⟨m2, acts⟩ := r
          have HOK := Lib.hid (show Sm.Ok m2 from hok)
          clear hok
          obtain ⟨m0, m1, -, -⟩ := SX.out.q.cells
          have y0 : w3.cell? ⟨eB, 0, none⟩ = some (.int .i64 e.kind) := SE.out.cell 0
          have y1 : w3.cell? ⟨eB, 1, none⟩ = some (.int .u8 e.what) := SE.out.cell 1
          have y2 : w3.cell? ⟨eB, 2, none⟩ = some (.int .i64 e.hold) := SE.out.cell 2
          have y3 : w3.cell? ⟨eB, 3, none⟩ = some (.int .u8 e.code) := SE.out.cell 3
          have y4 : w3.cell? ⟨eB, 4, none⟩ = some (.int .u8 e.sub) := SE.out.cell 4
          have y5 : w3.cell? ⟨eB, 5, none⟩ = some (.slice dA dn dc) := SE.out.cell 5
          go_wp2_with fail
          refine (HDo.out _ SX.out.q.kk).mono ?_
          rintro e' w9 ⟨Az, cz, rfl, ha, hk⟩
          obtain ⟨n0, n1, n2, n3⟩ := (SX.out.old hk).q.cells
          have SX9 := Lib.hid (SX.out.put hk HOK.out)
          clear ha hk m0 m1 y0 y1 y2 y3 y4 y5 HDo SX SE
          go_wp2
          go_roundw
          case rel => exact ⟨k + 1, by go_num, by omega, by omega, Lib.hid ⟨m2, SX9.out⟩⟩
          case measure => simp [intOf]; omega
      · obtain rfl : k = l.length := by omega
        obtain ⟨m, hX⟩ := hS.out
        have SX := Lib.hid hX
        clear hX hS
        go_wp2
        go_meet
        exact Lib.hid ⟨_, SX.out⟩
  case rest =>
    clear S0 HP HD hlm
    obtain ⟨m, hm⟩ := hcut.out
    have SX := Lib.hid hm
    clear hm hcut
    obtain ⟨m0, m1, -, -⟩ := SX.out.q.cells
    go_upto_if 42 with fail
    go_cut [] (fun wx => Hid (∃ m, 4 ≤ m.state ∧ Fx W wx fB mB m c s))
    case first =>
      by_cases h4 : m.state < 4
      · have h4i : ((m.state : Nat) : Int) < 4 := by omega
        go_wp2_with fail
        refine (se_do0 ⟨3, 0⟩ (by unfold Sm.Ok; decide) 3 0 0 0 0 (⟨4, 0⟩, [Sm.unset 1, Sm.send 1, Sm.set 2 240]) (by rfl) _ (HR.out.old SX.out.q.kk)).mono ?_
        rintro e' w9 ⟨Az, cz, rfl, ha, hk⟩
        obtain ⟨n0, n1, n2, n3⟩ := (SX.out.old hk).q.cells
        have SX9 := Lib.hid (SX.out.put (m2 := ⟨4, 0⟩) hk (by unfold Sm.Ok; decide))
        clear ha hk m0 m1 SX
        go_wp2
        go_meet
        exact Lib.hid ⟨_, (by decide), SX9.out⟩
      · have h4i : 4 ≤ ((m.state : Nat) : Int) := by omega
        go_wp2
        go_meet
        exact Lib.hid ⟨_, (by omega), SX.out⟩
    case rest =>
      clear SX m0 m1
      obtain ⟨m, h4, hm⟩ := hcut.out
      have SX := Lib.hid hm
      have HE := Lib.hid (fun c s => Sm.ends_at m h4 c s)
      clear hm hcut h4
      obtain ⟨m0, m1, -, -⟩ := SX.out.q.cells
      have f0 : wc.cell? ⟨fB, 0, none⟩ = some (.int .u8 c) := SX.out.f.cell 0
      have f1 : wc.cell? ⟨fB, 1, none⟩ = some (.int .u8 s) := SX.out.f.cell 1
      have hup : ((m.state : Int) == 6) = decide (m.state = 6) := by
        by_cases h6 : m.state = 6
        · simp [h6]
        · rw [decide_eq_false h6]
          simp
          omega
      generalize hupd : decide (m.state = 6) = up at *
      have HUP := Lib.hid (hupd)
      go_upto_region 11 with fail
      clear hup
      · have hm : (x : Int).tmod 5 = 3 := tmod5 x 3 HX5.out
        clear HX5
        have HM := Lib.hid hm
        obtain ⟨acts, hEn, hSee⟩ := Sm.ends_form m.state false c s true
        have HDo := Lib.hid (show Sm.step m ⟨8, 0, 0, c, s⟩ = (⟨1, 0⟩, acts) from (HE.out c s).2.2.2.1.trans hEn)
        rw [HUP.out] at hSee
        have HSee := Lib.hid hSee
        clear hEn hSee HE HUP
        have k1 := (Kept.refl Nothing wc).alloc (.cells #[.int .i64 8, .int .u8 0, .int .i64 0, .int .u8 c, .int .u8 s, .slice none 0 0] 31)
        have S1 := Lib.hid (SX.out.old k1)
        have E1 := Lib.hid (Blk.fresh wc 31 #[.int .i64 8, .int .u8 0, .int .i64 0, .int .u8 c, .int .u8 s, .slice none 0 0])
        have hix : (Instr.index 50 (.agg #[.int .i64 2, .int .u8 0, .int .i64 0, .int .u8 0, .int .u8 0, .slice none 0 0, .int .i64 6, .int .u8 2, .int .i64 0, .int .u8 0, .int .u8 0, .slice none 0 0, .int .i64 7, .int .u8 0, .int .i64 0, .int .u8 c, .int .u8 s, .slice none 0 0, .int .i64 8, .int .u8 0, .int .i64 0, .int .u8 c, .int .u8 s, .slice none 0 0, .int .i64 5, .int .u8 3, .int .i64 0, .int .u8 0, .int .u8 0, .slice none 0 0]) (.int .u8 3)).run Tryd.prog wc = .ok (.agg #[.int .i64 8, .int .u8 0, .int .i64 0, .int .u8 c, .int .u8 s, .slice none 0 0]) wc := by rfl
        go_upto_region 12 with fail
        clear hix
        change Code.wp _ _ _ _ (wc.alloc (.cells #[.int .i64 8, .int .u8 0, .int .i64 0, .int .u8 c, .int .u8 s, .slice none 0 0] 31))
        generalize wc.alloc (.cells #[.int .i64 8, .int .u8 0, .int .i64 0, .int .u8 c, .int .u8 s, .slice none 0 0] 31) = w1 at *
        have he1 := SX.out.q.mm.lt
        generalize wc.heap.size = eB at *
        clear k1 f0 f1 m0 m1 SX hm
        obtain ⟨m0, m1, -, -⟩ := S1.out.q.cells
        have y0 : w1.cell? ⟨eB, 0, none⟩ = some (.int .i64 8) := E1.out.cell 0
        have y1 : w1.cell? ⟨eB, 1, none⟩ = some (.int .u8 0) := E1.out.cell 1
        have y2 : w1.cell? ⟨eB, 2, none⟩ = some (.int .i64 0) := E1.out.cell 2
        have y3 : w1.cell? ⟨eB, 3, none⟩ = some (.int .u8 c) := E1.out.cell 3
        have y4 : w1.cell? ⟨eB, 4, none⟩ = some (.int .u8 s) := E1.out.cell 4
        have y5 : w1.cell? ⟨eB, 5, none⟩ = some (.slice none 0 0) := E1.out.cell 5
        go_wp2_with fail
        refine (se_do0 m S1.out.q.ok 8 0 0 c s (⟨1, 0⟩, acts) HDo.out _ (HR.out.old S1.out.q.kk)).mono ?_
        rintro e' w9 ⟨Az, cz, rfl, ha, hk⟩
        have S2 := Lib.hid (S1.out.old hk)
        have E2 := Lib.hid (E1.out.kept hk (fun x => x))
        have A2 := Lib.hid ha
        clear ha hk m0 m1 y0 y1 y2 y3 y4 y5 S1 E1 HDo
        have k3 := (Kept.refl Nothing w9).alloc (.cells #[.int .i64 1, .int .i64 0] 24)
        have S3 := Lib.hid (S2.out.old k3)
        have E3 := Lib.hid (E2.out.kept k3 (fun x => x))
        have A3 := Lib.hid (A2.out.old k3)
        have N3 := Lib.hid (Blk.fresh w9 24 #[.int .i64 1, .int .i64 0])
        have he2 : eB < w9.heap.size := E2.out.lt
        go_upto_region 13 with fail
        change Code.wp _ _ _ _ (w9.alloc (.cells #[.int .i64 1, .int .i64 0] 24))
        generalize w9.alloc (.cells #[.int .i64 1, .int .i64 0] 24) = w3 at *
        generalize w9.heap.size = nB at *
        clear k3 S2 E2 A2
        have f0 : w3.cell? ⟨fB, 0, none⟩ = some (.int .u8 c) := S3.out.f.cell 0
        have f1 : w3.cell? ⟨fB, 1, none⟩ = some (.int .u8 s) := S3.out.f.cell 1
        have hm : (x : Int).tmod 5 = 3 := HM.out
        have hix : (Instr.index 51 (.agg #[.int .u8 6, .int .u8 2, .int .u8 4, .int .u8 0, .int .u8 c, .int .u8 s, .int .u8 c, .int .u8 s, .int .u8 0, .int .u8 0]) (.int .u8 3)).run Tryd.prog w3 = .ok (.agg #[.int .u8 c, .int .u8 s]) w3 := by rfl
        go_upto_region 14 with fail
        clear hix
        have k4 := ((Kept.refl Nothing w3).alloc (.cells #[.int .u8 c, .int .u8 s] 28)).alloc (.cells #[.int .u8 0, .int .u8 0] 28)
        have tf := Blk.fresh (w3.alloc (.cells #[.int .u8 c, .int .u8 s] 28)) 28 #[.int .u8 0, .int .u8 0]
        rw [World.size_alloc] at tf
        have E0 : Hid (Ein W ((w3.alloc (.cells #[.int .u8 c, .int .u8 s] 28)).alloc (.cells #[.int .u8 0, .int .u8 0] 28)) eB nB w3.heap.size (w3.heap.size + 1) #[.int .i64 8, .int .u8 0, .int .i64 0, .int .u8 c, .int .u8 s, .slice none 0 0] #[.int .u8 c, .int .u8 s] ⟨0, 0, false, false, false⟩ ⟨c, s, up, true, !false⟩ acts (.slice Az acts.length cz) 0) := by
          have q1 := E3.out.lt
          have q2 := N3.out.lt
          have q3 := S3.out.q.kk.size
          exact Lib.hid ⟨S3.out.q.kk.trans k4, E3.out.kept k4 (fun x => x), N3.out.kept k4 (fun x => x), (Blk.fresh w3 28 #[.int .u8 c, .int .u8 s]).alloc _, tf, A3.out.old k4, HSee.out, by omega, by omega, by omega, by omega⟩
        clear k4 tf f0 f1 hm HM S3 E3 N3 A3 HSee
        go_upto_region 15 with fail
        change Code.wp _ _ _ _ ((w3.alloc (.cells #[.int .u8 c, .int .u8 s] 28)).alloc (.cells #[.int .u8 0, .int .u8 0] 28))
        generalize (w3.alloc (.cells #[.int .u8 c, .int .u8 s] 28)).alloc (.cells #[.int .u8 0, .int .u8 0] 28) = w4 at *
        generalize w3.heap.size = wB at *
        have hal : acts.length ≤ 9223372036854775807 := by
          obtain ⟨_, _, e1, h1, h2⟩ := E0.out.aa.form
          unfold maxLen at h2
          omega
        clear he1 he2
        go_wp2
        go_loopw [81, 16, 17, 18] (fun j dv cv rv wx => ∃ (q : Nat) (r : Sm.Sc), j = .int .i64 (q : Int) ∧ dv = .bool r.down ∧ cv = .bool r.close ∧ rv = .bool r.retry ∧ q ≤ acts.length ∧ Hid (Ein W wx eB nB wB (wB + 1) #[.int .i64 8, .int .u8 0, .int .i64 0, .int .u8 c, .int .u8 s, .slice none 0 0] #[.int .u8 c, .int .u8 s] r ⟨c, s, up, true, !false⟩ acts (.slice Az acts.length cz) q)) (fun j _ _ _ _ => acts.length - (intOf j).toNat)
        case atStart => exact ⟨0, ⟨0, 0, false, false, false⟩, rfl, rfl, rfl, rfl, by omega, E0⟩
        case round =>
          clear E0
          obtain ⟨q, r, rfl, rfl, rfl, rfl, hql, hS⟩ := hrel
          by_cases hq : q < acts.length
          · have hqi : (q : Int) < (acts.length : Int) := by omega
            have hall := hS.out.all
            rw [drop_consE hq, List.foldl_cons] at hall
            obtain ⟨b1, o1, rfl, hc⟩ := hS.out.aa.at (by omega)
            obtain ⟨gA, gn, gc, -, a0, a1, a2, a3, a4, a5⟩ := hc q hq
            generalize ha_ : acts[q] = a at *
            have k11 := (Kept.refl Nothing wr).alloc (.cells #[.int .i64 a.act, .int .u8 a.what, .int .i64 a.ticks, .int .u8 a.code, .int .u8 a.sub, .slice gA gn gc] 48)
            have HX1 := Lib.hid (hS.out.old k11)
            have HS0 := Lib.hid hS.out
            have HALL := Lib.hid hall
            have t0 : wr.cell? ⟨wB + 1, 0, none⟩ = some (.int .u8 r.code) := hS.out.tt.cell 0
            have t1 : wr.cell? ⟨wB + 1, 1, none⟩ = some (.int .u8 r.sub) := hS.out.tt.cell 1
            have g0 := hS.out.tt.free 0
            have g1 := hS.out.tt.free 1
            have hlt1 : wB + 1 < wr.heap.size := hS.out.tt.lt
            clear hc hS hall ha_ k11
            by_cases h2 : a.act = 2
            · have h2i : ((a.act : Int) == 2) = true := by simp; omega
              have HN := Lib.hid ((HS0.out.told { r with code := a.code, sub := a.sub } (q + 1) (by have := HALL.out; unfold Sm.Sc.see at this; rwa [if_pos h2] at this)).old ((Kept.refl Nothing _).alloc (.cells #[.int .i64 a.act, .int .u8 a.what, .int .i64 a.ticks, .int .u8 a.code, .int .u8 a.sub, .slice gA gn gc] 48)))
              clear HX1 HALL HS0 h2
              go_wp2
              go_roundw
              case rel => exact ⟨q + 1, { r with code := a.code, sub := a.sub }, by go_num, rfl, rfl, rfl, by omega, HN⟩
              case measure => simp [intOf]; omega
            · have h2i : ((a.act : Int) == 2) = false := by simp; omega
              clear t0 t1 g0 g1 HS0
              by_cases h8 : a.act = 8
              · have h8i : ((a.act : Int) == 8) = true := by simp; omega
                have HN := Lib.hid (HX1.out.step { r with down := true } rfl rfl (q + 1) (by have := HALL.out; unfold Sm.Sc.see at this; rwa [if_neg h2, if_pos h8] at this))
                clear HX1 HALL h2 h8
                go_wp2
                go_roundw
                case rel => exact ⟨q + 1, { r with down := true }, by go_num, rfl, rfl, rfl, by omega, HN⟩
                case measure => simp [intOf]; omega
              · have h8i : ((a.act : Int) == 8) = false := by simp; omega
                by_cases h5 : a.act = 5
                · have h5i : ((a.act : Int) == 5) = true := by simp; omega
                  have HN := Lib.hid (HX1.out.step { r with close := true } rfl rfl (q + 1) (by have := HALL.out; unfold Sm.Sc.see at this; rwa [if_neg h2, if_neg h8, if_pos h5] at this))
                  clear HX1 HALL h2 h8 h5
                  go_wp2
                  go_roundw
                  case rel => exact ⟨q + 1, { r with close := true }, by go_num, rfl, rfl, rfl, by omega, HN⟩
                  case measure => simp [intOf]; omega
                · have h5i : ((a.act : Int) == 5) = false := by simp; omega
                  by_cases h3 : a.act = 3
                  · have h3i : ((a.act : Int) == 3) = true := by simp; omega
                    have HN := Lib.hid (HX1.out.step { r with retry := decide (a.what = 1) && decide (a.ticks = 120) } rfl rfl (q + 1) (by have := HALL.out; unfold Sm.Sc.see at this; rwa [if_neg h2, if_neg h8, if_neg h5, if_pos h3] at this))
                    clear HX1 HALL h2 h8 h5 h3
                    by_cases hw : a.what = 1
                    · have hwi : ((a.what : Int) == 1) = true := by simp; omega
                      have hwb := decide_eq_true hw
                      by_cases ht : a.ticks = 120
                      · have hti : ((a.ticks : Int) == 120) = true := by simp; omega
                        have htb := decide_eq_true ht
                        rw [hwb, htb] at HN
                        clear hwb htb hw ht
                        go_wp2
                        go_roundw
                        case rel => exact ⟨q + 1, { r with retry := true && true }, by go_num, rfl, rfl, rfl, by omega, HN⟩
                        case measure => simp [intOf]; omega
                      · have hti : ((a.ticks : Int) == 120) = false := by simp; omega
                        have htb := decide_eq_false ht
                        rw [hwb, htb] at HN
                        clear hwb htb hw ht
                        go_wp2
                        go_roundw
                        case rel => exact ⟨q + 1, { r with retry := true && false }, by go_num, rfl, rfl, rfl, by omega, HN⟩
                        case measure => simp [intOf]; omega
                    · have hwi : ((a.what : Int) == 1) = false := by simp; omega
                      have hwb := decide_eq_false hw
                      rw [hwb] at HN
                      clear hwb hw
                      go_wp2
                      go_roundw
                      case rel => exact ⟨q + 1, { r with retry := false && decide (a.ticks = 120) }, by go_num, rfl, rfl, rfl, by omega, HN⟩
                      case measure => simp [intOf]; omega
                  · have h3i : ((a.act : Int) == 3) = false := by simp; omega
                    have HN := Lib.hid (HX1.out.step r rfl rfl (q + 1) (by have := HALL.out; unfold Sm.Sc.see at this; rwa [if_neg h2, if_neg h8, if_neg h5, if_neg h3] at this))
                    clear HX1 HALL h2 h8 h5 h3
                    go_wp2
                    go_roundw
                    case rel => exact ⟨q + 1, r, by go_num, rfl, rfl, rfl, by omega, HN⟩
                    case measure => simp [intOf]; omega
          · obtain rfl : q = acts.length := by omega
            have hall := hS.out.all
            rw [List.drop_length, List.foldl_nil] at hall
            subst hall
            have HX := Lib.hid (hS.out)
            clear hS
            have n0 : wr.cell? ⟨nB, 0, none⟩ = some (.int .i64 1) := HX.out.nn.cell 0
            have n1 : wr.cell? ⟨nB, 1, none⟩ = some (.int .i64 0) := HX.out.nn.cell 1
            go_wp2_with fail
            refine (se_do0 ⟨1, 0⟩ (by unfold Sm.Ok; decide) 1 0 0 0 0 (⟨2, 0⟩, [Sm.set 1 120, Sm.a0 6]) (by rfl) _ (HR.out.old HX.out.kk)).mono ?_
            rintro e' w8 ⟨Ay, cy, rfl, -, hk⟩
            have X8 := Lib.hid (HX.out.old (hk.trans ((Kept.refl Nothing w8).alloc (.cells #[.int .i64 2, .int .i64 0] 24))))
            have O8 := Lib.hid (Blk.fresh w8 24 #[.int .i64 2, .int .i64 0])
            clear hk n0 n1 HX
            go_upto_region 29 with fail
            change Code.wp _ _ _ _ (w8.alloc (.cells #[.int .i64 2, .int .i64 0] 24))
            generalize w8.alloc (.cells #[.int .i64 2, .int .i64 0] 24) = W1 at *
            generalize w8.heap.size = oB at *
            refine wp_region_grow1 W1 (Facts (klE3 nB wB eB oB c s up) (fun _ _ _ => True)) 31 6 (by rfl) (by kernel_rfl) (by decide +kernel) (by intro d hd; simp [dsts] at hd ⊢; omega) (ready_nil (by kernel_rfl)) (by kernel_rfl) (Facts.guards (E := [(3, true), (8, true), (13, true), (16, true), (23, true), (28, true)]) (by kernel_rfl) ?_) (Facts.stab (fun _ _ _ _ _ _ => trivial)) (Kept.refl Nothing W1).drew ?_ ?_
            · repeat (first | refine List.forall_mem_cons.2 ⟨by rfl, ?_⟩ | exact List.forall_mem_nil _)
            · refine OweAll.cons ?_ ?_
              · intro u a hk hf hfar
                have v12 : a.tmps.getD 12 undef = .pointer (some ⟨nB, 0, none⟩) := hfar 12 (by decide)
                have w12 := v12
                rw [Array.getD_eq_getD_getElem?] at w12
                have b0 : u.cell? ⟨nB, 0, none⟩ = some (.int .i64 1) := hk.cell_some (X8.out.nn.cell 0) (fun x => x)
                have b1 : u.cell? ⟨nB, 1, none⟩ = some (.int .i64 0) := hk.cell_some (X8.out.nn.cell 1) (fun x => x)
                clear hf hfar
                go_simp
                exact ⟨_, rfl, Kept.refl _ _, rfl⟩
              refine OweAll.cons ?_ ?_
              · intro u a hk hf hfar
                clear hf hfar
                go_simp
                refine (se_new u).mono ?_
                rintro e u' ⟨rfl, hk'⟩
                exact ⟨_, rfl, hk', rfl⟩
              refine OweAll.cons ?_ ?_
              · intro u a hk hf hfar
                have v112 : a.tmps.getD 112 undef = .agg #[.int .i64 1, .int .i64 0] := hf 0 _ 112 rfl rfl ⟨⟨0, .data⟩, Array.mem_of_getElem? (i := 0) rfl, rfl, rfl⟩
                have w112 := v112
                rw [Array.getD_eq_getD_getElem?] at w112
                have v113 : a.tmps.getD 113 undef = .agg #[.int .i64 1, .int .i64 0] := hf 1 _ 113 rfl rfl ⟨⟨1, .data⟩, Array.mem_of_getElem? (i := 1) rfl, rfl, rfl⟩
                have w113 := v113
                rw [Array.getD_eq_getD_getElem?] at w113
                clear hf hfar
                go_simp
                exact ⟨_, rfl, Kept.refl _ _, rfl⟩
              refine OweAll.cons ?_ ?_
              · intro u a hk hf hfar
                have v114 : a.tmps.getD 114 undef = .bool true := hf 2 _ 114 rfl rfl ⟨⟨2, .data⟩, Array.mem_of_getElem? (i := 0) rfl, rfl, rfl⟩
                have w114 := v114
                rw [Array.getD_eq_getD_getElem?] at w114
                clear hf hfar
                go_simp
                exact ⟨_, rfl, Kept.refl _ _, rfl⟩
              refine OweAll.cons ?_ ?_
              · intro u a hk hf hfar
                have v15 : a.tmps.getD 15 undef = .pointer (some ⟨wB + 1, 0, none⟩) := hfar 15 (by decide)
                have w15 := v15
                rw [Array.getD_eq_getD_getElem?] at w15
                have b0 : u.cell? ⟨wB + 1, 0, none⟩ = some (.int .u8 c) := hk.cell_some (X8.out.tt.cell 0) (fun x => x)
                have b1 : u.cell? ⟨wB + 1, 1, none⟩ = some (.int .u8 s) := hk.cell_some (X8.out.tt.cell 1) (fun x => x)
                clear hf hfar
                go_simp
                exact ⟨_, rfl, Kept.refl _ _, rfl⟩
              refine OweAll.cons ?_ ?_
              · intro u a hk hf hfar
                have v14 : a.tmps.getD 14 undef = .pointer (some ⟨wB, 0, none⟩) := hfar 14 (by decide)
                have w14 := v14
                rw [Array.getD_eq_getD_getElem?] at w14
                have b0 : u.cell? ⟨wB, 0, none⟩ = some (.int .u8 c) := hk.cell_some (X8.out.ww.cell 0) (fun x => x)
                have b1 : u.cell? ⟨wB, 1, none⟩ = some (.int .u8 s) := hk.cell_some (X8.out.ww.cell 1) (fun x => x)
                clear hf hfar
                go_simp
                exact ⟨_, rfl, Kept.refl _ _, rfl⟩
              refine OweAll.cons ?_ ?_
              · intro u a hk hf hfar
                have v116 : a.tmps.getD 116 undef = .agg #[.int .u8 c, .int .u8 s] := hf 4 _ 116 rfl rfl ⟨⟨4, .data⟩, Array.mem_of_getElem? (i := 0) rfl, rfl, rfl⟩
                have w116 := v116
                rw [Array.getD_eq_getD_getElem?] at w116
                have v117 : a.tmps.getD 117 undef = .agg #[.int .u8 c, .int .u8 s] := hf 5 _ 117 rfl rfl ⟨⟨5, .data⟩, Array.mem_of_getElem? (i := 1) rfl, rfl, rfl⟩
                have w117 := v117
                rw [Array.getD_eq_getD_getElem?] at w117
                clear hf hfar
                go_simp
                exact ⟨_, rfl, Kept.refl _ _, rfl⟩
              refine OweAll.cons ?_ ?_
              · intro u a hk hf hfar
                have v115 : a.tmps.getD 115 undef = .bool true := hf 3 _ 115 rfl rfl ⟨⟨3, .data⟩, Array.mem_of_getElem? (i := 0) rfl, rfl, rfl⟩
                have w115 := v115
                rw [Array.getD_eq_getD_getElem?] at w115
                have v118 : a.tmps.getD 118 undef = .bool true := hf 6 _ 118 rfl rfl ⟨⟨6, .data⟩, Array.mem_of_getElem? (i := 1) rfl, rfl, rfl⟩
                have w118 := v118
                rw [Array.getD_eq_getD_getElem?] at w118
                clear hf hfar
                go_simp
                exact ⟨_, rfl, Kept.refl _ _, rfl⟩
              refine OweAll.cons ?_ ?_
              · intro u a hk hf hfar
                have v119 : a.tmps.getD 119 undef = .bool true := hf 7 _ 119 rfl rfl ⟨⟨7, .data⟩, Array.mem_of_getElem? (i := 0) rfl, rfl, rfl⟩
                have w119 := v119
                rw [Array.getD_eq_getD_getElem?] at w119
                clear hf hfar
                go_simp
                exact ⟨_, rfl, Kept.refl _ _, rfl⟩
              refine OweAll.cons ?_ ?_
              · intro u a hk hf hfar
                have v16 : a.tmps.getD 16 undef = .bool up := hfar 16 (by decide)
                have w16 := v16
                rw [Array.getD_eq_getD_getElem?] at w16
                clear hf hfar
                go_simp
                exact ⟨_, rfl, Kept.refl _ _, rfl⟩
              refine OweAll.cons ?_ ?_
              · intro u a hk hf hfar
                have v10 : a.tmps.getD 10 undef = .bool up := hfar 10 (by decide)
                have w10 := v10
                rw [Array.getD_eq_getD_getElem?] at w10
                clear hf hfar
                go_simp
                exact ⟨_, rfl, Kept.refl _ _, rfl⟩
              refine OweAll.cons ?_ ?_
              · intro u a hk hf hfar
                have v121 : a.tmps.getD 121 undef = .bool up := hf 9 _ 121 rfl rfl ⟨⟨9, .data⟩, Array.mem_of_getElem? (i := 0) rfl, rfl, rfl⟩
                have w121 := v121
                rw [Array.getD_eq_getD_getElem?] at w121
                have v122 : a.tmps.getD 122 undef = .bool up := hf 10 _ 122 rfl rfl ⟨⟨10, .data⟩, Array.mem_of_getElem? (i := 1) rfl, rfl, rfl⟩
                have w122 := v122
                rw [Array.getD_eq_getD_getElem?] at w122
                clear hf hfar
                go_simp
                exact ⟨_, rfl, Kept.refl _ _, rfl⟩
              refine OweAll.cons ?_ ?_
              · intro u a hk hf hfar
                have v120 : a.tmps.getD 120 undef = .bool true := hf 8 _ 120 rfl rfl ⟨⟨8, .data⟩, Array.mem_of_getElem? (i := 0) rfl, rfl, rfl⟩
                have w120 := v120
                rw [Array.getD_eq_getD_getElem?] at w120
                have v123 : a.tmps.getD 123 undef = .bool true := hf 11 _ 123 rfl rfl ⟨⟨11, .data⟩, Array.mem_of_getElem? (i := 1) rfl, rfl, rfl⟩
                have w123 := v123
                rw [Array.getD_eq_getD_getElem?] at w123
                clear hf hfar
                go_simp
                exact ⟨_, rfl, Kept.refl _ _, rfl⟩
              refine OweAll.cons ?_ ?_
              · intro u a hk hf hfar
                have v124 : a.tmps.getD 124 undef = .bool true := hf 12 _ 124 rfl rfl ⟨⟨12, .data⟩, Array.mem_of_getElem? (i := 0) rfl, rfl, rfl⟩
                have w124 := v124
                rw [Array.getD_eq_getD_getElem?] at w124
                clear hf hfar
                go_simp
                exact ⟨_, rfl, Kept.refl _ _, rfl⟩
              refine OweAll.cons ?_ ?_
              · intro u a hk hf hfar
                have v17 : a.tmps.getD 17 undef = .bool true := hfar 17 (by decide)
                have w17 := v17
                rw [Array.getD_eq_getD_getElem?] at w17
                clear hf hfar
                go_simp
                exact ⟨_, rfl, Kept.refl _ _, rfl⟩
              refine OweAll.cons ?_ ?_
              · intro u a hk hf hfar
                have v125 : a.tmps.getD 125 undef = .bool true := hf 13 _ 125 rfl rfl ⟨⟨13, .data⟩, Array.mem_of_getElem? (i := 0) rfl, rfl, rfl⟩
                have w125 := v125
                rw [Array.getD_eq_getD_getElem?] at w125
                have v126 : a.tmps.getD 126 undef = .bool true := hf 14 _ 126 rfl rfl ⟨⟨14, .data⟩, Array.mem_of_getElem? (i := 1) rfl, rfl, rfl⟩
                have w126 := v126
                rw [Array.getD_eq_getD_getElem?] at w126
                clear hf hfar
                go_simp
                exact ⟨_, rfl, Kept.refl _ _, rfl⟩
              refine OweAll.cons ?_ ?_
              · intro u a hk hf hfar
                have v127 : a.tmps.getD 127 undef = .bool true := hf 15 _ 127 rfl rfl ⟨⟨15, .data⟩, Array.mem_of_getElem? (i := 0) rfl, rfl, rfl⟩
                have w127 := v127
                rw [Array.getD_eq_getD_getElem?] at w127
                clear hf hfar
                go_simp
                exact ⟨_, rfl, Kept.refl _ _, rfl⟩
              refine OweAll.cons ?_ ?_
              · intro u a hk hf hfar
                have v18 : a.tmps.getD 18 undef = .bool true := hfar 18 (by decide)
                have w18 := v18
                rw [Array.getD_eq_getD_getElem?] at w18
                clear hf hfar
                go_simp
                exact ⟨_, rfl, Kept.refl _ _, rfl⟩
              refine OweAll.cons ?_ ?_
              · intro u a hk hf hfar
                have v11 : a.tmps.getD 11 undef = .pointer (some ⟨eB, 0, none⟩) := hfar 11 (by decide)
                have w11 := v11
                rw [Array.getD_eq_getD_getElem?] at w11
                clear hf hfar
                go_simp
                exact ⟨_, rfl, Kept.refl _ _, rfl⟩
              refine OweAll.cons ?_ ?_
              · intro u a hk hf hfar
                have v130 : a.tmps.getD 130 undef = .pointer (some ⟨eB, 0, none⟩) := hf 18 _ 130 rfl rfl ⟨⟨18, .data⟩, Array.mem_of_getElem? (i := 0) rfl, rfl, rfl⟩
                have w130 := v130
                rw [Array.getD_eq_getD_getElem?] at w130
                have b0 : u.cell? ⟨eB, 0, none⟩ = some (.int .i64 8) := hk.cell_some (X8.out.ee.cell 0) (fun x => x)
                clear hf hfar
                go_simp
                exact ⟨_, rfl, Kept.refl _ _, rfl⟩
              refine OweAll.cons ?_ ?_
              · intro u a hk hf hfar
                have v131 : a.tmps.getD 131 undef = .int .i64 8 := hf 19 _ 131 rfl rfl ⟨⟨19, .data⟩, Array.mem_of_getElem? (i := 0) rfl, rfl, rfl⟩
                have w131 := v131
                rw [Array.getD_eq_getD_getElem?] at w131
                clear hf hfar
                go_simp
                exact ⟨_, rfl, Kept.refl _ _, rfl⟩
              refine OweAll.cons ?_ ?_
              · intro u a hk hf hfar
                have v129 : a.tmps.getD 129 undef = .bool true := hf 17 _ 129 rfl rfl ⟨⟨17, .data⟩, Array.mem_of_getElem? (i := 0) rfl, rfl, rfl⟩
                have w129 := v129
                rw [Array.getD_eq_getD_getElem?] at w129
                have v132 : a.tmps.getD 132 undef = .bool true := hf 20 _ 132 rfl rfl ⟨⟨20, .data⟩, Array.mem_of_getElem? (i := 1) rfl, rfl, rfl⟩
                have w132 := v132
                rw [Array.getD_eq_getD_getElem?] at w132
                clear hf hfar
                go_simp
                exact ⟨_, rfl, Kept.refl _ _, rfl⟩
              refine OweAll.cons ?_ ?_
              · intro u a hk hf hfar
                have v128 : a.tmps.getD 128 undef = .bool true := hf 16 _ 128 rfl rfl ⟨⟨16, .data⟩, Array.mem_of_getElem? (i := 0) rfl, rfl, rfl⟩
                have w128 := v128
                rw [Array.getD_eq_getD_getElem?] at w128
                have v133 : a.tmps.getD 133 undef = .bool true := hf 21 _ 133 rfl rfl ⟨⟨21, .data⟩, Array.mem_of_getElem? (i := 1) rfl, rfl, rfl⟩
                have w133 := v133
                rw [Array.getD_eq_getD_getElem?] at w133
                clear hf hfar
                go_simp
                exact ⟨_, rfl, Kept.refl _ _, rfl⟩
              refine OweAll.cons ?_ ?_
              · intro u a hk hf hfar
                have v134 : a.tmps.getD 134 undef = .bool true := hf 22 _ 134 rfl rfl ⟨⟨22, .data⟩, Array.mem_of_getElem? (i := 0) rfl, rfl, rfl⟩
                have w134 := v134
                rw [Array.getD_eq_getD_getElem?] at w134
                clear hf hfar
                go_simp
                exact ⟨_, rfl, Kept.refl _ _, rfl⟩
              refine OweAll.cons ?_ ?_
              · intro u a hk hf hfar
                have v21 : a.tmps.getD 21 undef = .pointer (some ⟨oB, 0, none⟩) := hfar 21 (by decide)
                have w21 := v21
                rw [Array.getD_eq_getD_getElem?] at w21
                clear hf hfar
                go_simp
                exact ⟨_, rfl, Kept.refl _ _, rfl⟩
              refine OweAll.cons ?_ ?_
              · intro u a hk hf hfar
                have v136 : a.tmps.getD 136 undef = .pointer (some ⟨oB, 0, none⟩) := hf 24 _ 136 rfl rfl ⟨⟨24, .data⟩, Array.mem_of_getElem? (i := 0) rfl, rfl, rfl⟩
                have w136 := v136
                rw [Array.getD_eq_getD_getElem?] at w136
                have b0 : u.cell? ⟨oB, 0, none⟩ = some (.int .i64 2) := hk.cell_some (O8.out.cell 0) (fun x => x)
                clear hf hfar
                go_simp
                exact ⟨_, rfl, Kept.refl _ _, rfl⟩
              refine OweAll.cons ?_ ?_
              · intro u a hk hf hfar
                have v137 : a.tmps.getD 137 undef = .int .i64 2 := hf 25 _ 137 rfl rfl ⟨⟨25, .data⟩, Array.mem_of_getElem? (i := 0) rfl, rfl, rfl⟩
                have w137 := v137
                rw [Array.getD_eq_getD_getElem?] at w137
                clear hf hfar
                go_simp
                exact ⟨_, rfl, Kept.refl _ _, rfl⟩
              refine OweAll.cons ?_ ?_
              · intro u a hk hf hfar
                have v135 : a.tmps.getD 135 undef = .bool true := hf 23 _ 135 rfl rfl ⟨⟨23, .data⟩, Array.mem_of_getElem? (i := 0) rfl, rfl, rfl⟩
                have w135 := v135
                rw [Array.getD_eq_getD_getElem?] at w135
                have v138 : a.tmps.getD 138 undef = .bool true := hf 26 _ 138 rfl rfl ⟨⟨26, .data⟩, Array.mem_of_getElem? (i := 1) rfl, rfl, rfl⟩
                have w138 := v138
                rw [Array.getD_eq_getD_getElem?] at w138
                clear hf hfar
                go_simp
                exact ⟨_, rfl, Kept.refl _ _, rfl⟩
              refine OweAll.cons ?_ ?_
              · intro u a hk hf hfar
                have v139 : a.tmps.getD 139 undef = .bool true := hf 27 _ 139 rfl rfl ⟨⟨27, .data⟩, Array.mem_of_getElem? (i := 0) rfl, rfl, rfl⟩
                have w139 := v139
                rw [Array.getD_eq_getD_getElem?] at w139
                clear hf hfar
                go_simp
                exact ⟨_, rfl, Kept.refl _ _, rfl⟩
              refine OweAll.cons ?_ ?_
              · intro u a hk hf hfar
                clear hf hfar
                go_simp
                refine (HT.out u (X8.out.kk.trans hk)).mono ?_
                rintro e u' ⟨rfl, hk'⟩
                exact ⟨_, rfl, hk', rfl⟩
              refine OweAll.cons ?_ ?_
              · intro u a hk hf hfar
                have v140 : a.tmps.getD 140 undef = .bool true := hf 28 _ 140 rfl rfl ⟨⟨28, .data⟩, Array.mem_of_getElem? (i := 0) rfl, rfl, rfl⟩
                have w140 := v140
                rw [Array.getD_eq_getD_getElem?] at w140
                have v141 : a.tmps.getD 141 undef = .bool true := hf 29 _ 141 rfl rfl ⟨⟨29, .data⟩, Array.mem_of_getElem? (i := 1) rfl, rfl, rfl⟩
                have w141 := v141
                rw [Array.getD_eq_getD_getElem?] at w141
                clear hf hfar
                go_simp
                exact ⟨_, rfl, Kept.refl _ _, rfl⟩
              refine OweAll.cons ?_ ?_
              · intro u a hk hf hfar
                have v142 : a.tmps.getD 142 undef = .bool true := hf 30 _ 142 rfl rfl ⟨⟨30, .data⟩, Array.mem_of_getElem? (i := 0) rfl, rfl, rfl⟩
                have w142 := v142
                rw [Array.getD_eq_getD_getElem?] at w142
                clear hf hfar
                go_simp
                exact ⟨_, rfl, Kept.refl _ _, rfl⟩
              exact OweAll.nil
            · intro A u hku hA hdef
              have hA' : A.tmps.getD 6 undef = .bool true := hA
              have hr := results_tmp (fn := Tryd.f6) (t := 6) (by rfl) A.tmps Tryd.prog u
              rw [hA'] at hr
              go_wp2
              exact bodyPost_ret hr (hdef.trans rfl) ⟨rfl, X8.out.kk.trans hku⟩
end Go.Proofs.YtlghmjipnkmeeaaDoor
