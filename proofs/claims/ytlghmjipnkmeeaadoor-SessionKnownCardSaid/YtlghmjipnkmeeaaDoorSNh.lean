
/-
  session: the law Known's own 'at'.
-/
import Derived.Test.YtlghmjipnkmeeaaDoorSNb
namespace Go.Proofs.YtlghmjipnkmeeaaDoor
open Go.RowKit

def Sm.tl1 (p : Nat × Nat) (a : Sm.Act) : Nat × Nat := if a.act = 2 then (a.code, a.sub) else p
def Sm.tl (l : List Sm.Act) : Nat × Nat := l.foldl Sm.tl1 (0, 0)
structure Kin (W u : World) (mB tB rB : Nat) (m : Sm.M) (p fin : Nat × Nat) (acts : List Sm.Act) (av : Value) (q : Nat) : Prop where
  kk : Kept Nothing W u
  mm : Blk u mB 24 #[.int .i64 m.state, .int .i64 m.hold]
  rr : Blk u rB 28 #[.int .u8 0, .int .u8 0]
  tt : Blk u tB 28 #[.int .u8 p.1, .int .u8 p.2]
  aa : Acs .u8 u av acts []
  all : (acts.drop q).foldl Sm.tl1 p = fin
  le : W.heap.size ≤ rB
  ne : mB < tB ∧ rB < mB
theorem Kin.old {W u u' : World} {mB tB rB : Nat} {m : Sm.M} {p fin : Nat × Nat} {acts : List Sm.Act} {av : Value} {q : Nat} (h : Kin W u mB tB rB m p fin acts av q) (k : Kept Nothing u u') : Kin W u' mB tB rB m p fin acts av q :=
  ⟨h.kk.trans k, h.mm.kept k (fun x => x), h.rr.kept k (fun x => x), h.tt.kept k (fun x => x), h.aa.old k, h.all, h.le, h.ne⟩
theorem Kin.told {W u : World} {mB tB rB : Nat} {m : Sm.M} {p fin : Nat × Nat} {acts : List Sm.Act} {av : Value} {q : Nat} (h : Kin W u mB tB rB m p fin acts av q) (c s q2 : Nat) (ha : (acts.drop q2).foldl Sm.tl1 (c, s) = fin) :
    Kin W ((u.setCell ⟨tB, 0, none⟩ (.int .u8 c)).setCell ⟨tB, 1, none⟩ (.int .u8 s)) mB tB rB m (c, s) fin acts av q2 := by
  have kk := kept_two (v := u) tB (.int .u8 (c : Int)) (.int .u8 (s : Int))
  have hle := h.le
  obtain ⟨n1, n2⟩ := h.ne
  exact ⟨h.kk.trans_new kk (fun i hi (e : i = tB) => by omega), h.mm.kept kk (fun (e : mB = tB) => by omega), h.rr.kept kk (fun (e : rB = tB) => by omega), (h.tt.put 0 (.int .u8 (c : Int))).put 1 (.int .u8 (s : Int)), h.aa.flt h.tt kk, ha, h.le, h.ne⟩
theorem Kin.step {W u : World} {mB tB rB : Nat} {m : Sm.M} {p fin : Nat × Nat} {acts : List Sm.Act} {av : Value} {q : Nat} (h : Kin W u mB tB rB m p fin acts av q) (q2 : Nat) (ha : (acts.drop q2).foldl Sm.tl1 p = fin) : Kin W u mB tB rB m p fin acts av q2 := ⟨h.kk, h.mm, h.rr, h.tt, h.aa, ha, h.le, h.ne⟩
theorem ret_at {fn : Func} {a p b : Tmp} (h : fn.results = #[.tmp a, .cell p 28, .tmp b]) (tm : Array Value) (W : World) (g : Nat) (x y va vb : Value) (ha : tm.getD a undef = va) (hp : tm.getD p undef = .pointer (some ⟨g, 0, none⟩)) (hb : tm.getD b undef = vb) (hB : Blk W g 28 #[x, y]) :
    (results fn tm).run Tryd.prog W = .ok (.tuple #[va, .agg #[x, y], vb]) W := by
  have hL := run_loadVar_row (P := Tryd.prog) W g 28 28 _ (0, 0) _ hB Tryd.underlying28 rfl (by kernel_rfl)
  have e : (results fn tm).run Tryd.prog W = ((asAddr (tm.getD p undef)).run Tryd.prog W).andThen fun a1 w₁ => ((loadVar 28 a1).run Tryd.prog w₁).andThen fun v w₂ => .ok (.tuple #[tm.getD a undef, v, tm.getD b undef]) w₂ := by
    simp only [results, h]
    simp [Sem.run_bind, Result.andThen]
  rw [e, ha, hp, hb]
  simp only [asAddr, Sem.run_pure, Result.andThen_ok, hL]
set_option maxRecDepth 100000 in
set_option maxHeartbeats 16000000 in
theorem se_at (st hd : Int) (m : Sm.M) (hm : Sm.Ok m) (hn : Nm st hd m) (kd ho : Int) (x c s : Nat) (m2 : Sm.M) (acts : List Sm.Act) (hr : Sm.step m ⟨kd, x, ho, c, s⟩ = (m2, acts)) (w : World) (hR : RdS w) :
    Calls Tryd.prog 15 #[.int .i64 st, .int .i64 hd, .agg #[.int .i64 kd, .int .u8 x, .int .i64 ho, .int .u8 c, .int .u8 s, .slice none 0 0]] w
      fun e w' => e = .returned (.tuple #[.int .i64 m2.state, .agg #[.int .u8 (Sm.tl acts).1, .int .u8 (Sm.tl acts).2], .int .i64 acts.length]) ∧ Kept Nothing w w' := by
  have HDo : Hid (∀ u, Kept Nothing w u → Calls Tryd.prog 9 #[.agg #[.int .i64 st, .int .i64 hd], .agg #[.int .i64 kd, .int .u8 x, .int .i64 ho, .int .u8 c, .int .u8 s, .slice none 0 0]] u fun e' w' => Res .u8 u w' e' (m2, acts) []) :=
    Lib.hid (fun u hu => by rw [← hr]; exact se_do st hd m hm hn kd ho x c s none 0 0 [] u (hR.old hu) (Bs.nil u).by (by simp))
  have k1 := ((Kept.refl Nothing w).alloc (.cells #[.int .i64 kd, .int .u8 x, .int .i64 ho, .int .u8 c, .int .u8 s, .slice none 0 0] 31)).alloc (.cells #[.int .u8 0, .int .u8 0] 28)
  have E1 := (Blk.fresh w 31 #[.int .i64 kd, .int .u8 x, .int .i64 ho, .int .u8 c, .int .u8 s, .slice none 0 0]).alloc (.cells #[.int .u8 0, .int .u8 0] 28)
  have R1 := Blk.fresh (w.alloc (.cells #[.int .i64 kd, .int .u8 x, .int .i64 ho, .int .u8 c, .int .u8 s, .slice none 0 0] 31)) 28 #[.int .u8 0, .int .u8 0]
  rw [World.size_alloc] at R1
  clear hR hr hn hm
  go_enter Tryd.func15, Tryd.ntmps15
  go_upto_region 1 with fail
  change Code.wp _ _ _ _ ((w.alloc (.cells #[.int .i64 kd, .int .u8 x, .int .i64 ho, .int .u8 c, .int .u8 s, .slice none 0 0] 31)).alloc (.cells #[.int .u8 0, .int .u8 0] 28))
  generalize (w.alloc (.cells #[.int .i64 kd, .int .u8 x, .int .i64 ho, .int .u8 c, .int .u8 s, .slice none 0 0] 31)).alloc (.cells #[.int .u8 0, .int .u8 0] 28) = w1 at *
  have hre : w.heap.size ≤ w.heap.size + 1 := by omega
  generalize hrB : w.heap.size + 1 = rB at *
  have K1 := Lib.hid k1
  have F1 := Lib.hid R1
  have y0 : w1.cell? ⟨w.heap.size, 0, none⟩ = some (.int .i64 kd) := E1.cell 0
  have y1 : w1.cell? ⟨w.heap.size, 1, none⟩ = some (.int .u8 x) := E1.cell 1
  have y2 : w1.cell? ⟨w.heap.size, 2, none⟩ = some (.int .i64 ho) := E1.cell 2
  have y3 : w1.cell? ⟨w.heap.size, 3, none⟩ = some (.int .u8 c) := E1.cell 3
  have y4 : w1.cell? ⟨w.heap.size, 4, none⟩ = some (.int .u8 s) := E1.cell 4
  have y5 : w1.cell? ⟨w.heap.size, 5, none⟩ = some (.slice none 0 0) := E1.cell 5
  clear k1 E1 R1
  go_wp2_with fail
  refine (HDo.out _ K1.out).mono ?_
  rintro e' w9 ⟨Az, cz, rfl, ha, hk⟩
  have K9 := Lib.hid (K1.out.trans hk)
  have F9 := Lib.hid (F1.out.kept hk (fun x => x))
  have A9 := Lib.hid ha
  have hlt : rB < w9.heap.size := F9.out.lt
  clear ha hk y0 y1 y2 y3 y4 y5 HDo K1 F1
  have k3 := ((Kept.refl Nothing w9).alloc (.cells #[.int .i64 m2.state, .int .i64 m2.hold] 24)).alloc (.cells #[.int .u8 0, .int .u8 0] 28)
  have M3 := (Blk.fresh w9 24 #[.int .i64 m2.state, .int .i64 m2.hold]).alloc (.cells #[.int .u8 0, .int .u8 0] 28)
  have T3 := Blk.fresh (w9.alloc (.cells #[.int .i64 m2.state, .int .i64 m2.hold] 24)) 28 #[.int .u8 0, .int .u8 0]
  rw [World.size_alloc] at T3
  have E0 : Hid (Kin w ((w9.alloc (.cells #[.int .i64 m2.state, .int .i64 m2.hold] 24)).alloc (.cells #[.int .u8 0, .int .u8 0] 28)) w9.heap.size (w9.heap.size + 1) rB m2 (0, 0) (Sm.tl acts) acts (.slice Az acts.length cz) 0) :=
    Lib.hid ⟨K9.out.trans k3, M3, F9.out.kept k3 (fun x => x), T3, A9.out.old k3, rfl, hre, by omega, hlt⟩
  clear k3 M3 T3 K9 F9 A9 hlt hre
  go_upto_region 3 with fail
  change Code.wp _ _ _ _ ((w9.alloc (.cells #[.int .i64 m2.state, .int .i64 m2.hold] 24)).alloc (.cells #[.int .u8 0, .int .u8 0] 28))
  generalize (w9.alloc (.cells #[.int .i64 m2.state, .int .i64 m2.hold] 24)).alloc (.cells #[.int .u8 0, .int .u8 0] 28) = w4 at *
  generalize w9.heap.size = nB at *
  have hal : acts.length ≤ 9223372036854775807 := by
    obtain ⟨_, _, e1, h1, h2⟩ := E0.out.aa.form
    unfold maxLen at h2
    omega
  clear hrB
  go_wp2
  go_loopw [25] (fun j wx => ∃ (q c s : Nat), j = .int .i64 (q : Int) ∧ q ≤ acts.length ∧ Hid (Kin w wx nB (nB + 1) rB m2 (c, s) (Sm.tl acts) acts (.slice Az acts.length cz) q)) (fun j _ => acts.length - (intOf j).toNat)
  case atStart => exact ⟨0, 0, 0, rfl, by omega, E0⟩
  case round =>
    clear E0
    obtain ⟨q, pc, ps, rfl, hql, hS⟩ := hrel
    by_cases hq : q < acts.length
    · have hqi : (q : Int) < (acts.length : Int) := by omega
      have hall := hS.out.all
      rw [drop_consE hq, List.foldl_cons] at hall
      obtain ⟨b1, o1, rfl, hc⟩ := hS.out.aa.at (by omega)
      obtain ⟨gA, gn, gc, -, a0, a1, a2, a3, a4, a5⟩ := hc q hq
      generalize ha_ : acts[q] = a at *
      have k11 := (Kept.refl Nothing wr).alloc (.cells #[.int .i64 a.act, .int .u8 a.what, .int .i64 a.ticks, .int .u8 a.code, .int .u8 a.sub, .slice gA gn gc] 48)
      have HX1 := Lib.hid (hS.out.old k11)
      have HS0 := Lib.hid hS.out
      have HALL := Lib.hid hall
      have t0 : wr.cell? ⟨nB + 1, 0, none⟩ = some (.int .u8 pc) := hS.out.tt.cell 0
      have t1 : wr.cell? ⟨nB + 1, 1, none⟩ = some (.int .u8 ps) := hS.out.tt.cell 1
      have g0 := hS.out.tt.free 0
      have g1 := hS.out.tt.free 1
      have hlt1 : nB + 1 < wr.heap.size := hS.out.tt.lt
      clear hc hS hall ha_ k11
      by_cases h2 : a.act = 2
      · have h2i : ((a.act : Int) == 2) = true := by simp; omega
        have HN := Lib.hid ((HS0.out.told a.code a.sub (q + 1) (by have := HALL.out; unfold Sm.tl1 at this; rwa [if_pos h2] at this)).old ((Kept.refl Nothing _).alloc (.cells #[.int .i64 a.act, .int .u8 a.what, .int .i64 a.ticks, .int .u8 a.code, .int .u8 a.sub, .slice gA gn gc] 48)))
        clear HX1 HALL HS0 h2
        go_wp2
        go_roundw
        case rel => exact ⟨q + 1, a.code, a.sub, by go_num, by omega, HN⟩
        case measure => simp [intOf]; omega
      · have h2i : ((a.act : Int) == 2) = false := by simp; omega
        clear t0 t1 g0 g1 HS0
        have HN := Lib.hid (HX1.out.step (q + 1) (by have := HALL.out; unfold Sm.tl1 at this; rwa [if_neg h2] at this))
        clear HX1 HALL h2
        go_wp2
        go_roundw
        case rel => exact ⟨q + 1, pc, ps, by go_num, by omega, HN⟩
        case measure => simp [intOf]; omega
    · obtain rfl : q = acts.length := by omega
      have hall := hS.out.all
      rw [List.drop_length, List.foldl_nil] at hall
      have HX := Lib.hid (hS.out)
      clear hS
      have HALL := Lib.hid hall
      clear hall
      have n0 : wr.cell? ⟨nB, 0, none⟩ = some (.int .i64 m2.state) := HX.out.mm.cell 0
      have t0 : wr.cell? ⟨nB + 1, 0, none⟩ = some (.int .u8 pc) := HX.out.tt.cell 0
      have t1 : wr.cell? ⟨nB + 1, 1, none⟩ = some (.int .u8 ps) := HX.out.tt.cell 1
      have r0 : wr.cell? ⟨rB, 0, none⟩ = some (.int .u8 0) := HX.out.rr.cell 0
      have r1 : wr.cell? ⟨rB, 1, none⟩ = some (.int .u8 0) := HX.out.rr.cell 1
      have z0 := HX.out.rr.free 0
      have z1 := HX.out.rr.free 1
      have hne1 : rB < nB := HX.out.ne.2
      go_upto_region 9 with fail
      go_region_held_law (fun u => u.cell? ⟨nB, 0, none⟩ = some (.int .i64 m2.state) ∧ u.cell? ⟨nB + 1, 0, none⟩ = some (.int .u8 pc) ∧ u.cell? ⟨nB + 1, 1, none⟩ = some (.int .u8 ps)) (first | exact ⟨n0, t0, t1⟩ | (refine ⟨?_, ?_, ?_⟩ <;> go_simp)) (fail)
      all_goals
        have hfin := HALL.out
        have HB := Blk.drew (((HX.out.rr).put 0 (.int .u8 (pc : Int))).put 1 (.int .u8 (ps : Int)))
        have hk9 := (HX.out.kk.trans_new (kept_two (v := wr) rB (.int .u8 (pc : Int)) (.int .u8 (ps : Int))) (fun i hi (e : i = rB) => by have := HX.out.le; omega)).drew
        go_wp2
        refine bodyPost_ret (ret_at (a := 6) (p := 7) (b := 8) rfl _ _ rB _ _ _ _ rfl rfl rfl HB) rfl ⟨?_, hk9⟩
        rw [← hfin]
        rfl
end Go.Proofs.YtlghmjipnkmeeaaDoor
