
/-
  session: the document's Do, all of it; the law SessionRuns.
-/
import Derived.Test.YtembdobkgpojfaaDoorSOe
import Derived.Test.YtembdobkgpojfaaDoorSOf
import Derived.Test.YtembdobkgpojfaaDoorSOg
import Derived.Test.YtembdobkgpojfaaDoorSOh
namespace Go.Proofs.YtembdobkgpojfaaDoor
open Go.RowKit

theorem beqf {a b : Int} (h : a ≠ b) : (a == b) = false := by simpa using h
theorem rs_do (m : Sm.M) (hm : Sm.Ok m) (kd ho : Int) (x c s : Nat) (A : Option Addr) (n cc : Nat) (w : World) :
    Calls Tryd.prog 11 #[.agg #[.int .i64 m.state, .int .i64 m.hold], .agg #[.int .i64 kd, .int .i64 x, .int .i64 ho, .int .i64 c, .int .i64 s, .slice A n cc]] w fun e w' => RR (.slice A n cc) w w' e (Sm.step m ⟨kd, x, ho, c, s⟩) := by
  obtain ⟨st, hd⟩ := m
  obtain ⟨h1, h2, h3, h4, h5, h6⟩ := hm
  simp only at h1 h2 h3 h4 h5 h6 ⊢
  have ho1 : ho = 1 ∨ ho = 2 ∨ ho < 0 ∨ 65535 < ho ∨ (0 ≤ ho ∧ ho ≠ 1 ∧ ho ≠ 2 ∧ ho ≤ 65535) := by omega
  by_cases k5 : kd = 5
  · subst k5
    rcases Nat.lt_trichotomy st 4 with hst | rfl | hst
    · obtain rfl := h4 (by omega)
      by_cases x0 : x < 1
      · exact rs_do_lt4_w0 st x ho c s A n cc w (by omega) (by omega) (by omega)
      by_cases x5 : 5 < x
      · exact rs_do_lt4_w1 st x ho c s A n cc w (by omega) (by omega) (by omega) (by omega)
      by_cases x1 : x = 1
      · subst x1
        rcases ho1 with rfl | rfl | hh | hh | ⟨a, b, d, e⟩
        · exact rs_do_lt4_z1 st c s A n cc w (by omega) (by omega)
        · exact rs_do_lt4_z2 st c s A n cc w (by omega) (by omega)
        · exact rs_do_lt4_w2 st ho c s A n cc w (by omega) (by omega) hh
        · exact rs_do_lt4_w3 st ho c s A n cc w (by omega) (by omega) (by omega) (beqf (by omega)) (beqf (by omega)) hh
        · exact rs_do_lt4_m1 st ho c s A n cc w (by omega) (by omega) a (beqf b) (beqf d) e
      · exact rs_do_lt4_mx st x ho c s A n cc w (by omega) (by omega) (by omega) (by omega) (beqf (by omega))
    · obtain rfl := h4 (by omega)
      by_cases x0 : x < 1
      · exact rs_do_eq4_w0 x ho c s A n cc w (by omega)
      by_cases x5 : 5 < x
      · exact rs_do_eq4_w1 x ho c s A n cc w (by omega) (by omega)
      by_cases x1 : x = 1
      · subst x1
        rcases ho1 with rfl | rfl | hh | hh | ⟨a, b, d, e⟩
        · exact rs_do_eq4_z1 c s A n cc w
        · exact rs_do_eq4_z2 c s A n cc w
        · exact rs_do_eq4_w2 ho c s A n cc w hh
        · exact rs_do_eq4_w3 ho c s A n cc w (by omega) (beqf (by omega)) (beqf (by omega)) hh
        · exact rs_do_eq4_m1 ho c s A n cc w a (beqf b) (beqf d) e
      by_cases x3 : x = 3
      · subst x3
        exact rs_do_eq4_m3 ho c s A n cc w
      · exact rs_do_eq4_mx x ho c s A n cc w (by omega) (by omega) (beqf (by omega)) (beqf (by omega))
    · by_cases x0 : x < 1
      · exact rs_do_ge5_w0 st hd x ho c s A n cc w (by omega) (by omega) (by omega)
      by_cases x5 : 5 < x
      · exact rs_do_ge5_w1 st hd x ho c s A n cc w (by omega) (by omega) (by omega) (by omega)
      by_cases x1 : x = 1
      · subst x1
        rcases ho1 with rfl | rfl | hh | hh | ⟨a, b, d, e⟩
        · exact rs_do_ge5_z1 st hd c s A n cc w (by omega) (by omega)
        · exact rs_do_ge5_z2 st hd c s A n cc w (by omega) (by omega)
        · exact rs_do_ge5_w2 st hd ho c s A n cc w (by omega) (by omega) hh
        · exact rs_do_ge5_w3 st hd ho c s A n cc w (by omega) (by omega) (by omega) (beqf (by omega)) (beqf (by omega)) hh
        · exact rs_do_ge5_m1 st hd ho c s A n cc w (by omega) (by omega) a (beqf b) (beqf d) e
      by_cases x3 : x = 3
      · subst x3
        exact rs_do_ge5_m3 st hd ho c s A n cc w (by omega) (by omega)
      · exact rs_do_ge5_mx st hd x ho c s A n cc w (by omega) (by omega) (by omega) (by omega) (beqf (by omega)) (beqf (by omega))
  · have hk : kd = 2 ∨ kd = 4 ∨ kd = 6 ∨ kd = 7 ∨ kd = 8 ∨ (kd ≠ 2 ∧ kd ≠ 4 ∧ kd ≠ 5 ∧ kd ≠ 6 ∧ kd ≠ 7 ∧ kd ≠ 8) := by omega
    rcases Nat.lt_trichotomy st 4 with hst | rfl | hst
    · obtain rfl := h4 (by omega)
      exact rs_do_lt4_n st kd x ho c s A n cc w (by omega) (by omega) (beqf k5)
    · obtain rfl := h4 (by omega)
      rcases hk with rfl | rfl | rfl | rfl | rfl | ⟨a1, a2, a3, a4, a5, a6⟩
      · exact rs_do_eq4_k2 x ho c s A n cc w
      · exact rs_do_eq4_k4 x ho c s A n cc w
      · by_cases x2 : x = 2
        · subst x2; exact rs_do_eq4_k62 ho c s A n cc w
        by_cases x3 : x = 3
        · subst x3; exact rs_do_eq4_k63 ho c s A n cc w
        · exact rs_do_eq4_k6x x ho c s A n cc w (beqf (by omega)) (beqf (by omega))
      · exact rs_do_eq4_k7 x ho c s A n cc w
      · exact rs_do_eq4_k8 x ho c s A n cc w
      · exact rs_do_eq4_ko kd x ho c s A n cc w (beqf a1) (beqf a2) (beqf a3) (beqf a4) (beqf a5) (beqf a6)
    · rcases hk with rfl | rfl | rfl | rfl | rfl | ⟨a1, a2, a3, a4, a5, a6⟩
      · exact rs_do_ge5_k2 st hd x ho c s A n cc w (by omega) (by omega)
      · exact rs_do_ge5_k4 st hd x ho c s A n cc w (by omega) (by omega)
      · by_cases x2 : x = 2
        · subst x2; exact rs_do_ge5_k62 st hd ho c s A n cc w (by omega) (by omega)
        by_cases x3 : x = 3
        · subst x3
          by_cases hz : hd = 0
          · exact rs_do_ge5_k63z st hd ho c s A n cc w (by omega) (by omega) hz
          · exact rs_do_ge5_k63h st hd ho c s A n cc w (by omega) (by omega) (by omega) h3
        · exact rs_do_ge5_k6x st hd x ho c s A n cc w (by omega) (by omega) (beqf (by omega)) (beqf (by omega))
      · exact rs_do_ge5_k7 st hd x ho c s A n cc w (by omega) (by omega)
      · exact rs_do_ge5_k8 st hd x ho c s A n cc w (by omega) (by omega)
      · exact rs_do_ge5_ko st hd kd x ho c s A n cc w (by omega) (by omega) (beqf a1) (beqf a2) (beqf a3) (beqf a4) (beqf a5) (beqf a6)
/-- The two machines. -/
structure Sr (W u : World) (mB : Nat) (m : Sm.M) : Prop where
  kk : Kept Nothing W u
  mm : Blk u mB 24 #[.int .i64 m.state, .int .i64 m.hold]
  ww : Blk u (mB + 1) 26 #[.int .i64 m.state, .int .i64 m.hold]
  hm : W.heap.size ≤ mB
  ok : Sm.Ok m
theorem Sr.old {W u u' : World} {mB : Nat} {m : Sm.M} (h : Sr W u mB m) (k : Kept Nothing u u') : Sr W u' mB m := ⟨h.kk.trans k, h.mm.kept k (fun x => x), h.ww.kept k (fun x => x), h.hm, h.ok⟩
/-- The program's is a step ahead. -/
structure Sr1 (W u : World) (mB : Nat) (m m2 : Sm.M) : Prop where
  kk : Kept Nothing W u
  mm : Blk u mB 24 #[.int .i64 m2.state, .int .i64 m2.hold]
  ww : Blk u (mB + 1) 26 #[.int .i64 m.state, .int .i64 m.hold]
  hm : W.heap.size ≤ mB
theorem Sr1.old {W u u' : World} {mB : Nat} {m m2 : Sm.M} (h : Sr1 W u mB m m2) (k : Kept Nothing u u') : Sr1 W u' mB m m2 := ⟨h.kk.trans k, h.mm.kept k (fun x => x), h.ww.kept k (fun x => x), h.hm⟩
theorem Sr.step {W u : World} {mB : Nat} {m : Sm.M} (h : Sr W u mB m) (m2 : Sm.M) : Sr1 W ((u.setCell ⟨mB, 0, none⟩ (.int .i64 m2.state)).setCell ⟨mB, 1, none⟩ (.int .i64 m2.hold)) mB m m2 := by
  have kk := kept_two (v := u) mB (.int .i64 (m2.state : Int)) (.int .i64 (m2.hold : Int))
  have hh := h.hm
  exact ⟨h.kk.trans_new kk (fun i hi (e : i = mB) => by omega), (h.mm.put 0 _).put 1 _, h.ww.kept kk (fun (e : mB + 1 = mB) => by omega), h.hm⟩
theorem Sr1.step {W u : World} {mB : Nat} {m m2 : Sm.M} (h : Sr1 W u mB m m2) (ho : Sm.Ok m2) : Sr W ((u.setCell ⟨mB + 1, 0, none⟩ (.int .i64 m2.state)).setCell ⟨mB + 1, 1, none⟩ (.int .i64 m2.hold)) mB m2 := by
  have kk := kept_two (v := u) (mB + 1) (.int .i64 (m2.state : Int)) (.int .i64 (m2.hold : Int))
  have hh := h.hm
  exact ⟨h.kk.trans_new kk (fun i hi (e : i = mB + 1) => by omega), h.mm.kept kk (fun (e : mB = mB + 1) => by omega), (h.ww.put 0 _).put 1 _, h.hm, ho⟩
/-- Actions off a block of two whole numbers. -/
theorem Acs.mach2 {k : IntKind} {w w' : World} {v : Value} {l : List Sm.Act} {bs : List UInt8} {g : Nat} {t : TypeId} {x y : Int} (h : Acs k w v l bs) (hB : Blk w g t #[.int .i64 x, .int .i64 y]) (kk : Kept (Only g) w w') : Acs k w' v l bs := h.mach hB kk
/-- The event's box behind the machines. -/
def Eb (u : World) (mB eB : Nat) (e : Sm.Ev) (dv : Value) : Prop := mB + 1 < eB ∧ Blk u eB 31 #[.int .i64 e.kind, .int .u8 e.what, .int .i64 e.hold, .int .u8 e.code, .int .u8 e.sub, dv]
theorem Eb.old {u u' : World} {mB eB : Nat} {e : Sm.Ev} {dv : Value} (h : Eb u mB eB e dv) {S : Nat → Prop} (k : Kept S u u') (hS : ∀ i, S i → i ≤ mB + 1) : Eb u' mB eB e dv := ⟨h.1, h.2.kept k (fun x => by have := hS _ x; have := h.1; omega)⟩
theorem Eb.cells {u : World} {mB eB : Nat} {e : Sm.Ev} {dv : Value} (h : Eb u mB eB e dv) : u.cell? ⟨eB, 0, none⟩ = some (.int .i64 e.kind) ∧ u.cell? ⟨eB, 1, none⟩ = some (.int .u8 e.what) ∧ u.cell? ⟨eB, 2, none⟩ = some (.int .i64 e.hold) ∧ u.cell? ⟨eB, 3, none⟩ = some (.int .u8 e.code) ∧ u.cell? ⟨eB, 4, none⟩ = some (.int .u8 e.sub) ∧ u.cell? ⟨eB, 5, none⟩ = some dv :=
  ⟨h.2.cell 0, h.2.cell 1, h.2.cell 2, h.2.cell 3, h.2.cell 4, h.2.cell 5⟩
set_option maxRecDepth 100000 in
set_option maxHeartbeats 16000000 in
theorem runs_law (v : Value) (l : List EvB) (W : World) (hR : RdS W) (hl : Evs W v l) (hsm : ∀ p ∈ l, p.1.what < 256 ∧ p.1.code < 256 ∧ p.1.sub < 256) :
    Calls Tryd.prog 3 #[v] W fun e w' => e = .returned (.bool true) ∧ Kept Nothing W w' := by
  obtain ⟨A, cc, rfl, hlm, hdb, hp⟩ := hl
  unfold maxLen at hlm
  have HR := Lib.hid hR
  have HP := Lib.hid hp
  have HD := Lib.hid hdb
  have HSM := Lib.hid hsm
  have HT := Lib.hid (fun u (k : Kept Nothing W u) => s_tells u (hR.old k))
  clear hR hp hdb hsm
  go_enter Tryd.func3, Tryd.ntmps3
  go_wp2_with fail
  refine (se_new _).mono ?_
  rintro e w1 ⟨rfl, hk⟩
  have wb := (Blk.fresh (w1.alloc (.cells #[.int .i64 1, .int .i64 0] 24)) 26 #[.int .i64 1, .int .i64 0])
  rw [World.size_alloc] at wb
  have S0 : Hid (Sr W ((w1.alloc (.cells #[.int .i64 1, .int .i64 0] 24)).alloc (.cells #[.int .i64 1, .int .i64 0] 26)) w1.heap.size ⟨1, 0⟩) :=
    Lib.hid ⟨(hk.alloc _).alloc _, (Blk.fresh w1 24 #[.int .i64 1, .int .i64 0]).alloc _, wb, hk.size, Sm.ok_new⟩
  clear wb hk
  go_wp2
  change Code.wp _ _ _ _ ((w1.alloc (.cells #[.int .i64 1, .int .i64 0] 24)).alloc (.cells #[.int .i64 1, .int .i64 0] 26))
  generalize (w1.alloc (.cells #[.int .i64 1, .int .i64 0] 24)).alloc (.cells #[.int .i64 1, .int .i64 0] 26) = w2 at *
  generalize w1.heap.size = mB at *
  go_loopw [5] (fun i wr => ∃ k : Nat, i = .int .i64 (k : Int) ∧ k ≤ l.length ∧ k ≤ 60 ∧ Hid (∃ m, Sr W wr mB m)) (fun i _ => l.length - (intOf i).toNat)
  case atStart => exact ⟨0, rfl, by omega, by omega, Lib.hid ⟨_, S0.out⟩⟩
  case round =>
    clear S0
    obtain ⟨k, rfl, hkl, hk60, hS⟩ := hrel
    by_cases hlt : k < l.length
    · have hlt' : (k : Int) < (l.length : Int) := by omega
      by_cases h60 : k < 60
      · have h60' : (k : Int) < 60 := by omega
        obtain ⟨b0, o0, rfl, hcp⟩ := HP.out (by omega)
        obtain ⟨m, hX⟩ := hS.out
        obtain ⟨dA, dn, dc, hby, e0, e1, e2, e3, e4, e5⟩ := hcp k hlt
        obtain ⟨b1, b2, b3⟩ := HSM.out _ (List.getElem_mem hlt)
        have hbl := HD.out _ (List.getElem_mem hlt)
        generalize hbs : l[k].2 = bs at *
        generalize hev : l[k].1 = e at *
        replace e0 := hX.kk.cell_some e0 (fun x => x)
        replace e1 := hX.kk.cell_some e1 (fun x => x)
        replace e2 := hX.kk.cell_some e2 (fun x => x)
        replace e3 := hX.kk.cell_some e3 (fun x => x)
        replace e4 := hX.kk.cell_some e4 (fun x => x)
        replace e5 := hX.kk.cell_some e5 (fun x => x)
        clear hbs hev hcp hS
        obtain ⟨C, cx, hfe, hn1, hn2⟩ := hby.form
        injection hfe with f1 f2 f3
        subst f1 f2 f3
        obtain ⟨q, hq, hqn, hq2⟩ : ∃ q : Nat, (if (20 : Int) < (bs.length : Int) then (20 : Int) else (bs.length : Int)) = (q : Int) ∧ q ≤ bs.length ∧ q ≤ 20 := ⟨min bs.length 20, by split <;> omega, by omega, by omega⟩
        have HB : Hid (By W (.slice dA q dc) (bs.take q)) := Lib.hid (hby.pre hqn)
        have HBL : Hid ((bs.take q).length ≤ 140737488355328) := Lib.hid (by rw [List.length_take]; omega)
        have k0 := (Kept.refl Nothing wr).alloc (.cells #[.int .i64 e.kind, .int .u8 e.what, .int .i64 e.hold, .int .u8 e.code, .int .u8 e.sub, .slice dA q dc] 31)
        have SX := Lib.hid (hX.old k0)
        have hsz : mB + 1 < wr.heap.size := hX.ww.lt
        have SE : Hid (Eb (wr.alloc (.cells #[.int .i64 e.kind, .int .u8 e.what, .int .i64 e.hold, .int .u8 e.code, .int .u8 e.sub, .slice dA q dc] 31)) mB wr.heap.size e (.slice dA q dc)) := Lib.hid ⟨hsz, Blk.fresh wr _ _⟩
        have HE := Lib.hid (And.intro b1 (And.intro b2 b3))
        have hqc : bs.length ≤ dc := hn1
        clear hX hbl hby k0 hsz b1 b2 b3 hn1 hn2
        generalize hbq : bs.take q = bq at *
        have hqi1 : (q : Int) ≤ (bs.length : Int) := by omega
        have HLT := Lib.hid hlt
        obtain ⟨m2, acts, hst⟩ : ∃ m2 acts, Sm.step m e = (m2, acts) := ⟨_, _, rfl⟩
        have hok2 : Sm.Ok m2 := by have := Sm.ok_step m e SX.out.ok; rwa [hst] at this
        have hsm2 : ∀ a ∈ acts, a.sm := by have := Sm.step_sm m SX.out.ok e HE.out.2.1 HE.out.2.2; rw [hst] at this; exact this
        have HDo : Hid (∀ u, Kept Nothing W u → Calls Tryd.prog 10 #[.agg #[.int .i64 m.state, .int .i64 m.hold], .agg #[.int .i64 e.kind, .int .u8 e.what, .int .i64 e.hold, .int .u8 e.code, .int .u8 e.sub, .slice dA q dc]] u fun e' w' => Res .u8 u w' e' (m2, acts) bq) :=
          Lib.hid (fun u hu => by rw [← hst]; exact se_do m.state m.hold m SX.out.ok (Nm.self m) e.kind e.hold e.what e.code e.sub dA q dc bq u (HR.out.old hu) (HB.out.old hu) HBL.out)
        have HRf : Hid (∀ u, Kept Nothing W u → Calls Tryd.prog 11 #[.agg #[.int .i64 m.state, .int .i64 m.hold], .agg #[.int .i64 e.kind, .int .i64 e.what, .int .i64 e.hold, .int .i64 e.code, .int .i64 e.sub, .slice dA q dc]] u fun e' w' => RR (.slice dA q dc) u w' e' (m2, acts)) :=
          Lib.hid (fun u _ => by rw [← hst]; exact rs_do m SX.out.ok e.kind e.hold e.what e.code e.sub dA q dc u)
        have HOF : Hid (∀ u, Calls Tryd.prog 12 #[.agg #[.int .i64 e.kind, .int .u8 e.what, .int .i64 e.hold, .int .u8 e.code, .int .u8 e.sub, .slice dA q dc]] u fun e' w' => e' = .returned (.agg #[.int .i64 e.kind, .int .i64 e.what, .int .i64 e.hold, .int .i64 e.code, .int .i64 e.sub, .slice dA q dc]) ∧ Kept Nothing u w') :=
          Lib.hid (fun u => s_of e.kind e.hold e.what e.code e.sub HE.out.1 HE.out.2.1 HE.out.2.2 dA q dc u)
        have HS2 := Lib.hid hsm2
        have HO2 := Lib.hid hok2
        clear hst hok2 hsm2 HE HBL hlt hq2
        go_upto_region 7 with fail
        change Code.wp _ _ _ _ (wr.alloc (.cells #[.int .i64 e.kind, .int .u8 e.what, .int .i64 e.hold, .int .u8 e.code, .int .u8 e.sub, .slice dA q dc] 31))
        generalize wr.alloc (.cells #[.int .i64 e.kind, .int .u8 e.what, .int .i64 e.hold, .int .u8 e.code, .int .u8 e.sub, .slice dA q dc] 31) = w3 at *
        generalize wr.heap.size = eB at *
        clear e0 e1 e2 e3 e4 e5 hq hqi1 hqc hqn
        obtain ⟨m0, m1, -, -⟩ := mcells SX.out.mm
        obtain ⟨y0, y1, y2, y3, y4, y5⟩ := SE.out.cells
        go_upto_region 10 with (go_at_call 10; refine (HDo.out _ (by exact SX.out.kk)).mono ?_; rintro e' w4 ⟨A4, c4, rfl, ha4, hk4⟩; (have S4 := Lib.hid (SX.out.old hk4)); (have E4 := Lib.hid (SE.out.old hk4 nothing_le)); (have P4 := Lib.hid ha4); (obtain ⟨n0, n1, n2, n3⟩ := mcells S4.out.mm); clear ha4 hk4)
        have S5 := Lib.hid (S4.out.step m2)
        have E5 := Lib.hid (E4.out.old (kept_two (v := w4) mB (.int .i64 (m2.state : Int)) (.int .i64 (m2.hold : Int))) (only_le (by omega)))
        have P5 := Lib.hid (P4.out.mach S4.out.mm (kept_two (v := w4) mB (.int .i64 (m2.state : Int)) (.int .i64 (m2.hold : Int))))
        clear S4 E4 P4 SX SE m0 m1 y0 y1 y2 y3 y4 y5 n0 n1 n2 n3 HDo
        generalize (w4.setCell ⟨mB, 0, none⟩ (.int .i64 (m2.state : Int))).setCell ⟨mB, 1, none⟩ (.int .i64 (m2.hold : Int)) = w5 at *
        have K5 := Lib.hid S5.out.kk.drew
        have x0 : w5.cell? ⟨mB + 1, 0, none⟩ = some (.int .i64 m.state) := S5.out.ww.cell 0
        have x1 : w5.cell? ⟨mB + 1, 1, none⟩ = some (.int .i64 m.hold) := S5.out.ww.cell 1
        obtain ⟨y0, y1, y2, y3, y4, y5⟩ := E5.out.cells
        have S5d : Hid (Sr1 W w5.drew mB m m2) := Lib.hid (S5.out.old (Kept.refl Nothing w5).drew)
        have P5d : Hid (Acs .u8 w5.drew (.slice A4 acts.length c4) acts bq) := Lib.hid (P5.out.old (Kept.refl Nothing w5).drew)
        go_region_law (first
          | (go_simp; go_at_call 12; refine (HOF.out w5.drew).mono ?_; rintro e' w6 ⟨rfl, hk6⟩; (have S6 := Lib.hid (S5d.out.old hk6)); (have P6 := Lib.hid (P5d.out.old hk6)); (have z0 : w6.cell? ⟨mB + 1, 0, none⟩ = some (.int .i64 m.state) := S6.out.ww.cell 0); (have z1 : w6.cell? ⟨mB + 1, 1, none⟩ = some (.int .i64 m.hold) := S6.out.ww.cell 1); clear hk6)
          | (go_simp; go_at_call 11; refine (HRf.out w6 S6.out.kk).mono ?_; rintro e' w7 ⟨A7, n7, c7, rfl, hn7, ho7, hk7⟩; (have S7 := Lib.hid (S6.out.old hk7)); (have P7 := Lib.hid (P6.out.old hk7)); (obtain ⟨t0, t1, t2, t3⟩ := mcellsR S7.out.ww); (have R7 : Hid (n7 = acts.length ∧ Acs .i64 w7 (.slice A7 n7 c7) acts bq) := Lib.hid ⟨hn7, Acs.of_own (by simp only at hn7; rw [← hn7]; exact ho7) (HB.out.old S7.out.kk)⟩); clear hn7 ho7 hk7))
        all_goals
          have hn7 := R7.out.1
          subst hn7
          have kk8 := kept_two (v := w7) (mB + 1) (.int .i64 (m2.state : Int)) (.int .i64 (m2.hold : Int))
          have S8 := Lib.hid (S7.out.step HO2.out)
          have P8 := Lib.hid (P7.out.mach S7.out.ww kk8)
          have R8 := Lib.hid (R7.out.2.mach S7.out.ww kk8)
          clear S7 P7 R7 kk8 t0 t1 t2 t3 S5 S5d P5 P5d E5 K5 y0 y1 y2 y3 y4 y5 x0 x1 S6 P6
          try clear z0 z1
          generalize (w7.setCell ⟨mB + 1, 0, none⟩ (.int .i64 (m2.state : Int))).setCell ⟨mB + 1, 1, none⟩ (.int .i64 (m2.hold : Int)) = w8 at *
          obtain ⟨m0, m1, -, -⟩ := mcells S8.out.mm
          obtain ⟨t0, t1, -, -⟩ := mcellsR S8.out.ww
          have q1 : ((m2.state : Int) == (m2.state : Int)) = true := beq_self_eq_true _
          have q2 : ((m2.hold : Int) == (m2.hold : Int)) = true := beq_self_eq_true _
          go_wp2_with (go_at_call 13; refine (s_like acts bq HS2.out A4 c4 A7 c7 w8 P8.out R8.out).mono ?_; rintro e' w9 ⟨rfl, hk9⟩; (have S9 := Lib.hid (S8.out.old hk9)); clear hk9)
          go_roundw
          case rel => exact ⟨k + 1, by go_num, by have := HLT.out; omega, by omega, Lib.hid ⟨_, S9.out⟩⟩
          case measure => simp [intOf]; omega
      · obtain rfl : k = 60 := by omega
        obtain ⟨m, hX⟩ := hS.out
        have HX := Lib.hid hX.kk
        clear hX hS
        go_wp2_with (go_at_call 14; refine (HT.out _ (by exact HX.out)).mono ?_; rintro e' w8 ⟨rfl, hk8⟩)
        go_ret
        exact ⟨rfl, HX.out.trans hk8⟩
    · obtain rfl : k = l.length := by omega
      obtain ⟨m, hX⟩ := hS.out
      have HX := Lib.hid hX.kk
      clear hX hS
      go_wp2_with (go_at_call 14; refine (HT.out _ (by exact HX.out)).mono ?_; rintro e' w8 ⟨rfl, hk8⟩)
      go_ret
      exact ⟨rfl, HX.out.trans hk8⟩
end Go.Proofs.YtembdobkgpojfaaDoor
