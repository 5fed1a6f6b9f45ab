
/-
  session: what each state does, as the program has it (pure); the boxes of a call with a machine and an event.
-/
import Derived.Test.YtembdobkgpojfaaDoorSMh
namespace Go.Proofs.YtembdobkgpojfaaDoor
open Go.RowKit

namespace Sm
def pConn (m : M) (kd : Int) (x c s : Nat) (d : Bool) : M × List Act :=
  if kd = 2 then ends m.state true 6 2 false else if kd = 7 ∨ kd = 8 then ends m.state false c s d else if kd = 6 ∧ x = 2 then ends m.state false 4 0 false
  else if kd = 5 ∧ x = 3 then ends m.state false 0 0 false else if kd = 5 then ends m.state false 5 (m.state - 3) false else (m, [])
def pAgr (m : M) (kd : Int) (x c s : Nat) (d : Bool) : M × List Act :=
  if kd = 4 then ends m.state false 0 0 false else if kd = 6 ∧ x = 3 then (if m.hold = 0 then (m, []) else (m, [send 4, set 3 (m.hold / 3)])) else pConn m kd x c s d
def pEst (m : M) (kd : Int) (x c s : Nat) (d : Bool) : M × List Act :=
  if kd = 5 ∧ x = 4 then (m, holds m.hold) else if kd = 5 ∧ x = 2 then (m, holds m.hold ++ [a0 9]) else if kd = 5 ∧ x = 5 then (m, [a0 9]) else pAgr m kd x c s d
def pOC (m : M) (kd : Int) (x c s : Nat) (d : Bool) : M × List Act :=
  if kd = 5 ∧ x = 4 then (⟨6, m.hold⟩, holds m.hold ++ [a0 7]) else pAgr m kd x c s d
def pOS (m : M) (kd : Int) (x h c s : Nat) (d : Bool) : M × List Act :=
  if kd = 5 ∧ x = 1 then (⟨5, h⟩, send 4 :: if h = 0 then [unset 2] else [set 2 h, set 3 (h / 3)])
  else if kd = 4 then (⟨3, m.hold⟩, [a0 5, unset 2, set 1 120]) else pConn m kd x c s d
def pSeek (m : M) (kd : Int) (x : Nat) : M × List Act :=
  if kd = 2 then ends m.state true 0 0 false else if kd = 3 then (⟨4, m.hold⟩, [unset 1, send 1, set 2 240]) else if kd = 4 then (⟨3, m.hold⟩, [set 1 120])
  else if kd = 6 ∧ x = 1 then (⟨2, m.hold⟩, [set 1 120, a0 6]) else (m, [])
def pIdle (m : M) (kd : Int) (x : Nat) : M × List Act :=
  if kd = 1 ∨ (kd = 6 ∧ x = 1) then (⟨2, m.hold⟩, [set 1 120, a0 6]) else if kd = 2 then (m, [unset 1]) else (m, [])
/-- What a state does with an event that was judged. -/
def pAct (m : M) (kd : Int) (x h c s : Nat) (d : Bool) : M × List Act :=
  if m.state = 2 ∨ m.state = 3 then pSeek m kd x else if m.state = 4 then pOS m kd x h c s d else if m.state = 5 then pOC m kd x c s d else if m.state = 6 then pEst m kd x c s d else pIdle m kd x
theorem ends_d (st : Nat) (b : Bool) (c s : Nat) (bs : Bool) : (ends st b c s bs).1 = ⟨1, 0⟩ := rfl
set_option maxHeartbeats 8000000 in
theorem step_eq (m : M) (hm : Ok m) (kd ho : Int) (x c s : Nat) :
    step m ⟨kd, x, ho, c, s⟩ = (if kd = 5 ∧ (x < 1 ∨ 5 < x) then pAct m 7 0 0 1 3 false else if kd = 5 ∧ x = 1 ∧ ¬ (ho = 0 ∨ (3 ≤ ho ∧ ho ≤ 65535)) then pAct m 7 0 0 2 6 false else pAct m kd x ho.toNat c s true) := by
  obtain ⟨st, hd⟩ := m
  obtain ⟨h1, h2, h3, h4, h5, h6⟩ := hm
  simp only at h1 h2 h3 h4 h5 h6
  have hs : st = 1 ∨ st = 2 ∨ st = 3 ∨ st = 4 ∨ st = 5 ∨ st = 6 := by omega
  clear h1 h2 h3 h5 h6
  by_cases k5 : kd = 5
  · subst k5
    by_cases hx : x < 1 ∨ 5 < x
    · have hx' : x = 0 ∨ 5 < x := by omega
      obtain rfl | rfl | rfl | rfl | rfl | rfl := hs <;> simp [step, wrong, pAct, pSeek, pOS, pOC, pEst, pAgr, pConn, pIdle, hx']
    · have hx5 : x = 1 ∨ x = 2 ∨ x = 3 ∨ x = 4 ∨ x = 5 := by omega
      clear hx
      obtain rfl | rfl | rfl | rfl | rfl := hx5
      · by_cases hh : ho = 0 ∨ (3 ≤ ho ∧ ho ≤ 65535)
        · have hn : ¬ (ho < 0 ∨ ho = 1 ∨ ho = 2 ∨ 65535 < ho) := by omega
          obtain rfl | rfl | rfl | rfl | rfl | rfl := hs <;> simp [step, message, pAct, pSeek, pOS, pOC, pEst, pAgr, pConn, pIdle, hh, hn]
        · have hn : ho < 0 ∨ ho = 1 ∨ ho = 2 ∨ 65535 < ho := by omega
          obtain rfl | rfl | rfl | rfl | rfl | rfl := hs <;> simp [step, wrong, pAct, pSeek, pOS, pOC, pEst, pAgr, pConn, pIdle, hh, hn]
      all_goals
        obtain rfl | rfl | rfl | rfl | rfl | rfl := hs <;> simp [step, message, pAct, pSeek, pOS, pOC, pEst, pAgr, pConn, pIdle]
  · obtain rfl | rfl | rfl | rfl | rfl | rfl := hs
    all_goals
      simp at h4
      try subst h4
      by_cases k1 : kd = 1
      · subst k1; simp [step, early, pAct, pSeek, pOS, pOC, pEst, pAgr, pConn, pIdle]
      by_cases k2 : kd = 2
      · subst k2; simp [step, early, pAct, pSeek, pOS, pOC, pEst, pAgr, pConn, pIdle]
      by_cases k3 : kd = 3
      · subst k3; simp [step, early, pAct, pSeek, pOS, pOC, pEst, pAgr, pConn, pIdle]
      by_cases k4 : kd = 4
      · subst k4; simp [step, early, pAct, pSeek, pOS, pOC, pEst, pAgr, pIdle]
      by_cases k7 : kd = 7
      · subst k7; simp [step, early, pAct, pSeek, pOS, pOC, pEst, pAgr, pConn, pIdle]
      by_cases k8 : kd = 8
      · subst k8; simp [step, early, pAct, pSeek, pOS, pOC, pEst, pAgr, pConn, pIdle]
      by_cases k6 : kd = 6
      · subst k6
        by_cases x1 : x = 1
        · subst x1; simp [step, early, pAct, pSeek, pOS, pOC, pEst, pAgr, pConn, pIdle]
        by_cases x2 : x = 2
        · subst x2; simp [step, early, pAct, pSeek, pOS, pOC, pEst, pAgr, pConn, pIdle]
        by_cases x3 : x = 3
        · subst x3
          first
            | (simp [step, early, pAct, pSeek, pOS, pOC, pEst, pAgr, pConn, pIdle]; done)
            | (by_cases hz : hd = 0
               · subst hz; simp [step, pAct, pOC, pEst, pAgr]
               · have hz' : 0 < hd := by omega
                 simp [step, pAct, pOC, pEst, pAgr, hz, hz'])
        simp [step, early, pAct, pSeek, pOS, pOC, pEst, pAgr, pConn, pIdle, x1, x2, x3]
      simp [step, early, pAct, pSeek, pOS, pOC, pEst, pAgr, pConn, pIdle, k1, k2, k3, k4, k5, k6, k7, k8]
end Sm

/-- The four variables of the package. -/
def RdS (w : World) : Prop :=
  (w.cell? ⟨1, 0, none⟩ = some (.int .u8 1) ∧ w.cell? ⟨1, 1, none⟩ = some (.int .u8 3)) ∧
  (w.cell? ⟨2, 0, none⟩ = some (.int .u8 2) ∧ w.cell? ⟨2, 1, none⟩ = some (.int .u8 6)) ∧
  (w.cell? ⟨6, 0, none⟩ = some (.int .u8 4) ∧ w.cell? ⟨6, 1, none⟩ = some (.int .u8 0)) ∧
  (w.cell? ⟨5, 0, none⟩ = some (.int .u8 6) ∧ w.cell? ⟨5, 1, none⟩ = some (.int .u8 2))
theorem RdS.old {w w' : World} (h : RdS w) (k : Kept Nothing w w') : RdS w' :=
  ⟨⟨k.cell_some h.1.1 (fun x => x), k.cell_some h.1.2 (fun x => x)⟩, ⟨k.cell_some h.2.1.1 (fun x => x), k.cell_some h.2.1.2 (fun x => x)⟩, ⟨k.cell_some h.2.2.1.1 (fun x => x), k.cell_some h.2.2.1.2 (fun x => x)⟩, ⟨k.cell_some h.2.2.2.1 (fun x => x), k.cell_some h.2.2.2.2 (fun x => x)⟩⟩
/-- The boxes of a call with a machine and an event. -/
structure Bx (w u : World) (st hd kd ho : Int) (x c s : Nat) (A : Option Addr) (n cc : Nat) : Prop where
  k : Kept Nothing w u
  m : Blk u w.heap.size 24 #[.int .i64 st, .int .i64 hd]
  e : Blk u (w.heap.size + 1) 31 #[.int .i64 kd, .int .u8 x, .int .i64 ho, .int .u8 c, .int .u8 s, .slice A n cc]
  r : Blk u (w.heap.size + 1 + 1) 24 #[.int .i64 0, .int .i64 0]
section
variable {w u u' : World} {st hd kd ho : Int} {x c s : Nat} {A : Option Addr} {n cc : Nat}
theorem Bx.make : Bx w (((w.alloc (.cells #[.int .i64 st, .int .i64 hd] 24)).alloc (.cells #[.int .i64 kd, .int .u8 x, .int .i64 ho, .int .u8 c, .int .u8 s, .slice A n cc] 31)).alloc (.cells #[.int .i64 0, .int .i64 0] 24)) st hd kd ho x c s A n cc := by
  obtain ⟨h1, h2, h3, h4⟩ := boxes3 w 24 31 24 #[.int .i64 st, .int .i64 hd] #[.int .i64 kd, .int .u8 x, .int .i64 ho, .int .u8 c, .int .u8 s, .slice A n cc] #[.int .i64 0, .int .i64 0]
  exact ⟨h4, h1, h2, h3⟩
theorem Bx.old (h : Bx w u st hd kd ho x c s A n cc) (k : Kept Nothing u u') : Bx w u' st hd kd ho x c s A n cc := ⟨h.k.trans k, h.m.kept k (fun x => x), h.e.kept k (fun x => x), h.r.kept k (fun x => x)⟩
theorem Bx.ecells (h : Bx w u st hd kd ho x c s A n cc) : u.cell? ⟨w.heap.size + 1, 0, none⟩ = some (.int .i64 kd) ∧ u.cell? ⟨w.heap.size + 1, 1, none⟩ = some (.int .u8 x) ∧ u.cell? ⟨w.heap.size + 1, 2, none⟩ = some (.int .i64 ho) ∧ u.cell? ⟨w.heap.size + 1, 3, none⟩ = some (.int .u8 c) ∧ u.cell? ⟨w.heap.size + 1, 4, none⟩ = some (.int .u8 s) ∧ u.cell? ⟨w.heap.size + 1, 5, none⟩ = some (.slice A n cc) :=
  ⟨h.e.cell 0, h.e.cell 1, h.e.cell 2, h.e.cell 3, h.e.cell 4, h.e.cell 5⟩
/-- The state is laid in the machine's box. -/
theorem Bx.state (h : Bx w u st hd kd ho x c s A n cc) (z : Int) : Bx w (u.setCell ⟨w.heap.size, 0, none⟩ (.int .i64 z)) z hd kd ho x c s A n cc := by
  have k := Kept.own u w.heap.size 0 (.int .i64 z)
  exact ⟨h.k.trans_new k (fun i hi (e : i = w.heap.size) => by omega), h.m.put 0 _, h.e.kept k (fun (e : w.heap.size + 1 = w.heap.size) => by omega), h.r.kept k (fun (e : w.heap.size + 1 + 1 = w.heap.size) => by omega)⟩
/-- What a callee answers is handed on. -/
theorem Bx.on {bs : List UInt8} {r : Sm.M × List Sm.Act} {Az : Option Addr} {cz : Nat} (h : Bx w u st hd kd ho x c s A n cc) (ha : Acs .u8 u' (.slice Az r.2.length cz) r.2 bs) (hk : Kept Nothing u u') :
    Res .u8 w ((u'.setCell ⟨w.heap.size + 1 + 1, 0, none⟩ (.int .i64 r.1.state)).setCell ⟨w.heap.size + 1 + 1, 1, none⟩ (.int .i64 r.1.hold)) (.returned (.tuple #[.agg #[.int .i64 (r.1.state : Int), .int .i64 (r.1.hold : Int)], .slice Az r.2.length cz])) r bs :=
  res_fin2 rfl ha (h.r.kept hk (fun x => x)) (h.k.trans hk) (by omega)
end
end Go.Proofs.YtembdobkgpojfaaDoor
