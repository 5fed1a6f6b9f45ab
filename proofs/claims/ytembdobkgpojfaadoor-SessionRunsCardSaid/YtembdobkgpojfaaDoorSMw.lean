
/-
  session: rows of events; a machine and its watch in memory.
-/
import Derived.Test.YtembdobkgpojfaaDoorSMu
import Derived.Test.YtembdobkgpojfaaDoorSMv
namespace Go.Proofs.YtembdobkgpojfaaDoor
open Go.RowKit

abbrev EvB := Sm.Ev × List UInt8
/-- The slice value v reads as the events l, each with its data. -/
def Evs (w : World) (v : Value) (l : List EvB) : Prop :=
  ∃ A c, v = .slice A l.length c ∧ l.length ≤ maxLen ∧ (∀ p ∈ l, p.2.length ≤ 140737488355328) ∧ (0 < l.length → ∃ b o, A = some ⟨b, o, none⟩ ∧ ∀ i (hi : i < l.length), ∃ dA dn dc, By w (.slice dA dn dc) l[i].2 ∧
    w.cell? ⟨b, o + i * 6, none⟩ = some (.int .i64 l[i].1.kind) ∧ w.cell? ⟨b, o + i * 6 + 1, none⟩ = some (.int .u8 l[i].1.what) ∧ w.cell? ⟨b, o + i * 6 + 2, none⟩ = some (.int .i64 l[i].1.hold) ∧
    w.cell? ⟨b, o + i * 6 + 3, none⟩ = some (.int .u8 l[i].1.code) ∧ w.cell? ⟨b, o + i * 6 + 4, none⟩ = some (.int .u8 l[i].1.sub) ∧ w.cell? ⟨b, o + i * 6 + 5, none⟩ = some (.slice dA dn dc))
/-- One event's cells, where the world has grown. -/
theorem Evs.at {W w : World} {b o n : Nat} {l : List EvB} (h : ∀ i (hi : i < l.length), ∃ dA dn dc, By W (.slice dA dn dc) l[i].2 ∧
    W.cell? ⟨b, o + i * 6, none⟩ = some (.int .i64 l[i].1.kind) ∧ W.cell? ⟨b, o + i * 6 + 1, none⟩ = some (.int .u8 l[i].1.what) ∧ W.cell? ⟨b, o + i * 6 + 2, none⟩ = some (.int .i64 l[i].1.hold) ∧
    W.cell? ⟨b, o + i * 6 + 3, none⟩ = some (.int .u8 l[i].1.code) ∧ W.cell? ⟨b, o + i * 6 + 4, none⟩ = some (.int .u8 l[i].1.sub) ∧ W.cell? ⟨b, o + i * 6 + 5, none⟩ = some (.slice dA dn dc)) (k : Kept Nothing W w) (hd : ∀ p ∈ l, p.2.length ≤ 140737488355328) (hi : n < l.length) :
    ∃ (e : Sm.Ev) (bs : List UInt8) (dA : Option Addr) (dn dc : Nat), bs.length ≤ 140737488355328 ∧ By W (.slice dA dn dc) bs ∧ w.cell? ⟨b, o + n * 6, none⟩ = some (.int .i64 e.kind) ∧ w.cell? ⟨b, o + n * 6 + 1, none⟩ = some (.int .u8 e.what) ∧ w.cell? ⟨b, o + n * 6 + 2, none⟩ = some (.int .i64 e.hold) ∧
      w.cell? ⟨b, o + n * 6 + 3, none⟩ = some (.int .u8 e.code) ∧ w.cell? ⟨b, o + n * 6 + 4, none⟩ = some (.int .u8 e.sub) ∧ w.cell? ⟨b, o + n * 6 + 5, none⟩ = some (.slice dA dn dc) := by
  obtain ⟨dA, dn, dc, h0, h1, h2, h3, h4, h5, h6⟩ := h n hi
  exact ⟨l[n].1, l[n].2, dA, dn, dc, hd _ (List.getElem_mem _), h0, k.cell_some h1 (fun x => x), k.cell_some h2 (fun x => x), k.cell_some h3 (fun x => x), k.cell_some h4 (fun x => x), k.cell_some h5 (fun x => x), k.cell_some h6 (fun x => x)⟩

/-- A machine in block mB. -/
structure Sq (W u : World) (mB : Nat) (m : Sm.M) : Prop where
  kk : Kept Nothing W u
  mm : Blk u mB 24 #[.int .i64 m.state, .int .i64 m.hold]
  hm : W.heap.size ≤ mB
  ok : Sm.Ok m
theorem Sq.old {W u u' : World} {mB : Nat} {m : Sm.M} (h : Sq W u mB m) (k : Kept Nothing u u') : Sq W u' mB m := ⟨h.kk.trans k, h.mm.kept k (fun x => x), h.hm, h.ok⟩
theorem Sq.put {W u u' : World} {mB : Nat} {m m2 : Sm.M} (h : Sq W u mB m) (k : Kept Nothing u u') (ho : Sm.Ok m2) :
    Sq W ((u'.setCell ⟨mB, 0, none⟩ (.int .i64 m2.state)).setCell ⟨mB, 1, none⟩ (.int .i64 m2.hold)) mB m2 := by
  have hM := h.mm.kept k (fun x => x)
  have kk := kept_two (v := u') mB (.int .i64 (m2.state : Int)) (.int .i64 (m2.hold : Int))
  have hh := h.hm
  exact ⟨(h.kk.trans k).trans_new kk (fun i hi (e : i = mB) => by omega), fin_blk hM, h.hm, ho⟩
theorem Sq.cells {W u : World} {mB : Nat} {m : Sm.M} (h : Sq W u mB m) : u.cell? ⟨mB, 0, none⟩ = some (.int .i64 m.state) ∧ u.cell? ⟨mB, 1, none⟩ = some (.int .i64 m.hold) ∧ u.frozen? ⟨mB, 0, none⟩ = false ∧ u.frozen? ⟨mB, 1, none⟩ = false := mcells h.mm
/-- The event's box. -/
def Se (u : World) (mB eB : Nat) (e : Sm.Ev) (dv : Value) : Prop := mB + 1 < eB ∧ Blk u eB 31 #[.int .i64 e.kind, .int .u8 e.what, .int .i64 e.hold, .int .u8 e.code, .int .u8 e.sub, dv]
theorem Se.old {u u' : World} {mB eB : Nat} {e : Sm.Ev} {dv : Value} (h : Se u mB eB e dv) {S : Nat → Prop} (k : Kept S u u') (hS : ∀ i, S i → i ≤ mB + 1) : Se u' mB eB e dv := ⟨h.1, h.2.kept k (fun x => by have := hS _ x; have := h.1; omega)⟩
theorem Se.cells {u : World} {mB eB : Nat} {e : Sm.Ev} {dv : Value} (h : Se u mB eB e dv) : u.cell? ⟨eB, 0, none⟩ = some (.int .i64 e.kind) ∧ u.cell? ⟨eB, 1, none⟩ = some (.int .u8 e.what) ∧ u.cell? ⟨eB, 2, none⟩ = some (.int .i64 e.hold) ∧ u.cell? ⟨eB, 3, none⟩ = some (.int .u8 e.code) ∧ u.cell? ⟨eB, 4, none⟩ = some (.int .u8 e.sub) ∧ u.cell? ⟨eB, 5, none⟩ = some dv :=
  ⟨h.2.cell 0, h.2.cell 1, h.2.cell 2, h.2.cell 3, h.2.cell 4, h.2.cell 5⟩
theorem nothing_le {n : Nat} : ∀ i, Nothing i → i ≤ n := fun _ h => h.elim
theorem only_le {p n : Nat} (h : p ≤ n) : ∀ i, Only p i → i ≤ n := fun i (e : i = p) => by omega
end Go.Proofs.YtembdobkgpojfaaDoor
