
/-
  session: Do.
-/
import Derived.Test.YtembdobkgpojfaaDoorSMn
namespace Go.Proofs.YtembdobkgpojfaaDoor
open Go.RowKit Go.Maps

/-- The event as judged. -/
def Jdg (w : World) (ev : Value) (kd ho : Int) (x c s : Nat) (A : Option Addr) (n cc : Nat) : Prop :=
  ∀ u, Kept Nothing w u → Calls Tryd.prog 58 #[ev] u fun e u' => e = .returned (.agg #[.int .i64 kd, .int .u8 x, .int .i64 ho, .int .u8 c, .int .u8 s, .slice A n cc]) ∧ Kept Nothing u u'
/-- What Do leaves behind its last statement. -/
def Left (w u : World) (l : Value) (r : Sm.M × List Sm.Act) (bs : List UInt8) : Prop :=
  ∃ A c, l = .slice A r.2.length c ∧ Hid (Acs .u8 u (.slice A r.2.length c) r.2 bs ∧ Kept Nothing w u ∧ Blk u (w.heap.size + 1 + 1) 24 #[.int .i64 r.1.state, .int .i64 r.1.hold])
theorem left_mk {w u u' : World} {st hd kd ho : Int} {x c s : Nat} {A : Option Addr} {n cc : Nat} {r : Sm.M × List Sm.Act} {bs : List UInt8} {Az : Option Addr} {cz : Nat} (h : Bx w u st hd kd ho x c s A n cc) (ha : Acs .u8 u' (.slice Az r.2.length cz) r.2 bs) (hk : Kept Nothing u u') :
    Left w ((u'.setCell ⟨w.heap.size + 1 + 1, 0, none⟩ (.int .i64 r.1.state)).setCell ⟨w.heap.size + 1 + 1, 1, none⟩ (.int .i64 r.1.hold)) (.slice Az r.2.length cz) r bs := by
  have hR := h.r.kept hk (fun x => x)
  have kk := kept_two (v := u') (w.heap.size + 1 + 1) (.int .i64 r.1.state) (.int .i64 r.1.hold)
  exact ⟨Az, cz, rfl, Lib.hid ⟨ha.mach hR kk, (h.k.trans hk).trans_new kk (fun i hi (e : i = w.heap.size + 1 + 1) => by omega), fin_blk hR⟩⟩
theorem Bx.hold {w u : World} {st hd kd ho : Int} {x c s : Nat} {A : Option Addr} {n cc : Nat} (h : Bx w u st hd kd ho x c s A n cc) (z : Int) : Bx w (u.setCell ⟨w.heap.size, 1, none⟩ (.int .i64 z)) st z kd ho x c s A n cc := by
  have k := Kept.own u w.heap.size 1 (.int .i64 z)
  exact ⟨h.k.trans_new k (fun i hi (e : i = w.heap.size) => by omega), h.m.put 1 _, h.e.kept k (fun (e : w.heap.size + 1 = w.heap.size) => by omega), h.r.kept k (fun (e : w.heap.size + 1 + 1 = w.heap.size) => by omega)⟩

end Go.Proofs.YtembdobkgpojfaaDoor
