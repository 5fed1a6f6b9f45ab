
/-
  session: the document's Do.
-/
import Derived.Test.YtembdobkgpojfaaDoorSOb
namespace Go.Proofs.YtembdobkgpojfaaDoor
open Go.RowKit

section
variable {w u : World} {st hd kd ho : Int} {x c s : Nat} {A : Option Addr} {n cc : Nat}
theorem Bxr.hold (h : Bxr w u st hd kd ho x c s A n cc) (z : Int) : Bxr w (u.setCell ⟨w.heap.size, 1, none⟩ (.int .i64 z)) st z kd ho x c s A n cc := by
  have k := Kept.own u w.heap.size 1 (.int .i64 z)
  exact ⟨h.k.trans_new k (fun i hi (e : i = w.heap.size) => by omega), h.m.put 1 _, h.e.kept k (fun (e : w.heap.size + 1 = w.heap.size) => by omega), h.r.kept k (fun (e : w.heap.size + 1 + 1 = w.heap.size) => by omega)⟩
theorem Bxr.event (h : Bxr w u st hd kd ho x c s A n cc) (kd' ho' : Int) (x' c' s' : Nat) : Bxr w (u.setRow (w.heap.size + 1) #[.int .i64 kd', .int .i64 x', .int .i64 ho', .int .i64 c', .int .i64 s', .slice none 0 0]) st hd kd' ho' x' c' s' none 0 0 := by
  have k := Kept.setRow (w := u) (w.heap.size + 1) #[.int .i64 kd', .int .i64 x', .int .i64 ho', .int .i64 c', .int .i64 s', .slice none 0 0]
  exact ⟨h.k.trans_new k (fun i hi (e : i = w.heap.size + 1) => by omega), h.m.kept k (fun (e : w.heap.size = w.heap.size + 1) => by omega), setRow_heap u _ _ _ _ _ h.e, h.r.kept k (fun (e : w.heap.size + 1 + 1 = w.heap.size + 1) => by omega)⟩
end
theorem RR.drew {dv : Value} {w w' : World} {e : Ending} {r : Sm.M × List Sm.Act} (h : RR dv w w' e r) : RR dv w w'.drew e r := by
  obtain ⟨A, n, c, h1, h2, h3, h4⟩ := h
  exact ⟨A, n, c, h1, h2, ow_kept h3 ((Kept.refl Nothing w').drew) (fun _ _ x => x), h4.drew⟩
end Go.Proofs.YtembdobkgpojfaaDoor
