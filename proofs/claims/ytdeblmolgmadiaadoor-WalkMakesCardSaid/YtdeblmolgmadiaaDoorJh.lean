
/-
  Paths: Count, hasWide: ranges over All.
-/
import Derived.Test.YtdeblmolgmadiaaDoorJg
import Derived.Shelf.Abstract
namespace Go.Proofs.YtdeblmolgmadiaaDoor
open Go.RowKit Go.Shelf
attribute [local go_sem] Oper.semAt_some

theorem run_mkFunc (fn : Fn) (first cap : Array Value) (w : World) : (Instr.makeFunc fn first cap).run Tryd.prog w = .ok (.func fn first cap) w := by
  simp [Instr.makeFunc, Sem.run_pure]

theorem zip_two (a b : Tmp) (u v : Value) : (#[a, b] : Array Tmp).zip #[u, v] = #[(a, u), (b, v)] := by
  apply Array.ext'
  simp
theorem fold_two (a b : Tmp) (u v : Value) (t : Array Value) : (#[a, b].zip #[u, v]).foldl (fun t x => t.setIfInBounds x.1 x.2) t = (t.setIfInBounds a u).setIfInBounds b v := by
  rw [zip_two]; rfl
theorem Pt.cnt_le (l : List Seg) (hn : ∀ s ∈ l, s.2.length ≤ 1000000) : Pt.cnt l ≤ 1000000 * l.length := by
  unfold Pt.cnt
  induction l with
  | nil => simp
  | cons s l ih =>
    have h1 := ih (fun x hx => hn x (List.mem_cons_of_mem _ hx))
    have h3 := hn s (List.mem_cons_self ..)
    rw [List.map_cons, List.sum_cons, List.length_cons, Nat.mul_add]
    omega

theorem Blk.putObj {W : World} {g D : Nat} {t : TypeId} {cs : Array Value} (h : Blk W g t cs) (hne : g ≠ D) (o : Obj) : Blk (W.putObj D o) g t cs := h.kept (Kept.putObj W D o) (fun (e : g = D) => hne e)
theorem Pt.hasW_false {l : List Seg} (h : ∀ x ∈ Pt.all l, ¬ 65535 < x.2) : Pt.hasW l = false := by
  unfold Pt.hasW
  rw [List.any_eq_false]
  intro x hx
  simpa using h x hx
theorem Pt.hasW_true {l : List Seg} {pre : List (UInt8 × Nat)} (hp : pre <+: Pt.all l) {x : UInt8 × Nat} (hx : x ∈ pre) (h : 65535 < x.2) : Pt.hasW l = true := by
  unfold Pt.hasW
  rw [List.any_eq_true]
  exact ⟨x, hp.subset hx, by simpa using h⟩

end Go.Proofs.YtdeblmolgmadiaaDoor
