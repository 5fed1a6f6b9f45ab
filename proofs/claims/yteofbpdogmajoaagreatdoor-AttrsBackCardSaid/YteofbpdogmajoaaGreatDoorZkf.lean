
/-
  walk.Strip; path.Of of one number; walk.hasRoom.
-/
import Derived.Test.YteofbpdogmajoaaGreatDoorZp
namespace Go.Proofs.YteofbpdogmajoaaGreatDoor
open Go.RowKit Go.Shelf

theorem Pt.may_seg2 {l : List Seg} (h : Pt.may l = true) (s : Seg) (hs : s ∈ l) : s.2 ≠ [] := by
  unfold Pt.may at h
  rw [Bool.and_eq_true, List.all_eq_true] at h
  have := h.1 s hs
  unfold Pt.may1 at this
  simp only [Bool.and_eq_true, decide_eq_true_eq] at this
  exact List.length_pos_iff.1 this.1.2
namespace Wk
def first (l : List Seg) : Nat × Nat × Bool := if Pt.may l then (match l with | [] => (0, 0, false) | s :: _ => (s.1.toNat, s.2.getD 0 0, true)) else (0, 0, false)
end Wk
end Go.Proofs.YteofbpdogmajoaaGreatDoor
namespace Go.Proofs.YteofbpdogmajoaaGreatDoor
open Go.RowKit Go.Shelf

def Wk.strip (l : List Seg) : List Seg := if Pt.may l then plains l else []
theorem walk_strip (v : Value) (l : List Seg) (w : World) (h : Pts w v l) (hl : l.length ≤ 1000000) (hn : ∀ s ∈ l, s.2.length ≤ 1000000) :
    Calls Tryz.prog 42 #[v] w fun e w' => ∃ v', e = .returned v' ∧ Pown w' w.heap.size v' (Wk.strip l) ∧ Kept Nothing w w' := by
  obtain ⟨A, c, rfl, -, -⟩ := h.form
  have HM := Lib.hid (path_may _ l w h (by omega))
  have HC := Lib.hid (fun w1 (k1 : Kept Nothing w w1) => path_copyD _ l w1 (h.old k1) hl hn)
  have HS : Hid (Wk.strip l = if Pt.may l then plains l else []) := Lib.hid rfl
  clear h hn
  cases hmay : Pt.may l with
  | false =>
    rw [hmay] at HM HS
    clear hmay
    go_enter Tryz.func42, Tryz.ntmps42
    go_wp2_with (go_at_call 64; refine (HM.out).mono ?_; rintro e w1 ⟨rfl, k1⟩)
    go_ret
    exact ⟨_, rfl, by rw [HS.out]; exact Pown.nil _ _, k1⟩
  | true =>
    rw [hmay] at HM HS
    clear hmay
    go_enter Tryz.func42, Tryz.ntmps42
    go_wp2_with (first
      | (go_at_call 96; refine (del_func _ _ _ l _ O2.out R2.out hl).mono ?_; rintro e w3 ⟨v3, rfl, p3, k3⟩)
      | (go_at_call 97; refine (HC.out _ K1.out).mono ?_; rintro e w2 ⟨v2, xs2, rfl, o2, r2, -, k2⟩; (have O2 := Lib.hid o2); (have R2 := Lib.hid r2); (have K2 := Lib.hid k2); clear o2 r2 k2)
      | (go_at_call 64; refine (HM.out).mono ?_; rintro e w1 ⟨rfl, k1⟩; (have K1 := Lib.hid k1); clear k1))
    go_ret
    refine ⟨_, rfl, ?_, (K1.out.trans K2.out).trans_new k3 (fun i hi hk => by have := (ow_ge O2.out hk).1; have := K1.out.size; omega)⟩
    rw [HS.out]
    exact p3.weak K1.out.size

theorem own_one (w : World) (cs : Array Value) (h : cs.size = 2) : (w.alloc (.cells cs 71)).ownsRow w.heap.size 71 2 (.slice (some ⟨w.heap.size, 0, none⟩) 1 1) 1 cs.toList :=
  ⟨by simp [h], .inr ⟨w.heap.size, 1, cs, rfl, Nat.le_refl _, heap_alloc_new w _, Nat.le_refl _, by simp [maxLen], by simp [h], by rw [List.take_of_length_le (by simp [h])]⟩⟩
/-- A path of one segment of one number. -/
theorem path_of1 (k : UInt8) (n : Nat) (hn : n < 4294967296) (v : Value) (w : World) (h : As w v [n]) :
    Calls Tryz.prog 19 #[.int .u8 (k.toNat : Int), v] w fun e w' => ∃ v' xs, e = .returned v' ∧ w'.ownsRow w.heap.size 71 2 v' 1 xs ∧ Rws w' w.heap.size xs [(k, [n])] ∧ Kept Nothing w w' := by
  obtain ⟨A, c, rfl, _, _⟩ := h.form
  have HC := Lib.hid (as_clone _ [n] w h (by simp))
  clear h
  go_enter Tryz.func19, Tryz.ntmps19
  go_wp2_with (go_at_call 63; refine (HC.out).mono ?_; rintro e w2 ⟨v2, rfl, o2, k2⟩; (obtain ⟨A2, c2, rfl, _, _⟩ := ow_form o2); (have O2 := Lib.hid o2); (have K2 := Lib.hid k2); clear o2 k2)
  go_ret
  refine ⟨_, [.int .u8 (k.toNat : Int), .slice A2 1 c2], rfl, own_weakA (own_one w2 #[.int .u8 (k.toNat : Int), .slice A2 1 c2] rfl) K2.out.size, ⟨rfl, ow_kept O2.out ((Kept.refl Nothing w2).alloc _) (fun _ _ x => x), (fun m hm => by obtain rfl := List.mem_singleton.1 hm; exact hn), trivial⟩, K2.out.alloc _⟩

def Wk.room (l : List Seg) (k : Nat) : Bool := match l with | [] => false | s :: _ => decide (s.1.toNat = k) && decide (s.2.length < 255)
end Go.Proofs.YteofbpdogmajoaaGreatDoor
