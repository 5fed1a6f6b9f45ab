
/-
  What the calls of package frame do: a head read, judged.
-/
import Derived.Test.YtdhbfhjlholnlaaGreatDoorFm
import Derived.Test.YtdhbfhjlholnlaaGreatDoorRn
namespace Go.Proofs.YtdhbfhjlholnlaaGreatDoor
open Go.RowKit

theorem Kept.newly {F : Nat → Prop} {a b c : World} (h : Kept Nothing a b) (k : Kept F b c) (hs : ∀ i, F i → a.heap.size ≤ i) : Kept Nothing a c :=
  h.trans_new k (fun i hi x => by have := hs i x; omega)

theorem head_num (l : List UInt8) (h : l.length = 19) : RS.num (RS.got ⟨l, 16, [], 0⟩ 2) = Fr.len l ∧ RS.num (RS.got ⟨l, 18, [], 0⟩ 1) = (Fr.kind l).toNat ∧ RS.got ⟨l, 0, [], 0⟩ 16 = l.take 16 ∧ RS.pass ⟨l, 0, [], 0⟩ 16 = ⟨l, 16, [], 0⟩ ∧ RS.pass ⟨l, 16, [], 0⟩ 2 = ⟨l, 18, [], 0⟩ := by
  have f : ∀ (k : Nat) (n : Int), 0 ≤ n → (k : Int) + n ≤ 19 → RS.fits ⟨l, k, [], 0⟩ n = ⟨l, k, [], 0⟩ := fun k n h0 h1 => by
    unfold RS.fits
    rw [if_neg]
    unfold RS.left RS.top
    simp only [if_true]
    omega
  have g : ∀ (k : Nat) (n : Int), 0 ≤ n → (k : Int) + n ≤ 19 → RS.got ⟨l, k, [], 0⟩ n = (l.drop k).take n.toNat := fun k n h0 h1 => by
    unfold RS.got
    rw [f k n h0 h1]
    simp
  have p : ∀ (k : Nat) (n : Int), 0 ≤ n → (k : Int) + n ≤ 19 → RS.pass ⟨l, k, [], 0⟩ n = ⟨l, k + n.toNat, [], 0⟩ := fun k n h0 h1 => by
    unfold RS.pass
    rw [f k n h0 h1]
    simp
  refine ⟨?_, ?_, ?_, ?_, ?_⟩
  · rw [g 16 2 (by omega) (by omega)]
    have e : (l.drop 16).take (2 : Int).toNat = [l.getD 16 0, l.getD 17 0] := by
      rw [List.drop_eq_getElem_cons (by omega : 16 < l.length), List.drop_eq_getElem_cons (by omega : 17 < l.length), List.getD_eq_getElem?_getD, List.getD_eq_getElem?_getD, List.getElem?_eq_getElem (by omega), List.getElem?_eq_getElem (by omega)]
      rfl
    rw [e]
    simp [RS.num, Fr.len]
  · rw [g 18 1 (by omega) (by omega)]
    have e : (l.drop 18).take (1 : Int).toNat = [l.getD 18 0] := by
      rw [List.drop_eq_getElem_cons (by omega : 18 < l.length), List.getD_eq_getElem?_getD, List.getElem?_eq_getElem (by omega)]
      rfl
    rw [e]
    simp [RS.num, Fr.kind]
  · rw [g 0 16 (by omega) (by omega)]; rfl
  · rw [p 0 16 (by omega) (by omega)]; rfl
  · rw [p 16 2 (by omega) (by omega)]; rfl

end Go.Proofs.YtdhbfhjlholnlaaGreatDoor
