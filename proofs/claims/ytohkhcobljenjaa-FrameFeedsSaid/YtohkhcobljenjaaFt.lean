
/-
  What the law's package makes of bytes ff; what an intake tells of its fault.
-/
import Derived.Test.YtohkhcobljenjaaFs
import Derived.Test.YtohkhcobljenjaaRx
import Derived.ArgAppend
namespace Go.Proofs.Ytohkhcobljenjaa
open Go.RowKit

theorem run_app_nil {P : Program} (w : World) (t ty e : TypeId) (i : TypeInfo) (ht : P.underlying t = some (.slice e)) (hi : P.info? e = some i) (A : Option Addr) (n c : Nat) (hnc : n ≤ c) (h0 : A = none → n = 0 ∧ c = 0) :
    (Builtin.append_ #[t, t] ty #[.slice A n c, .slice none 0 0]).run P w = .ok (.slice A n c) w := by
  cases A with
  | none =>
    obtain ⟨rfl, rfl⟩ := h0 rfl
    simp [Builtin.append_, run_underlying ht, sizeOf, typeInfo, hi, Builtin.lenOf, Builtin.firstCells]
  | some a => simp [Builtin.append_, run_underlying ht, sizeOf, typeInfo, hi, Builtin.lenOf, Builtin.firstCells, hnc, storeCells]
theorem wpList_app_nil {P : Program} (w : World) {ops : Array Oper} {rest : List Oper} {o : Oper} {a : Act} {Q : Exit → Act → World → Prop} (hgd : o.guard = none) (s x : Operand) (t : TypeId)
    (ho : o.op = .call { callee := .builtin .append, args := #[s, x], argTypes := #[t, t] })
    (e : TypeId) (i : TypeInfo) (ht : P.underlying t = some (.slice e)) (hi : P.info? e = some i) (A : Option Addr) (n c : Nat) (hnc : n ≤ c) (h0 : A = none → n = 0 ∧ c = 0) (hv : a.eval s = .slice A n c) (hx : a.eval x = .slice none 0 0)
    (h : wpList P ops Q rest (a.put o.dst (.slice A n c)) w) : wpList P ops Q (o :: rest) a w :=
  wpList_plain hgd fun _ hK => by
    have hr := run_app_nil (P := P) w t o.type e i ht hi A n c hnc h0
    unfold Oper.wp execOp
    simp only [ho, resolve, invoke, builtin, Sem.run_bind, Sem.run_pure, Result.andThen_ok, List.map_toArray, List.map_cons, List.map_nil, hv, hx, hr]
    exact hK _ _ h

def OnesPost (w : World) (l : List UInt8) (r : Ending) (w' : World) : Prop := ∃ v', r = .returned v' ∧ Bs w' v' l ∧ New w v' ∧ Kept Nothing w w'

theorem ones_none (n : Nat) (w : World) (h1 : 1 ≤ n) (h2 : n ≤ 4096) :
    Calls Try.prog 21 #[.int .i64 (n : Int), .slice none 0 0] w (OnesPost w (List.replicate n 255)) := by
  have ka := (Kept.refl Nothing w).alloc (.cells #[.int .u8 255] 5)
  have C := Lib.hid (by_repeat (.slice (some ⟨w.heap.size, 0, none⟩) 1 1) 255 n _ (made1 w _ rfl 255 255 rfl).by h1 h2)
  have KA := Lib.hid ka
  obtain ⟨i0, hi, hz0, hz1, hz2⟩ := info_parts u8_info
  clear ka
  go_enter Try.func21, Try.ntmps21
  go_wp2_with fail
  refine C.out.mono ?_
  rintro e w1 ⟨v1, rfl, ⟨A1, rfl⟩, hb, hn, hk⟩
  have B1 := Lib.hid hb
  have N1 := Lib.hid hn
  have K1 := Lib.hid (KA.out.trans hk)
  have hA : A1 = none → n = 0 ∧ n = 0 := fun e => by
    have := hb.src.2.1 e
    rw [List.length_replicate] at this
    exact ⟨this, this⟩
  have HA := Lib.hid hA
  clear hb hn hk hA
  go_wp2_with (at_builtin; refine wpList_app_nil _ rfl _ _ 25 rfl 5 i0 Try.underlying25 hi A1 n n (Nat.le_refl _) HA.out rfl rfl ?_)
  go_ret
  refine ⟨_, rfl, B1.out, fun a m d e => ?_, K1.out⟩
  have := N1.out a m d e
  rw [World.size_alloc] at this
  omega

theorem ones_some (n : Nat) (v : Value) (m : List UInt8) (w : World) (h1 : 1 ≤ n) (h2 : n ≤ 4096) (h : By w v m) (hm : m ≠ []) (hl : m.length ≤ 4096) :
    Calls Try.prog 21 #[.int .i64 (n : Int), v] w (OnesPost w (List.replicate n 255 ++ m)) := by
  have ka := (Kept.refl Nothing w).alloc (.cells #[.int .u8 255] 5)
  have C := Lib.hid (by_repeat (.slice (some ⟨w.heap.size, 0, none⟩) 1 1) 255 n _ (made1 w _ rfl 255 255 rfl).by h1 h2)
  have KA := Lib.hid ka
  have H := Lib.hid h
  obtain ⟨i0, hi, hz0, hz1, hz2⟩ := info_parts u8_info
  have hm0 : 0 < m.length := List.length_pos_iff.2 hm
  obtain ⟨A, c, rfl, hc, hmm⟩ := h.form
  obtain ⟨ad, rfl⟩ : ∃ ad, A = some ad := by
    cases A with
    | none => have := h.src.2.1 rfl; omega
    | some a => exact ⟨a, rfl⟩
  clear ka h hm
  go_enter Try.func21, Try.ntmps21
  go_wp2_with fail
  refine C.out.mono ?_
  rintro e w1 ⟨v1, rfl, ⟨A1, rfl⟩, hb, hn, hk⟩
  have S1 := Lib.hid hb.src
  have K1 := Lib.hid (KA.out.trans hk)
  have X1 := Lib.hid ((H.out.old KA.out).old hk).src
  have hlen : (List.replicate n (255 : UInt8)).length = n := List.length_replicate
  clear hb hn hk
  go_wp2_with (at_builtin; refine wpList_append_grows _ rfl _ _ 25 rfl 5 i0 (.int .u8 0) 1 1 Try.underlying25 hi hz0 hz1 hz2 rfl (by decide) A1 n n (bys (List.replicate n 255)) rfl (fun e => by have := S1.out.2.1 e; rw [hlen] at this; exact ⟨this, this⟩) (by rw [length_bys, hlen, Nat.mul_one]) (fun b e => S1.out.2.2.1 b e) ad m.length c (bys m) rfl X1.out.1 (X1.out.2.2.1 ad rfl) X1.out.2.2.2 (by omega) (by unfold maxLen; omega) (by omega) ?_; intro v' w' hown hg; (have HO := Lib.hid hown); (have HG := Lib.hid hg); clear hown hg)
  go_ret
  have e : bys (List.replicate n 255) ++ bys m = bys (List.replicate n 255 ++ m) := (bys_append _ _).symm
  have ho := HO.out
  rw [e] at ho
  have hl2 : n + m.length = (List.replicate n (255 : UInt8) ++ m).length := by rw [List.length_append, hlen]
  rw [hl2] at ho
  refine ⟨_, rfl, Bs.of_own ho, fun a m' d e => ?_, K1.out.trans ((Kept.refl Nothing w1).grown HG.out (fun k hk _ => by cases hk))⟩
  rcases ho.2 with ⟨rfl, _⟩ | ⟨g, cap, cur, rfl, hb, _⟩
  · cases e
  · injection e with e
    injection e with e
    have := K1.out.size
    rw [← e]
    show w.heap.size ≤ g
    omega
end Go.Proofs.Ytohkhcobljenjaa
