
/-
  What the calls of package frame do: a head read, judged.
-/
import Derived.Test.YtohkhcobljenjaaFm
import Derived.Test.YtohkhcobljenjaaRn
namespace Go.Proofs.Ytohkhcobljenjaa
open Go.RowKit

theorem Kept.newly {F : Nat → Prop} {a b c : World} (h : Kept Nothing a b) (k : Kept F b c) (hs : ∀ i, F i → a.heap.size ≤ i) : Kept Nothing a c :=
  h.trans_new k (fun i hi x => by have := hs i x; omega)

theorem head_num (l : List UInt8) (h : l.length = 19) : RS.num (RS.got ⟨l, 16, [], 0⟩ 2) = Fr.len l ∧ RS.num (RS.got ⟨l, 18, [], 0⟩ 1) = (Fr.kind l).toNat ∧ RS.got ⟨l, 0, [], 0⟩ 16 = l.take 16 ∧ RS.pass ⟨l, 0, [], 0⟩ 16 = ⟨l, 16, [], 0⟩ ∧ RS.pass ⟨l, 16, [], 0⟩ 2 = ⟨l, 18, [], 0⟩ := by
  have f : ∀ (k : Nat) (n : Int), 0 ≤ n → (k : Int) + n ≤ 19 → RS.fits ⟨l, k, [], 0⟩ n = ⟨l, k, [], 0⟩ := fun k n h0 h1 => by
    unfold RS.fits
    rw [if_neg]
    unfold RS.left RS.top
    simp only [if_true]
    omega
  have g : ∀ (k : Nat) (n : Int), 0 ≤ n → (k : Int) + n ≤ 19 → RS.got ⟨l, k, [], 0⟩ n = (l.drop k).take n.toNat := fun k n h0 h1 => by
    unfold RS.got
    rw [f k n h0 h1]
    simp
  have p : ∀ (k : Nat) (n : Int), 0 ≤ n → (k : Int) + n ≤ 19 → RS.pass ⟨l, k, [], 0⟩ n = ⟨l, k + n.toNat, [], 0⟩ := fun k n h0 h1 => by
    unfold RS.pass
    rw [f k n h0 h1]
    simp
  refine ⟨?_, ?_, ?_, ?_, ?_⟩
  · rw [g 16 2 (by omega) (by omega)]
    have e : (l.drop 16).take (2 : Int).toNat = [l.getD 16 0, l.getD 17 0] := by
      rw [List.drop_eq_getElem_cons (by omega : 16 < l.length), List.drop_eq_getElem_cons (by omega : 17 < l.length), List.getD_eq_getElem?_getD, List.getD_eq_getElem?_getD, List.getElem?_eq_getElem (by omega), List.getElem?_eq_getElem (by omega)]
      rfl
    rw [e]
    simp [RS.num, Fr.len]
  · rw [g 18 1 (by omega) (by omega)]
    have e : (l.drop 18).take (1 : Int).toNat = [l.getD 18 0] := by
      rw [List.drop_eq_getElem_cons (by omega : 18 < l.length), List.getD_eq_getElem?_getD, List.getElem?_eq_getElem (by omega)]
      rfl
    rw [e]
    simp [RS.num, Fr.kind]
  · rw [g 0 16 (by omega) (by omega)]; rfl
  · rw [p 0 16 (by omega) (by omega)]; rfl
  · rw [p 16 2 (by omega) (by omega)]; rfl

set_option maxHeartbeats 400000 in
theorem fr_readHead (v : Value) (l : List UInt8) (w : World) (h : By w v l) (hl : l.length = 19) :
    Calls Try.prog 17 #[v] w fun r w' => r = .returned (.agg #[.bool (Fr.marked l), .int .i64 (Fr.len l : Int), .int .u8 ((Fr.kind l).toNat : Int)]) ∧ Kept Nothing w w' := by
  obtain ⟨n1, n2, n3, n4, n5⟩ := head_num l hl
  have N1 := Lib.hid n1
  have N2 := Lib.hid n2
  have N3 := Lib.hid n3
  have N4 := Lib.hid n4
  have N5 := Lib.hid n5
  have HL := Lib.hid hl
  have ka := (Kept.refl Nothing w).alloc (.cells #[.bool false, .int .i64 0, .int .u8 0] 45)
  have H1 := Lib.hid (h.old ka)
  have KA := Lib.hid ka
  clear h ka n1 n2 n3 n4 n5 hl
  go_enter Try.func17, Try.ntmps17
  go_wp2_with fail
  refine (rd_new v l _ H1.out (by rw [HL.out]; decide)).mono ?_
  rintro e w1 ⟨p, rfl, hr, hk, hp⟩
  have R1 := Lib.hid hr
  have P1 : w.heap.size + 1 ≤ p := by have := hp; rw [World.size_alloc] at this; exact this
  have K1 := Lib.hid (KA.out.trans hk)
  have B1 := Lib.hid ((Blk.fresh w 45 #[.bool false, .int .i64 0, .int .u8 0]).kept hk (fun x => x))
  clear hr hk hp
  go_wp2_with fail
  refine (rd_take p _ 16 _ R1.out).mono ?_
  rintro e w2 ⟨v2, rfl, hb, hr, hk⟩
  have Y2 := hb.by
  rw [N3.out] at Y2
  rw [N4.out] at hr
  have R2 := Lib.hid hr
  have c2 := sl_contains_other v2 (l.take 16) w2 Y2 (by rw [List.length_take, HL.out]; rfl)
  rw [show (l.take 16 == List.replicate 16 255) = Fr.marked l from rfl] at c2
  generalize hm : Fr.marked l = m at *
  have HM := Lib.hid hm
  clear hm
  have C2 := Lib.hid c2
  clear c2
  have K2 := Lib.hid (K1.out.newly hk (fun i hi => by rw [show i = p from hi]; omega))
  have B2 := Lib.hid (B1.out.kept hk (fun e => by rw [show w.heap.size = p from e] at P1; omega))
  clear hr hk hb Y2
  go_wp2_with fail
  refine C2.out.mono ?_
  rintro e w' ⟨rfl, rfl⟩
  go_wp2_with fail
  refine (rd_two p _ _ R2.out).mono ?_
  rintro e w3 ⟨rfl, hr, hk⟩
  rw [N5.out] at hr
  have E3 := N1.out
  have R3 := Lib.hid hr
  have K3 := Lib.hid (K2.out.newly hk (fun i hi => by rw [show i = p from hi]; omega))
  have B3 := Lib.hid (B2.out.kept hk (fun e => by rw [show w.heap.size = p from e] at P1; omega))
  have FL : Fr.len l < 65536 := by
    unfold Fr.len
    have := (l.getD 16 0).toNat_lt
    have := (l.getD 17 0).toNat_lt
    omega
  rw [N1.out]
  clear hr hk E3
  generalize hfl : Fr.len l = fl at *
  have HFL := Lib.hid hfl
  clear hfl
  go_wp2_with fail
  refine (rd_byte p _ _ R3.out).mono ?_
  rintro e w4 ⟨rfl, hr, hk⟩
  rw [N2.out]
  have K4 := Lib.hid (K3.out.newly hk (fun i hi => by rw [show i = p from hi]; omega))
  have b4 := (B3.out.kept hk (fun e => by rw [show w.heap.size = p from e] at P1; omega))
  obtain ⟨c0, c1, c2⟩ := cells3 b4
  have f0 := b4.free 0
  have f1 := b4.free 1
  have f2 := b4.free 2
  have B4 := Lib.hid b4
  clear hr hk b4
  generalize hkd : (Fr.kind l).toNat = kd at *
  have HKD := Lib.hid hkd
  clear hkd
  have e0 : (w4.setCell ⟨w.heap.size, 0, none⟩ (.bool m)).cell? ⟨w.heap.size, 0, none⟩ = some (.bool m) := (B4.out.put 0 (.bool m)).cell 0
  have e1 : ((w4.setCell ⟨w.heap.size, 0, none⟩ (.bool m)).setCell ⟨w.heap.size, 1, none⟩ (.int .i64 fl)).cell? ⟨w.heap.size, 1, none⟩ = some (.int .i64 fl) := ((B4.out.put 0 (.bool m)).put 1 (.int .i64 fl)).cell 1
  have e2 : (((w4.setCell ⟨w.heap.size, 0, none⟩ (.bool m)).setCell ⟨w.heap.size, 1, none⟩ (.int .i64 fl)).setCell ⟨w.heap.size, 2, none⟩ (.int .u8 kd)).cell? ⟨w.heap.size, 2, none⟩ = some (.int .u8 kd) := (((B4.out.put 0 (.bool m)).put 1 (.int .i64 fl)).put 2 (.int .u8 kd)).cell 2
  go_wp2
  refine bodyPost_ret (v := .agg #[.bool m, .int .i64 (fl : Int), .int .u8 (kd : Int)]) (by simp [results, Try.results17, go_sem, e0, e1, e2]) rfl ⟨?_, ?_⟩
  · rw [HFL.out, HM.out, HKD.out]
  · exact ((K4.out.setCell (p := ⟨w.heap.size, 0, none⟩) (fun h => absurd h (Nat.lt_irrefl _)) _).setCell (p := ⟨w.heap.size, 1, none⟩) (fun h => absurd h (Nat.lt_irrefl _)) _).setCell (p := ⟨w.heap.size, 2, none⟩) (fun h => absurd h (Nat.lt_irrefl _)) _
end Go.Proofs.Ytohkhcobljenjaa
