
/-
  What the examples of chapter 1 say (function wakes of the law's package) holds, in whatever memory; nothing that was there is changed.
-/
import Derived.Test.YtkmoaompgockaaaWd
import Derived.Test.YtkmoaompgockaaaRn
namespace Go.Proofs.Ytkmoaompgockaaa
open Go.RowKit

theorem Kept.news {F : Nat → Prop} {a b c : World} (h : Kept Nothing a b) (k : Kept F b c) (hs : Sub a F Nothing) : Kept Nothing a c :=
  h.trans_new k (fun i hi x => by rcases hs i x with y | y; exact y; omega)
theorem Sub.only {w : World} {p : Nat} (h : w.heap.size ≤ p) : Sub w (Only p) Nothing := fun k hk => .inr (by rw [show k = p from hk]; exact h)
theorem Rd.kept_old {w w' : World} {p : Nat} {s : RS} (h : Rd w p s) (k : Kept Nothing w w') : Rd w' p s := h.kept k (NoRd.nothing w)

set_option maxHeartbeats 1600000 in
theorem wakes_any (w : World) :
    Calls Try.prog 37 #[] w fun r w' => r = .returned (.bool true) ∧ Kept Nothing w w' := by
  go_enter Try.func37, Try.ntmps37
  go_wp2_with fail
  have K0 := Lib.hid ((Kept.refl Nothing w).alloc (.cells #[.int .u8 2, .int .u8 7, .int .u8 8, .int .u8 9] 5))
  have B0 := Lib.hid (Bs.made (l := [2, 7, 8, 9]) (Blk.fresh w 5 #[.int .u8 2, .int .u8 7, .int .u8 8, .int .u8 9]) rfl (by decide))
  refine (rd_new _ _ _ B0.out.by (by decide)).mono ?_
  rintro e w1 ⟨p, rfl, hr, hk, hp⟩
  have R1 := Lib.hid hr
  have K1 := Lib.hid (K0.out.trans hk)
  have P1 := Lib.hid (Sub.only (w := w) (Nat.le_trans K0.out.size hp))
  clear hr hk hp B0 K0
  go_wp2_with fail
  have C := Lib.hid (rd_byte p _ _ R1.out)
  rw [show ((RS.num (RS.got ⟨[2, 7, 8, 9], 0, [], 0⟩ 1) : Nat) : Int) = 2 from rfl, show RS.pass ⟨[2, 7, 8, 9], 0, [], 0⟩ 1 = ⟨[2, 7, 8, 9], 1, [], 0⟩ from rfl] at C
  refine C.out.mono ?_
  rintro e w2 ⟨rfl, hr, hk⟩
  have R2 := Lib.hid hr
  have K2 := Lib.hid (K1.out.news hk P1.out)
  clear hr hk C R1 K1
  go_wp2_with fail
  have C := Lib.hid (rd_open p _ 2 _ R2.out (by decide))
  rw [show RS.opened ⟨[2, 7, 8, 9], 1, [], 0⟩ 2 = ⟨[2, 7, 8, 9], 1, [3], 0⟩ from rfl] at C
  refine C.out.mono ?_
  rintro e w1 ⟨rfl, hr, hk⟩
  have R1 := Lib.hid hr
  have K1 := Lib.hid (K2.out.news hk P1.out)
  clear hr hk C R2 K2
  go_wp2_with fail
  have C := Lib.hid (rd_two p _ _ R1.out)
  rw [show ((RS.num (RS.got ⟨[2, 7, 8, 9], 1, [3], 0⟩ 2) : Nat) : Int) = 1800 from rfl, show RS.pass ⟨[2, 7, 8, 9], 1, [3], 0⟩ 2 = ⟨[2, 7, 8, 9], 3, [3], 0⟩ from rfl] at C
  refine C.out.mono ?_
  rintro e w2 ⟨rfl, hr, hk⟩
  have R2 := Lib.hid hr
  have K2 := Lib.hid (K1.out.news hk P1.out)
  clear hr hk C R1 K1
  go_wp2_with fail
  have C := Lib.hid (rd_close p _ _ R2.out)
  rw [show RS.close ⟨[2, 7, 8, 9], 3, [3], 0⟩ = ⟨[2, 7, 8, 9], 3, [], 0⟩ from rfl] at C
  refine C.out.mono ?_
  rintro e w1 ⟨rfl, hr, hk⟩
  have R1 := Lib.hid hr
  have K1 := Lib.hid (K2.out.news hk P1.out)
  clear hr hk C R2 K2
  go_wp2_with fail
  have C := Lib.hid (rd_byte p _ _ R1.out)
  rw [show ((RS.num (RS.got ⟨[2, 7, 8, 9], 3, [], 0⟩ 1) : Nat) : Int) = 9 from rfl, show RS.pass ⟨[2, 7, 8, 9], 3, [], 0⟩ 1 = ⟨[2, 7, 8, 9], 4, [], 0⟩ from rfl] at C
  refine C.out.mono ?_
  rintro e w2 ⟨rfl, hr, hk⟩
  have R := Lib.hid hr
  have K := Lib.hid (K1.out.news hk P1.out)
  clear hr hk C R1 K1
  go_wp2_with fail
  have K0 := Lib.hid ((Kept.refl Nothing w2).alloc (.cells #[.int .u8 2, .int .u8 7, .int .u8 8, .int .u8 9] 5))
  have B0 := Lib.hid (Bs.made (l := [2, 7, 8, 9]) (Blk.fresh w2 5 #[.int .u8 2, .int .u8 7, .int .u8 8, .int .u8 9]) rfl (by decide))
  refine (rd_new _ _ _ B0.out.by (by decide)).mono ?_
  rintro e w1 ⟨q, rfl, hr, hk, hp⟩
  have S1 := Lib.hid hr
  have L1 := Lib.hid (K0.out.trans hk)
  have Q1 := Lib.hid (Sub.only (w := w2) (Nat.le_trans K0.out.size hp))
  clear hr hk hp B0 K0
  go_wp2_with fail
  have C := Lib.hid (rd_byte q _ _ S1.out)
  rw [show ((RS.num (RS.got ⟨[2, 7, 8, 9], 0, [], 0⟩ 1) : Nat) : Int) = 2 from rfl, show RS.pass ⟨[2, 7, 8, 9], 0, [], 0⟩ 1 = ⟨[2, 7, 8, 9], 1, [], 0⟩ from rfl] at C
  refine C.out.mono ?_
  rintro e w3 ⟨rfl, hr, hk⟩
  have S2 := Lib.hid hr
  have L2 := Lib.hid (L1.out.news hk Q1.out)
  clear hr hk C S1 L1
  go_wp2_with fail
  have C := Lib.hid (rd_open q _ 2 _ S2.out (by decide))
  rw [show RS.opened ⟨[2, 7, 8, 9], 1, [], 0⟩ 2 = ⟨[2, 7, 8, 9], 1, [3], 0⟩ from rfl] at C
  refine C.out.mono ?_
  rintro e w1 ⟨rfl, hr, hk⟩
  have S1 := Lib.hid hr
  have L1 := Lib.hid (L2.out.news hk Q1.out)
  clear hr hk C S2 L2
  go_wp2_with fail
  have C := Lib.hid (rd_byte q _ _ S1.out)
  rw [show ((RS.num (RS.got ⟨[2, 7, 8, 9], 1, [3], 0⟩ 1) : Nat) : Int) = 7 from rfl, show RS.pass ⟨[2, 7, 8, 9], 1, [3], 0⟩ 1 = ⟨[2, 7, 8, 9], 2, [3], 0⟩ from rfl] at C
  refine C.out.mono ?_
  rintro e w3 ⟨rfl, hr, hk⟩
  have S2 := Lib.hid hr
  have L2 := Lib.hid (L1.out.news hk Q1.out)
  clear hr hk C S1 L1
  go_wp2_with fail
  have C := Lib.hid (rd_close q _ _ S2.out)
  rw [show RS.close ⟨[2, 7, 8, 9], 2, [3], 0⟩ = ⟨[2, 7, 8, 9], 2, [3], 5⟩ from rfl] at C
  refine C.out.mono ?_
  rintro e w1 ⟨rfl, hr, hk⟩
  have S1 := Lib.hid hr
  have R1 := Lib.hid (R.out.kept_old (L2.out.news hk Q1.out))
  have K1 := Lib.hid (K.out.trans (L2.out.news hk Q1.out))
  clear hr hk C S2 L2 Q1 R K P1
  go_wp2_with fail
  refine (wr_lay w1).mono ?_
  rintro e w2 ⟨p3, F, rfl, hw, hk, hs⟩
  have W1 := Lib.hid hw
  have M1 := Lib.hid hk
  have T1 := Lib.hid hs
  clear hw hk hs
  go_wp2_with fail
  have C := Lib.hid (wr_hold p3 F _ 1 _ W1.out (by decide) (by decide))
  rw [show WS.hold ⟨[], [], 0⟩ 1 = ⟨[0], [(1, 1)], 0⟩ from rfl] at C
  refine C.out.mono ?_
  rintro e w3 ⟨F2, rfl, hw, hk, hs⟩
  have W2 := Lib.hid hw
  have T2 := Lib.hid (T1.out.trans hs M1.out.size)
  have M2 := Lib.hid (M1.out.news hk T1.out)
  clear hw hk hs C W1 T1 M1
  go_wp2_with fail
  have kb := (Kept.refl Nothing w3).alloc (.cells #[.int .u8 5, .int .u8 6] 5)
  have B0 := Lib.hid (Bs.made (l := [5, 6]) (Blk.fresh w3 5 #[.int .u8 5, .int .u8 6]) rfl (by decide))
  have C := Lib.hid (wr_byte p3 F2 _ _ _ _ (W2.out.kept kb (fun _ _ x => x)) B0.out.by (by decide))
  have M2' := Lib.hid (M2.out.trans kb)
  clear kb
  rw [show WS.lay ⟨[0], [(1, 1)], 0⟩ [5, 6] = ⟨[0, 5, 6], [(1, 1)], 0⟩ from rfl] at C
  refine C.out.mono ?_
  rintro e w2 ⟨F3, rfl, hw, hk, hs⟩
  have W1 := Lib.hid hw
  have T1 := Lib.hid (T2.out.trans hs M2'.out.size)
  have M1 := Lib.hid (M2'.out.news hk T2.out)
  clear hw hk hs C W2 T2 M2 M2' B0
  go_wp2_with fail
  have C := Lib.hid (wr_fill p3 F3 _ _ W1.out)
  rw [show WS.fill ⟨[0, 5, 6], [(1, 1)], 0⟩ = ⟨[2, 5, 6], [], 0⟩ from rfl] at C
  refine C.out.mono ?_
  rintro e w3 ⟨F4, rfl, hw, hk, hs⟩
  have W2 := Lib.hid hw
  have M2 := Lib.hid (M1.out.news hk T1.out)
  clear hw hk hs C W1 T1 M1
  go_wp2_with fail
  have C := Lib.hid (wr_done p3 F4 _ _ W2.out)
  rw [show WS.done ⟨[2, 5, 6], [], 0⟩ = ([2, 5, 6], 0) from rfl] at C
  refine C.out.mono ?_
  rintro e w2 ⟨v, rfl, hb, hk⟩
  have B := Lib.hid hb
  have R := Lib.hid (R1.out.kept_old (M2.out.trans hk))
  have S := Lib.hid (S1.out.kept_old (M2.out.trans hk))
  have K := Lib.hid (K1.out.trans (M2.out.trans hk))
  obtain ⟨A, c, rfl, _, _⟩ := hb.form
  clear hb hk C W2 M2 R1 S1 K1
  go_wp2_with fail
  refine (rd_err p _ _ R.out).mono ?_
  rintro e w' ⟨rfl, rfl⟩
  go_wp2_with fail
  refine (rd_err q _ _ S.out).mono ?_
  rintro e w' ⟨rfl, rfl⟩
  go_wp2_with fail
  have kb := (Kept.refl Nothing w2).alloc (.cells #[.int .u8 2, .int .u8 5, .int .u8 6] 5)
  have B0 := Lib.hid (Bs.made (l := [2, 5, 6]) (Blk.fresh w2 5 #[.int .u8 2, .int .u8 5, .int .u8 6]) rfl (by decide))
  refine (by_equal _ _ _ _ _ (B.out.kept kb (NoBytes.nothing _)).by B0.out.by).mono ?_
  rintro e w' ⟨rfl, rfl⟩
  have K' := Lib.hid (K.out.trans kb)
  clear kb
  go_wp2
  go_ret
  exact ⟨rfl, K'.out⟩
end Go.Proofs.Ytkmoaompgockaaa
