
/-
  The law OpenNumbers: it returns true, whatever it is given, and leaves what was there as it was.
-/
import Derived.Test.YtgpphgnjhinklaaDoorEd
import Derived.Test.YtgpphgnjhinklaaDoorLaw
namespace Go.Proofs.YtgpphgnjhinklaaDoor
open Go.RowKit

theorem bys_be4 (n : Nat) (h : n < 4294967296) : bys (be4 n) = [.int .u8 ((n : Int) / 16777216), .int .u8 ((n : Int) / 65536 % 256), .int .u8 ((n : Int) / 256 % 256), .int .u8 ((n : Int) % 256)] := by
  have h24 : (((n / 16777216 : Nat) : Int)) % 256 = (n : Int) / 16777216 := by omega
  rw [← h24]
  unfold be4 bys
  simp only [List.map_cons, List.map_nil, by8_mod]
  rfl
theorem number_four (n : Nat) (h : n < 4294967296) : Cp.number [(65, be4 n)] = (n, true) := by
  have e : Cp.number [(65, be4 n)] = (RS.num (be4 n), true) := Cp.number_hit rfl rfl
  rw [e, be4_num n h]
theorem own_none (a : Nat) : Opn.own a (0, false) = (if a ≠ 0 ∧ a ≠ 23456 then (a, true) else (0, false)) := rfl
theorem own_some (a n : Nat) : Opn.own a (n, true) = (if n ≠ 0 ∧ (a = n ∨ a = 23456) then (n, true) else (0, false)) := rfl

set_option maxRecDepth 20000 in
set_option maxHeartbeats 4000000 in
theorem numbers_law (a n : Nat) (ha : a < 65536) (hn : n < 4294967296) (W : World) (hr : RdC W) :
    Calls Tryd.prog 7 #[.int .u16 (a : Int), .int .u32 (n : Int)] W fun e w' => e = .returned (.bool true) ∧ Kept Nothing W w' := by
  have HR := Lib.hid hr
  clear hr
  have k1 := ((Kept.refl Nothing W).alloc (.cells #[.int .u8 ((n : Int) / 16777216), .int .u8 ((n : Int) / 65536 % 256), .int .u8 ((n : Int) / 256 % 256), .int .u8 ((n : Int) % 256)] 5)).alloc (.cells #[.int .u8 65, .slice (some ⟨W.heap.size, 0, none⟩) 4 4] 66)
  have P1 : Hid (Cps ((W.alloc (.cells #[.int .u8 ((n : Int) / 16777216), .int .u8 ((n : Int) / 65536 % 256), .int .u8 ((n : Int) / 256 % 256), .int .u8 ((n : Int) % 256)] 5)).alloc (.cells #[.int .u8 65, .slice (some ⟨W.heap.size, 0, none⟩) 4 4] 66)) (.slice (some ⟨W.heap.size + 1, 0, none⟩) 1 1) [(65, be4 n)]) := Lib.hid (by
    have h := Cps.of_blk (l := [(65, be4 n)]) (made_blk (w := W.alloc (.cells #[.int .u8 ((n : Int) / 16777216), .int .u8 ((n : Int) / 65536 % 256), .int .u8 ((n : Int) / 256 % 256), .int .u8 ((n : Int) % 256)] 5)) (n := W.heap.size + 1) (t := 66) (cs := #[.int .u8 65, .slice (some ⟨W.heap.size, 0, none⟩) 4 4]) (by simp))
      ⟨rfl, ((made_by (w := W) (n := W.heap.size) (l := be4 n) (cs := #[.int .u8 ((n : Int) / 16777216), .int .u8 ((n : Int) / 65536 % 256), .int .u8 ((n : Int) / 256 % 256), .int .u8 ((n : Int) % 256)]) rfl (bys_be4 n hn).symm (by simp [be4, maxLen])).old ((Kept.refl Nothing _).alloc _)), trivial⟩ (by simp [maxLen])
    exact h)
  have K1 := Lib.hid k1
  have C1 := Lib.hid (fun w => op_number 0 0 0 a ha _ _ w (Cps.nil w) (by decide))
  have C2 := Lib.hid (fun w h => op_number 0 0 0 a ha (.slice (some ⟨W.heap.size + 1, 0, none⟩) 1 1) [(65, be4 n)] w h (by simp))
  have C3 := Lib.hid (fun v w h => op_number 0 0 0 a ha v [(65, [1, 2, 3]), (9, [])] w h (by decide))
  have e1 : Hid (Opn.own a (Cp.number []) = (if a ≠ 0 ∧ a ≠ 23456 then (a, true) else (0, false))) := Lib.hid rfl
  have e2 : Hid (Opn.own a (Cp.number [(65, be4 n)]) = (if n ≠ 0 ∧ (a = n ∨ a = 23456) then (n, true) else (0, false))) := Lib.hid (by rw [number_four n hn]; rfl)
  have e3 : Hid (Opn.own a (Cp.number [(65, [1, 2, 3]), (9, [])]) = Opn.own a (Cp.number [])) := Lib.hid rfl
  rw [e3.out] at C3
  clear e3 k1
  generalize Opn.own a (Cp.number []) = R1 at *
  generalize Opn.own a (Cp.number [(65, be4 n)]) = R2 at *
  obtain ⟨x1, b1⟩ := R1
  obtain ⟨x2, b2⟩ := R2
  simp only at C1 C2 C3
  go_enter Tryd.func7, Tryd.ntmps7
  go_wp2_with fail
  refine (C1.out _).mono ?_
  rintro e w1 ⟨rfl, hk⟩
  have K2 := Lib.hid (K1.out.trans hk)
  have P2 := Lib.hid (P1.out.old hk)
  clear hk K1 P1
  go_wp2_with fail
  refine (C2.out _ P2.out).mono ?_
  rintro e w2 ⟨rfl, hk⟩
  have K3 := Lib.hid (K2.out.trans hk)
  have hy := made_by (w := w2) (n := w2.heap.size) (l := [1, 2, 3]) (cs := #[.int .u8 1, .int .u8 2, .int .u8 3]) rfl rfl (by simp [maxLen])
  have P3 := Lib.hid (Cps.of_blk (l := [(65, [1, 2, 3]), (9, [])]) (made_blk (w := w2.alloc (.cells #[.int .u8 1, .int .u8 2, .int .u8 3] 5)) (n := w2.heap.size + 1) (t := 66) (cs := #[.int .u8 65, .slice (some ⟨w2.heap.size, 0, none⟩) 3 3, .int .u8 9, .slice none 0 0]) (by simp))
      ⟨rfl, hy.old ((Kept.refl Nothing _).alloc _), rfl, (Bs.nil _).by, trivial⟩ (by simp [maxLen]))
  have K4 := Lib.hid ((K3.out.alloc (.cells #[.int .u8 1, .int .u8 2, .int .u8 3] 5)).alloc (.cells #[.int .u8 65, .slice (some ⟨w2.heap.size, 0, none⟩) 3 3, .int .u8 9, .slice none 0 0] 66))
  clear hk hy K2 K3 P2
  go_wp2_with fail
  refine (C3.out _ _ P3.out).mono ?_
  rintro e w3 ⟨rfl, hk⟩
  have K5 := Lib.hid (K4.out.trans hk)
  have HT := Lib.hid (op_tells w3 (HR.out.kept K5.out))
  have h1 := e1.out
  have h2 := e2.out
  clear hk K4 C1 C2 C3 e1 e2 P3
  by_cases a0 : a = 0
  · subst a0
    obtain ⟨rfl, rfl⟩ := Prod.mk.inj (h1.trans (if_neg (by decide)))
    by_cases n0 : n = 0
    · subst n0
      obtain ⟨rfl, rfl⟩ := Prod.mk.inj (h2.trans (if_neg (by decide)))
      clear h1 h2
      go_wp2_with (go_at_call 13; refine HT.out.mono ?_; rintro e w4 ⟨rfl, hk⟩)
      go_ret
      exact ⟨rfl, K5.out.trans hk⟩
    · obtain ⟨rfl, rfl⟩ := Prod.mk.inj (h2.trans (if_neg (by omega)))
      have q1 : ((n : Int) != 0) = true := by simp; omega
      have q2 : ((0 : Int) == (n : Int)) = false := by simp; omega
      clear h1 h2 n0
      go_wp2_with (go_at_call 13; refine HT.out.mono ?_; rintro e w4 ⟨rfl, hk⟩)
      go_ret
      exact ⟨rfl, K5.out.trans hk⟩
  · by_cases at_ : a = 23456
    · subst at_
      obtain ⟨rfl, rfl⟩ := Prod.mk.inj (h1.trans (if_neg (by decide)))
      by_cases n0 : n = 0
      · subst n0
        obtain ⟨rfl, rfl⟩ := Prod.mk.inj (h2.trans (if_neg (by decide)))
        clear h1 h2
        go_wp2_with (go_at_call 13; refine HT.out.mono ?_; rintro e w4 ⟨rfl, hk⟩)
        go_ret
        exact ⟨rfl, K5.out.trans hk⟩
      · obtain ⟨rfl, rfl⟩ := Prod.mk.inj (h2.trans (if_pos (by omega)))
        have q1 : ((x2 : Int) != 0) = true := by simp; omega
        clear h1 h2 n0
        go_wp2_with (go_at_call 13; refine HT.out.mono ?_; rintro e w4 ⟨rfl, hk⟩)
        go_ret
        exact ⟨rfl, K5.out.trans hk⟩
    · obtain ⟨rfl, rfl⟩ := Prod.mk.inj (h1.trans (if_pos ⟨a0, at_⟩))
      have p1 : ((x1 : Int) != 0) = true := by simp; omega
      have p2 : ((x1 : Int) != 23456) = true := by simp; omega
      have p3 : ((x1 : Int) == 23456) = false := by simp; omega
      by_cases n0 : n = 0
      · subst n0
        obtain ⟨rfl, rfl⟩ := Prod.mk.inj (h2.trans (if_neg (fun h => h.1 rfl)))
        clear h1 h2 a0 at_
        go_wp2_with (go_at_call 13; refine HT.out.mono ?_; rintro e w4 ⟨rfl, hk⟩)
        go_ret
        exact ⟨rfl, K5.out.trans hk⟩
      · have q1 : ((n : Int) != 0) = true := by simp; omega
        by_cases an : x1 = n
        · obtain ⟨rfl, rfl⟩ := Prod.mk.inj (h2.trans (if_pos ⟨n0, .inl an⟩))
          subst an
          clear h1 h2 n0 a0 at_
          go_wp2_with (go_at_call 13; refine HT.out.mono ?_; rintro e w4 ⟨rfl, hk⟩)
          go_ret
          exact ⟨rfl, K5.out.trans hk⟩
        · obtain ⟨rfl, rfl⟩ := Prod.mk.inj (h2.trans (if_neg (by omega)))
          have q2 : ((x1 : Int) == (n : Int)) = false := by simp; omega
          clear h1 h2 n0 a0 at_ an
          go_wp2_with (go_at_call 13; refine HT.out.mono ?_; rintro e w4 ⟨rfl, hk⟩)
          go_ret
          exact ⟨rfl, K5.out.trans hk⟩
end Go.Proofs.YtgpphgnjhinklaaDoor
