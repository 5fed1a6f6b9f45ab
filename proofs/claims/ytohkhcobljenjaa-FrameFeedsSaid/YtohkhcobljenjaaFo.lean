
/-
  What the calls of package frame do: a head judged.
-/
import Derived.Test.YtohkhcobljenjaaFn
import Derived.Test.YtohkhcobljenjaaWh
namespace Go.Proofs.Ytohkhcobljenjaa
open Go.RowKit

/-- A slice that lies in new memory. -/
def New (w : World) (v : Value) : Prop := ∀ a n c, v = .slice (some a) n c → w.heap.size ≤ a.block
theorem New.nil (w : World) : New w (.slice none 0 0) := fun a n c e => by cases e

def judge3 (m : Bool) (n k : Nat) : Nat × List UInt8 :=
  if m = false then (1, [])
  else if n < 19 ∨ 4096 < n then (2, [UInt8.ofNat (n / 256), UInt8.ofNat n])
  else if k < 1 ∨ 5 < k then (3, [UInt8.ofNat k])
  else if Fr.fits k n = false then (2, [UInt8.ofNat (n / 256), UInt8.ofNat n])
  else (0, [])
theorem judge_eq (l : List UInt8) : Fr.judge l = judge3 (Fr.marked l) (Fr.len l) (Fr.kind l).toNat := by
  have u1 : UInt8.ofNat (Fr.len l / 256) = l.getD 16 0 := Fr.u8_eq (by
    rw [UInt8.toNat_ofNat']
    have a1 := (l.getD 17 0).toNat_lt
    have a2 := (l.getD 16 0).toNat_lt
    unfold Fr.len; omega)
  have u2 : UInt8.ofNat (Fr.len l) = l.getD 17 0 := Fr.u8_eq (by
    rw [UInt8.toNat_ofNat']
    have a1 := (l.getD 17 0).toNat_lt
    unfold Fr.len; omega)
  unfold Fr.judge judge3
  rw [u1, u2, UInt8.ofNat_toNat]

theorem three_kept (w : World) (a b c : Obj) : Kept Nothing w (((w.alloc a).alloc b).alloc c) := (((Kept.refl Nothing w).alloc a).alloc b).alloc c
theorem made2 (W : World) (k : Nat) (hk : W.heap.size = k) (x y : Int) (a b : UInt8) (hx : x = (a.toNat : Int)) (hy : y = (b.toNat : Int)) : Bs (W.alloc (.cells #[.int .u8 x, .int .u8 y] 5)) (.slice (some ⟨k, 0, none⟩) 2 2) [a, b] := by
  subst hk hx hy
  exact Bs.made (l := [a, b]) (Blk.fresh W _ _) rfl (by simp [maxLen])
theorem made1 (W : World) (k : Nat) (hk : W.heap.size = k) (x : Int) (a : UInt8) (hx : x = (a.toNat : Int)) : Bs (W.alloc (.cells #[.int .u8 x] 5)) (.slice (some ⟨k, 0, none⟩) 1 1) [a] := by
  subst hk hx
  exact Bs.made (l := [a]) (Blk.fresh W _ _) rfl (by simp [maxLen])
theorem lo8 (n : Nat) : ((n : Int) % 256) = ((UInt8.ofNat n).toNat : Int) := by rw [UInt8.toNat_ofNat']; omega
theorem hi8 (n : Nat) (h : n < 65536) : ((n : Int) / 256) = ((UInt8.ofNat (n / 256)).toNat : Int) := by rw [UInt8.toNat_ofNat']; omega
theorem lo8' (n : Nat) (h : n < 256) : (n : Int) = ((UInt8.ofNat n).toNat : Int) := by rw [UInt8.toNat_ofNat']; omega
theorem new_at (w : World) (k n c : Nat) (h : w.heap.size ≤ k) : New w (.slice (some ⟨k, 0, none⟩) n c) := fun a n' c' e => by
  injection e with e1 e2 e3
  injection e1 with e1
  subst e1
  exact h

set_option maxHeartbeats 400000 in
theorem fr_fault (m : Bool) (n k : Nat) (w : World) (hn : n < 65536) (hk : k < 256) :
    Calls Try.prog 18 #[.agg #[.bool m, .int .i64 (n : Int), .int .u8 (k : Int)]] w fun r w' => ∃ dv, r = .returned (.tuple #[.agg #[.int .u8 (codeOf (judge3 m n k).1), .int .u8 ((judge3 m n k).1 : Int)], dv]) ∧ Bs w' dv (judge3 m n k).2 ∧ New w dv ∧ Kept Nothing w w' := by
  by_cases h1 : m = false
  · subst h1
    have hj : judge3 false n k = (1, []) := if_pos rfl
    rw [hj]
    clear hj
    go_enter Try.func18, Try.ntmps18
    go_wp2
    exact bodyPost_ret (v := .tuple #[.agg #[.int .u8 1, .int .u8 1], .slice none 0 0]) (by simp [results, Try.results18, go_sem]) rfl ⟨_, rfl, Bs.nil _, New.nil _, three_kept ..⟩
  · obtain rfl : m = true := by simpa using h1
    clear h1
    have h2 : Hid (n < 65536) := hn
    by_cases h3 : n < 19
    · have hj : judge3 true n k = (2, [UInt8.ofNat (n / 256), UInt8.ofNat n]) := by unfold judge3; rw [if_neg (by simp), if_pos (.inl h3)]
      rw [hj]
      clear hj
      go_enter Try.func18, Try.ntmps18
      go_wp2
      exact bodyPost_ret (v := .tuple #[.agg #[.int .u8 1, .int .u8 2], .slice (some ⟨w.heap.size + 1 + 1, 0, none⟩) 2 2]) (by simp [results, Try.results18, go_sem]) rfl ⟨_, rfl, made2 _ _ (by simp) _ _ _ _ (hi8 n hn) (lo8' n (by omega)), new_at w _ _ _ (by omega), three_kept ..⟩
    · by_cases h4 : 4096 < n
      · have hj : judge3 true n k = (2, [UInt8.ofNat (n / 256), UInt8.ofNat n]) := by unfold judge3; rw [if_neg (by simp), if_pos (.inr h4)]
        rw [hj]
        clear hj
        go_enter Try.func18, Try.ntmps18
        go_wp2
        exact bodyPost_ret (v := .tuple #[.agg #[.int .u8 1, .int .u8 2], .slice (some ⟨w.heap.size + 1 + 1, 0, none⟩) 2 2]) (by simp [results, Try.results18, go_sem]) rfl ⟨_, rfl, made2 _ _ (by simp) _ _ _ _ (hi8 n hn) (lo8 n), new_at w _ _ _ (by omega), three_kept ..⟩
      · by_cases h5 : k < 1 ∨ 5 < k
        · have hj : judge3 true n k = (3, [UInt8.ofNat k]) := by unfold judge3; rw [if_neg (by simp), if_neg (by omega), if_pos h5]
          have hkn : knownB k = false := by unfold knownB; simp; omega
          have HC := Lib.hid (fun w => fr_known k w)
          rw [hkn] at HC
          rw [hj]
          clear hj hkn h5
          go_enter Try.func18, Try.ntmps18
          go_wp2_with fail
          refine (HC.out _).mono ?_
          rintro e w' ⟨rfl, rfl⟩
          go_wp2
          go_region
          all_goals
            go_wp2
            exact bodyPost_ret (v := .tuple #[.agg #[.int .u8 1, .int .u8 3], .slice (some ⟨w.heap.size + 1 + 1 + 1, 0, none⟩) 1 1]) (by simp [results, Try.results18, go_sem]) rfl ⟨_, rfl, (made1 _ _ (by simp) _ _ (lo8' k hk)).kept ((Kept.refl Nothing _).drew) (NoBytes.nothing _), new_at w _ _ _ (by omega), ((three_kept ..).alloc _).drew⟩
        · have hkn : knownB k = true := by unfold knownB; simp; omega
          have HC := Lib.hid (fun w => fr_known k w)
          rw [hkn] at HC
          cases hft : Fr.fits k n
          · have hj : judge3 true n k = (2, [UInt8.ofNat (n / 256), UInt8.ofNat n]) := by unfold judge3; rw [if_neg (by simp), if_neg (by omega), if_neg h5, if_pos hft]
            have HF := Lib.hid (fun w => fr_fits k n w)
            rw [hft] at HF
            rw [hj]
            clear hj hkn h5 hft
            go_enter Try.func18, Try.ntmps18
            go_wp2_with fail
            refine (HC.out _).mono ?_
            rintro e w' ⟨rfl, rfl⟩
            go_wp2_with fail
            refine (HF.out _).mono ?_
            rintro e w' ⟨rfl, rfl⟩
            go_wp2
            exact bodyPost_ret (v := .tuple #[.agg #[.int .u8 1, .int .u8 2], .slice (some ⟨w.heap.size + 1 + 1, 0, none⟩) 2 2]) (by simp [results, Try.results18, go_sem]) rfl ⟨_, rfl, made2 _ _ (by simp) _ _ _ _ (hi8 n hn) (lo8 n), new_at w _ _ _ (by omega), three_kept ..⟩
          · have hj : judge3 true n k = (0, []) := by unfold judge3; rw [if_neg (by simp), if_neg (by omega), if_neg h5, if_neg (by rw [hft]; simp)]
            have HF := Lib.hid (fun w => fr_fits k n w)
            rw [hft] at HF
            rw [hj]
            clear hj hkn h5 hft
            go_enter Try.func18, Try.ntmps18
            go_wp2_with fail
            refine (HC.out _).mono ?_
            rintro e w' ⟨rfl, rfl⟩
            go_wp2_with fail
            refine (HF.out _).mono ?_
            rintro e w' ⟨rfl, rfl⟩
            go_wp2
            exact bodyPost_ret (v := .tuple #[.agg #[.int .u8 0, .int .u8 0], .slice none 0 0]) (by simp [results, Try.results18, go_sem]) rfl ⟨_, rfl, Bs.nil _, New.nil _, three_kept ..⟩
end Go.Proofs.Ytohkhcobljenjaa
