
/-
  The law SessionKnown (printed by wip/gen_snk.py).
-/
import Derived.Test.YtlghmjipnkmeeaaDoorSNh
import Derived.Test.YtlghmjipnkmeeaaDoorIw
namespace Go.Proofs.YtlghmjipnkmeeaaDoor
open Go.RowKit

theorem se_atL (st hd : Int) (m : Sm.M) (hm : Sm.Ok m) (hn : Nm st hd m) (kd ho : Int) (x c s : Nat) (nx tc ts n : Int) (h : ((Sm.step m ⟨kd, x, ho, c, s⟩).1.state : Int) = nx ∧ ((Sm.tl (Sm.step m ⟨kd, x, ho, c, s⟩).2).1 : Int) = tc ∧ ((Sm.tl (Sm.step m ⟨kd, x, ho, c, s⟩).2).2 : Int) = ts ∧ ((Sm.step m ⟨kd, x, ho, c, s⟩).2.length : Int) = n) (w : World) (hR : RdS w) :
    Calls Tryd.prog 15 #[.int .i64 st, .int .i64 hd, .agg #[.int .i64 kd, .int .u8 x, .int .i64 ho, .int .u8 c, .int .u8 s, .slice none 0 0]] w
      fun e w' => e = .returned (.tuple #[.int .i64 nx, .agg #[.int .u8 tc, .int .u8 ts], .int .i64 n]) ∧ Kept Nothing w w' := by
  obtain ⟨rfl, rfl, rfl, rfl⟩ := h
  exact se_at st hd m hm hn kd ho x c s _ _ rfl w hR
theorem se_doL (st hd : Int) (m : Sm.M) (hm : Sm.Ok m) (hn : Nm st hd m) (kd ho : Int) (x c s : Nat) (s2 h2 : Int) (n : Nat) (acts : List Sm.Act) (h : ((Sm.step m ⟨kd, x, ho, c, s⟩).1.state : Int) = s2 ∧ ((Sm.step m ⟨kd, x, ho, c, s⟩).1.hold : Int) = h2 ∧ (Sm.step m ⟨kd, x, ho, c, s⟩).2 = acts ∧ acts.length = n) (w : World) (hR : RdS w) :
    Calls Tryd.prog 9 #[.agg #[.int .i64 st, .int .i64 hd], .agg #[.int .i64 kd, .int .u8 x, .int .i64 ho, .int .u8 c, .int .u8 s, .slice none 0 0]] w
      fun e w' => ∃ A cc, e = .returned (.tuple #[.agg #[.int .i64 s2, .int .i64 h2], .slice A n cc]) ∧ Acs .u8 w' (.slice A n cc) acts [] ∧ Kept Nothing w w' := by
  obtain ⟨rfl, rfl, rfl, rfl⟩ := h
  exact se_do st hd m hm hn kd ho x c s none 0 0 [] w hR (Bs.nil w).by (by simp)
def klK (mB pB tB vB b1 o1 b2 o2 cm cv cn cp cr ct : Nat) (An Ap Ar At : Option Addr) : List (Option Value) := [some (.int .i64 1), some (.bool true), some (.bool true), some (.agg #[.int .u8 2, .int .u8 6]), some (.agg #[.int .u8 2, .int .u8 6]), some (.bool true), some (.bool true), some (.bool true), some (.pointer (some ⟨mB, 0, none⟩)), some (.int .i64 5), some (.bool true), some (.bool true), some (.bool true), some (.pointer (some ⟨mB, 1, none⟩)), some (.int .i64 0), some (.bool true), some (.bool true), some (.bool true), some (.slice (some ⟨b1, o1, none⟩) 2 cm), some (.int .i64 2), some (.bool true), some (.bool true), some (.bool true), some (.slice (some ⟨b1, o1, none⟩) 2 cm), some (.pointer (some ⟨b1, o1 + 6, none⟩)), some (.pointer (some ⟨b1, o1 + 6, none⟩)), some (.int .i64 4), some (.bool true), some (.bool true), some (.bool true), some (.agg #[.int .i64 5, .int .i64 0]), some (.agg #[.int .i64 5, .int .i64 0]), some (.bool true), some (.bool true), some (.bool true), some (.slice An 0 cn), some (.int .i64 0), some (.bool true), some (.bool true), some (.bool true), some (.pointer (some ⟨pB, 0, none⟩)), some (.int .i64 6), some (.bool true), some (.bool true), some (.bool true), some (.slice Ap 1 cp), some (.int .i64 1), some (.bool true), some (.bool true), some (.bool true), some (.agg #[.int .i64 1, .int .i64 0]), some (.agg #[.int .i64 1, .int .i64 0]), some (.bool true), some (.bool true), some (.bool true), some (.slice Ar 0 cr), some (.int .i64 0), some (.bool true), some (.bool true), some (.bool true), some (.pointer (some ⟨tB, 0, none⟩)), some (.int .i64 3), some (.bool true), some (.bool true), some (.bool true), some (.slice At 3 ct), some (.int .i64 3), some (.bool true), some (.bool true), some (.bool true), some (.pointer (some ⟨vB, 1, none⟩)), some (.int .i64 3), some (.bool true), some (.bool true), some (.bool true), some (.slice (some ⟨b2, o2, none⟩) 3 cv), some (.int .i64 3), some (.bool true), some (.bool true), some (.bool true), some (.slice (some ⟨b2, o2, none⟩) 3 cv), some (.pointer (some ⟨b2, o2 + 12, none⟩)), some (.pointer (some ⟨b2, o2 + 14, none⟩)), some (.int .i64 1), some (.bool true), some (.bool true), some (.bool true), some (.bool true), some (.bool true), some (.bool true)]
set_option maxRecDepth 100000 in
set_option maxHeartbeats 16000000 in
theorem known_law (W : World) (hR : RdS W) :
    Calls Tryd.prog 7 #[] W fun e w' => e = .returned (.bool true) ∧ Kept Nothing W w' := by
  have HR := Lib.hid hR
  have HT := Lib.hid (fun u (k : Kept Nothing W u) => s_tells u (hR.old k))
  clear hR
  go_enter Tryd.func7, Tryd.ntmps7
  go_upto_block 0 with fail
  go_cut [] (fun wx => Hid (Kept Nothing W wx))
  case first =>
    go_wp2
    go_loopw [2] (fun i wr => ∃ k : Nat, i = .int .i64 (k : Int) ∧ 4 ≤ k ∧ k ≤ 7 ∧ Hid (Kept Nothing W wr)) (fun i _ => 7 - (intOf i).toNat)
    case atStart => exact ⟨4, rfl, by omega, by omega, Lib.hid (Kept.refl Nothing W)⟩
    case round =>
      obtain ⟨k, rfl, hk4, hk7, HK⟩ := hrel
      obtain rfl | rfl | rfl | rfl : k = 4 ∨ k = 5 ∨ k = 6 ∨ k = 7 := by omega
      · have e4 : ((4 : Nat) : Int) = 4 := rfl
        rw [e4]
        clear e4
        go_wp2
        go_loopw [3] (fun j wx => ∃ q : Nat, j = .int .u8 (q : Int) ∧ q ≤ 7 ∧ Hid (Kept Nothing W wx)) (fun j _ => 7 - (intOf j).toNat)
        case atStart => exact ⟨0, rfl, by omega, HK⟩
        case round =>
          clear HK
          obtain ⟨q, rfl, hq7, HK⟩ := hrel
          obtain rfl | rfl | rfl | rfl | rfl | rfl | rfl | rfl : q = 0 ∨ q = 1 ∨ q = 2 ∨ q = 3 ∨ q = 4 ∨ q = 5 ∨ q = 6 ∨ q = 7 := by omega
          · go_wp2_with fail
            refine (se_atL 4 90 ⟨4, 0⟩ (by unfold Sm.Ok; decide) (.inl ⟨rfl, .inl (by decide)⟩) 5 90 0 0 0 1 1 3 6 (by decide) _ (HR.out.old HK.out)).mono ?_
            rintro e' w9 ⟨rfl, hk⟩
            have HK9 := Lib.hid (((HK.out.trans hk).alloc (.cells #[.int .u8 1, .int .u8 3] 28)).alloc (.cells #[.int .u8 1, .int .u8 3] 28))
            clear hk HK
            go_wp2
            go_roundw
            case rel => exact ⟨1, by go_num, by omega, HK9⟩
            case measure => simp [intOf]; try omega
          · go_wp2_with fail
            refine (se_atL 4 90 ⟨4, 0⟩ (by unfold Sm.Ok; decide) (.inl ⟨rfl, .inl (by decide)⟩) 5 90 1 0 0 5 0 0 3 (by decide) _ (HR.out.old HK.out)).mono ?_
            rintro e' w9 ⟨rfl, hk⟩
            have HK9 := Lib.hid (((HK.out.trans hk).alloc (.cells #[.int .u8 0, .int .u8 0] 28)).alloc (.cells #[.int .u8 0, .int .u8 0] 28))
            clear hk HK
            go_wp2
            go_roundw
            case rel => exact ⟨2, by go_num, by omega, HK9⟩
            case measure => simp [intOf]; try omega
          · go_wp2_with fail
            refine (se_atL 4 90 ⟨4, 0⟩ (by unfold Sm.Ok; decide) (.inl ⟨rfl, .inl (by decide)⟩) 5 90 2 0 0 1 5 1 6 (by decide) _ (HR.out.old HK.out)).mono ?_
            rintro e' w9 ⟨rfl, hk⟩
            have HK9 := Lib.hid (((HK.out.trans hk).alloc (.cells #[.int .u8 5, .int .u8 1] 28)).alloc (.cells #[.int .u8 5, .int .u8 1] 28))
            clear hk HK
            go_wp2
            go_roundw
            case rel => exact ⟨3, by go_num, by omega, HK9⟩
            case measure => simp [intOf]; try omega
          · go_wp2_with fail
            refine (se_atL 4 90 ⟨4, 0⟩ (by unfold Sm.Ok; decide) (.inl ⟨rfl, .inl (by decide)⟩) 5 90 3 0 0 1 0 0 5 (by decide) _ (HR.out.old HK.out)).mono ?_
            rintro e' w9 ⟨rfl, hk⟩
            have HK9 := Lib.hid (((HK.out.trans hk).alloc (.cells #[.int .u8 0, .int .u8 0] 28)).alloc (.cells #[.int .u8 0, .int .u8 0] 28))
            clear hk HK
            go_wp2
            go_roundw
            case rel => exact ⟨4, by go_num, by omega, HK9⟩
            case measure => simp [intOf]; try omega
          · go_wp2_with fail
            refine (se_atL 4 90 ⟨4, 0⟩ (by unfold Sm.Ok; decide) (.inl ⟨rfl, .inl (by decide)⟩) 5 90 4 0 0 1 5 1 6 (by decide) _ (HR.out.old HK.out)).mono ?_
            rintro e' w9 ⟨rfl, hk⟩
            have HK9 := Lib.hid (((HK.out.trans hk).alloc (.cells #[.int .u8 5, .int .u8 1] 28)).alloc (.cells #[.int .u8 5, .int .u8 1] 28))
            clear hk HK
            go_wp2
            go_roundw
            case rel => exact ⟨5, by go_num, by omega, HK9⟩
            case measure => simp [intOf]; try omega
          · go_wp2_with fail
            refine (se_atL 4 90 ⟨4, 0⟩ (by unfold Sm.Ok; decide) (.inl ⟨rfl, .inl (by decide)⟩) 5 90 5 0 0 1 5 1 6 (by decide) _ (HR.out.old HK.out)).mono ?_
            rintro e' w9 ⟨rfl, hk⟩
            have HK9 := Lib.hid (((HK.out.trans hk).alloc (.cells #[.int .u8 5, .int .u8 1] 28)).alloc (.cells #[.int .u8 5, .int .u8 1] 28))
            clear hk HK
            go_wp2
            go_roundw
            case rel => exact ⟨6, by go_num, by omega, HK9⟩
            case measure => simp [intOf]; try omega
          · go_wp2_with fail
            refine (se_atL 4 90 ⟨4, 0⟩ (by unfold Sm.Ok; decide) (.inl ⟨rfl, .inl (by decide)⟩) 5 90 6 0 0 1 1 3 6 (by decide) _ (HR.out.old HK.out)).mono ?_
            rintro e' w9 ⟨rfl, hk⟩
            have HK9 := Lib.hid (((HK.out.trans hk).alloc (.cells #[.int .u8 1, .int .u8 3] 28)).alloc (.cells #[.int .u8 1, .int .u8 3] 28))
            clear hk HK
            go_wp2
            go_roundw
            case rel => exact ⟨7, by go_num, by omega, HK9⟩
            case measure => simp [intOf]; try omega
          · go_wp2
            go_roundw
            case rel => exact ⟨5, by go_num, by omega, by omega, HK⟩
            case measure => simp [intOf]; try omega
      · have e4 : ((5 : Nat) : Int) = 5 := rfl
        rw [e4]
        clear e4
        go_wp2
        go_loopw [3] (fun j wx => ∃ q : Nat, j = .int .u8 (q : Int) ∧ q ≤ 7 ∧ Hid (Kept Nothing W wx)) (fun j _ => 7 - (intOf j).toNat)
        case atStart => exact ⟨0, rfl, by omega, HK⟩
        case round =>
          clear HK
          obtain ⟨q, rfl, hq7, HK⟩ := hrel
          obtain rfl | rfl | rfl | rfl | rfl | rfl | rfl | rfl : q = 0 ∨ q = 1 ∨ q = 2 ∨ q = 3 ∨ q = 4 ∨ q = 5 ∨ q = 6 ∨ q = 7 := by omega
          · go_wp2_with fail
            refine (se_atL 5 90 ⟨5, 90⟩ (by unfold Sm.Ok; decide) (.inl ⟨rfl, .inr rfl⟩) 5 90 0 0 0 1 1 3 6 (by decide) _ (HR.out.old HK.out)).mono ?_
            rintro e' w9 ⟨rfl, hk⟩
            have HK9 := Lib.hid (((HK.out.trans hk).alloc (.cells #[.int .u8 1, .int .u8 3] 28)).alloc (.cells #[.int .u8 1, .int .u8 3] 28))
            clear hk HK
            go_wp2
            go_roundw
            case rel => exact ⟨1, by go_num, by omega, HK9⟩
            case measure => simp [intOf]; try omega
          · go_wp2_with fail
            refine (se_atL 5 90 ⟨5, 90⟩ (by unfold Sm.Ok; decide) (.inl ⟨rfl, .inr rfl⟩) 5 90 1 0 0 1 5 2 6 (by decide) _ (HR.out.old HK.out)).mono ?_
            rintro e' w9 ⟨rfl, hk⟩
            have HK9 := Lib.hid (((HK.out.trans hk).alloc (.cells #[.int .u8 5, .int .u8 2] 28)).alloc (.cells #[.int .u8 5, .int .u8 2] 28))
            clear hk HK
            go_wp2
            go_roundw
            case rel => exact ⟨2, by go_num, by omega, HK9⟩
            case measure => simp [intOf]; try omega
          · go_wp2_with fail
            refine (se_atL 5 90 ⟨5, 90⟩ (by unfold Sm.Ok; decide) (.inl ⟨rfl, .inr rfl⟩) 5 90 2 0 0 1 5 2 6 (by decide) _ (HR.out.old HK.out)).mono ?_
            rintro e' w9 ⟨rfl, hk⟩
            have HK9 := Lib.hid (((HK.out.trans hk).alloc (.cells #[.int .u8 5, .int .u8 2] 28)).alloc (.cells #[.int .u8 5, .int .u8 2] 28))
            clear hk HK
            go_wp2
            go_roundw
            case rel => exact ⟨3, by go_num, by omega, HK9⟩
            case measure => simp [intOf]; try omega
          · go_wp2_with fail
            refine (se_atL 5 90 ⟨5, 90⟩ (by unfold Sm.Ok; decide) (.inl ⟨rfl, .inr rfl⟩) 5 90 3 0 0 1 0 0 5 (by decide) _ (HR.out.old HK.out)).mono ?_
            rintro e' w9 ⟨rfl, hk⟩
            have HK9 := Lib.hid (((HK.out.trans hk).alloc (.cells #[.int .u8 0, .int .u8 0] 28)).alloc (.cells #[.int .u8 0, .int .u8 0] 28))
            clear hk HK
            go_wp2
            go_roundw
            case rel => exact ⟨4, by go_num, by omega, HK9⟩
            case measure => simp [intOf]; try omega
          · go_wp2_with fail
            refine (se_atL 5 90 ⟨5, 90⟩ (by unfold Sm.Ok; decide) (.inl ⟨rfl, .inr rfl⟩) 5 90 4 0 0 6 0 0 2 (by decide) _ (HR.out.old HK.out)).mono ?_
            rintro e' w9 ⟨rfl, hk⟩
            have HK9 := Lib.hid (((HK.out.trans hk).alloc (.cells #[.int .u8 0, .int .u8 0] 28)).alloc (.cells #[.int .u8 0, .int .u8 0] 28))
            clear hk HK
            go_wp2
            go_roundw
            case rel => exact ⟨5, by go_num, by omega, HK9⟩
            case measure => simp [intOf]; try omega
          · go_wp2_with fail
            refine (se_atL 5 90 ⟨5, 90⟩ (by unfold Sm.Ok; decide) (.inl ⟨rfl, .inr rfl⟩) 5 90 5 0 0 1 5 2 6 (by decide) _ (HR.out.old HK.out)).mono ?_
            rintro e' w9 ⟨rfl, hk⟩
            have HK9 := Lib.hid (((HK.out.trans hk).alloc (.cells #[.int .u8 5, .int .u8 2] 28)).alloc (.cells #[.int .u8 5, .int .u8 2] 28))
            clear hk HK
            go_wp2
            go_roundw
            case rel => exact ⟨6, by go_num, by omega, HK9⟩
            case measure => simp [intOf]; try omega
          · go_wp2_with fail
            refine (se_atL 5 90 ⟨5, 90⟩ (by unfold Sm.Ok; decide) (.inl ⟨rfl, .inr rfl⟩) 5 90 6 0 0 1 1 3 6 (by decide) _ (HR.out.old HK.out)).mono ?_
            rintro e' w9 ⟨rfl, hk⟩
            have HK9 := Lib.hid (((HK.out.trans hk).alloc (.cells #[.int .u8 1, .int .u8 3] 28)).alloc (.cells #[.int .u8 1, .int .u8 3] 28))
            clear hk HK
            go_wp2
            go_roundw
            case rel => exact ⟨7, by go_num, by omega, HK9⟩
            case measure => simp [intOf]; try omega
          · go_wp2
            go_roundw
            case rel => exact ⟨6, by go_num, by omega, by omega, HK⟩
            case measure => simp [intOf]; try omega
      · have e4 : ((6 : Nat) : Int) = 6 := rfl
        rw [e4]
        clear e4
        go_wp2
        go_loopw [3] (fun j wx => ∃ q : Nat, j = .int .u8 (q : Int) ∧ q ≤ 7 ∧ Hid (Kept Nothing W wx)) (fun j _ => 7 - (intOf j).toNat)
        case atStart => exact ⟨0, rfl, by omega, HK⟩
        case round =>
          clear HK
          obtain ⟨q, rfl, hq7, HK⟩ := hrel
          obtain rfl | rfl | rfl | rfl | rfl | rfl | rfl | rfl : q = 0 ∨ q = 1 ∨ q = 2 ∨ q = 3 ∨ q = 4 ∨ q = 5 ∨ q = 6 ∨ q = 7 := by omega
          · go_wp2_with fail
            refine (se_atL 6 90 ⟨6, 90⟩ (by unfold Sm.Ok; decide) (.inl ⟨rfl, .inr rfl⟩) 5 90 0 0 0 1 1 3 7 (by decide) _ (HR.out.old HK.out)).mono ?_
            rintro e' w9 ⟨rfl, hk⟩
            have HK9 := Lib.hid (((HK.out.trans hk).alloc (.cells #[.int .u8 1, .int .u8 3] 28)).alloc (.cells #[.int .u8 1, .int .u8 3] 28))
            clear hk HK
            go_wp2
            go_roundw
            case rel => exact ⟨1, by go_num, by omega, HK9⟩
            case measure => simp [intOf]; try omega
          · go_wp2_with fail
            refine (se_atL 6 90 ⟨6, 90⟩ (by unfold Sm.Ok; decide) (.inl ⟨rfl, .inr rfl⟩) 5 90 1 0 0 1 5 3 7 (by decide) _ (HR.out.old HK.out)).mono ?_
            rintro e' w9 ⟨rfl, hk⟩
            have HK9 := Lib.hid (((HK.out.trans hk).alloc (.cells #[.int .u8 5, .int .u8 3] 28)).alloc (.cells #[.int .u8 5, .int .u8 3] 28))
            clear hk HK
            go_wp2
            go_roundw
            case rel => exact ⟨2, by go_num, by omega, HK9⟩
            case measure => simp [intOf]; try omega
          · go_wp2_with fail
            refine (se_atL 6 90 ⟨6, 90⟩ (by unfold Sm.Ok; decide) (.inl ⟨rfl, .inr rfl⟩) 5 90 2 0 0 6 0 0 2 (by decide) _ (HR.out.old HK.out)).mono ?_
            rintro e' w9 ⟨rfl, hk⟩
            have HK9 := Lib.hid (((HK.out.trans hk).alloc (.cells #[.int .u8 0, .int .u8 0] 28)).alloc (.cells #[.int .u8 0, .int .u8 0] 28))
            clear hk HK
            go_wp2
            go_roundw
            case rel => exact ⟨3, by go_num, by omega, HK9⟩
            case measure => simp [intOf]; try omega
          · go_wp2_with fail
            refine (se_atL 6 90 ⟨6, 90⟩ (by unfold Sm.Ok; decide) (.inl ⟨rfl, .inr rfl⟩) 5 90 3 0 0 1 0 0 6 (by decide) _ (HR.out.old HK.out)).mono ?_
            rintro e' w9 ⟨rfl, hk⟩
            have HK9 := Lib.hid (((HK.out.trans hk).alloc (.cells #[.int .u8 0, .int .u8 0] 28)).alloc (.cells #[.int .u8 0, .int .u8 0] 28))
            clear hk HK
            go_wp2
            go_roundw
            case rel => exact ⟨4, by go_num, by omega, HK9⟩
            case measure => simp [intOf]; try omega
          · go_wp2_with fail
            refine (se_atL 6 90 ⟨6, 90⟩ (by unfold Sm.Ok; decide) (.inl ⟨rfl, .inr rfl⟩) 5 90 4 0 0 6 0 0 1 (by decide) _ (HR.out.old HK.out)).mono ?_
            rintro e' w9 ⟨rfl, hk⟩
            have HK9 := Lib.hid (((HK.out.trans hk).alloc (.cells #[.int .u8 0, .int .u8 0] 28)).alloc (.cells #[.int .u8 0, .int .u8 0] 28))
            clear hk HK
            go_wp2
            go_roundw
            case rel => exact ⟨5, by go_num, by omega, HK9⟩
            case measure => simp [intOf]; try omega
          · go_wp2_with fail
            refine (se_atL 6 90 ⟨6, 90⟩ (by unfold Sm.Ok; decide) (.inl ⟨rfl, .inr rfl⟩) 5 90 5 0 0 6 0 0 1 (by decide) _ (HR.out.old HK.out)).mono ?_
            rintro e' w9 ⟨rfl, hk⟩
            have HK9 := Lib.hid (((HK.out.trans hk).alloc (.cells #[.int .u8 0, .int .u8 0] 28)).alloc (.cells #[.int .u8 0, .int .u8 0] 28))
            clear hk HK
            go_wp2
            go_roundw
            case rel => exact ⟨6, by go_num, by omega, HK9⟩
            case measure => simp [intOf]; try omega
          · go_wp2_with fail
            refine (se_atL 6 90 ⟨6, 90⟩ (by unfold Sm.Ok; decide) (.inl ⟨rfl, .inr rfl⟩) 5 90 6 0 0 1 1 3 7 (by decide) _ (HR.out.old HK.out)).mono ?_
            rintro e' w9 ⟨rfl, hk⟩
            have HK9 := Lib.hid (((HK.out.trans hk).alloc (.cells #[.int .u8 1, .int .u8 3] 28)).alloc (.cells #[.int .u8 1, .int .u8 3] 28))
            clear hk HK
            go_wp2
            go_roundw
            case rel => exact ⟨7, by go_num, by omega, HK9⟩
            case measure => simp [intOf]; try omega
          · go_wp2
            go_roundw
            case rel => exact ⟨7, by go_num, by omega, by omega, HK⟩
            case measure => simp [intOf]; try omega
      · go_wp2
        go_meet
        exact HK
  case rest =>
    have HK := hcut
    clear hcut
    go_upto_block 5 with fail
    go_cut [] (fun wx => Hid (Kept Nothing W wx))
    case first =>
      go_wp2
      go_loopw [9] (fun i wr => ∃ k : Nat, i = .int .i64 (k : Int) ∧ 1 ≤ k ∧ k ≤ 4 ∧ Hid (Kept Nothing W wr)) (fun i _ => 4 - (intOf i).toNat)
      case atStart => exact ⟨1, rfl, by omega, by omega, HK⟩
      case round =>
        clear HK
        obtain ⟨k, rfl, hk1, hk4, HK⟩ := hrel
        obtain rfl | rfl | rfl | rfl : k = 1 ∨ k = 2 ∨ k = 3 ∨ k = 4 := by omega
        · go_wp2_with fail
          refine (se_atL 1 0 ⟨1, 0⟩ (by unfold Sm.Ok; decide) (.inl ⟨rfl, .inr rfl⟩) 5 90 1 0 0 1 0 0 0 (by decide) _ (HR.out.old HK.out)).mono ?_
          rintro e' w9 ⟨rfl, hk⟩
          have HK9 := Lib.hid ((HK.out.trans hk).alloc (.cells #[.int .u8 0, .int .u8 0] 28))
          clear hk HK
          go_wp2
          go_roundw
          case rel => exact ⟨2, by go_num, by omega, by omega, HK9⟩
          case measure => simp [intOf]; try omega
        · go_wp2_with fail
          refine (se_atL 2 0 ⟨2, 0⟩ (by unfold Sm.Ok; decide) (.inl ⟨rfl, .inr rfl⟩) 5 90 1 0 0 2 0 0 0 (by decide) _ (HR.out.old HK.out)).mono ?_
          rintro e' w9 ⟨rfl, hk⟩
          have HK9 := Lib.hid ((HK.out.trans hk).alloc (.cells #[.int .u8 0, .int .u8 0] 28))
          clear hk HK
          go_wp2
          go_roundw
          case rel => exact ⟨3, by go_num, by omega, by omega, HK9⟩
          case measure => simp [intOf]; try omega
        · go_wp2_with fail
          refine (se_atL 3 0 ⟨3, 0⟩ (by unfold Sm.Ok; decide) (.inl ⟨rfl, .inr rfl⟩) 5 90 1 0 0 3 0 0 0 (by decide) _ (HR.out.old HK.out)).mono ?_
          rintro e' w9 ⟨rfl, hk⟩
          have HK9 := Lib.hid ((HK.out.trans hk).alloc (.cells #[.int .u8 0, .int .u8 0] 28))
          clear hk HK
          go_wp2
          go_roundw
          case rel => exact ⟨4, by go_num, by omega, by omega, HK9⟩
          case measure => simp [intOf]; try omega
        · go_wp2
          go_meet
          exact HK
    case rest =>
      clear HK
      have HK := hcut
      clear hcut
      go_wp2_with fail
      refine (se_atL 4 0 ⟨4, 0⟩ (by unfold Sm.Ok; decide) (.inl ⟨rfl, .inr rfl⟩) 5 2 1 0 0 1 2 6 6 (by decide) _ (HR.out.old HK.out)).mono ?_
      rintro e' w9 ⟨rfl, hk⟩
      have K1 := Lib.hid ((HK.out.trans hk).alloc (.cells #[.int .u8 2, .int .u8 6] 28))
      have Bf := Lib.hid (Blk.fresh w9 28 #[.int .u8 2, .int .u8 6])
      clear hk HK
      go_upto_region 24 with fail
      change Code.wp _ _ _ _ (w9.alloc (.cells #[.int .u8 2, .int .u8 6] 28))
      generalize w9.alloc (.cells #[.int .u8 2, .int .u8 6] 28) = v1 at *
      generalize w9.heap.size = fB at *
      go_wp2_with fail
      refine (se_doL 4 0 ⟨4, 0⟩ (by unfold Sm.Ok; decide) (.inl ⟨rfl, .inr rfl⟩) 5 0 1 0 0 5 0 2 [Sm.send 4, Sm.unset 2] ⟨rfl, rfl, rfl, rfl⟩ _ (HR.out.old K1.out)).mono ?_
      rintro e' w9 ⟨Am, cm, rfl, ha, hk⟩
      have k9 := hk.alloc (.cells #[.int .i64 5, .int .i64 0] 24)
      have K2 := Lib.hid (K1.out.trans k9)
      have Bf9 := Lib.hid (Bf.out.kept k9 (fun x => x))
      have Bm9 := Lib.hid (Blk.fresh w9 24 #[.int .i64 5, .int .i64 0])
      have Qm9 := Lib.hid (ha.old ((Kept.refl Nothing w9).alloc (.cells #[.int .i64 5, .int .i64 0] 24)))
      clear ha hk k9 K1 Bf
      go_upto_region 25 with fail
      change Code.wp _ _ _ _ (w9.alloc (.cells #[.int .i64 5, .int .i64 0] 24))
      generalize w9.alloc (.cells #[.int .i64 5, .int .i64 0] 24) = v2 at *
      generalize w9.heap.size = mB at *
      have Bf := Bf9
      have Bm := Bm9
      have Qm := Qm9
      clear Bf9 Bm9 Qm9
      have m0 : v2.cell? ⟨mB, 0, none⟩ = some (.int .i64 5) := Bm.out.cell 0
      have m1 : v2.cell? ⟨mB, 1, none⟩ = some (.int .i64 0) := Bm.out.cell 1
      go_wp2_with fail
      refine (se_doL 5 0 ⟨5, 0⟩ (by unfold Sm.Ok; decide) (.inl ⟨rfl, .inr rfl⟩) 6 0 3 0 0 5 0 0 [] ⟨rfl, rfl, rfl, rfl⟩ _ (HR.out.old K2.out)).mono ?_
      rintro e' w9 ⟨An, cn, rfl, ha, hk⟩
      have k9 := hk.alloc (.cells #[.int .i64 5, .int .i64 0] 24)
      have K3 := Lib.hid (K2.out.trans k9)
      have Bf9 := Lib.hid (Bf.out.kept k9 (fun x => x))
      have Bm9 := Lib.hid (Bm.out.kept k9 (fun x => x))
      have Qm9 := Lib.hid (Qm.out.old k9)
      have Bn9 := Lib.hid (Blk.fresh w9 24 #[.int .i64 5, .int .i64 0])
      have Qn9 := Lib.hid (ha.old ((Kept.refl Nothing w9).alloc (.cells #[.int .i64 5, .int .i64 0] 24)))
      clear ha hk k9 K2 Bf Bm Qm m0 m1
      go_upto_region 26 with fail
      change Code.wp _ _ _ _ (w9.alloc (.cells #[.int .i64 5, .int .i64 0] 24))
      generalize w9.alloc (.cells #[.int .i64 5, .int .i64 0] 24) = v3 at *
      generalize w9.heap.size = nB at *
      have Bf := Bf9
      have Bm := Bm9
      have Bn := Bn9
      have Qm := Qm9
      have Qn := Qn9
      clear Bf9 Bm9 Bn9 Qm9 Qn9
      have m0 : v3.cell? ⟨mB, 0, none⟩ = some (.int .i64 5) := Bm.out.cell 0
      have m1 : v3.cell? ⟨mB, 1, none⟩ = some (.int .i64 0) := Bm.out.cell 1
      go_wp2_with fail
      refine (se_doL 5 0 ⟨5, 0⟩ (by unfold Sm.Ok; decide) (.inl ⟨rfl, .inr rfl⟩) 5 0 4 0 0 6 0 1 [Sm.a0 7] ⟨rfl, rfl, rfl, rfl⟩ _ (HR.out.old K3.out)).mono ?_
      rintro e' w9 ⟨Ap, cp, rfl, ha, hk⟩
      have k9 := hk.alloc (.cells #[.int .i64 6, .int .i64 0] 24)
      have K4 := Lib.hid (K3.out.trans k9)
      have Bf9 := Lib.hid (Bf.out.kept k9 (fun x => x))
      have Bm9 := Lib.hid (Bm.out.kept k9 (fun x => x))
      have Bn9 := Lib.hid (Bn.out.kept k9 (fun x => x))
      have Qm9 := Lib.hid (Qm.out.old k9)
      have Qn9 := Lib.hid (Qn.out.old k9)
      have Bp9 := Lib.hid (Blk.fresh w9 24 #[.int .i64 6, .int .i64 0])
      have Qp9 := Lib.hid (ha.old ((Kept.refl Nothing w9).alloc (.cells #[.int .i64 6, .int .i64 0] 24)))
      clear ha hk k9 K3 Bf Bm Bn Qm Qn m0 m1
      go_upto_region 27 with fail
      change Code.wp _ _ _ _ (w9.alloc (.cells #[.int .i64 6, .int .i64 0] 24))
      generalize w9.alloc (.cells #[.int .i64 6, .int .i64 0] 24) = v4 at *
      generalize w9.heap.size = pB at *
      have Bf := Bf9
      have Bm := Bm9
      have Bn := Bn9
      have Bp := Bp9
      have Qm := Qm9
      have Qn := Qn9
      have Qp := Qp9
      clear Bf9 Bm9 Bn9 Bp9 Qm9 Qn9 Qp9
      go_wp2_with fail
      refine (se_doL 99 5 ⟨1, 0⟩ (by unfold Sm.Ok; decide) (.inr ⟨rfl, by decide, by decide, by decide⟩) 4 0 0 0 0 1 0 0 [] ⟨rfl, rfl, rfl, rfl⟩ _ (HR.out.old K4.out)).mono ?_
      rintro e' w9 ⟨Ar, cr, rfl, ha, hk⟩
      have k9 := hk.alloc (.cells #[.int .i64 1, .int .i64 0] 24)
      have K5 := Lib.hid (K4.out.trans k9)
      have Bf9 := Lib.hid (Bf.out.kept k9 (fun x => x))
      have Bm9 := Lib.hid (Bm.out.kept k9 (fun x => x))
      have Bn9 := Lib.hid (Bn.out.kept k9 (fun x => x))
      have Bp9 := Lib.hid (Bp.out.kept k9 (fun x => x))
      have Qm9 := Lib.hid (Qm.out.old k9)
      have Qn9 := Lib.hid (Qn.out.old k9)
      have Qp9 := Lib.hid (Qp.out.old k9)
      have Br9 := Lib.hid (Blk.fresh w9 24 #[.int .i64 1, .int .i64 0])
      have Qr9 := Lib.hid (ha.old ((Kept.refl Nothing w9).alloc (.cells #[.int .i64 1, .int .i64 0] 24)))
      clear ha hk k9 K4 Bf Bm Bn Bp Qm Qn Qp
      go_upto_region 28 with fail
      change Code.wp _ _ _ _ (w9.alloc (.cells #[.int .i64 1, .int .i64 0] 24))
      generalize w9.alloc (.cells #[.int .i64 1, .int .i64 0] 24) = v5 at *
      generalize w9.heap.size = rB at *
      have Bf := Bf9
      have Bm := Bm9
      have Bn := Bn9
      have Bp := Bp9
      have Br := Br9
      have Qm := Qm9
      have Qn := Qn9
      have Qp := Qp9
      have Qr := Qr9
      clear Bf9 Bm9 Bn9 Bp9 Br9 Qm9 Qn9 Qp9 Qr9
      go_wp2_with fail
      refine (se_doL 4 0 ⟨4, 0⟩ (by unfold Sm.Ok; decide) (.inl ⟨rfl, .inr rfl⟩) 4 0 0 0 0 3 0 3 [Sm.a0 5, Sm.unset 2, Sm.set 1 120] ⟨rfl, rfl, rfl, rfl⟩ _ (HR.out.old K5.out)).mono ?_
      rintro e' w9 ⟨At, ct, rfl, ha, hk⟩
      have k9 := hk.alloc (.cells #[.int .i64 3, .int .i64 0] 24)
      have K6 := Lib.hid (K5.out.trans k9)
      have Bf9 := Lib.hid (Bf.out.kept k9 (fun x => x))
      have Bm9 := Lib.hid (Bm.out.kept k9 (fun x => x))
      have Bn9 := Lib.hid (Bn.out.kept k9 (fun x => x))
      have Bp9 := Lib.hid (Bp.out.kept k9 (fun x => x))
      have Br9 := Lib.hid (Br.out.kept k9 (fun x => x))
      have Qm9 := Lib.hid (Qm.out.old k9)
      have Qn9 := Lib.hid (Qn.out.old k9)
      have Qp9 := Lib.hid (Qp.out.old k9)
      have Qr9 := Lib.hid (Qr.out.old k9)
      have Bt9 := Lib.hid (Blk.fresh w9 24 #[.int .i64 3, .int .i64 0])
      have Qt9 := Lib.hid (ha.old ((Kept.refl Nothing w9).alloc (.cells #[.int .i64 3, .int .i64 0] 24)))
      clear ha hk k9 K5 Bf Bm Bn Bp Br Qm Qn Qp Qr
      go_upto_region 29 with fail
      change Code.wp _ _ _ _ (w9.alloc (.cells #[.int .i64 3, .int .i64 0] 24))
      generalize w9.alloc (.cells #[.int .i64 3, .int .i64 0] 24) = v6 at *
      generalize w9.heap.size = tB at *
      have Bf := Bf9
      have Bm := Bm9
      have Bn := Bn9
      have Bp := Bp9
      have Br := Br9
      have Bt := Bt9
      have Qm := Qm9
      have Qn := Qn9
      have Qp := Qp9
      have Qr := Qr9
      have Qt := Qt9
      clear Bf9 Bm9 Bn9 Bp9 Br9 Bt9 Qm9 Qn9 Qp9 Qr9 Qt9
      go_wp2_with fail
      refine (se_doL 4 0 ⟨4, 0⟩ (by unfold Sm.Ok; decide) (.inl ⟨rfl, .inr rfl⟩) 5 3 1 0 0 5 3 3 [Sm.send 4, Sm.set 2 3, Sm.set 3 1] ⟨rfl, rfl, rfl, rfl⟩ _ (HR.out.old K6.out)).mono ?_
      rintro e' w9 ⟨Av, cv, rfl, ha, hk⟩
      have k9 := hk.alloc (.cells #[.int .i64 5, .int .i64 3] 24)
      have K7 := Lib.hid (K6.out.trans k9)
      have Bf9 := Lib.hid (Bf.out.kept k9 (fun x => x))
      have Bm9 := Lib.hid (Bm.out.kept k9 (fun x => x))
      have Bn9 := Lib.hid (Bn.out.kept k9 (fun x => x))
      have Bp9 := Lib.hid (Bp.out.kept k9 (fun x => x))
      have Br9 := Lib.hid (Br.out.kept k9 (fun x => x))
      have Bt9 := Lib.hid (Bt.out.kept k9 (fun x => x))
      have Qm9 := Lib.hid (Qm.out.old k9)
      have Qn9 := Lib.hid (Qn.out.old k9)
      have Qp9 := Lib.hid (Qp.out.old k9)
      have Qr9 := Lib.hid (Qr.out.old k9)
      have Qt9 := Lib.hid (Qt.out.old k9)
      have Bv9 := Lib.hid (Blk.fresh w9 24 #[.int .i64 5, .int .i64 3])
      have Qv9 := Lib.hid (ha.old ((Kept.refl Nothing w9).alloc (.cells #[.int .i64 5, .int .i64 3] 24)))
      clear ha hk k9 K6 Bf Bm Bn Bp Br Bt Qm Qn Qp Qr Qt
      go_upto_region 30 with fail
      change Code.wp _ _ _ _ (w9.alloc (.cells #[.int .i64 5, .int .i64 3] 24))
      generalize w9.alloc (.cells #[.int .i64 5, .int .i64 3] 24) = v7 at *
      generalize w9.heap.size = vB at *
      have Bf := Bf9
      have Bm := Bm9
      have Bn := Bn9
      have Bp := Bp9
      have Br := Br9
      have Bt := Bt9
      have Bv := Bv9
      have Qm := Qm9
      have Qn := Qn9
      have Qp := Qp9
      have Qr := Qr9
      have Qt := Qt9
      have Qv := Qv9
      clear Bf9 Bm9 Bn9 Bp9 Br9 Bt9 Bv9 Qm9 Qn9 Qp9 Qr9 Qt9 Qv9
      obtain ⟨b1, o1, rfl, hc1⟩ := Qm.out.at (by decide)
      obtain ⟨-, -, -, -, q1, -, -, -, -, -⟩ := hc1 1 (by decide)
      obtain ⟨b2, o2, rfl, hc2⟩ := Qv.out.at (by decide)
      obtain ⟨-, -, -, -, -, -, q2, -, -, -⟩ := hc2 2 (by decide)
      replace q1 : v7.cell? ⟨b1, o1 + 6, none⟩ = some (.int .i64 4) := q1
      replace q2 : v7.cell? ⟨b2, o2 + 14, none⟩ = some (.int .i64 1) := q2
      have Z1 := Lib.hid q1
      have Z2 := Lib.hid q2
      clear hc1 hc2 q1 q2
      simp only [List.append_eq, List.cons_append, List.nil_append]
      refine wp_region_grow1 v7 (Facts (klK mB pB tB vB b1 o1 b2 o2 cm cv cn cp cr ct An Ap Ar At) (fun _ _ _ => True)) 89 0 (by rfl) (by kernel_rfl) (by decide +kernel) (by intro d hd; simp [dsts] at hd ⊢; omega) (ready_nil (by kernel_rfl)) (by kernel_rfl) (Facts.guards (E := [(2, true), (7, true), (12, true), (17, true), (22, true), (29, true), (34, true), (39, true), (44, true), (49, true), (54, true), (59, true), (64, true), (69, true), (74, true), (79, true), (86, true)]) (by kernel_rfl) ?_) (Facts.stab (fun _ _ _ _ _ _ => trivial)) (Kept.refl Nothing v7).drew ?_ ?_
      · repeat (first | refine List.forall_mem_cons.2 ⟨by rfl, ?_⟩ | exact List.forall_mem_nil _)
      · refine OweAll.cons ?_ ?_
        · intro u a hk hf hfar
          have v13 : a.tmps.getD 13 undef = .int .i64 1 := hfar 13 (by decide)
          have w13 := v13
          rw [Array.getD_eq_getD_getElem?] at w13
          clear hf hfar
          go_simp
          exact ⟨_, rfl, Kept.refl _ _, rfl⟩
        refine OweAll.cons ?_ ?_
        · intro u a hk hf hfar
          have v170 : a.tmps.getD 170 undef = .int .i64 1 := hf 0 _ 170 rfl rfl ⟨⟨0, .data⟩, Array.mem_of_getElem? (i := 0) rfl, rfl, rfl⟩
          have w170 := v170
          rw [Array.getD_eq_getD_getElem?] at w170
          clear hf hfar
          go_simp
          exact ⟨_, rfl, Kept.refl _ _, rfl⟩
        refine OweAll.cons ?_ ?_
        · intro u a hk hf hfar
          have v171 : a.tmps.getD 171 undef = .bool true := hf 1 _ 171 rfl rfl ⟨⟨1, .data⟩, Array.mem_of_getElem? (i := 0) rfl, rfl, rfl⟩
          have w171 := v171
          rw [Array.getD_eq_getD_getElem?] at w171
          clear hf hfar
          go_simp
          exact ⟨_, rfl, Kept.refl _ _, rfl⟩
        refine OweAll.cons ?_ ?_
        · intro u a hk hf hfar
          have v14 : a.tmps.getD 14 undef = .pointer (some ⟨fB, 0, none⟩) := hfar 14 (by decide)
          have w14 := v14
          rw [Array.getD_eq_getD_getElem?] at w14
          have b0fB : u.cell? ⟨fB, 0, none⟩ = some (.int .u8 2) := hk.cell_some (Bf.out.cell 0) (fun x => x)
          have b1fB : u.cell? ⟨fB, 1, none⟩ = some (.int .u8 6) := hk.cell_some (Bf.out.cell 1) (fun x => x)
          clear hf hfar
          go_simp
          exact ⟨_, rfl, Kept.refl _ _, rfl⟩
        refine OweAll.cons ?_ ?_
        · intro u a hk hf hfar
          clear hf hfar
          go_simp
          exact ⟨_, rfl, Kept.refl _ _, rfl⟩
        refine OweAll.cons ?_ ?_
        · intro u a hk hf hfar
          have v173 : a.tmps.getD 173 undef = .agg #[.int .u8 2, .int .u8 6] := hf 3 _ 173 rfl rfl ⟨⟨3, .data⟩, Array.mem_of_getElem? (i := 0) rfl, rfl, rfl⟩
          have w173 := v173
          rw [Array.getD_eq_getD_getElem?] at w173
          have v174 : a.tmps.getD 174 undef = .agg #[.int .u8 2, .int .u8 6] := hf 4 _ 174 rfl rfl ⟨⟨4, .data⟩, Array.mem_of_getElem? (i := 1) rfl, rfl, rfl⟩
          have w174 := v174
          rw [Array.getD_eq_getD_getElem?] at w174
          clear hf hfar
          go_simp
          exact ⟨_, rfl, Kept.refl _ _, rfl⟩
        refine OweAll.cons ?_ ?_
        · intro u a hk hf hfar
          have v172 : a.tmps.getD 172 undef = .bool true := hf 2 _ 172 rfl rfl ⟨⟨2, .data⟩, Array.mem_of_getElem? (i := 0) rfl, rfl, rfl⟩
          have w172 := v172
          rw [Array.getD_eq_getD_getElem?] at w172
          have v175 : a.tmps.getD 175 undef = .bool true := hf 5 _ 175 rfl rfl ⟨⟨5, .data⟩, Array.mem_of_getElem? (i := 1) rfl, rfl, rfl⟩
          have w175 := v175
          rw [Array.getD_eq_getD_getElem?] at w175
          clear hf hfar
          go_simp
          exact ⟨_, rfl, Kept.refl _ _, rfl⟩
        refine OweAll.cons ?_ ?_
        · intro u a hk hf hfar
          have v176 : a.tmps.getD 176 undef = .bool true := hf 6 _ 176 rfl rfl ⟨⟨6, .data⟩, Array.mem_of_getElem? (i := 0) rfl, rfl, rfl⟩
          have w176 := v176
          rw [Array.getD_eq_getD_getElem?] at w176
          clear hf hfar
          go_simp
          exact ⟨_, rfl, Kept.refl _ _, rfl⟩
        refine OweAll.cons ?_ ?_
        · intro u a hk hf hfar
          have v16 : a.tmps.getD 16 undef = .pointer (some ⟨mB, 0, none⟩) := hfar 16 (by decide)
          have w16 := v16
          rw [Array.getD_eq_getD_getElem?] at w16
          clear hf hfar
          go_simp
          exact ⟨_, rfl, Kept.refl _ _, rfl⟩
        refine OweAll.cons ?_ ?_
        · intro u a hk hf hfar
          have v178 : a.tmps.getD 178 undef = .pointer (some ⟨mB, 0, none⟩) := hf 8 _ 178 rfl rfl ⟨⟨8, .data⟩, Array.mem_of_getElem? (i := 0) rfl, rfl, rfl⟩
          have w178 := v178
          rw [Array.getD_eq_getD_getElem?] at w178
          have b0mB : u.cell? ⟨mB, 0, none⟩ = some (.int .i64 5) := hk.cell_some (Bm.out.cell 0) (fun x => x)
          clear hf hfar
          go_simp
          exact ⟨_, rfl, Kept.refl _ _, rfl⟩
        refine OweAll.cons ?_ ?_
        · intro u a hk hf hfar
          have v179 : a.tmps.getD 179 undef = .int .i64 5 := hf 9 _ 179 rfl rfl ⟨⟨9, .data⟩, Array.mem_of_getElem? (i := 0) rfl, rfl, rfl⟩
          have w179 := v179
          rw [Array.getD_eq_getD_getElem?] at w179
          clear hf hfar
          go_simp
          exact ⟨_, rfl, Kept.refl _ _, rfl⟩
        refine OweAll.cons ?_ ?_
        · intro u a hk hf hfar
          have v177 : a.tmps.getD 177 undef = .bool true := hf 7 _ 177 rfl rfl ⟨⟨7, .data⟩, Array.mem_of_getElem? (i := 0) rfl, rfl, rfl⟩
          have w177 := v177
          rw [Array.getD_eq_getD_getElem?] at w177
          have v180 : a.tmps.getD 180 undef = .bool true := hf 10 _ 180 rfl rfl ⟨⟨10, .data⟩, Array.mem_of_getElem? (i := 1) rfl, rfl, rfl⟩
          have w180 := v180
          rw [Array.getD_eq_getD_getElem?] at w180
          clear hf hfar
          go_simp
          exact ⟨_, rfl, Kept.refl _ _, rfl⟩
        refine OweAll.cons ?_ ?_
        · intro u a hk hf hfar
          have v181 : a.tmps.getD 181 undef = .bool true := hf 11 _ 181 rfl rfl ⟨⟨11, .data⟩, Array.mem_of_getElem? (i := 0) rfl, rfl, rfl⟩
          have w181 := v181
          rw [Array.getD_eq_getD_getElem?] at w181
          clear hf hfar
          go_simp
          exact ⟨_, rfl, Kept.refl _ _, rfl⟩
        refine OweAll.cons ?_ ?_
        · intro u a hk hf hfar
          have v16 : a.tmps.getD 16 undef = .pointer (some ⟨mB, 0, none⟩) := hfar 16 (by decide)
          have w16 := v16
          rw [Array.getD_eq_getD_getElem?] at w16
          clear hf hfar
          go_simp
          exact ⟨_, rfl, Kept.refl _ _, rfl⟩
        refine OweAll.cons ?_ ?_
        · intro u a hk hf hfar
          have v183 : a.tmps.getD 183 undef = .pointer (some ⟨mB, 1, none⟩) := hf 13 _ 183 rfl rfl ⟨⟨13, .data⟩, Array.mem_of_getElem? (i := 0) rfl, rfl, rfl⟩
          have w183 := v183
          rw [Array.getD_eq_getD_getElem?] at w183
          have b1mB : u.cell? ⟨mB, 1, none⟩ = some (.int .i64 0) := hk.cell_some (Bm.out.cell 1) (fun x => x)
          clear hf hfar
          go_simp
          exact ⟨_, rfl, Kept.refl _ _, rfl⟩
        refine OweAll.cons ?_ ?_
        · intro u a hk hf hfar
          have v184 : a.tmps.getD 184 undef = .int .i64 0 := hf 14 _ 184 rfl rfl ⟨⟨14, .data⟩, Array.mem_of_getElem? (i := 0) rfl, rfl, rfl⟩
          have w184 := v184
          rw [Array.getD_eq_getD_getElem?] at w184
          clear hf hfar
          go_simp
          exact ⟨_, rfl, Kept.refl _ _, rfl⟩
        refine OweAll.cons ?_ ?_
        · intro u a hk hf hfar
          have v182 : a.tmps.getD 182 undef = .bool true := hf 12 _ 182 rfl rfl ⟨⟨12, .data⟩, Array.mem_of_getElem? (i := 0) rfl, rfl, rfl⟩
          have w182 := v182
          rw [Array.getD_eq_getD_getElem?] at w182
          have v185 : a.tmps.getD 185 undef = .bool true := hf 15 _ 185 rfl rfl ⟨⟨15, .data⟩, Array.mem_of_getElem? (i := 1) rfl, rfl, rfl⟩
          have w185 := v185
          rw [Array.getD_eq_getD_getElem?] at w185
          clear hf hfar
          go_simp
          exact ⟨_, rfl, Kept.refl _ _, rfl⟩
        refine OweAll.cons ?_ ?_
        · intro u a hk hf hfar
          have v186 : a.tmps.getD 186 undef = .bool true := hf 16 _ 186 rfl rfl ⟨⟨16, .data⟩, Array.mem_of_getElem? (i := 0) rfl, rfl, rfl⟩
          have w186 := v186
          rw [Array.getD_eq_getD_getElem?] at w186
          clear hf hfar
          go_simp
          exact ⟨_, rfl, Kept.refl _ _, rfl⟩
        refine OweAll.cons ?_ ?_
        · intro u a hk hf hfar
          have v17 : a.tmps.getD 17 undef = .slice (some ⟨b1, o1, none⟩) 2 cm := hfar 17 (by decide)
          have w17 := v17
          rw [Array.getD_eq_getD_getElem?] at w17
          clear hf hfar
          go_simp
          exact ⟨_, rfl, Kept.refl _ _, rfl⟩
        refine OweAll.cons ?_ ?_
        · intro u a hk hf hfar
          have v188 : a.tmps.getD 188 undef = .slice (some ⟨b1, o1, none⟩) 2 cm := hf 18 _ 188 rfl rfl ⟨⟨18, .data⟩, Array.mem_of_getElem? (i := 0) rfl, rfl, rfl⟩
          have w188 := v188
          rw [Array.getD_eq_getD_getElem?] at w188
          clear hf hfar
          go_simp
          exact ⟨_, rfl, Kept.refl _ _, rfl⟩
        refine OweAll.cons ?_ ?_
        · intro u a hk hf hfar
          have v189 : a.tmps.getD 189 undef = .int .i64 2 := hf 19 _ 189 rfl rfl ⟨⟨19, .data⟩, Array.mem_of_getElem? (i := 0) rfl, rfl, rfl⟩
          have w189 := v189
          rw [Array.getD_eq_getD_getElem?] at w189
          clear hf hfar
          go_simp
          exact ⟨_, rfl, Kept.refl _ _, rfl⟩
        refine OweAll.cons ?_ ?_
        · intro u a hk hf hfar
          have v187 : a.tmps.getD 187 undef = .bool true := hf 17 _ 187 rfl rfl ⟨⟨17, .data⟩, Array.mem_of_getElem? (i := 0) rfl, rfl, rfl⟩
          have w187 := v187
          rw [Array.getD_eq_getD_getElem?] at w187
          have v190 : a.tmps.getD 190 undef = .bool true := hf 20 _ 190 rfl rfl ⟨⟨20, .data⟩, Array.mem_of_getElem? (i := 1) rfl, rfl, rfl⟩
          have w190 := v190
          rw [Array.getD_eq_getD_getElem?] at w190
          clear hf hfar
          go_simp
          exact ⟨_, rfl, Kept.refl _ _, rfl⟩
        refine OweAll.cons ?_ ?_
        · intro u a hk hf hfar
          have v191 : a.tmps.getD 191 undef = .bool true := hf 21 _ 191 rfl rfl ⟨⟨21, .data⟩, Array.mem_of_getElem? (i := 0) rfl, rfl, rfl⟩
          have w191 := v191
          rw [Array.getD_eq_getD_getElem?] at w191
          clear hf hfar
          go_simp
          exact ⟨_, rfl, Kept.refl _ _, rfl⟩
        refine OweAll.cons ?_ ?_
        · intro u a hk hf hfar
          have v17 : a.tmps.getD 17 undef = .slice (some ⟨b1, o1, none⟩) 2 cm := hfar 17 (by decide)
          have w17 := v17
          rw [Array.getD_eq_getD_getElem?] at w17
          clear hf hfar
          go_simp
          exact ⟨_, rfl, Kept.refl _ _, rfl⟩
        refine OweAll.cons ?_ ?_
        · intro u a hk hf hfar
          have v193 : a.tmps.getD 193 undef = .slice (some ⟨b1, o1, none⟩) 2 cm := hf 23 _ 193 rfl rfl ⟨⟨23, .data⟩, Array.mem_of_getElem? (i := 0) rfl, rfl, rfl⟩
          have w193 := v193
          rw [Array.getD_eq_getD_getElem?] at w193
          clear hf hfar
          go_simp
          exact ⟨_, rfl, Kept.refl _ _, rfl⟩
        refine OweAll.cons ?_ ?_
        · intro u a hk hf hfar
          have v194 : a.tmps.getD 194 undef = .pointer (some ⟨b1, o1 + 6, none⟩) := hf 24 _ 194 rfl rfl ⟨⟨24, .data⟩, Array.mem_of_getElem? (i := 0) rfl, rfl, rfl⟩
          have w194 := v194
          rw [Array.getD_eq_getD_getElem?] at w194
          clear hf hfar
          go_simp
          exact ⟨_, rfl, Kept.refl _ _, rfl⟩
        refine OweAll.cons ?_ ?_
        · intro u a hk hf hfar
          have v195 : a.tmps.getD 195 undef = .pointer (some ⟨b1, o1 + 6, none⟩) := hf 25 _ 195 rfl rfl ⟨⟨25, .data⟩, Array.mem_of_getElem? (i := 0) rfl, rfl, rfl⟩
          have w195 := v195
          rw [Array.getD_eq_getD_getElem?] at w195
          have q1 := hk.cell_some Z1.out (fun x => x)
          clear hf hfar
          go_simp
          exact ⟨_, rfl, Kept.refl _ _, rfl⟩
        refine OweAll.cons ?_ ?_
        · intro u a hk hf hfar
          have v196 : a.tmps.getD 196 undef = .int .i64 4 := hf 26 _ 196 rfl rfl ⟨⟨26, .data⟩, Array.mem_of_getElem? (i := 0) rfl, rfl, rfl⟩
          have w196 := v196
          rw [Array.getD_eq_getD_getElem?] at w196
          clear hf hfar
          go_simp
          exact ⟨_, rfl, Kept.refl _ _, rfl⟩
        refine OweAll.cons ?_ ?_
        · intro u a hk hf hfar
          have v192 : a.tmps.getD 192 undef = .bool true := hf 22 _ 192 rfl rfl ⟨⟨22, .data⟩, Array.mem_of_getElem? (i := 0) rfl, rfl, rfl⟩
          have w192 := v192
          rw [Array.getD_eq_getD_getElem?] at w192
          have v197 : a.tmps.getD 197 undef = .bool true := hf 27 _ 197 rfl rfl ⟨⟨27, .data⟩, Array.mem_of_getElem? (i := 1) rfl, rfl, rfl⟩
          have w197 := v197
          rw [Array.getD_eq_getD_getElem?] at w197
          clear hf hfar
          go_simp
          exact ⟨_, rfl, Kept.refl _ _, rfl⟩
        refine OweAll.cons ?_ ?_
        · intro u a hk hf hfar
          have v198 : a.tmps.getD 198 undef = .bool true := hf 28 _ 198 rfl rfl ⟨⟨28, .data⟩, Array.mem_of_getElem? (i := 0) rfl, rfl, rfl⟩
          have w198 := v198
          rw [Array.getD_eq_getD_getElem?] at w198
          clear hf hfar
          go_simp
          exact ⟨_, rfl, Kept.refl _ _, rfl⟩
        refine OweAll.cons ?_ ?_
        · intro u a hk hf hfar
          have v18 : a.tmps.getD 18 undef = .pointer (some ⟨nB, 0, none⟩) := hfar 18 (by decide)
          have w18 := v18
          rw [Array.getD_eq_getD_getElem?] at w18
          have b0nB : u.cell? ⟨nB, 0, none⟩ = some (.int .i64 5) := hk.cell_some (Bn.out.cell 0) (fun x => x)
          have b1nB : u.cell? ⟨nB, 1, none⟩ = some (.int .i64 0) := hk.cell_some (Bn.out.cell 1) (fun x => x)
          clear hf hfar
          go_simp
          exact ⟨_, rfl, Kept.refl _ _, rfl⟩
        refine OweAll.cons ?_ ?_
        · intro u a hk hf hfar
          have v16 : a.tmps.getD 16 undef = .pointer (some ⟨mB, 0, none⟩) := hfar 16 (by decide)
          have w16 := v16
          rw [Array.getD_eq_getD_getElem?] at w16
          have b0mB : u.cell? ⟨mB, 0, none⟩ = some (.int .i64 5) := hk.cell_some (Bm.out.cell 0) (fun x => x)
          have b1mB : u.cell? ⟨mB, 1, none⟩ = some (.int .i64 0) := hk.cell_some (Bm.out.cell 1) (fun x => x)
          clear hf hfar
          go_simp
          exact ⟨_, rfl, Kept.refl _ _, rfl⟩
        refine OweAll.cons ?_ ?_
        · intro u a hk hf hfar
          have v200 : a.tmps.getD 200 undef = .agg #[.int .i64 5, .int .i64 0] := hf 30 _ 200 rfl rfl ⟨⟨30, .data⟩, Array.mem_of_getElem? (i := 0) rfl, rfl, rfl⟩
          have w200 := v200
          rw [Array.getD_eq_getD_getElem?] at w200
          have v201 : a.tmps.getD 201 undef = .agg #[.int .i64 5, .int .i64 0] := hf 31 _ 201 rfl rfl ⟨⟨31, .data⟩, Array.mem_of_getElem? (i := 1) rfl, rfl, rfl⟩
          have w201 := v201
          rw [Array.getD_eq_getD_getElem?] at w201
          clear hf hfar
          go_simp
          exact ⟨_, rfl, Kept.refl _ _, rfl⟩
        refine OweAll.cons ?_ ?_
        · intro u a hk hf hfar
          have v199 : a.tmps.getD 199 undef = .bool true := hf 29 _ 199 rfl rfl ⟨⟨29, .data⟩, Array.mem_of_getElem? (i := 0) rfl, rfl, rfl⟩
          have w199 := v199
          rw [Array.getD_eq_getD_getElem?] at w199
          have v202 : a.tmps.getD 202 undef = .bool true := hf 32 _ 202 rfl rfl ⟨⟨32, .data⟩, Array.mem_of_getElem? (i := 1) rfl, rfl, rfl⟩
          have w202 := v202
          rw [Array.getD_eq_getD_getElem?] at w202
          clear hf hfar
          go_simp
          exact ⟨_, rfl, Kept.refl _ _, rfl⟩
        refine OweAll.cons ?_ ?_
        · intro u a hk hf hfar
          have v203 : a.tmps.getD 203 undef = .bool true := hf 33 _ 203 rfl rfl ⟨⟨33, .data⟩, Array.mem_of_getElem? (i := 0) rfl, rfl, rfl⟩
          have w203 := v203
          rw [Array.getD_eq_getD_getElem?] at w203
          clear hf hfar
          go_simp
          exact ⟨_, rfl, Kept.refl _ _, rfl⟩
        refine OweAll.cons ?_ ?_
        · intro u a hk hf hfar
          have v19 : a.tmps.getD 19 undef = .slice An 0 cn := hfar 19 (by decide)
          have w19 := v19
          rw [Array.getD_eq_getD_getElem?] at w19
          clear hf hfar
          go_simp
          exact ⟨_, rfl, Kept.refl _ _, rfl⟩
        refine OweAll.cons ?_ ?_
        · intro u a hk hf hfar
          have v205 : a.tmps.getD 205 undef = .slice An 0 cn := hf 35 _ 205 rfl rfl ⟨⟨35, .data⟩, Array.mem_of_getElem? (i := 0) rfl, rfl, rfl⟩
          have w205 := v205
          rw [Array.getD_eq_getD_getElem?] at w205
          clear hf hfar
          go_simp
          exact ⟨_, rfl, Kept.refl _ _, rfl⟩
        refine OweAll.cons ?_ ?_
        · intro u a hk hf hfar
          have v206 : a.tmps.getD 206 undef = .int .i64 0 := hf 36 _ 206 rfl rfl ⟨⟨36, .data⟩, Array.mem_of_getElem? (i := 0) rfl, rfl, rfl⟩
          have w206 := v206
          rw [Array.getD_eq_getD_getElem?] at w206
          clear hf hfar
          go_simp
          exact ⟨_, rfl, Kept.refl _ _, rfl⟩
        refine OweAll.cons ?_ ?_
        · intro u a hk hf hfar
          have v204 : a.tmps.getD 204 undef = .bool true := hf 34 _ 204 rfl rfl ⟨⟨34, .data⟩, Array.mem_of_getElem? (i := 0) rfl, rfl, rfl⟩
          have w204 := v204
          rw [Array.getD_eq_getD_getElem?] at w204
          have v207 : a.tmps.getD 207 undef = .bool true := hf 37 _ 207 rfl rfl ⟨⟨37, .data⟩, Array.mem_of_getElem? (i := 1) rfl, rfl, rfl⟩
          have w207 := v207
          rw [Array.getD_eq_getD_getElem?] at w207
          clear hf hfar
          go_simp
          exact ⟨_, rfl, Kept.refl _ _, rfl⟩
        refine OweAll.cons ?_ ?_
        · intro u a hk hf hfar
          have v208 : a.tmps.getD 208 undef = .bool true := hf 38 _ 208 rfl rfl ⟨⟨38, .data⟩, Array.mem_of_getElem? (i := 0) rfl, rfl, rfl⟩
          have w208 := v208
          rw [Array.getD_eq_getD_getElem?] at w208
          clear hf hfar
          go_simp
          exact ⟨_, rfl, Kept.refl _ _, rfl⟩
        refine OweAll.cons ?_ ?_
        · intro u a hk hf hfar
          have v20 : a.tmps.getD 20 undef = .pointer (some ⟨pB, 0, none⟩) := hfar 20 (by decide)
          have w20 := v20
          rw [Array.getD_eq_getD_getElem?] at w20
          clear hf hfar
          go_simp
          exact ⟨_, rfl, Kept.refl _ _, rfl⟩
        refine OweAll.cons ?_ ?_
        · intro u a hk hf hfar
          have v210 : a.tmps.getD 210 undef = .pointer (some ⟨pB, 0, none⟩) := hf 40 _ 210 rfl rfl ⟨⟨40, .data⟩, Array.mem_of_getElem? (i := 0) rfl, rfl, rfl⟩
          have w210 := v210
          rw [Array.getD_eq_getD_getElem?] at w210
          have b0pB : u.cell? ⟨pB, 0, none⟩ = some (.int .i64 6) := hk.cell_some (Bp.out.cell 0) (fun x => x)
          clear hf hfar
          go_simp
          exact ⟨_, rfl, Kept.refl _ _, rfl⟩
        refine OweAll.cons ?_ ?_
        · intro u a hk hf hfar
          have v211 : a.tmps.getD 211 undef = .int .i64 6 := hf 41 _ 211 rfl rfl ⟨⟨41, .data⟩, Array.mem_of_getElem? (i := 0) rfl, rfl, rfl⟩
          have w211 := v211
          rw [Array.getD_eq_getD_getElem?] at w211
          clear hf hfar
          go_simp
          exact ⟨_, rfl, Kept.refl _ _, rfl⟩
        refine OweAll.cons ?_ ?_
        · intro u a hk hf hfar
          have v209 : a.tmps.getD 209 undef = .bool true := hf 39 _ 209 rfl rfl ⟨⟨39, .data⟩, Array.mem_of_getElem? (i := 0) rfl, rfl, rfl⟩
          have w209 := v209
          rw [Array.getD_eq_getD_getElem?] at w209
          have v212 : a.tmps.getD 212 undef = .bool true := hf 42 _ 212 rfl rfl ⟨⟨42, .data⟩, Array.mem_of_getElem? (i := 1) rfl, rfl, rfl⟩
          have w212 := v212
          rw [Array.getD_eq_getD_getElem?] at w212
          clear hf hfar
          go_simp
          exact ⟨_, rfl, Kept.refl _ _, rfl⟩
        refine OweAll.cons ?_ ?_
        · intro u a hk hf hfar
          have v213 : a.tmps.getD 213 undef = .bool true := hf 43 _ 213 rfl rfl ⟨⟨43, .data⟩, Array.mem_of_getElem? (i := 0) rfl, rfl, rfl⟩
          have w213 := v213
          rw [Array.getD_eq_getD_getElem?] at w213
          clear hf hfar
          go_simp
          exact ⟨_, rfl, Kept.refl _ _, rfl⟩
        refine OweAll.cons ?_ ?_
        · intro u a hk hf hfar
          have v21 : a.tmps.getD 21 undef = .slice Ap 1 cp := hfar 21 (by decide)
          have w21 := v21
          rw [Array.getD_eq_getD_getElem?] at w21
          clear hf hfar
          go_simp
          exact ⟨_, rfl, Kept.refl _ _, rfl⟩
        refine OweAll.cons ?_ ?_
        · intro u a hk hf hfar
          have v215 : a.tmps.getD 215 undef = .slice Ap 1 cp := hf 45 _ 215 rfl rfl ⟨⟨45, .data⟩, Array.mem_of_getElem? (i := 0) rfl, rfl, rfl⟩
          have w215 := v215
          rw [Array.getD_eq_getD_getElem?] at w215
          clear hf hfar
          go_simp
          exact ⟨_, rfl, Kept.refl _ _, rfl⟩
        refine OweAll.cons ?_ ?_
        · intro u a hk hf hfar
          have v216 : a.tmps.getD 216 undef = .int .i64 1 := hf 46 _ 216 rfl rfl ⟨⟨46, .data⟩, Array.mem_of_getElem? (i := 0) rfl, rfl, rfl⟩
          have w216 := v216
          rw [Array.getD_eq_getD_getElem?] at w216
          clear hf hfar
          go_simp
          exact ⟨_, rfl, Kept.refl _ _, rfl⟩
        refine OweAll.cons ?_ ?_
        · intro u a hk hf hfar
          have v214 : a.tmps.getD 214 undef = .bool true := hf 44 _ 214 rfl rfl ⟨⟨44, .data⟩, Array.mem_of_getElem? (i := 0) rfl, rfl, rfl⟩
          have w214 := v214
          rw [Array.getD_eq_getD_getElem?] at w214
          have v217 : a.tmps.getD 217 undef = .bool true := hf 47 _ 217 rfl rfl ⟨⟨47, .data⟩, Array.mem_of_getElem? (i := 1) rfl, rfl, rfl⟩
          have w217 := v217
          rw [Array.getD_eq_getD_getElem?] at w217
          clear hf hfar
          go_simp
          exact ⟨_, rfl, Kept.refl _ _, rfl⟩
        refine OweAll.cons ?_ ?_
        · intro u a hk hf hfar
          have v218 : a.tmps.getD 218 undef = .bool true := hf 48 _ 218 rfl rfl ⟨⟨48, .data⟩, Array.mem_of_getElem? (i := 0) rfl, rfl, rfl⟩
          have w218 := v218
          rw [Array.getD_eq_getD_getElem?] at w218
          clear hf hfar
          go_simp
          exact ⟨_, rfl, Kept.refl _ _, rfl⟩
        refine OweAll.cons ?_ ?_
        · intro u a hk hf hfar
          have v22 : a.tmps.getD 22 undef = .pointer (some ⟨rB, 0, none⟩) := hfar 22 (by decide)
          have w22 := v22
          rw [Array.getD_eq_getD_getElem?] at w22
          have b0rB : u.cell? ⟨rB, 0, none⟩ = some (.int .i64 1) := hk.cell_some (Br.out.cell 0) (fun x => x)
          have b1rB : u.cell? ⟨rB, 1, none⟩ = some (.int .i64 0) := hk.cell_some (Br.out.cell 1) (fun x => x)
          clear hf hfar
          go_simp
          exact ⟨_, rfl, Kept.refl _ _, rfl⟩
        refine OweAll.cons ?_ ?_
        · intro u a hk hf hfar
          clear hf hfar
          go_simp
          refine (se_new u).mono ?_
          rintro e u' ⟨rfl, hk'⟩
          exact ⟨_, rfl, hk', rfl⟩
        refine OweAll.cons ?_ ?_
        · intro u a hk hf hfar
          have v220 : a.tmps.getD 220 undef = .agg #[.int .i64 1, .int .i64 0] := hf 50 _ 220 rfl rfl ⟨⟨50, .data⟩, Array.mem_of_getElem? (i := 0) rfl, rfl, rfl⟩
          have w220 := v220
          rw [Array.getD_eq_getD_getElem?] at w220
          have v221 : a.tmps.getD 221 undef = .agg #[.int .i64 1, .int .i64 0] := hf 51 _ 221 rfl rfl ⟨⟨51, .data⟩, Array.mem_of_getElem? (i := 1) rfl, rfl, rfl⟩
          have w221 := v221
          rw [Array.getD_eq_getD_getElem?] at w221
          clear hf hfar
          go_simp
          exact ⟨_, rfl, Kept.refl _ _, rfl⟩
        refine OweAll.cons ?_ ?_
        · intro u a hk hf hfar
          have v219 : a.tmps.getD 219 undef = .bool true := hf 49 _ 219 rfl rfl ⟨⟨49, .data⟩, Array.mem_of_getElem? (i := 0) rfl, rfl, rfl⟩
          have w219 := v219
          rw [Array.getD_eq_getD_getElem?] at w219
          have v222 : a.tmps.getD 222 undef = .bool true := hf 52 _ 222 rfl rfl ⟨⟨52, .data⟩, Array.mem_of_getElem? (i := 1) rfl, rfl, rfl⟩
          have w222 := v222
          rw [Array.getD_eq_getD_getElem?] at w222
          clear hf hfar
          go_simp
          exact ⟨_, rfl, Kept.refl _ _, rfl⟩
        refine OweAll.cons ?_ ?_
        · intro u a hk hf hfar
          have v223 : a.tmps.getD 223 undef = .bool true := hf 53 _ 223 rfl rfl ⟨⟨53, .data⟩, Array.mem_of_getElem? (i := 0) rfl, rfl, rfl⟩
          have w223 := v223
          rw [Array.getD_eq_getD_getElem?] at w223
          clear hf hfar
          go_simp
          exact ⟨_, rfl, Kept.refl _ _, rfl⟩
        refine OweAll.cons ?_ ?_
        · intro u a hk hf hfar
          have v23 : a.tmps.getD 23 undef = .slice Ar 0 cr := hfar 23 (by decide)
          have w23 := v23
          rw [Array.getD_eq_getD_getElem?] at w23
          clear hf hfar
          go_simp
          exact ⟨_, rfl, Kept.refl _ _, rfl⟩
        refine OweAll.cons ?_ ?_
        · intro u a hk hf hfar
          have v225 : a.tmps.getD 225 undef = .slice Ar 0 cr := hf 55 _ 225 rfl rfl ⟨⟨55, .data⟩, Array.mem_of_getElem? (i := 0) rfl, rfl, rfl⟩
          have w225 := v225
          rw [Array.getD_eq_getD_getElem?] at w225
          clear hf hfar
          go_simp
          exact ⟨_, rfl, Kept.refl _ _, rfl⟩
        refine OweAll.cons ?_ ?_
        · intro u a hk hf hfar
          have v226 : a.tmps.getD 226 undef = .int .i64 0 := hf 56 _ 226 rfl rfl ⟨⟨56, .data⟩, Array.mem_of_getElem? (i := 0) rfl, rfl, rfl⟩
          have w226 := v226
          rw [Array.getD_eq_getD_getElem?] at w226
          clear hf hfar
          go_simp
          exact ⟨_, rfl, Kept.refl _ _, rfl⟩
        refine OweAll.cons ?_ ?_
        · intro u a hk hf hfar
          have v224 : a.tmps.getD 224 undef = .bool true := hf 54 _ 224 rfl rfl ⟨⟨54, .data⟩, Array.mem_of_getElem? (i := 0) rfl, rfl, rfl⟩
          have w224 := v224
          rw [Array.getD_eq_getD_getElem?] at w224
          have v227 : a.tmps.getD 227 undef = .bool true := hf 57 _ 227 rfl rfl ⟨⟨57, .data⟩, Array.mem_of_getElem? (i := 1) rfl, rfl, rfl⟩
          have w227 := v227
          rw [Array.getD_eq_getD_getElem?] at w227
          clear hf hfar
          go_simp
          exact ⟨_, rfl, Kept.refl _ _, rfl⟩
        refine OweAll.cons ?_ ?_
        · intro u a hk hf hfar
          have v228 : a.tmps.getD 228 undef = .bool true := hf 58 _ 228 rfl rfl ⟨⟨58, .data⟩, Array.mem_of_getElem? (i := 0) rfl, rfl, rfl⟩
          have w228 := v228
          rw [Array.getD_eq_getD_getElem?] at w228
          clear hf hfar
          go_simp
          exact ⟨_, rfl, Kept.refl _ _, rfl⟩
        refine OweAll.cons ?_ ?_
        · intro u a hk hf hfar
          have v24 : a.tmps.getD 24 undef = .pointer (some ⟨tB, 0, none⟩) := hfar 24 (by decide)
          have w24 := v24
          rw [Array.getD_eq_getD_getElem?] at w24
          clear hf hfar
          go_simp
          exact ⟨_, rfl, Kept.refl _ _, rfl⟩
        refine OweAll.cons ?_ ?_
        · intro u a hk hf hfar
          have v230 : a.tmps.getD 230 undef = .pointer (some ⟨tB, 0, none⟩) := hf 60 _ 230 rfl rfl ⟨⟨60, .data⟩, Array.mem_of_getElem? (i := 0) rfl, rfl, rfl⟩
          have w230 := v230
          rw [Array.getD_eq_getD_getElem?] at w230
          have b0tB : u.cell? ⟨tB, 0, none⟩ = some (.int .i64 3) := hk.cell_some (Bt.out.cell 0) (fun x => x)
          clear hf hfar
          go_simp
          exact ⟨_, rfl, Kept.refl _ _, rfl⟩
        refine OweAll.cons ?_ ?_
        · intro u a hk hf hfar
          have v231 : a.tmps.getD 231 undef = .int .i64 3 := hf 61 _ 231 rfl rfl ⟨⟨61, .data⟩, Array.mem_of_getElem? (i := 0) rfl, rfl, rfl⟩
          have w231 := v231
          rw [Array.getD_eq_getD_getElem?] at w231
          clear hf hfar
          go_simp
          exact ⟨_, rfl, Kept.refl _ _, rfl⟩
        refine OweAll.cons ?_ ?_
        · intro u a hk hf hfar
          have v229 : a.tmps.getD 229 undef = .bool true := hf 59 _ 229 rfl rfl ⟨⟨59, .data⟩, Array.mem_of_getElem? (i := 0) rfl, rfl, rfl⟩
          have w229 := v229
          rw [Array.getD_eq_getD_getElem?] at w229
          have v232 : a.tmps.getD 232 undef = .bool true := hf 62 _ 232 rfl rfl ⟨⟨62, .data⟩, Array.mem_of_getElem? (i := 1) rfl, rfl, rfl⟩
          have w232 := v232
          rw [Array.getD_eq_getD_getElem?] at w232
          clear hf hfar
          go_simp
          exact ⟨_, rfl, Kept.refl _ _, rfl⟩
        refine OweAll.cons ?_ ?_
        · intro u a hk hf hfar
          have v233 : a.tmps.getD 233 undef = .bool true := hf 63 _ 233 rfl rfl ⟨⟨63, .data⟩, Array.mem_of_getElem? (i := 0) rfl, rfl, rfl⟩
          have w233 := v233
          rw [Array.getD_eq_getD_getElem?] at w233
          clear hf hfar
          go_simp
          exact ⟨_, rfl, Kept.refl _ _, rfl⟩
        refine OweAll.cons ?_ ?_
        · intro u a hk hf hfar
          have v25 : a.tmps.getD 25 undef = .slice At 3 ct := hfar 25 (by decide)
          have w25 := v25
          rw [Array.getD_eq_getD_getElem?] at w25
          clear hf hfar
          go_simp
          exact ⟨_, rfl, Kept.refl _ _, rfl⟩
        refine OweAll.cons ?_ ?_
        · intro u a hk hf hfar
          have v235 : a.tmps.getD 235 undef = .slice At 3 ct := hf 65 _ 235 rfl rfl ⟨⟨65, .data⟩, Array.mem_of_getElem? (i := 0) rfl, rfl, rfl⟩
          have w235 := v235
          rw [Array.getD_eq_getD_getElem?] at w235
          clear hf hfar
          go_simp
          exact ⟨_, rfl, Kept.refl _ _, rfl⟩
        refine OweAll.cons ?_ ?_
        · intro u a hk hf hfar
          have v236 : a.tmps.getD 236 undef = .int .i64 3 := hf 66 _ 236 rfl rfl ⟨⟨66, .data⟩, Array.mem_of_getElem? (i := 0) rfl, rfl, rfl⟩
          have w236 := v236
          rw [Array.getD_eq_getD_getElem?] at w236
          clear hf hfar
          go_simp
          exact ⟨_, rfl, Kept.refl _ _, rfl⟩
        refine OweAll.cons ?_ ?_
        · intro u a hk hf hfar
          have v234 : a.tmps.getD 234 undef = .bool true := hf 64 _ 234 rfl rfl ⟨⟨64, .data⟩, Array.mem_of_getElem? (i := 0) rfl, rfl, rfl⟩
          have w234 := v234
          rw [Array.getD_eq_getD_getElem?] at w234
          have v237 : a.tmps.getD 237 undef = .bool true := hf 67 _ 237 rfl rfl ⟨⟨67, .data⟩, Array.mem_of_getElem? (i := 1) rfl, rfl, rfl⟩
          have w237 := v237
          rw [Array.getD_eq_getD_getElem?] at w237
          clear hf hfar
          go_simp
          exact ⟨_, rfl, Kept.refl _ _, rfl⟩
        refine OweAll.cons ?_ ?_
        · intro u a hk hf hfar
          have v238 : a.tmps.getD 238 undef = .bool true := hf 68 _ 238 rfl rfl ⟨⟨68, .data⟩, Array.mem_of_getElem? (i := 0) rfl, rfl, rfl⟩
          have w238 := v238
          rw [Array.getD_eq_getD_getElem?] at w238
          clear hf hfar
          go_simp
          exact ⟨_, rfl, Kept.refl _ _, rfl⟩
        refine OweAll.cons ?_ ?_
        · intro u a hk hf hfar
          have v26 : a.tmps.getD 26 undef = .pointer (some ⟨vB, 0, none⟩) := hfar 26 (by decide)
          have w26 := v26
          rw [Array.getD_eq_getD_getElem?] at w26
          clear hf hfar
          go_simp
          exact ⟨_, rfl, Kept.refl _ _, rfl⟩
        refine OweAll.cons ?_ ?_
        · intro u a hk hf hfar
          have v240 : a.tmps.getD 240 undef = .pointer (some ⟨vB, 1, none⟩) := hf 70 _ 240 rfl rfl ⟨⟨70, .data⟩, Array.mem_of_getElem? (i := 0) rfl, rfl, rfl⟩
          have w240 := v240
          rw [Array.getD_eq_getD_getElem?] at w240
          have b1vB : u.cell? ⟨vB, 1, none⟩ = some (.int .i64 3) := hk.cell_some (Bv.out.cell 1) (fun x => x)
          clear hf hfar
          go_simp
          exact ⟨_, rfl, Kept.refl _ _, rfl⟩
        refine OweAll.cons ?_ ?_
        · intro u a hk hf hfar
          have v241 : a.tmps.getD 241 undef = .int .i64 3 := hf 71 _ 241 rfl rfl ⟨⟨71, .data⟩, Array.mem_of_getElem? (i := 0) rfl, rfl, rfl⟩
          have w241 := v241
          rw [Array.getD_eq_getD_getElem?] at w241
          clear hf hfar
          go_simp
          exact ⟨_, rfl, Kept.refl _ _, rfl⟩
        refine OweAll.cons ?_ ?_
        · intro u a hk hf hfar
          have v239 : a.tmps.getD 239 undef = .bool true := hf 69 _ 239 rfl rfl ⟨⟨69, .data⟩, Array.mem_of_getElem? (i := 0) rfl, rfl, rfl⟩
          have w239 := v239
          rw [Array.getD_eq_getD_getElem?] at w239
          have v242 : a.tmps.getD 242 undef = .bool true := hf 72 _ 242 rfl rfl ⟨⟨72, .data⟩, Array.mem_of_getElem? (i := 1) rfl, rfl, rfl⟩
          have w242 := v242
          rw [Array.getD_eq_getD_getElem?] at w242
          clear hf hfar
          go_simp
          exact ⟨_, rfl, Kept.refl _ _, rfl⟩
        refine OweAll.cons ?_ ?_
        · intro u a hk hf hfar
          have v243 : a.tmps.getD 243 undef = .bool true := hf 73 _ 243 rfl rfl ⟨⟨73, .data⟩, Array.mem_of_getElem? (i := 0) rfl, rfl, rfl⟩
          have w243 := v243
          rw [Array.getD_eq_getD_getElem?] at w243
          clear hf hfar
          go_simp
          exact ⟨_, rfl, Kept.refl _ _, rfl⟩
        refine OweAll.cons ?_ ?_
        · intro u a hk hf hfar
          have v27 : a.tmps.getD 27 undef = .slice (some ⟨b2, o2, none⟩) 3 cv := hfar 27 (by decide)
          have w27 := v27
          rw [Array.getD_eq_getD_getElem?] at w27
          clear hf hfar
          go_simp
          exact ⟨_, rfl, Kept.refl _ _, rfl⟩
        refine OweAll.cons ?_ ?_
        · intro u a hk hf hfar
          have v245 : a.tmps.getD 245 undef = .slice (some ⟨b2, o2, none⟩) 3 cv := hf 75 _ 245 rfl rfl ⟨⟨75, .data⟩, Array.mem_of_getElem? (i := 0) rfl, rfl, rfl⟩
          have w245 := v245
          rw [Array.getD_eq_getD_getElem?] at w245
          clear hf hfar
          go_simp
          exact ⟨_, rfl, Kept.refl _ _, rfl⟩
        refine OweAll.cons ?_ ?_
        · intro u a hk hf hfar
          have v246 : a.tmps.getD 246 undef = .int .i64 3 := hf 76 _ 246 rfl rfl ⟨⟨76, .data⟩, Array.mem_of_getElem? (i := 0) rfl, rfl, rfl⟩
          have w246 := v246
          rw [Array.getD_eq_getD_getElem?] at w246
          clear hf hfar
          go_simp
          exact ⟨_, rfl, Kept.refl _ _, rfl⟩
        refine OweAll.cons ?_ ?_
        · intro u a hk hf hfar
          have v244 : a.tmps.getD 244 undef = .bool true := hf 74 _ 244 rfl rfl ⟨⟨74, .data⟩, Array.mem_of_getElem? (i := 0) rfl, rfl, rfl⟩
          have w244 := v244
          rw [Array.getD_eq_getD_getElem?] at w244
          have v247 : a.tmps.getD 247 undef = .bool true := hf 77 _ 247 rfl rfl ⟨⟨77, .data⟩, Array.mem_of_getElem? (i := 1) rfl, rfl, rfl⟩
          have w247 := v247
          rw [Array.getD_eq_getD_getElem?] at w247
          clear hf hfar
          go_simp
          exact ⟨_, rfl, Kept.refl _ _, rfl⟩
        refine OweAll.cons ?_ ?_
        · intro u a hk hf hfar
          have v248 : a.tmps.getD 248 undef = .bool true := hf 78 _ 248 rfl rfl ⟨⟨78, .data⟩, Array.mem_of_getElem? (i := 0) rfl, rfl, rfl⟩
          have w248 := v248
          rw [Array.getD_eq_getD_getElem?] at w248
          clear hf hfar
          go_simp
          exact ⟨_, rfl, Kept.refl _ _, rfl⟩
        refine OweAll.cons ?_ ?_
        · intro u a hk hf hfar
          have v27 : a.tmps.getD 27 undef = .slice (some ⟨b2, o2, none⟩) 3 cv := hfar 27 (by decide)
          have w27 := v27
          rw [Array.getD_eq_getD_getElem?] at w27
          clear hf hfar
          go_simp
          exact ⟨_, rfl, Kept.refl _ _, rfl⟩
        refine OweAll.cons ?_ ?_
        · intro u a hk hf hfar
          have v250 : a.tmps.getD 250 undef = .slice (some ⟨b2, o2, none⟩) 3 cv := hf 80 _ 250 rfl rfl ⟨⟨80, .data⟩, Array.mem_of_getElem? (i := 0) rfl, rfl, rfl⟩
          have w250 := v250
          rw [Array.getD_eq_getD_getElem?] at w250
          clear hf hfar
          go_simp
          exact ⟨_, rfl, Kept.refl _ _, rfl⟩
        refine OweAll.cons ?_ ?_
        · intro u a hk hf hfar
          have v251 : a.tmps.getD 251 undef = .pointer (some ⟨b2, o2 + 12, none⟩) := hf 81 _ 251 rfl rfl ⟨⟨81, .data⟩, Array.mem_of_getElem? (i := 0) rfl, rfl, rfl⟩
          have w251 := v251
          rw [Array.getD_eq_getD_getElem?] at w251
          clear hf hfar
          go_simp
          exact ⟨_, rfl, Kept.refl _ _, rfl⟩
        refine OweAll.cons ?_ ?_
        · intro u a hk hf hfar
          have v252 : a.tmps.getD 252 undef = .pointer (some ⟨b2, o2 + 14, none⟩) := hf 82 _ 252 rfl rfl ⟨⟨82, .data⟩, Array.mem_of_getElem? (i := 0) rfl, rfl, rfl⟩
          have w252 := v252
          rw [Array.getD_eq_getD_getElem?] at w252
          have q2 := hk.cell_some Z2.out (fun x => x)
          clear hf hfar
          go_simp
          exact ⟨_, rfl, Kept.refl _ _, rfl⟩
        refine OweAll.cons ?_ ?_
        · intro u a hk hf hfar
          have v253 : a.tmps.getD 253 undef = .int .i64 1 := hf 83 _ 253 rfl rfl ⟨⟨83, .data⟩, Array.mem_of_getElem? (i := 0) rfl, rfl, rfl⟩
          have w253 := v253
          rw [Array.getD_eq_getD_getElem?] at w253
          clear hf hfar
          go_simp
          exact ⟨_, rfl, Kept.refl _ _, rfl⟩
        refine OweAll.cons ?_ ?_
        · intro u a hk hf hfar
          have v249 : a.tmps.getD 249 undef = .bool true := hf 79 _ 249 rfl rfl ⟨⟨79, .data⟩, Array.mem_of_getElem? (i := 0) rfl, rfl, rfl⟩
          have w249 := v249
          rw [Array.getD_eq_getD_getElem?] at w249
          have v254 : a.tmps.getD 254 undef = .bool true := hf 84 _ 254 rfl rfl ⟨⟨84, .data⟩, Array.mem_of_getElem? (i := 1) rfl, rfl, rfl⟩
          have w254 := v254
          rw [Array.getD_eq_getD_getElem?] at w254
          clear hf hfar
          go_simp
          exact ⟨_, rfl, Kept.refl _ _, rfl⟩
        refine OweAll.cons ?_ ?_
        · intro u a hk hf hfar
          have v255 : a.tmps.getD 255 undef = .bool true := hf 85 _ 255 rfl rfl ⟨⟨85, .data⟩, Array.mem_of_getElem? (i := 0) rfl, rfl, rfl⟩
          have w255 := v255
          rw [Array.getD_eq_getD_getElem?] at w255
          clear hf hfar
          go_simp
          exact ⟨_, rfl, Kept.refl _ _, rfl⟩
        refine OweAll.cons ?_ ?_
        · intro u a hk hf hfar
          clear hf hfar
          go_simp
          refine (HT.out u (K7.out.trans hk)).mono ?_
          rintro e u' ⟨rfl, hk'⟩
          exact ⟨_, rfl, hk', rfl⟩
        refine OweAll.cons ?_ ?_
        · intro u a hk hf hfar
          have v256 : a.tmps.getD 256 undef = .bool true := hf 86 _ 256 rfl rfl ⟨⟨86, .data⟩, Array.mem_of_getElem? (i := 0) rfl, rfl, rfl⟩
          have w256 := v256
          rw [Array.getD_eq_getD_getElem?] at w256
          have v257 : a.tmps.getD 257 undef = .bool true := hf 87 _ 257 rfl rfl ⟨⟨87, .data⟩, Array.mem_of_getElem? (i := 1) rfl, rfl, rfl⟩
          have w257 := v257
          rw [Array.getD_eq_getD_getElem?] at w257
          clear hf hfar
          go_simp
          exact ⟨_, rfl, Kept.refl _ _, rfl⟩
        refine OweAll.cons ?_ ?_
        · intro u a hk hf hfar
          have v258 : a.tmps.getD 258 undef = .bool true := hf 88 _ 258 rfl rfl ⟨⟨88, .data⟩, Array.mem_of_getElem? (i := 0) rfl, rfl, rfl⟩
          have w258 := v258
          rw [Array.getD_eq_getD_getElem?] at w258
          clear hf hfar
          go_simp
          exact ⟨_, rfl, Kept.refl _ _, rfl⟩
        exact OweAll.nil
      · intro A u hku hA hdef
        have hA' : A.tmps.getD 0 undef = .bool true := hA
        have hr := results_tmp (fn := Tryd.f7) (t := 0) (by rfl) A.tmps Tryd.prog u
        rw [hA'] at hr
        go_wp2
        exact bodyPost_ret hr (hdef.trans rfl) ⟨rfl, K7.out.trans hku⟩
end Go.Proofs.YtlghmjipnkmeeaaDoor
