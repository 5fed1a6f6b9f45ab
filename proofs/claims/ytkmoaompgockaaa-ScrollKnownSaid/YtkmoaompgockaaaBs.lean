
/-
  For the law ScrollKnown: readers that New did not make, writers that Lay did not make (nil, or zero): no call changes anything, the error is 2.
-/
import Derived.Test.YtkmoaompgockaaaWk
import Derived.Test.YtkmoaompgockaaaWt
namespace Go.Proofs.Ytkmoaompgockaaa
open Go.RowKit

abbrev zeroR : Array Value := #[.bool false, .slice none 0 0, .int .i64 0, .pointer none, .int .i64 0]
abbrev zeroW : Array Value := #[.bool false, .slice none 0 0, .slice none 0 0, .int .i64 0]
def DeadR (w : World) (v : Value) : Prop := v = .pointer none ∨ ∃ p, v = .pointer (some ⟨p, 0, none⟩) ∧ Blk w p 27 zeroR
def DeadW (w : World) (v : Value) : Prop := v = .pointer none ∨ ∃ p, v = .pointer (some ⟨p, 0, none⟩) ∧ Blk w p 31 zeroW
theorem DeadR.old {w w' : World} {v : Value} (h : DeadR w v) (k : Kept Nothing w w') : DeadR w' v := by
  rcases h with h | ⟨p, h, hb⟩
  · exact .inl h
  · exact .inr ⟨p, h, hb.kept k (fun x => x)⟩
theorem DeadW.old {w w' : World} {v : Value} (h : DeadW w v) (k : Kept Nothing w w') : DeadW w' v := by
  rcases h with h | ⟨p, h, hb⟩
  · exact .inl h
  · exact .inr ⟨p, h, hb.kept k (fun x => x)⟩

theorem dr_err (v : Value) (w : World) (h : DeadR w v) :
    Calls Try.prog 12 #[v] w fun r w' => r = .returned (.int .i64 2) ∧ w = w' := by
  rcases h with rfl | ⟨p, rfl, hb⟩
  · go_enter Try.func12, Try.ntmps12
    go_wp2
    go_ret
    exact ⟨rfl, rfl⟩
  · have h0 : w.cell? ⟨p, 0, none⟩ = some (.bool false) := hb.cell 0
    clear hb
    go_enter Try.func12, Try.ntmps12
    go_wp2
    go_ret
    exact ⟨rfl, rfl⟩
theorem dr_deep (v : Value) (w : World) (h : DeadR w v) :
    Calls Try.prog 17 #[v] w fun r w' => r = .returned (.int .i64 0) ∧ w = w' := by
  rcases h with rfl | ⟨p, rfl, hb⟩
  · go_enter Try.func17, Try.ntmps17
    go_wp2
    go_ret
    exact ⟨rfl, rfl⟩
  · have h3 : w.cell? ⟨p, 3, none⟩ = some (.pointer none) := hb.cell 3
    clear hb
    go_enter Try.func17, Try.ntmps17
    go_wp2
    go_ret
    exact ⟨rfl, rfl⟩
theorem dr_left (v : Value) (w : World) (h : DeadR w v) :
    Calls Try.prog 16 #[v] w fun r w' => r = .returned (.int .i64 0) ∧ w = w' := by
  have HE := Lib.hid (dr_err v w h)
  clear h
  go_enter Try.func16, Try.ntmps16
  go_wp2_with fail
  refine HE.out.mono ?_
  rintro e w' ⟨rfl, rfl⟩
  go_wp2
  go_ret
  exact ⟨rfl, rfl⟩
theorem nr_at (w : World) :
    Calls Try.prog 18 #[.pointer none] w fun r w' => r = .returned (.int .i64 0) ∧ w = w' := by
  go_enter Try.func18, Try.ntmps18
  go_wp2
  go_ret
  exact ⟨rfl, rfl⟩
theorem dr_fail (v : Value) (x : Int) (w : World) (h : DeadR w v) :
    Calls Try.prog 4 #[v, .int .i64 x] w fun r w' => r = .returned (.tuple #[]) ∧ w = w' := by
  have HE := Lib.hid (dr_err v w h)
  clear h
  go_enter Try.func4, Try.ntmps4
  go_wp2_with fail
  refine HE.out.mono ?_
  rintro e w' ⟨rfl, rfl⟩
  go_wp2
  go_end0
  exact ⟨rfl, rfl⟩
theorem dr_fits (v : Value) (n : Int) (hn : n = 0 ∨ n = 1 ∨ n = 4) (w : World) (h : DeadR w v) :
    Calls Try.prog 38 #[v, .int .i64 n] w fun r w' => r = .returned (.bool false) ∧ w = w' := by
  have HE := Lib.hid (dr_err v w h)
  have HL := Lib.hid (dr_left v w h)
  have HF := Lib.hid (dr_fail v 4 w h)
  clear h
  rcases hn with rfl | rfl | rfl
  · go_enter Try.func38, Try.ntmps38
    go_wp2_with fail
    refine HL.out.mono ?_
    rintro e w' ⟨rfl, rfl⟩
    go_wp2_with fail
    refine HE.out.mono ?_
    rintro e w' ⟨rfl, rfl⟩
    go_wp2
    go_ret
    exact ⟨rfl, rfl⟩
  all_goals
    go_enter Try.func38, Try.ntmps38
    go_wp2_with fail
    refine HL.out.mono ?_
    rintro e w' ⟨rfl, rfl⟩
    go_wp2_with fail
    refine HF.out.mono ?_
    rintro e w' ⟨rfl, rfl⟩
    go_wp2_with fail
    refine HE.out.mono ?_
    rintro e w' ⟨rfl, rfl⟩
    go_wp2
    go_ret
    exact ⟨rfl, rfl⟩
theorem dr_open (v : Value) (n : Int) (hn : n = 0 ∨ n = 1 ∨ n = 4) (w : World) (h : DeadR w v) :
    Calls Try.prog 5 #[v, .int .i64 n] w fun r w' => r = .returned (.tuple #[]) ∧ w = w' := by
  have HF := Lib.hid (dr_fits v n hn w h)
  clear h hn
  go_enter Try.func5, Try.ntmps5
  go_wp2_with fail
  refine HF.out.mono ?_
  rintro e w' ⟨rfl, rfl⟩
  go_wp2
  go_end0
  exact ⟨rfl, rfl⟩
theorem dr_pass (v : Value) (n : Int) (hn : n = 0 ∨ n = 1 ∨ n = 4) (w : World) (h : DeadR w v) :
    Calls Try.prog 43 #[v, .int .i64 n] w fun r w' => r = .returned (.slice none 0 0) ∧ w = w' := by
  have HF := Lib.hid (dr_fits v n hn w h)
  clear h hn
  go_enter Try.func43, Try.ntmps43
  go_wp2_with fail
  refine HF.out.mono ?_
  rintro e w' ⟨rfl, rfl⟩
  go_wp2
  go_ret
  exact ⟨rfl, rfl⟩
theorem dr_next8 (v : Value) (w : World) (h : DeadR w v) :
    Calls Try.prog 41 #[v, .int .i64 1] w fun r w' => r = .returned (.int .u8 0) ∧ w = w' := by
  have HW := Lib.hid (dr_pass v 1 (by decide) w h)
  clear h
  go_enter Try.func41, Try.ntmps41
  go_wp2_with fail
  refine HW.out.mono ?_
  rintro e w1 ⟨rfl, rfl⟩
  clear HW
  go_wp2_with fail
  go_loopw [5, 12] (fun n i wr => i = .int .i64 0 ∧ n = .int .u32 0 ∧ w = wr) (fun _ _ _ => 0)
  case atStart => exact ⟨rfl, rfl, rfl⟩
  case round =>
    obtain ⟨rfl, rfl, rfl⟩ := hrel
    go_wp2
    go_ret
    exact ⟨rfl, rfl⟩
theorem dr_next32 (v : Value) (w : World) (h : DeadR w v) :
    Calls Try.prog 42 #[v, .int .i64 4] w fun r w' => r = .returned (.int .u32 0) ∧ w = w' := by
  have HW := Lib.hid (dr_pass v 4 (by decide) w h)
  clear h
  go_enter Try.func42, Try.ntmps42
  go_wp2_with fail
  refine HW.out.mono ?_
  rintro e w1 ⟨rfl, rfl⟩
  clear HW
  go_wp2_with fail
  go_loopw [5, 12] (fun n i wr => i = .int .i64 0 ∧ n = .int .u32 0 ∧ w = wr) (fun _ _ _ => 0)
  case atStart => exact ⟨rfl, rfl, rfl⟩
  case round =>
    obtain ⟨rfl, rfl, rfl⟩ := hrel
    go_wp2
    go_ret
    exact ⟨rfl, rfl⟩
theorem dr_byte (v : Value) (w : World) (h : DeadR w v) :
    Calls Try.prog 13 #[v] w fun r w' => r = .returned (.int .u8 0) ∧ w = w' := by
  have HW := Lib.hid (dr_next8 v w h)
  clear h
  go_enter Try.func13, Try.ntmps13
  go_wp2_with fail
  refine HW.out.mono ?_
  rintro e w1 ⟨rfl, rfl⟩
  go_wp2
  go_ret
  exact ⟨rfl, rfl⟩
theorem dr_four (v : Value) (w : World) (h : DeadR w v) :
    Calls Try.prog 14 #[v] w fun r w' => r = .returned (.int .u32 0) ∧ w = w' := by
  have HW := Lib.hid (dr_next32 v w h)
  clear h
  go_enter Try.func14, Try.ntmps14
  go_wp2_with fail
  refine HW.out.mono ?_
  rintro e w1 ⟨rfl, rfl⟩
  go_wp2
  go_ret
  exact ⟨rfl, rfl⟩
theorem dr_take (v : Value) (w : World) (h : DeadR w v) :
    Calls Try.prog 25 #[v, .int .i64 0] w fun r w' => (∃ A c, r = .returned (.slice A 0 c)) ∧ Kept Nothing w w' := by
  have HW := Lib.hid (dr_pass v 0 (by decide) w h)
  have HC := Lib.hid (sl_clone _ _ w (Bs.nil w).by (by decide))
  clear h
  go_enter Try.func25, Try.ntmps25
  go_wp2_with fail
  refine HW.out.mono ?_
  rintro e w1 ⟨rfl, rfl⟩
  go_wp2_with fail
  refine HC.out.mono ?_
  rintro e w2 ⟨v', rfl, ho, hk⟩
  obtain ⟨A, c, rfl, _, _⟩ := (Bs.of_own ho).form
  have K := Lib.hid hk
  clear ho hk
  go_wp2
  go_ret
  exact ⟨⟨A, c, rfl⟩, K.out⟩
theorem dr_rest (v : Value) (w : World) (h : DeadR w v) :
    Calls Try.prog 15 #[v] w fun r w' => (∃ A c, r = .returned (.slice A 0 c)) ∧ Kept Nothing w w' := by
  have HL := Lib.hid (dr_left v w h)
  have HT := Lib.hid (dr_take v w h)
  clear h
  go_enter Try.func15, Try.ntmps15
  go_wp2_with fail
  refine HL.out.mono ?_
  rintro e w1 ⟨rfl, rfl⟩
  go_wp2_with fail
  refine HT.out.mono ?_
  rintro e w2 ⟨⟨A, c, rfl⟩, hk⟩
  have K := Lib.hid hk
  clear hk
  go_wp2
  go_ret
  exact ⟨⟨A, c, rfl⟩, K.out⟩
theorem dr_within (v : Value) (w : World) (h : DeadR w v) :
    Calls Try.prog 44 #[v] w fun r w' => r = .returned (.bool false) ∧ w = w' := by
  have HD := Lib.hid (dr_deep v w h)
  have HF := Lib.hid (dr_fail v 26 w h)
  have HE := Lib.hid (dr_err v w h)
  clear h
  go_enter Try.func44, Try.ntmps44
  go_wp2_with fail
  refine HD.out.mono ?_
  rintro e w1 ⟨rfl, rfl⟩
  go_wp2_with fail
  refine HF.out.mono ?_
  rintro e w1 ⟨rfl, rfl⟩
  go_wp2_with fail
  refine HE.out.mono ?_
  rintro e w1 ⟨rfl, rfl⟩
  go_wp2
  go_ret
  exact ⟨rfl, rfl⟩
theorem dr_skip (v : Value) (w : World) (h : DeadR w v) :
    Calls Try.prog 29 #[v] w fun r w' => r = .returned (.tuple #[]) ∧ w = w' := by
  have HW := Lib.hid (dr_within v w h)
  clear h
  go_enter Try.func29, Try.ntmps29
  go_wp2_with fail
  refine HW.out.mono ?_
  rintro e w1 ⟨rfl, rfl⟩
  go_wp2
  go_end0
  exact ⟨rfl, rfl⟩
theorem dr_close (v : Value) (w : World) (h : DeadR w v) :
    Calls Try.prog 6 #[v] w fun r w' => r = .returned (.tuple #[]) ∧ w = w' := by
  have HD := Lib.hid (dr_deep v w h)
  have HS := Lib.hid (dr_skip v w h)
  clear h
  go_enter Try.func6, Try.ntmps6
  go_wp2_with fail
  refine HD.out.mono ?_
  rintro e w1 ⟨rfl, rfl⟩
  go_wp2_with fail
  refine HS.out.mono ?_
  rintro e w1 ⟨rfl, rfl⟩
  go_wp2
  go_end0
  exact ⟨rfl, rfl⟩

theorem dw_err (v : Value) (w : World) (h : DeadW w v) :
    Calls Try.prog 20 #[v] w fun r w' => r = .returned (.int .i64 2) ∧ w = w' := by
  rcases h with rfl | ⟨p, rfl, hb⟩
  · go_enter Try.func20, Try.ntmps20
    go_wp2
    go_ret
    exact ⟨rfl, rfl⟩
  · have h0 : w.cell? ⟨p, 0, none⟩ = some (.bool false) := hb.cell 0
    clear hb
    go_enter Try.func20, Try.ntmps20
    go_wp2
    go_ret
    exact ⟨rfl, rfl⟩
theorem nw_len (w : World) :
    Calls Try.prog 19 #[.pointer none] w fun r w' => r = .returned (.int .i64 0) ∧ w = w' := by
  go_enter Try.func19, Try.ntmps19
  go_wp2
  go_ret
  exact ⟨rfl, rfl⟩
theorem dw_byte (v u : Value) (w : World) (h : DeadW w v) :
    Calls Try.prog 7 #[v, u] w fun r w' => r = .returned v ∧ w = w' := by
  have HE := Lib.hid (dw_err v w h)
  clear h
  go_enter Try.func7, Try.ntmps7
  go_wp2_with fail
  refine HE.out.mono ?_
  rintro e w1 ⟨rfl, rfl⟩
  go_wp2
  go_ret
  exact ⟨rfl, rfl⟩
theorem dw_hold1 (v : Value) (w : World) (h : DeadW w v) :
    Calls Try.prog 9 #[v, .int .i64 1] w fun r w' => r = .returned v ∧ w = w' := by
  have HE := Lib.hid (dw_err v w h)
  clear h
  go_enter Try.func9, Try.ntmps9
  go_wp2_with fail
  refine HE.out.mono ?_
  rintro e w1 ⟨rfl, rfl⟩
  go_wp2
  go_ret
  exact ⟨rfl, rfl⟩
theorem dw_fill (v : Value) (w : World) (h : DeadW w v) :
    Calls Try.prog 10 #[v] w fun r w' => r = .returned v ∧ w = w' := by
  have HE := Lib.hid (dw_err v w h)
  clear h
  go_enter Try.func10, Try.ntmps10
  go_wp2_with fail
  refine HE.out.mono ?_
  rintro e w1 ⟨rfl, rfl⟩
  go_wp2
  go_ret
  exact ⟨rfl, rfl⟩
theorem dw_done (v : Value) (w : World) (h : DeadW w v) :
    Calls Try.prog 11 #[v] w fun r w' => r = .returned (.tuple #[.slice none 0 0, .int .i64 2]) ∧ w = w' := by
  have HE := Lib.hid (dw_err v w h)
  clear h
  go_enter Try.func11, Try.ntmps11
  go_wp2_with fail
  refine HE.out.mono ?_
  rintro e w1 ⟨rfl, rfl⟩
  go_wp2
  exact bodyPost_ret (v := .tuple #[.slice none 0 0, .int .i64 2]) (by simp [results, Try.results11, go_sem]) rfl ⟨rfl, rfl⟩
set_option maxHeartbeats 800000 in
theorem dw_two1 (v : Value) (g : Nat) (w : World) (h : DeadW w v) (hc : w.cell? ⟨g, 0, none⟩ = some (.int .u16 2)) :
    Calls Try.prog 8 #[v, .slice (some ⟨g, 0, none⟩) 1 1] w fun r w' => r = .returned v ∧ Kept Nothing w w' := by
  have HB : Hid (∀ u x, Kept Nothing w u → Calls Try.prog 7 #[v, x] u fun r w' => r = .returned v ∧ u = w') := Lib.hid (fun u x k => dw_byte v x u (h.old k))
  have HC := Lib.hid hc
  clear h hc
  go_enter Try.func8, Try.ntmps8
  go_wp2_with fail
  go_loopw [9] (fun i wr => (i = .int .i64 0 ∨ i = .int .i64 1) ∧ Kept Nothing w wr) (fun i _ => 1 - (intOf i).toNat)
  case atStart => exact ⟨.inl rfl, Kept.refl _ _⟩
  case round =>
    obtain ⟨hi, hk⟩ := hrel
    rcases hi with rfl | rfl
    · have hcell := hk.cell_some HC.out (fun x => x)
      have K := Lib.hid hk
      have KB := Lib.hid (hk.alloc (.cells #[.int .u8 0, .int .u8 2] 5))
      clear hk
      go_wp2_with fail
      refine (HB.out _ _ KB.out).mono ?_
      rintro e w2 ⟨rfl, rfl⟩
      go_wp2
      exact ⟨⟨.inr rfl, KB.out⟩, by simp [intOf]⟩
    · have K := Lib.hid hk
      clear hk
      go_wp2
      go_ret
      exact ⟨rfl, K.out⟩
end Go.Proofs.Ytkmoaompgockaaa
