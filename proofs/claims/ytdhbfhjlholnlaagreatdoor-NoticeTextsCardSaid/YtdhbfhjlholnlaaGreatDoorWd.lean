
/-
  What the calls of package scroll's writer do: Done; Two, Four; bytes.Equal.
-/
import Derived.Test.YtdhbfhjlholnlaaGreatDoorWf
import Derived.Laws.IdiomStrings
import Derived.Laws.BytesString
namespace Go.Proofs.YtdhbfhjlholnlaaGreatDoor
open Go.RowKit

theorem wr_done (p : Nat) (F : Nat → Prop) (s : WS) (w : World) (h : Wr w F p s) :
    Calls Tryz.prog 40 #[.pointer (some ⟨p, 0, none⟩)] w fun r w' => ∃ v, r = .returned (.tuple #[v, .int .i64 s.done.2]) ∧ Bs w' v s.done.1 ∧ Kept Nothing w w' := by
  have hE := Lib.hid (wr_err p F s w h)
  by_cases he : s.e = 0
  · have hn : (s.e != 0) = false := by simpa using he
    have hmx := h.ok.2.1
    obtain ⟨bv, hv, _, hb, h1, h2, hok⟩ := h
    obtain ⟨⟨-, c1, c2, -⟩, -⟩ := cells4 hb
    obtain ⟨A0, cc0, rfl, _, _⟩ := own_form h1
    obtain ⟨A1, cc1, rfl, _, _⟩ := own_form h2
    by_cases h0 : s.hs = []
    · have HF : Hid (s.done = (s.l, 0)) := by show _ = _; unfold WS.done; rw [if_pos he, if_pos h0]
      rw [HF.out]
      have HC := Lib.hid (sl_clone _ s.l w (Bs.of_own h1).by hmx)
      rw [h0] at c2
      simp only [List.length_nil] at c2
      clear HF he h0 hb h1 h2 hok
      go_enter Tryz.func40, Tryz.ntmps40
      go_wp2_with fail
      refine hE.out.mono ?_
      rintro e w' ⟨rfl, rfl⟩
      go_wp2_with fail
      refine HC.out.mono ?_
      rintro e w1 ⟨v, rfl, ho, hk⟩
      have HO := Lib.hid ho
      clear ho
      go_wp2
      go_ret2
      exact ⟨v, rfl, Bs.of_own HO.out, hk⟩
    · have HF : Hid (s.done = ([], 26)) := by show _ = _; unfold WS.done; rw [if_pos he, if_neg h0]
      rw [HF.out]
      have hl : 0 < s.hs.length := List.length_pos_iff.2 h0
      have hlI : (0 : Int) < s.hs.length := by omega
      clear HF he h0 hb h1 h2 hok
      go_enter Tryz.func40, Tryz.ntmps40
      go_wp2_with fail
      refine hE.out.mono ?_
      rintro e w' ⟨rfl, rfl⟩
      go_wp2
      go_ret2
      exact ⟨_, rfl, Bs.nil _, Kept.refl _ _⟩
  · have HF : Hid (s.done = ([], s.e)) := if_neg he
    rw [HF.out]
    have hn : (s.e != 0) = true := by simpa using he
    clear HF he h
    go_enter Tryz.func40, Tryz.ntmps40
    go_wp2_with fail
    refine hE.out.mono ?_
    rintro e w' ⟨rfl, rfl⟩
    go_wp2
    go_ret2
    exact ⟨_, rfl, Bs.nil _, Kept.refl _ _⟩

theorem run_conv {w : World} {v : Value} {l : List UInt8} (h : By w v l) : (convert 55 9 v).run Tryz.prog w = .ok (.string ⟨l.toArray⟩) w := by
  obtain ⟨A, c, rfl, _, _⟩ := h.form
  have hs := h.src
  rw [run_convert_bytes_string w _ _ 5 A l.length c Tryz.underlying55 Tryz.underlying5 Tryz.underlying9]
  cases A with
  | none =>
    obtain rfl : l = [] := List.eq_nil_of_length_eq_zero (hs.2.1 rfl)
    rfl
  | some a =>
    have hl := run_loadCells_list (P := Tryz.prog) w a (bys l) (fun j u hu => hs.2.2.1 a rfl j u hu)
    rw [length_bys] at hl
    rw [run_bytesToString w a l.length c (l.map fun b => (b.toNat : Int)) (by rw [hl]; simp [bys, by8, Function.comp_def]), foldl_push_byteCells]
    simp

theorem by_equal (a b : Value) (l m : List UInt8) (w : World) (ha : By w a l) (hb : By w b m) :
    Calls Tryz.prog 112 #[a, b] w fun r w' => r = .returned (.bool (l == m)) ∧ w = w' := by
  have h1 := run_conv ha
  have h2 := run_conv hb
  clear ha hb
  go_enter Tryz.func112, Tryz.ntmps112
  go_wp2
  go_ret
  exact ⟨rfl, rfl⟩
end Go.Proofs.YtdhbfhjlholnlaaGreatDoor
