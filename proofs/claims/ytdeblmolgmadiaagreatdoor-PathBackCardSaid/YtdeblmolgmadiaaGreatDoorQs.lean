
/-
  strings.IndexAny of the marks, at any bytes.
-/
import Derived.Test.YtdeblmolgmadiaaGreatDoorQr
namespace Go.Proofs.YtdeblmolgmadiaaGreatDoor
open Go.RowKit

def MKS : ByteArray := ⟨#[123, 125, 40, 41, 91, 93, 44, 124, 32]⟩
theorem mks_asc : ∀ b ∈ MKS.data.toList, b.toNat < 128 := by decide

theorem rune_marks (s : ByteArray) (i : Nat) (hi : i < s.size) : ∃ z : Int, (∀ w, Calls Tryz.prog 201 #[.string MKS, .int .i32 ((Utf8.decode s i).1 : Int)] w fun e w' => e = .returned (.int .i64 z) ∧ Below w.heap.size w w') ∧
    ((0 ≤ z ∧ ∃ x, s.data.toList[i]? = some x ∧ MKS.data.toList.contains x = true) ∨ (¬ 0 ≤ z ∧ (Lib.NoAny s.data.toList MKS.data.toList i → Lib.NoAny s.data.toList MKS.data.toList (i + (Utf8.decode s i).2)))) := by
  have hg : s.get! i = s[i]'hi := by simpa using get_at s i hi
  by_cases hx : (s[i]'hi).toNat < 128
  · have hd : Utf8.decode s i = ((s[i]'hi).toNat, 1) := by
      rw [Lib.decode_at, hg]
      unfold Lib.decodeN
      rw [if_pos hx]
    rw [hd]
    refine ⟨Lib.indexByte MKS.data.toList (s[i]'hi), fun w => ?_, ?_⟩
    · have h1 := Tryz.strings_IndexRune_ascii MKS ((s[i]'hi).toNat : Int) w (by omega) (by omega)
      have e : (((s[i]'hi).toNat : Int)).toNat.toUInt8 = s[i]'hi := by simp
      rw [e] at h1
      exact h1.mono fun e w' ⟨he, hw⟩ => ⟨he, hw ▸ Below.refl _ _⟩
    · have hc := Lib.contains_iff_indexByte MKS.data.toList (s[i]'hi)
      cases hin : MKS.data.toList.contains (s[i]'hi) with
      | true =>
        rw [hin] at hc
        exact .inl ⟨of_decide_eq_true hc.symm, _, Lib.data_getElem? s i hi, hin⟩
      | false =>
        rw [hin] at hc
        exact .inr ⟨of_decide_eq_false hc.symm, fun h => h.succ (Lib.data_getElem? s i hi) hin⟩
  · have h1 := decode_high s i hi (by omega)
    refine ⟨-1, fun w => rune_high _ h1.1 (decode_valid s i) w, .inr ⟨by omega, fun h => noAny_on s MKS i _ h (fun k hk => decode_tail s i hi (by rw [hg]; omega) k hk) mks_asc⟩⟩

set_option maxRecDepth 20000 in
set_option maxHeartbeats 2000000 in
theorem marks_short (s : ByteArray) (w : World) (h8 : s.size ≤ 8) :
    Calls Tryz.prog 192 #[.string s, .string MKS] w fun e w' => e = .returned (.int .i64 (Lib.indexAny s.data.toList MKS.data.toList)) ∧ Below w.heap.size w w' := by
  obtain ⟨chars, hcs⟩ : ∃ c : ByteArray, MKS = c := ⟨_, rfl⟩
  have hemp : chars.toList.isEmpty = false := by subst hcs; rw [Lib.toList_data]; rfl
  have hsz : chars.size = 9 := by subst hcs; rfl
  have h8z : decide ((8 : Int) < (s.size : Int)) = false := decide_eq_false (by omega)
  have HM := Lib.hid (rune_marks s)
  have HS : Hid (∀ w, Calls Tryz.prog 202 #[.int .i64 (s.size : Int)] w fun e w' => e = .returned (.bool false) ∧ w' = w) := Lib.hid (fun w => by have := Tryz.strings_shouldUseASCIISet (s.size : Int) w; rw [h8z] at this; exact this)
  rw [hcs] at HM
  rw [hcs]
  clear hcs h8z
  go_enter Tryz.func192, Tryz.ntmps192
  go_wp2_with (go_at_call 202; refine (HS.out _).mono ?_; rintro e w1 ⟨rfl, rfl⟩)
  go_loopg [9, 10] s.size (fun g _ _ wx => ∃ i : Nat, s.size ≤ i + g ∧ wx.heap[w1.heap.size]? = some (.stringIter s i) ∧ Below w1.heap.size w1 wx ∧ Lib.NoAny s.data.toList chars.data.toList i)
  case atStart => exact ⟨0, by omega, World.iter_heap w1 s 0, (Below.refl _ w1).alloc (Nat.le_refl _) _, Lib.NoAny.zero _ _⟩
  case round =>
    obtain ⟨i, hig, hit, hbw, hno⟩ := hrel
    have HN := Lib.hid hno
    clear hno
    by_cases hps : i < s.size
    · obtain ⟨g', rfl⟩ : ∃ g', gk = g' + 1 := ⟨gk - 1, by omega⟩
      have hnx : ∀ ty, (Instr.next (.pointer (some ⟨w1.heap.size, 0, none⟩)) true ty).run Tryz.prog wr = _ := fun ty => Lib.run_next_any_at wr w1.heap.size s i ty hit hps
      have hwd := Lib.width_pos s i
      obtain ⟨z, hc, hz⟩ := HM.out i hps
      generalize (Utf8.decode s i).1 = R at *
      generalize (Utf8.decode s i).2 = K at *
      have hit2 := Lib.iterAt_heap wr w1.heap.size s i (i + K) hit
      have hbw2 := Lib.below_iterAt hbw (k := w1.heap.size) (Nat.le_refl _) s (i + K)
      generalize wr.iterAt w1.heap.size s (i + K) = W at *
      have hltW : w1.heap.size < W.heap.size := (Array.getElem?_eq_some_iff.1 hit2).1
      have HC := Lib.hid hc
      clear hc hit hbw
      rcases hz with ⟨hz, HX⟩ | ⟨hz, HX⟩
      · have HX := Lib.hid HX
        go_wp2_with (go_at_call 201; refine (HC.out _).mono ?_; rintro e w2 ⟨rfl, hb2⟩)
        go_ret
        obtain ⟨x, hx1, hx2⟩ := HX.out
        exact ⟨by rw [Lib.indexAny_hit HN.out hx1 hx2]; rfl, hbw2.trans (hb2.mono hbw2.size)⟩
      · have HX := Lib.hid HX
        go_wp2_with (go_at_call 201; refine (HC.out _).mono ?_; rintro e w2 ⟨rfl, hb2⟩)
        go_roundg g'
        case measure => omega
        case rel => exact ⟨i + K, by omega, (hb2.block _ hltW).trans hit2, hbw2.trans (hb2.mono hbw2.size), HX.out HN.out⟩
    · have hnx : ∀ ty, (Instr.next (.pointer (some ⟨w1.heap.size, 0, none⟩)) true ty).run Tryz.prog wr = _ := fun ty => Lib.run_next_end_at wr w1.heap.size s i ty hit hps
      go_wp2
      go_ret
      exact ⟨by rw [Lib.indexAny_none (fun j b hj hb => HN.out j b (by rw [← Lib.size_eq] at hj; omega) hb)]; rfl, hbw⟩

/-- strings.IndexAny of the marks, at any bytes. -/
theorem marks_any (s : ByteArray) (hs : s.size < 4294967281) (w : World) :
    Calls Tryz.prog 192 #[.string s, .string ⟨#[123, 125, 40, 41, 91, 93, 44, 124, 32]⟩] w fun e w' => e = .returned (.int .i64 (Lib.indexAny s.data.toList [123, 125, 40, 41, 91, 93, 44, 124, 32])) ∧ Below w.heap.size w w' := by
  by_cases h8 : s.size ≤ 8
  · exact marks_short s w h8
  · have h1 := Any.strings_IndexAny_long Tryz.lays153 (zero_of_info (P := Tryz.prog) (n := 256) (by kernel_rfl)).1 (by kernel_rfl) s ⟨#[123, 125, 40, 41, 91, 93, 44, 124, 32]⟩ w (by decide) (by omega) hs (by decide) (fun j b hb => mks_asc b (List.mem_of_getElem? hb))
    refine h1.mono fun e w' ⟨h1, h2⟩ => ⟨h1, ?_⟩
    rw [h2]
    exact ((Below.refl _ _).alloc (Nat.le_refl _) _).alloc (by simp) _
end Go.Proofs.YtdeblmolgmadiaaGreatDoor
