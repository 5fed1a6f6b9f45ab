
/-
  strings.IndexAny where the bytes may be any: the rune of a byte past ASCII is none of the marks.
-/
import Derived.Test.YtdeblmolgmadiaaGreatDoorNc
import Derived.Test.YtdeblmolgmadiaaGreatDoorSj
import Derived.Lib.MapLaws
import Derived.Lib.OthersKept
import Derived.Lib.TrimU
import Derived.Laws.RangeAny
import Derived.Laws.Runes
namespace Go.Proofs.YtdeblmolgmadiaaGreatDoor
open Go.RowKit

/-- The bytes of a decoded rune that is not ASCII lie within the text, and none is ASCII. -/
theorem decode_tail (s : ByteArray) (i : Nat) (hi : i < s.size) (h : 128 ≤ (s.get! i).toNat) (k : Nat) (hk : k < (Utf8.decode s i).2) : i + k < s.size ∧ 128 ≤ (s.get! (i + k)).toNat := by
  rw [Lib.decode_at] at hk
  rcases Lib.decodeN_shape (s.size - i) (s.get! i).toNat (s.get! (i + 1)).toNat (s.get! (i + 2)).toNat (s.get! (i + 3)).toNat with ⟨c, e⟩ | ⟨c1, c2, c3, cv, e⟩ | ⟨c1, c2, c3, c4, cv, cs, e⟩ | ⟨c1, c2, c3, c4, c5, cv, cw, e⟩ | e
  · omega
  · rw [e] at hk
    have hk : k < 2 := hk
    obtain rfl | rfl : k = 0 ∨ k = 1 := by omega
    · exact ⟨hi, h⟩
    · exact ⟨by omega, by omega⟩
  · rw [e] at hk
    have hk : k < 3 := hk
    obtain rfl | rfl | rfl : k = 0 ∨ k = 1 ∨ k = 2 := by omega
    · exact ⟨hi, h⟩
    · exact ⟨by omega, by omega⟩
    · exact ⟨by omega, by omega⟩
  · rw [e] at hk
    have hk : k < 4 := hk
    obtain rfl | rfl | rfl | rfl : k = 0 ∨ k = 1 ∨ k = 2 ∨ k = 3 := by omega
    · exact ⟨hi, h⟩
    · exact ⟨by omega, by omega⟩
    · exact ⟨by omega, by omega⟩
    · exact ⟨by omega, by omega⟩
  · rw [e] at hk
    have hk : k < 1 := hk
    obtain rfl : k = 0 := by omega
    exact ⟨hi, h⟩

/-- A rune's bytes, two to four, the last none of ASCII's. -/
theorem encode_forms (r : Int) (hv : Utf8.valid r = true) (h : 128 ≤ r) : ∃ d : UInt8, 128 ≤ d.toNat ∧ ((∃ a, Utf8.encode r = ⟨#[a, d]⟩) ∨ (∃ a b, Utf8.encode r = ⟨#[a, b, d]⟩) ∨ (∃ a b c, Utf8.encode r = ⟨#[a, b, c, d]⟩)) := by
  have hc : ¬ r.toNat < 128 := by omega
  refine ⟨UInt8.ofNat (128 + r.toNat % 64), by simp; omega, ?_⟩
  unfold Utf8.encode
  simp only [hv, if_true, hc, if_false]
  split
  · exact .inl ⟨_, rfl⟩
  · split
    · exact .inr (.inl ⟨_, _, rfl⟩)
    · exact .inr (.inr ⟨_, _, _, rfl⟩)

set_option maxRecDepth 20000 in
set_option maxHeartbeats 2000000 in
theorem rune_bad (w : World) :
    Calls Tryz.prog 201 #[.string ⟨#[123, 125, 40, 41, 91, 93, 44, 124, 32]⟩, .int .i32 65533] w fun e w' => e = .returned (.int .i64 (-1)) ∧ Below w.heap.size w w' := by
  obtain ⟨s, hs⟩ : ∃ s : ByteArray, ⟨#[123, 125, 40, 41, 91, 93, 44, 124, 32]⟩ = s := ⟨_, rfl⟩
  have HA : Hid (∀ (j : Nat) (h : j < s.size), (s[j]'h).toNat < 128) := Lib.hid (by subst hs; decide)
  rw [hs]
  clear hs
  go_enter Tryz.func201, Tryz.ntmps201
  go_wp2_with fail
  go_loopg [] s.size (fun g wx => ∃ i : Nat, i + g = s.size ∧ wx = w.iter s i)
  case atStart => exact ⟨0, by omega, rfl⟩
  case round =>
    obtain ⟨i, hig, rfl⟩ := hrel
    cases gk with
    | zero =>
      obtain rfl : i = s.size := by omega
      have hnx := run_next_end (P := Tryz.prog) w s s.size
      go_wp2
      go_ret
      exact ⟨rfl, (Below.refl _ _).alloc (Nat.le_refl _) _⟩
    | succ g =>
      have hi : i < s.size := by omega
      have hx := HA.out i hi
      have hnx := fun ty => run_next_ascii (P := Tryz.prog) w s i ty hi hx
      generalize s[i]'hi = x at *
      have hne : (((x.toNat : Int)) == 65533) = false := beq_eq_false_iff_ne.2 (by omega)
      clear hx
      go_wp2
      go_roundg g
      case measure => omega
      case rel => exact ⟨i + 1, by omega, rfl⟩

theorem byte_high (t : ByteArray) (d : UInt8) (w : World) (hd : 128 ≤ d.toNat) (ht : ∀ b ∈ t.data.toList, b.toNat < 128) : Calls Tryz.prog 209 #[.string t, .int .u8 (d.toNat : Int)] w fun e w' => e = .returned (.int .i64 (-1)) ∧ w' = w := by
  have h1 := Tryz.strings_IndexByte t (d.toNat : Int) w
  have e : ((d.toNat : Int)).toNat.toUInt8 = d := by simp
  rw [e] at h1
  refine h1.mono fun e w' ⟨he, hw⟩ => ⟨?_, hw⟩
  rw [he]
  have hc := Lib.contains_iff_indexByte t.data.toList d
  have hn : t.data.toList.contains d = false := by
    cases hh : t.data.toList.contains d with
    | false => rfl
    | true => have := ht d (by simpa using hh); omega
  rw [hn] at hc
  have hlt : ¬ ((0 : Int) ≤ Lib.indexByte t.data.toList d) := of_decide_eq_false hc.symm
  have hge := Lib.indexByte_ge t.data.toList d
  have e2 : Lib.indexByte t.data.toList d = -1 := by omega
  rw [e2]

set_option maxRecDepth 20000 in
set_option maxHeartbeats 2000000 in
theorem rune_walk (r : Nat) (h : 128 ≤ r) (hb : r ≠ 65533) (hv : Utf8.valid (r : Int) = true) (s T : ByteArray) (d : UInt8) (hs : s.size = 9) (hA : ∀ b ∈ s.data.toList, b.toNat < 128) (hd : 128 ≤ d.toNat) (n : Nat) (hn : n = 1 ∨ n = 2 ∨ n = 3) (hT : T.size = n + 1)
    (hTd : ∀ h : n < T.size, T[n]'h = d) (hf : Utf8.encode (r : Int) = T) (w : World) :
    Calls Tryz.prog 201 #[.string s, .int .i32 (r : Int)] w fun e w' => e = .returned (.int .i64 (-1)) ∧ Below w.heap.size w w' := by
  have h1 : ¬ (r : Int) < 128 := by omega
  have h0 : (0 : Int) ≤ (r : Int) := by omega
  have h2 : (((r : Int)) == 65533) = false := beq_eq_false_iff_ne.2 (by omega)
  have HV : Hid (∀ w, Calls Tryz.prog 210 #[.int .i32 (r : Int)] w fun e w' => e = .returned (.bool true) ∧ w' = w) := Lib.hid (fun w => by
    have e : Lib.validRune (r : Int) = true := by
      rw [← hv]
      unfold Utf8.valid Lib.validRune
      rw [Bool.eq_iff_iff]
      simp
      try omega
    have := Tryz.utf8_ValidRune (r : Int) w
    rw [e] at this
    exact this)
  have HB : Hid (∀ (a b : Nat) w, Calls Tryz.prog 209 #[.string (s.extract a b), .int .u8 (d.toNat : Int)] w fun e w' => e = .returned (.int .i64 (-1)) ∧ w' = w) := Lib.hid (fun a b w => byte_high _ d w hd (fun x hx => hA x (by
    rw [Lib.extract_data] at hx
    first | exact List.mem_of_mem_drop (List.mem_of_mem_take hx) | exact List.mem_of_mem_take (List.mem_of_mem_drop hx))))
  have hin : n < T.size := by omega
  have hins : n < s.size := by omega
  have hTd := hTd hin
  have hx : (s[n]'hins).toNat < 128 := hA _ (List.mem_of_getElem? (Lib.data_getElem? s n hins))
  have hne : ((((s[n]'hins).toNat : Nat) : Int) != (d.toNat : Int)) = true := bne_iff_ne.2 (by omega)
  have HD := Lib.hid hd
  have HA := Lib.hid hA
  clear hv hd hA hx
  rcases hn with rfl | rfl | rfl
  · have hT : T.size = 2 := hT
    have hwr : IntKind.i64.wrap 2 = 2 := by decide
    go_enter Tryz.func201, Tryz.ntmps201
    go_wp2_with (go_at_call 210; refine (HV.out _).mono ?_; rintro e w1 ⟨rfl, rfl⟩)
    refine wp_scope_labels (fun _ _ _ => False) (fun _ _ _ => 0) ?_ (fun _ _ _ h => h.elim)
    go_wp2_with fail
    go_loopg [9] 1 (fun g s9 wx => g = 1 ∧ s9 = .int .i64 1 ∧ wx = w1)
    case atStart => exact ⟨rfl, rfl, rfl⟩
    case round =>
      obtain ⟨rfl, rfl, rfl⟩ := hrel
      go_wp2_with fail
      refine wp_scope_labels (fun _ _ _ => False) (fun _ _ _ => 0) ?_ (fun _ _ _ h => h.elim)
      go_wp2_with fail
      go_region
      go_wp2_with fail
      go_region_law (go_simp; go_at_call 209; refine (HB.out _ _ _).mono ?_; rintro e w2 ⟨rfl, rfl⟩)
      go_wp2
      simp +zetaDelta only [jumps, Exit.inBlock, Exit.then]
      go_ret
      exact ⟨rfl, (Below.refl _ _).drew.drew⟩
  · have hT : T.size = 3 := hT
    have hwr : IntKind.i64.wrap 3 = 3 := by decide
    go_enter Tryz.func201, Tryz.ntmps201
    go_wp2_with (go_at_call 210; refine (HV.out _).mono ?_; rintro e w1 ⟨rfl, rfl⟩)
    refine wp_scope_labels (fun _ _ _ => False) (fun _ _ _ => 0) ?_ (fun _ _ _ h => h.elim)
    go_wp2_with fail
    go_loopg [9] 1 (fun g s9 wx => g = 1 ∧ s9 = .int .i64 2 ∧ wx = w1)
    case atStart => exact ⟨rfl, rfl, rfl⟩
    case round =>
      obtain ⟨rfl, rfl, rfl⟩ := hrel
      go_wp2_with fail
      refine wp_scope_labels (fun _ _ _ => False) (fun _ _ _ => 0) ?_ (fun _ _ _ h => h.elim)
      go_wp2_with fail
      go_region
      go_wp2_with fail
      go_region_law (go_simp; go_at_call 209; refine (HB.out _ _ _).mono ?_; rintro e w2 ⟨rfl, rfl⟩)
      go_wp2
      simp +zetaDelta only [jumps, Exit.inBlock, Exit.then]
      go_ret
      exact ⟨rfl, (Below.refl _ _).drew.drew⟩
  · have hT : T.size = 4 := hT
    have hwr : IntKind.i64.wrap 4 = 4 := by decide
    go_enter Tryz.func201, Tryz.ntmps201
    go_wp2_with (go_at_call 210; refine (HV.out _).mono ?_; rintro e w1 ⟨rfl, rfl⟩)
    refine wp_scope_labels (fun _ _ _ => False) (fun _ _ _ => 0) ?_ (fun _ _ _ h => h.elim)
    go_wp2_with fail
    go_loopg [9] 1 (fun g s9 wx => g = 1 ∧ s9 = .int .i64 3 ∧ wx = w1)
    case atStart => exact ⟨rfl, rfl, rfl⟩
    case round =>
      obtain ⟨rfl, rfl, rfl⟩ := hrel
      go_wp2_with fail
      refine wp_scope_labels (fun _ _ _ => False) (fun _ _ _ => 0) ?_ (fun _ _ _ h => h.elim)
      go_wp2_with fail
      go_region
      go_wp2_with fail
      go_region_law (go_simp; go_at_call 209; refine (HB.out _ _ _).mono ?_; rintro e w2 ⟨rfl, rfl⟩)
      go_wp2
      simp +zetaDelta only [jumps, Exit.inBlock, Exit.then]
      go_ret
      exact ⟨rfl, (Below.refl _ _).drew.drew⟩

theorem rune_high (r : Nat) (h : 128 ≤ r) (hv : Utf8.valid (r : Int) = true) (w : World) :
    Calls Tryz.prog 201 #[.string ⟨#[123, 125, 40, 41, 91, 93, 44, 124, 32]⟩, .int .i32 (r : Int)] w fun e w' => e = .returned (.int .i64 (-1)) ∧ Below w.heap.size w w' := by
  by_cases hb : r = 65533
  · subst hb
    exact rune_bad w
  obtain ⟨d, hd, ⟨a, hf⟩ | ⟨a, b, hf⟩ | ⟨a, b, c, hf⟩⟩ := encode_forms (r : Int) hv (by omega)
  · exact rune_walk r h hb hv _ _ d rfl (by decide) hd 1 (by decide) rfl (fun _ => rfl) hf w
  · exact rune_walk r h hb hv _ _ d rfl (by decide) hd 2 (by decide) rfl (fun _ => rfl) hf w
  · exact rune_walk r h hb hv _ _ d rfl (by decide) hd 3 (by decide) rfl (fun _ => rfl) hf w

/-- A decoded rune is a valid one. -/
theorem decode_valid (s : ByteArray) (i : Nat) : Utf8.valid ((Utf8.decode s i).1 : Int) = true := by
  rw [Lib.decode_at]
  have h0 := (s.get! i).toNat_lt
  unfold Utf8.valid
  rcases Lib.decodeN_shape (s.size - i) (s.get! i).toNat (s.get! (i + 1)).toNat (s.get! (i + 2)).toNat (s.get! (i + 3)).toNat with ⟨c, e⟩ | ⟨c1, c2, c3, cv, e⟩ | ⟨c1, c2, c3, c4, cv, cs, e⟩ | ⟨c1, c2, c3, c4, c5, cv, cw, e⟩ | e <;> rw [e] <;> simp <;> omega

/-- No mark ahead of i, and the byte there with what follows it. -/
theorem noAny_on (s chars : ByteArray) (i n : Nat) (h : Lib.NoAny s.data.toList chars.data.toList i) (hn : ∀ k, k < n → i + k < s.size ∧ 128 ≤ (s.get! (i + k)).toNat) (hc : ∀ b ∈ chars.data.toList, b.toNat < 128) : Lib.NoAny s.data.toList chars.data.toList (i + n) := by
  induction n with
  | zero => exact h
  | succ n ih =>
    have h1 := ih (fun k hk => hn k (by omega))
    obtain ⟨h2, h3⟩ := hn n (by omega)
    have e : s.get! (i + n) = s[i + n]'h2 := by simpa using get_at s (i + n) h2
    rw [e] at h3
    refine h1.succ (Lib.data_getElem? s (i + n) h2) ?_
    cases hh : chars.data.toList.contains (s[i + n]'h2) with
    | false => rfl
    | true => have := hc _ (by simpa using hh); omega
end Go.Proofs.YtdeblmolgmadiaaGreatDoor
