
/-
  What the calls of package scroll's writer do: Two, Four.
-/
import Derived.Test.YtdhbfhjlholnlaaGreatDoorWf
namespace Go.Proofs.YtdhbfhjlholnlaaGreatDoor
open Go.RowKit

/-- The slice value v reads as the numbers l of the kind k, in a row of the type ty. -/
def Us (w : World) (ty : TypeId) (k : IntKind) (v : Value) (l : List Nat) : Prop :=
  ∃ A c, v = .slice A l.length c ∧ l.length ≤ c ∧ c ≤ maxLen ∧ (0 < l.length → ∃ b o cs f, A = some ⟨b, o, none⟩ ∧ w.heap[b]? = some (.cells cs ty f) ∧ ∀ i (_ : i < l.length), cs[o + i]? = some (.int k ((l.getD i 0 : Nat) : Int)))
theorem Us.kept {S : Nat → Prop} {w w' : World} {ty : TypeId} {k : IntKind} {v : Value} {l : List Nat} (h : Us w ty k v l) (kp : Kept S w w') (hs : ∀ q, S q → ∀ cs f, w.heap[q]? ≠ some (.cells cs ty f)) : Us w' ty k v l := by
  obtain ⟨A, c, hv, hc, hm, hr⟩ := h
  refine ⟨A, c, hv, hc, hm, fun h0 => ?_⟩
  obtain ⟨b, o, cs, f, hA, hb, hi⟩ := hr h0
  exact ⟨b, o, cs, f, hA, (kp.block b (Array.getElem?_eq_some_iff.1 hb).1 (fun x => hs b x cs f hb)).trans hb, hi⟩
theorem Us.cell {w : World} {ty : TypeId} {k : IntKind} {A : Option Addr} {n c : Nat} {l : List Nat} (h : Us w ty k (.slice A n c) l) {i : Nat} (hi : i < l.length) : ∃ b o, A = some ⟨b, o, none⟩ ∧ w.cell? ⟨b, o + i, none⟩ = some (.int k ((l.getD i 0 : Nat) : Int)) := by
  obtain ⟨A', c', hv, hc, hm, hr⟩ := h
  injection hv with h1 h2 h3
  subst h1
  obtain ⟨b, o, cs, f, hA, hb, hcs⟩ := hr (by omega)
  exact ⟨b, o, hA, by rw [cell_of_row w b _ cs _ f hb]; exact hcs i hi⟩
theorem Us.form {w : World} {ty : TypeId} {k : IntKind} {v : Value} {l : List Nat} (h : Us w ty k v l) : ∃ A c, v = .slice A l.length c ∧ l.length ≤ c ∧ c ≤ maxLen := by
  obtain ⟨A, c, hv, hc, hm, _⟩ := h; exact ⟨A, c, hv, hc, hm⟩
theorem Us.made {w : World} {b : Nat} {ty : TypeId} {k : IntKind} {l : List Nat} {cs : Array Value} (h : Blk w b ty cs) (hl : cs.toList = l.map fun (n : Nat) => Value.int k (n : Int)) (hm : l.length ≤ maxLen) : Us w ty k (.slice (some ⟨b, 0, none⟩) l.length l.length) l :=
  ⟨_, _, rfl, Nat.le_refl _, hm, fun _ => ⟨b, 0, cs, _, rfl, h, fun i hi => by
    rw [Nat.zero_add, ← Array.getElem?_toList, hl, List.getElem?_map, List.getElem?_eq_getElem hi, List.getD_eq_getElem?_getD, List.getElem?_eq_getElem hi]; rfl⟩⟩

def two (n : Nat) : List UInt8 := [UInt8.ofNat (n / 256), UInt8.ofNat n]
def twos (l : List Nat) : List UInt8 := l.flatMap two
def fours (l : List Nat) : List UInt8 := l.flatMap fun n => twos [n / 65536, n % 65536]
theorem length_twos (l : List Nat) : (twos l).length = 2 * l.length := by
  induction l with
  | nil => rfl
  | cons a r ih => simp only [twos, List.flatMap_cons, List.length_append, List.length_cons] at ih ⊢; simp only [two, List.length_cons, List.length_nil]; omega
theorem length_fours (l : List Nat) : (fours l).length = 4 * l.length := by
  induction l with
  | nil => rfl
  | cons a r ih => simp only [fours, List.flatMap_cons, List.length_append, List.length_cons] at ih ⊢; rw [length_twos]; simp only [List.length_cons, List.length_nil]; omega
theorem twos_snoc (l : List Nat) (n : Nat) : twos (l ++ [n]) = twos l ++ two n := by unfold twos; rw [List.flatMap_append]; simp
theorem fours_snoc (l : List Nat) (n : Nat) : fours (l ++ [n]) = fours l ++ twos [n / 65536, n % 65536] := by unfold fours; rw [List.flatMap_append]; simp
theorem WS.lay_lay (s : WS) (a b : List UInt8) : (s.lay a).lay b = s.lay (a ++ b) := by
  unfold WS.lay
  by_cases h : s.e = 0
  · simp [h]
  · simp [h]
theorem WS.lay_nil (s : WS) : s.lay [] = s := by
  unfold WS.lay
  split
  · simp
  · rfl
theorem WS.lay_len (s : WS) (a : List UInt8) : (s.lay a).l.length ≤ s.l.length + a.length := by
  unfold WS.lay
  split
  · simp
  · omega
theorem Wr.noU {w : World} {F : Nat → Prop} {p : Nat} {s : WS} (h : Wr w F p s) {ty : TypeId} (ht : ty ≠ 143 ∧ ty ≠ 5 ∧ ty ≠ 298) : ∀ q, F q → ∀ cs f, w.heap[q]? ≠ some (.cells cs ty f) := fun q hq cs f e => by
  obtain ⟨cs', t, hh, h3⟩ := h.kinds hq
  rw [hh] at e
  injection e with e
  injection e with _ e2
  rcases h3 with rfl | rfl | rfl
  · exact ht.1 e2.symm
  · exact ht.2.1 e2.symm
  · exact ht.2.2 e2.symm

set_option maxHeartbeats 800000 in
theorem wr_two (p : Nat) (F : Nat → Prop) (s : WS) (v : Value) (l : List Nat) (w : World) (h : Wr w F p s) (hv : Us w 37 .u16 v l) (hx : ∀ x ∈ l, x < 65536) (hl : s.l.length + 2 * l.length ≤ 1099511627776) :
    Calls Tryz.prog 39 #[.pointer (some ⟨p, 0, none⟩), v] w fun r w' => ∃ F', r = .returned (.pointer (some ⟨p, 0, none⟩)) ∧ Wr w' F' p (s.lay (twos l)) ∧ Kept F w w' ∧ Sub w F' F := by
  obtain ⟨A, c, rfl, hc, hm⟩ := hv.form
  have HW := Lib.hid h
  have HU := Lib.hid hv
  have HX := Lib.hid hx
  unfold maxLen at hm
  clear h hv hx
  go_enter Tryz.func39, Tryz.ntmps39
  go_wp2_with fail
  go_loopw [9] (fun i wr => ∃ (k : Nat) (F' : Nat → Prop), i = .int .i64 (k : Int) ∧ k ≤ l.length ∧ Wr wr F' p (s.lay (twos (l.take k))) ∧ Kept F w wr ∧ Sub w F' F) (fun i _ => l.length - (intOf i).toNat)
  case atStart => exact ⟨0, F, rfl, Nat.zero_le _, by rw [List.take_zero]; show Wr w F p (s.lay []); rw [WS.lay_nil]; exact HW.out, Kept.refl _ _, Sub.refl _ _⟩
  case round =>
    obtain ⟨k, F', rfl, hk, hw, hkk, hs⟩ := hrel
    have W1 := Lib.hid hw
    have K1 := Lib.hid hkk
    have S1 := Lib.hid hs
    clear hw hkk hs
    by_cases hlt : k < l.length
    · obtain ⟨b, o, rfl, hcell⟩ := (HU.out.kept K1.out (HW.out.noU (by decide))).cell hlt
      have hxk : l.getD k 0 < 65536 := by
        rw [List.getD_eq_getElem?_getD, List.getElem?_eq_getElem hlt]
        exact HX.out _ (List.getElem_mem _)
      have HT : Hid (twos (l.take (k + 1)) = twos (l.take k) ++ two (l.getD k 0)) := by
        show _ = _
        rw [List.take_succ_eq_append_getElem hlt, twos_snoc, List.getD_eq_getElem?_getD, List.getElem?_eq_getElem hlt]; rfl
      generalize l.getD k 0 = x at *
      have kb := (Kept.refl Nothing wr).alloc (.cells #[.int .u8 ((x : Int) / 256), .int .u8 ((x : Int) % 256)] 5)
      have hB : Bs (wr.alloc (.cells #[.int .u8 ((x : Int) / 256), .int .u8 ((x : Int) % 256)] 5)) (.slice (some ⟨wr.heap.size, 0, none⟩) 2 2) (two x) := by
        refine Bs.made (l := two x) (Blk.fresh wr 5 #[.int .u8 ((x : Int) / 256), .int .u8 ((x : Int) % 256)]) ?_ (by simp [two, maxLen])
        show [_, _] = [_, _]
        rw [by8_of (x := (x : Int) / 256) (m := x / 256) (by omega), by8_of (x := (x : Int) % 256) (m := x) (by omega)]
      have hll := WS.lay_len s (twos (l.take k))
      rw [length_twos, List.length_take] at hll
      have C := Lib.hid (wr_byte p F' _ _ (two x) _ (W1.out.kept kb (fun _ _ y => y)) hB.by (by simp only [two, List.length_cons, List.length_nil]; omega))
      rw [WS.lay_lay, ← HT.out] at C
      have KB := Lib.hid kb
      clear kb hB hll HT
      go_wp2_with fail
      refine C.out.mono ?_
      rintro e w2 ⟨F2, rfl, hw, hk2, hs2⟩
      have W2 := Lib.hid hw
      have K2 := Lib.hid hk2
      have S2 := Lib.hid hs2
      clear hw hk2 hs2
      go_wp2
      go_roundw
      case rel =>
        refine ⟨k + 1, F2, by go_num, by omega, W2.out, ?_, ?_⟩
        · exact K1.out.sub S1.out ((KB.out.mono (fun _ y => y.elim)).trans K2.out)
        · exact S1.out.trans (Sub.less KB.out S2.out) K1.out.size
      case measure => simp [intOf]; omega
    · obtain rfl : k = l.length := by omega
      have W2 := W1.out
      rw [List.take_length] at W2
      have W3 := Lib.hid W2
      clear W2
      go_wp2
      go_ret
      exact ⟨F', rfl, W3.out, K1.out, S1.out⟩

end Go.Proofs.YtdhbfhjlholnlaaGreatDoor
