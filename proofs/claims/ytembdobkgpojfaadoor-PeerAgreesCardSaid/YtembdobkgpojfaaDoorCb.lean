
/-
  Rows of capabilities in memory: the code and the value, a slice of bytes.
-/
import Derived.Test.YtembdobkgpojfaaDoorCa
import Derived.Test.YtembdobkgpojfaaDoorOw
namespace Go.Proofs.YtembdobkgpojfaaDoor
open Go.RowKit

/-- The cells read as capabilities, their values by B. -/
def Cells (B : Value → List UInt8 → Prop) : List Value → List Cp → Prop
  | [], [] => True
  | a :: v :: xs, c :: l => a = by8 c.1 ∧ B v c.2 ∧ Cells B xs l
  | _, _ => False

theorem Cells.mono {B C : Value → List UInt8 → Prop} (h : ∀ v l, B v l → C v l) : ∀ {xs : List Value} {l : List Cp}, Cells B xs l → Cells C xs l
  | [], [], _ => trivial
  | _ :: _ :: _, _ :: _, ⟨h1, h2, h3⟩ => ⟨h1, h _ _ h2, Cells.mono h h3⟩
  | [], _ :: _, h => h.elim
  | [_], _, h => by unfold Cells at h; exact h.elim
  | _ :: _ :: _, [], h => by unfold Cells at h; exact h.elim
theorem Cells.snoc {B : Value → List UInt8 → Prop} {c : Cp} {v : Value} (hv : B v c.2) : ∀ {xs : List Value} {l : List Cp}, Cells B xs l → Cells B (xs ++ [by8 c.1, v]) (l ++ [c])
  | [], [], _ => ⟨rfl, hv, trivial⟩
  | _ :: _ :: _, _ :: _, ⟨h1, h2, h3⟩ => ⟨h1, h2, Cells.snoc hv h3⟩
  | [], _ :: _, h => h.elim
  | [_], _, h => by unfold Cells at h; exact h.elim
  | _ :: _ :: _, [], h => by unfold Cells at h; exact h.elim
theorem Cells.at {B : Value → List UInt8 → Prop} : ∀ {xs : List Value} {l : List Cp} (_ : Cells B xs l) (i : Nat) (h : i < l.length), xs[i * 2]? = some (by8 l[i].1) ∧ ∃ u, xs[i * 2 + 1]? = some u ∧ B u l[i].2
  | [], [], _, i, h => by simp at h
  | a :: v :: xs, c :: l, ⟨h1, h2, h3⟩, 0, _ => ⟨by simp [h1], v, by simp, h2⟩
  | a :: v :: xs, c :: l, ⟨h1, h2, h3⟩, i + 1, h => by
    have := Cells.at h3 i (by simp at h; omega)
    rw [show (i + 1) * 2 = i * 2 + 1 + 1 from by omega]
    simpa using this
  | [], _ :: _, h, _, _ => h.elim
  | [_], _, h, _, _ => by unfold Cells at h; exact h.elim
  | _ :: _ :: _, [], h, _, _ => by unfold Cells at h; exact h.elim

/-- The slice value v reads as the capabilities l. -/
def Cps (w : World) (v : Value) (l : List Cp) : Prop :=
  ∃ A c, v = .slice A l.length c ∧ l.length ≤ c ∧ c ≤ maxLen ∧ (0 < l.length → ∃ b o, A = some ⟨b, o, none⟩ ∧ ∀ i (h : i < l.length), w.cell? ⟨b, o + i * 2, none⟩ = some (by8 l[i].1) ∧ ∃ u, w.cell? ⟨b, o + i * 2 + 1, none⟩ = some u ∧ By w u l[i].2)
theorem Cps.old {w w' : World} {v : Value} {l : List Cp} (h : Cps w v l) (k : Kept Nothing w w') : Cps w' v l := by
  obtain ⟨A, c, hv, hc, hm, hr⟩ := h
  refine ⟨A, c, hv, hc, hm, fun h0 => ?_⟩
  obtain ⟨b, o, hA, hi⟩ := hr h0
  refine ⟨b, o, hA, fun i hl => ⟨k.cell_some (hi i hl).1 (fun x => x), ?_⟩⟩
  obtain ⟨u, h1, h2⟩ := (hi i hl).2
  exact ⟨u, k.cell_some h1 (fun x => x), h2.old k⟩
theorem Cps.form {w : World} {v : Value} {l : List Cp} (h : Cps w v l) : ∃ A c, v = .slice A l.length c ∧ l.length ≤ c ∧ c ≤ maxLen := by
  obtain ⟨A, c, hv, hc, hm, _⟩ := h; exact ⟨A, c, hv, hc, hm⟩
theorem Cps.nil (w : World) : Cps w (.slice none 0 0) [] := ⟨none, 0, rfl, Nat.le_refl _, by simp [maxLen], fun h => absurd h (by simp)⟩
theorem Cps.at {w : World} {A : Option Addr} {n c : Nat} {l : List Cp} (h : Cps w (.slice A n c) l) (h0 : 0 < n) :
    ∃ b o, A = some ⟨b, o, none⟩ ∧ ∀ i (h : i < l.length), w.cell? ⟨b, o + i * 2, none⟩ = some (by8 l[i].1) ∧ ∃ u, w.cell? ⟨b, o + i * 2 + 1, none⟩ = some u ∧ By w u l[i].2 := by
  obtain ⟨A', c', hv, _, _, hr⟩ := h
  injection hv with h1 h2 h3
  subst h1 h2
  exact hr h0
theorem Cps.of_own {w : World} {base : Nat} {e : TypeId} {v : Value} {l : List Cp} {xs : List Value} (h : w.ownsRow base e 2 v l.length xs) (hx : Cells (By w) xs l) : Cps w v l := by
  obtain ⟨A, c, hv0, hn, hm⟩ := ow_form h
  obtain ⟨_, h2⟩ := h
  refine ⟨A, c, hv0, hn, hm, fun h0 => ?_⟩
  rcases h2 with ⟨rfl, h0'⟩ | ⟨g, cap, cur, hv, _, hg, _, _, _, ht⟩
  · omega
  · rw [hv] at hv0
    injection hv0 with hA
    refine ⟨g, 0, hA.symm, fun i hi => ?_⟩
    obtain ⟨h1, u, h2, h3⟩ := hx.at i hi
    have cell : ∀ j, j < l.length * 2 → w.cell? ⟨g, 0 + j, none⟩ = xs[j]? := fun j hj => by
      rw [cell_of_row w g _ cur e (0, 0) hg, ← ht, List.getElem?_take_of_lt hj, Array.getElem?_toList, Nat.zero_add]
    have e1 := cell (i * 2) (by omega)
    have e2 := cell (i * 2 + 1) (by omega)
    exact ⟨by rw [e1, h1], u, by rw [Nat.add_assoc, e2, h2], h3⟩
/-- The first ones. -/
theorem Cps.pre {w : World} {A : Option Addr} {n c : Nat} {l : List Cp} (h : Cps w (.slice A n c) l) {m : Nat} (hm : m ≤ n) : Cps w (.slice A m c) (l.take m) := by
  obtain ⟨A', c', hv, hc, hx, hr⟩ := h
  injection hv with h1 h2 h3
  subst h1 h2 h3
  have hl : (l.take m).length = m := by rw [List.length_take]; omega
  refine ⟨A, c, by rw [hl], by omega, hx, fun h0 => ?_⟩
  obtain ⟨b, o, hA, hi⟩ := hr (by omega)
  refine ⟨b, o, hA, fun i hil => ?_⟩
  have := hi i (by omega)
  rwa [show (l.take m)[i] = l[i]'(by omega) from List.getElem_take]
theorem byNat (n : Nat) (h : n < 256) : by8 (UInt8.ofNat n) = .int .u8 (n : Nat) := by
  unfold by8; rw [UInt8.toNat_ofNat', Nat.mod_eq_of_lt (by omega)]

/-- What is left to a reader, off its memory. -/
def rdm (w : World) (p : Nat) : Nat :=
  2 * ((match w.cell? ⟨p, 1, none⟩ with | some (.slice _ n _) => n | _ => 0) - (intOf ((w.cell? ⟨p, 2, none⟩).getD undef)).toNat) + (if intOf ((w.cell? ⟨p, 4, none⟩).getD undef) = 0 then 1 else 0)
end Go.Proofs.YtembdobkgpojfaaDoor
