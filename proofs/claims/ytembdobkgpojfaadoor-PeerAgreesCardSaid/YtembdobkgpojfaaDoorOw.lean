
/-
  Rows of the call's own, kept over steps that change other blocks.
-/
import Derived.Test.YtembdobkgpojfaaDoorAp
import Derived.Laws.OwnMore
import Derived.Laws.CopyRow
namespace Go.Proofs.YtembdobkgpojfaaDoor
open Go.RowKit

theorem ow_lt {w : World} {base : Nat} {e : TypeId} {size n : Nat} {v : Value} {xs : List Value} (h : w.ownsRow base e size v n xs) {g : Nat} (hg : v.ownBlock = some g) : ∃ cs, w.heap[g]? = some (.cells cs e (0, 0)) := by
  rcases h.2 with ⟨rfl, _⟩ | ⟨g', cap, cur, rfl, _, hh, _⟩
  · simp [Value.ownBlock] at hg
  · have : g' = g := by simpa [Value.ownBlock] using hg
    subst this
    exact ⟨cur, hh⟩
theorem ow_kept {S : Nat → Prop} {w w' : World} {base : Nat} {e : TypeId} {size n : Nat} {v : Value} {xs : List Value} (h : w.ownsRow base e size v n xs) (k : Kept S w w') (hs : ∀ g, v.ownBlock = some g → ¬ S g) : w'.ownsRow base e size v n xs := by
  obtain ⟨h1, h2⟩ := h
  refine ⟨h1, ?_⟩
  rcases h2 with h2 | ⟨g, cap, cur, rfl, hb, hh, r⟩
  · exact .inl h2
  · exact .inr ⟨g, cap, cur, rfl, hb, (k.block g (Array.getElem?_eq_some_iff.1 hh).1 (hs g rfl)).trans hh, r⟩
theorem ow_form {w : World} {base : Nat} {e : TypeId} {size n : Nat} {v : Value} {xs : List Value} (h : w.ownsRow base e size v n xs) : ∃ A c, v = .slice A n c ∧ n ≤ c ∧ c ≤ maxLen := by
  rcases h.2 with ⟨rfl, rfl⟩ | ⟨g, cap, cur, rfl, _, _, hn, hm, _⟩
  · exact ⟨none, 0, rfl, Nat.le_refl _, by simp [maxLen]⟩
  · exact ⟨_, cap, rfl, hn, hm⟩
theorem ow_far {w : World} {base : Nat} {e t : TypeId} {size n g : Nat} {v : Value} {xs : List Value} {cs : Array Value} (h : w.ownsRow base e size v n xs) (hb : Blk w g t cs) (hne : e ≠ t) : ∀ k, v.ownBlock = some k → ¬ Only g k := fun k hk e' => by
  obtain ⟨cs', hh⟩ := ow_lt h hk
  have : k = g := e'
  subst this
  exact hb.apart (t' := e) hh (fun x => hne x.symm) rfl
/-- A new block of the cells that are appended. -/
theorem src_new (w : World) (t : TypeId) (cs : Array Value) (size m : Nat) (hm : cs.size = m * size) (h1 : ∀ u ∈ cs.toList, u.oneCell' = true) : Src (w.alloc (.cells cs t)) size (some ⟨w.heap.size, 0, none⟩) m cs.toList :=
  ⟨by simpa using hm, (fun h => by cases h), fun a ha j u hu => by
    injection ha with ha
    subst ha
    rw [add_none, Nat.zero_add, (Blk.fresh w t cs).cell, ← hu, Array.getElem?_toList], h1⟩
theorem Kept.setRow {w : World} (g : Nat) (cs : Array Value) : Kept (Only g) w (w.setRow g cs) :=
  ⟨rfl, rfl, rfl, by simp, fun k _ hk => setRow_other w g k cs hk⟩

def pad (l : List UInt8) : Array Value := #[by8 (l.getD 0 0), by8 (l.getD 1 0), by8 (l.getD 2 0), by8 (l.getD 3 0)]
theorem pad_eq (l : List UInt8) (hn : l.length ≤ 4) : ((#[.int .u8 0, .int .u8 0, .int .u8 0, .int .u8 0] : Array Value).toList.take 0 ++ bys l ++ (#[.int .u8 0, .int .u8 0, .int .u8 0, .int .u8 0] : Array Value).toList.drop (0 + l.length)).toArray = pad l := by
  rcases l with _ | ⟨a, _ | ⟨b, _ | ⟨c, _ | ⟨d, _ | ⟨e, l⟩⟩⟩⟩⟩
  · rfl
  · rfl
  · rfl
  · rfl
  · rfl
  · simp at hn
/-- Up to four bytes copied into an array of four noughts. -/
theorem copy_pad (g t : Nat) (A : Option Addr) (n c : Nat) (l : List UInt8) (ty : TypeId) (w : World) (hB : Blk w g t #[.int .u8 0, .int .u8 0, .int .u8 0, .int .u8 0]) (hy : By w (.slice A n c) l) (hn : n ≤ 4) :
    ∃ w', (Builtin.copy_ #[29, 29] ty #[.slice (some ⟨g, 0, none⟩) 4 4, .slice A n c]).run Tryd.prog w = .ok (goInt n) w' ∧ Blk w' g t (pad l) ∧ Kept (Only g) w w' := by
  obtain ⟨A', c', hv, hc, hm, s1, s2, s3, s4⟩ := hy
  injection hv with h1 h2 h3
  subst h1 h2 h3
  cases A with
  | none =>
    have h0 := s2 rfl
    have hl : l = [] := List.eq_nil_of_length_eq_zero h0
    subst hl
    refine ⟨w, ?_, hB, Kept.refl _ w⟩
    exact run_copy_none w _ _ ty 5 _ _ _ _ _ _ Tryd.underlying29 (by kernel_rfl) (by simp)
  | some a =>
    have hr := run_copy_row (P := Tryd.prog) w 29 29 ty 5 g 0 4 4 a l.length c _ t (bys l) Tryd.underlying29 (by kernel_rfl) hB (by rw [length_bys]; simp [hn]) (s3 a rfl) (by rw [length_bys]; simpa using hn) s4
    rw [length_bys] at hr
    refine ⟨_, hr, ?_, Kept.setRow g _⟩
    have hp := pad_eq l hn
    rw [hp]
    exact setRow_heap w g _ _ t _ hB
end Go.Proofs.YtembdobkgpojfaaDoor
