
/-
  The writer of chapter 1 as plain data: bytes, holds (how wide, the place behind), the error; and what it is in memory.
-/
import Derived.Test.YtembdobkgpojfaaDoorAp
namespace Go.Proofs.YtembdobkgpojfaaDoor
open Go.RowKit

structure WS where
  l : List UInt8
  hs : List (Nat × Nat)
  e : Int

namespace WS
def note (s : WS) (x : Int) : WS := if s.e = 0 then { s with e := x } else s
def lay (s : WS) (b : List UInt8) : WS := if s.e = 0 then { s with l := s.l ++ b } else s
def hold (s : WS) (n : Int) : WS :=
  if n = 1 ∨ n = 2 then (if s.e = 0 then { s with l := s.l ++ List.replicate n.toNat 0, hs := s.hs ++ [(n.toNat, s.l.length + n.toNat)] } else s) else s.note 1
/-- The last w bytes ahead of place b tell n. -/
def tell (l : List UInt8) (b n : Nat) : Nat → List UInt8
  | 0 => l
  | i + 1 => (tell l b n i).set (b - 1 - i) (UInt8.ofNat (n / 256 ^ i))
def fill (s : WS) : WS :=
  if s.e = 0 then
    match s.hs.getLast? with
    | none => s.note 26
    | some h => if 256 ^ h.1 ≤ s.l.length - h.2 then s.note 3 else { s with l := tell s.l h.2 (s.l.length - h.2) h.1, hs := s.hs.dropLast }
  else s
def done (s : WS) : List UInt8 × Int := if s.e = 0 then (if s.hs = [] then (s.l, 0) else ([], 26)) else ([], s.e)
def ok (s : WS) : Prop := (∀ h ∈ s.hs, (h.1 = 1 ∨ h.1 = 2) ∧ h.1 ≤ h.2 ∧ h.2 ≤ s.l.length) ∧ s.l.length ≤ 1099511627776 ∧ s.hs.length ≤ 1099511627776
theorem note_ok {s : WS} (h : s.ok) (x : Int) : (s.note x).ok := by unfold note; split <;> exact h
theorem lay_ok {s : WS} (h : s.ok) {b : List UInt8} (hb : s.l.length + b.length ≤ 1099511627776) : (s.lay b).ok := by
  unfold lay
  split
  · refine ⟨fun x hx => ?_, by simpa using hb, h.2.2⟩
    have := h.1 x hx
    refine ⟨this.1, this.2.1, ?_⟩
    simp only [List.length_append]
    omega
  · exact h
theorem length_tell (l : List UInt8) (b n i : Nat) : (tell l b n i).length = l.length := by
  induction i with
  | zero => rfl
  | succ i ih => simp [tell, ih]
theorem hold_ok {s : WS} (h : s.ok) {n : Int} (hb : s.l.length + 2 ≤ 1099511627776) (hd : s.hs.length < 1099511627776) : (s.hold n).ok := by
  unfold hold
  split
  · next hn =>
    split
    · have hn' : n.toNat = 1 ∨ n.toNat = 2 := by omega
      refine ⟨fun x hx => ?_, by simp; omega, by simp; omega⟩
      rcases List.mem_append.1 hx with hx | hx
      · have := h.1 x hx
        refine ⟨this.1, this.2.1, ?_⟩
        simp only [List.length_append, List.length_replicate]
        omega
      · obtain rfl := List.mem_singleton.1 hx
        refine ⟨hn', by simp, ?_⟩
        simp
    · exact h
  · exact note_ok h _
theorem fill_ok {s : WS} (h : s.ok) : s.fill.ok := by
  unfold fill
  split
  · split
    · exact note_ok h _
    · split
      · exact note_ok h _
      · refine ⟨fun x hx => ?_, by simpa [length_tell] using h.2.1, by simp; have := h.2.2; omega⟩
        simp only [length_tell]
        exact h.1 x (List.dropLast_subset _ hx)
  · exact h
end WS

/-- The cells of holds. -/
def hcs (l : List (Nat × Nat)) : List Value := l.flatMap fun h => [.int .i64 (h.1 : Int), .int .i64 (h.2 : Int)]
theorem length_hcs (l : List (Nat × Nat)) : (hcs l).length = l.length * 2 := by
  induction l with
  | nil => rfl
  | cons a r ih => simp only [hcs, List.flatMap_cons, List.length_append, List.length_cons, List.length_nil] at ih ⊢; omega

/-- The blocks that a writer is made of. -/
def wown (p : Nat) (bv hv : Value) : Nat → Prop := fun k => k = p ∨ bv.ownBlock = some k ∨ hv.ownBlock = some k

/-- Blocks of F' are of F, or new. -/
def Sub (w : World) (F' F : Nat → Prop) : Prop := ∀ k, F' k → F k ∨ w.heap.size ≤ k
theorem Sub.refl (w : World) (F : Nat → Prop) : Sub w F F := fun _ h => .inl h
theorem Sub.trans {w w1 : World} {F F1 F2 : Nat → Prop} (h : Sub w F1 F) (k : Sub w1 F2 F1) (hz : w.heap.size ≤ w1.heap.size) : Sub w F2 F := fun i hi => by
  rcases k i hi with h1 | h1
  · exact h i h1
  · exact .inr (by omega)
theorem Kept.sub {w w1 w2 : World} {F F1 : Nat → Prop} (h : Kept F w w1) (hs : Sub w F1 F) (k : Kept F1 w1 w2) : Kept F w w2 :=
  h.trans_new k (fun i hi x => by rcases hs i x with y | y; exact y; omega)

theorem own_lt {w : World} {base : Nat} {e : TypeId} {size n : Nat} {v : Value} {xs : List Value} (h : w.ownsRow base e size v n xs) {g : Nat} (hg : v.ownBlock = some g) : ∃ cs, w.heap[g]? = some (.cells cs e (0, 0)) := by
  rcases h.2 with ⟨rfl, _⟩ | ⟨g', cap, cur, rfl, _, hh, _⟩
  · simp [Value.ownBlock] at hg
  · have : g' = g := by simpa [Value.ownBlock] using hg
    subst this
    exact ⟨cur, hh⟩
theorem own_kept {S : Nat → Prop} {w w' : World} {base : Nat} {e : TypeId} {size n : Nat} {v : Value} {xs : List Value} (h : w.ownsRow base e size v n xs) (k : Kept S w w') (hs : ∀ g, v.ownBlock = some g → ¬ S g) : w'.ownsRow base e size v n xs := by
  obtain ⟨h1, h2⟩ := h
  refine ⟨h1, ?_⟩
  rcases h2 with h2 | ⟨g, cap, cur, rfl, hb, hh, r⟩
  · exact .inl h2
  · exact .inr ⟨g, cap, cur, rfl, hb, (k.block g (Array.getElem?_eq_some_iff.1 hh).1 (hs g rfl)).trans hh, r⟩
theorem cells4 {w : World} {p : Nat} {t : TypeId} {a b c d : Value} (h : Blk w p t #[a, b, c, d]) :
    (w.cell? ⟨p, 0, none⟩ = some a ∧ w.cell? ⟨p, 1, none⟩ = some b ∧ w.cell? ⟨p, 2, none⟩ = some c ∧ w.cell? ⟨p, 3, none⟩ = some d) ∧
    (w.frozen? ⟨p, 1, none⟩ = false ∧ w.frozen? ⟨p, 2, none⟩ = false ∧ w.frozen? ⟨p, 3, none⟩ = false) :=
  ⟨⟨h.cell 0, h.cell 1, h.cell 2, h.cell 3⟩, h.free 1, h.free 2, h.free 3⟩
theorem own_form {w : World} {base : Nat} {e : TypeId} {size n : Nat} {v : Value} {xs : List Value} (h : w.ownsRow base e size v n xs) : ∃ A c, v = .slice A n c ∧ n ≤ c ∧ c ≤ maxLen := by
  rcases h.2 with ⟨rfl, rfl⟩ | ⟨g, cap, cur, rfl, _, _, hn, hm, _⟩
  · exact ⟨none, 0, rfl, Nat.le_refl _, by simp [maxLen]⟩
  · exact ⟨_, cap, rfl, hn, hm⟩
end Go.Proofs.YtembdobkgpojfaaDoor
