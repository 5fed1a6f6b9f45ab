
/-
  Nodes as plain data: what a writer lays of them, and its bytes.
-/
import Derived.Test.YtmaebgpppedllaaVf
namespace Go.Proofs.Ytmaebgpppedllaa
open Go.RowKit

inductive Nd where
  | mk (wide n : Nat) (parts : List Nd)
namespace Nd
def wide : Nd → Nat | mk w _ _ => w
def n : Nd → Nat | mk _ n _ => n
def parts : Nd → List Nd | mk _ _ l => l
/-- How many bytes tell a block's length. -/
def span (x : Nd) : Nat := 1 + x.wide % 2
/-- How many bytes a number takes. -/
def width (x : Nd) : Nat := if x.wide % 3 = 0 then 1 else if x.wide % 3 = 1 then 2 else 4
def value (x : Nd) : Nat := x.n % 256 ^ x.width
/-- The bytes of a number. -/
def bytes (x : Nd) : List UInt8 := be x.value x.width
/-- What one node lays, so deep. -/
def lay : Nat → WS → Nd → WS
  | 0, s, x => s.lay x.bytes
  | d + 1, s, x => if x.parts = [] then s.lay x.bytes else ((x.parts.take 6).foldl (lay d) (s.hold (x.span : Int))).fill
/-- The bytes of nodes one behind another. -/
def row (f : Nd → Option (List UInt8)) : List Nd → Option (List UInt8)
  | [] => some []
  | x :: l => match f x, row f l with
    | some a, some b => some (a ++ b)
    | _, _ => none
/-- The bytes of one node, so deep; none: a block is too long. -/
def told : Nat → Nd → Option (List UInt8)
  | 0, x => some x.bytes
  | d + 1, x => if x.parts = [] then some x.bytes else
    match row (told d) (x.parts.take 6) with
    | some b => if b.length < 256 ^ x.span then some (be b.length x.span ++ b) else none
    | none => none
theorem span_or (x : Nd) : x.span = 1 ∨ x.span = 2 := by unfold span; omega
end Nd

theorem WS.lay_bad {s : WS} (h : s.e ≠ 0) (b : List UInt8) : s.lay b = s := if_neg h
theorem WS.fill_bad {s : WS} (h : s.e ≠ 0) : s.fill = s := if_neg h
theorem WS.hold_bad {s : WS} (h : s.e ≠ 0) {n : Nat} (hn : n = 1 ∨ n = 2) : s.hold (n : Int) = s := by
  unfold WS.hold
  rw [if_pos (by omega), if_neg h]
theorem WS.hold_good {s : WS} (h : s.e = 0) {n : Nat} (hn : n = 1 ∨ n = 2) : s.hold (n : Int) = { s with l := s.l ++ List.replicate n 0, hs := s.hs ++ [(n, s.l.length + n)] } := by
  unfold WS.hold
  rw [if_pos (by omega), if_pos h, Int.toNat_natCast]
theorem tell_hold (l b : List UInt8) {n : Nat} (hn : n = 1 ∨ n = 2) (m : Nat) : WS.tell (l ++ List.replicate n 0 ++ b) (l.length + n) m n = l ++ be m n ++ b := by
  rcases hn with rfl | rfl
  · rw [be_one]
    simp [WS.tell]
  · rw [be_two]
    simp [WS.tell, two]
theorem WS.fill_hold {s : WS} (h : s.e = 0) {n : Nat} (hn : n = 1 ∨ n = 2) (b : List UInt8) :
    ((s.hold (n : Int)).lay b).fill = if b.length < 256 ^ n then s.lay (be b.length n ++ b) else { s with l := s.l ++ List.replicate n 0 ++ b, hs := s.hs ++ [(n, s.l.length + n)], e := 3 } := by
  rw [WS.hold_good h hn]
  unfold WS.lay WS.fill WS.note
  simp only [h, if_true, List.getLast?_append, List.getLast?_singleton, List.length_append, List.length_replicate, List.dropLast_concat, Option.some_or]
  rw [show s.l.length + n + b.length - (s.l.length + n) = b.length from by omega]
  by_cases hb : b.length < 256 ^ n
  · rw [if_pos hb, if_neg (by omega), tell_hold _ _ hn, List.append_assoc]
  · rw [if_neg hb, if_pos (by omega)]

theorem fold_bad {f : WS → Nd → WS} (hf : ∀ s x, s.e ≠ 0 → f s x = s) : ∀ (l : List Nd) (s : WS), s.e ≠ 0 → l.foldl f s = s
  | [], _, _ => rfl
  | x :: l, s, h => by rw [List.foldl_cons, hf s x h]; exact fold_bad hf l s h
/-- Behind an error nothing is laid. -/
theorem Nd.lay_bad : ∀ (d : Nat) (s : WS) (x : Nd), s.e ≠ 0 → Nd.lay d s x = s
  | 0, s, x, h => WS.lay_bad h _
  | d + 1, s, x, h => by
    unfold Nd.lay
    split
    · exact WS.lay_bad h _
    · rw [WS.hold_bad h x.span_or, fold_bad (Nd.lay_bad d) _ s h, WS.fill_bad h]
/-- What is laid are the bytes, or the error is 3. -/
def Lays (s t : WS) : Option (List UInt8) → Prop
  | some b => t = s.lay b
  | none => t.e = 3
theorem fold_lays {f : WS → Nd → WS} {g : Nd → Option (List UInt8)} (hb : ∀ s x, s.e ≠ 0 → f s x = s) (hf : ∀ s x, s.e = 0 → Lays s (f s x) (g x)) : ∀ (l : List Nd) (s : WS), s.e = 0 → Lays s (l.foldl f s) (Nd.row g l)
  | [], s, _ => (WS.lay_nil s).symm
  | x :: l, s, h => by
    have h1 := hf s x h
    rw [List.foldl_cons]
    unfold Nd.row
    cases hg : g x with
    | none =>
      rw [hg] at h1
      have h3 : (f s x).e = 3 := h1
      rw [fold_bad hb l _ (by rw [h3]; decide)]
      exact h3
    | some a =>
      rw [hg] at h1
      have h3 : f s x = s.lay a := h1
      have he : (s.lay a).e = 0 := by unfold WS.lay; rw [if_pos h]; exact h
      have h4 := fold_lays hb hf l (s.lay a) he
      rw [h3]
      cases hr : Nd.row g l with
      | none => rw [hr] at h4; exact h4
      | some b =>
        rw [hr] at h4
        have h5 : l.foldl f (s.lay a) = (s.lay a).lay b := h4
        rw [h5, WS.lay_lay]
        exact rfl
theorem Nd.lays : ∀ (d : Nat) (s : WS) (x : Nd), s.e = 0 → Lays s (Nd.lay d s x) (Nd.told d x)
  | 0, _, _, _ => rfl
  | d + 1, s, x, h => by
    unfold Nd.lay Nd.told
    by_cases hp : x.parts = []
    · rw [if_pos hp, if_pos hp]
      exact rfl
    · rw [if_neg hp, if_neg hp]
      have he : (s.hold (x.span : Int)).e = 0 := by rw [WS.hold_good h x.span_or]; exact h
      have h1 := fold_lays (Nd.lay_bad d) (Nd.lays d) (x.parts.take 6) _ he
      cases hr : Nd.row (Nd.told d) (x.parts.take 6) with
      | none =>
        rw [hr] at h1
        have h3 : (List.foldl (Nd.lay d) (s.hold (x.span : Int)) (x.parts.take 6)).e = 3 := h1
        show WS.e _ = 3
        rw [WS.fill_bad (by rw [h3]; decide)]
        exact h3
      | some b =>
        rw [hr] at h1
        have h3 : List.foldl (Nd.lay d) (s.hold (x.span : Int)) (x.parts.take 6) = (s.hold (x.span : Int)).lay b := h1
        rw [h3, WS.fill_hold h x.span_or]
        by_cases hb : b.length < 256 ^ x.span
        · simp only [if_pos hb]
          exact rfl
        · simp only [if_neg hb]
          exact rfl
end Go.Proofs.Ytmaebgpppedllaa
