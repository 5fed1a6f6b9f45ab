
/-
  What the document's Bytes of chapter 5 does.
-/
import Derived.Test.YtohgkibpcgfihaaDoorDc
import Derived.Test.YtohgkibpcgfihaaDoorDd
namespace Go.Proofs.YtohgkibpcgfihaaDoor
open Go.RowKit

/-- Two rows of bytes that the call makes, side by side. -/
structure Two (w wr : World) (ov cv : Value) (o c : List UInt8) : Prop where
  out : wr.ownsRow w.heap.size 5 1 ov o.length (bys o)
  one : wr.ownsRow w.heap.size 5 1 cv c.length (bys c)
  apart : ∀ g, ov.ownBlock = some g → cv.ownBlock ≠ some g
  kept : Kept Nothing w wr
theorem Two.alloc {w wr : World} {ov cv : Value} {o c : List UInt8} (h : Two w wr ov cv o c) (b : Obj) : Two w (wr.alloc b) ov cv o c :=
  ⟨ow_kept h.out ((Kept.refl Nothing wr).alloc b) (fun _ _ x => x), ow_kept h.one ((Kept.refl Nothing wr).alloc b) (fun _ _ x => x), h.apart, h.kept.alloc b⟩
theorem Two.out_app {w wr w' : World} {ov cv v' : Value} {o c d : List UInt8} (h : Two w wr ov cv o c) (ho : w'.ownsRow w.heap.size 5 1 v' (o.length + d.length) (bys o ++ bys d)) (hg : wr.grownBy w' ov.ownBlock)
    (hat : v'.ownBlock = ov.ownBlock ∨ v'.ownBlock = some wr.heap.size) : Two w w' v' cv (o ++ d) c := by
  refine ⟨by rw [List.length_append, bys_append]; exact ho, ow_kept h.one (grown_kept hg) (fun g hg' e => h.apart g e hg'), fun g hg' e => ?_, h.kept.grown hg (fun k hk hlt => by have := (h.out.lt k hk).1; omega)⟩
  rcases hat with e' | e'
  · rw [e'] at hg'; exact h.apart g hg' e
  · rw [e'] at hg'
    injection hg' with hg'
    obtain ⟨cs, hh⟩ := ow_lt h.one e
    have := (Array.getElem?_eq_some_iff.1 hh).1
    omega
theorem Two.one_app {w wr w' : World} {ov cv v' : Value} {o c d : List UInt8} (h : Two w wr ov cv o c) (ho : w'.ownsRow w.heap.size 5 1 v' (c.length + d.length) (bys c ++ bys d)) (hg : wr.grownBy w' cv.ownBlock)
    (hat : v'.ownBlock = cv.ownBlock ∨ v'.ownBlock = some wr.heap.size) : Two w w' ov v' o (c ++ d) := by
  refine ⟨ow_kept h.out (grown_kept hg) (fun g hg' e => h.apart g hg' e), by rw [List.length_append, bys_append]; exact ho, fun g hg' e => ?_, h.kept.grown hg (fun k hk hlt => by have := (h.one.lt k hk).1; omega)⟩
  rcases hat with e' | e'
  · rw [e'] at e; exact h.apart g hg' e
  · rw [e'] at e
    injection e with e
    obtain ⟨cs, hh⟩ := ow_lt h.out hg'
    have := (Array.getElem?_eq_some_iff.1 hh).1
    omega
theorem Two.one_nil {w wr : World} {ov cv : Value} {o c : List UInt8} (h : Two w wr ov cv o c) : Two w wr ov (.slice none 0 0) o [] :=
  ⟨h.out, World.ownsRow_nil _ _ _ _, fun g _ e => by simp [Value.ownBlock] at e, h.kept⟩
theorem Two.src {w wr : World} {ov : Value} {A : Option Addr} {n k : Nat} {o c : List UInt8} (h : Two w wr ov (.slice A n k) o c) (hn : n = c.length) : Src wr 1 A c.length (bys c) := by
  subst hn
  exact own_src h.one (fun u hu => by
    unfold bys at hu
    obtain ⟨b, _, rfl⟩ := List.mem_map.1 hu
    rfl)

namespace Cp
/-- Between two capabilities: what is closed, what is open. -/
def Inv (l : List Cp) (k : Nat) (o c : List UInt8) : Prop :=
  (o = [] ∧ c = forms (l.take k)) ∨ (255 < o.length + c.length ∧ c ≠ [] ∧ 253 < (forms (l.take k)).length)
theorem forms_take {l : List Cp} {k : Nat} (h : k < l.length) : forms (l.take (k + 1)) = forms (l.take k) ++ form l[k] := by
  rw [List.take_succ_eq_append_getElem h]
  exact forms_snoc _ _
theorem Inv.over {l : List Cp} {k : Nat} {o c : List UInt8} (h : Inv l k o c) (hk : k < l.length) (hov : 255 < c.length + 2 + (l[k]).2.length) : Inv l (k + 1) (o ++ [2, UInt8.ofNat c.length] ++ c) (form l[k]) := by
  refine .inr ⟨?_, by simp [form], ?_⟩
  · simp only [List.length_append, List.length_cons, List.length_nil, form_len]; omega
  · rw [forms_take hk, List.length_append, form_len]
    rcases h with ⟨_, h⟩ | ⟨_, _, h⟩
    · rw [← h]; omega
    · omega
theorem Inv.fits {l : List Cp} {k : Nat} {o c : List UInt8} (h : Inv l k o c) (hk : k < l.length) : Inv l (k + 1) o (c ++ form l[k]) := by
  rcases h with ⟨h1, h2⟩ | ⟨h1, h2, h3⟩
  · exact .inl ⟨h1, by rw [forms_take hk, h2]⟩
  · refine .inr ⟨by rw [List.length_append]; omega, by simp [h2], by rw [forms_take hk, List.length_append]; omega⟩
theorem Inv.none {l : List Cp} {o : List UInt8} (h : Inv l l.length o []) (hl : l.any longC = false) : o = [] ∧ bytes l = ([], 0) := by
  rcases h with ⟨h1, h2⟩ | ⟨_, h2, _⟩
  · refine ⟨h1, ?_⟩
    rw [List.take_length] at h2
    cases l with
    | nil => rfl
    | cons c l => rw [forms_cons] at h2; simp [form] at h2
  · exact absurd rfl h2
theorem Inv.some {l : List Cp} {o c : List UInt8} (h : Inv l l.length o c) (hc : c ≠ []) (hl : l.any longC = false) :
    (255 < (o ++ [2, UInt8.ofNat c.length] ++ c).length ∧ bytes l = ([], 3)) ∨ ((o ++ [2, UInt8.ofNat c.length] ++ c).length ≤ 255 ∧ bytes l = (o ++ [2, UInt8.ofNat c.length] ++ c, 0)) := by
  have h0 : ¬ l.any (fun c => decide (253 < c.2.length)) = true := by show ¬ l.any longC = true; rw [hl]; simp
  have hlen : (o ++ [2, UInt8.ofNat c.length] ++ c).length = o.length + 2 + c.length := by simp; omega
  have hln : l ≠ [] := fun e => by
    subst e
    rcases h with ⟨_, h2⟩ | ⟨_, _, h3⟩
    · exact hc h2
    · simp [forms] at h3
  have hb : bytes l = if 255 < (forms l).length + 2 then ([], 3) else (2 :: UInt8.ofNat (forms l).length :: forms l, 0) := by
    unfold bytes
    rw [if_neg h0, if_neg hln]
  rw [hlen, hb]
  rcases h with ⟨h1, h2⟩ | ⟨h1, h2, h3⟩
  · rw [List.take_length] at h2
    subst h1 h2
    by_cases hx : 255 < (forms l).length + 2
    · rw [if_pos hx]; exact .inl ⟨by simp; omega, rfl⟩
    · rw [if_neg hx]; exact .inr ⟨by simp; omega, rfl⟩
  · rw [List.take_length] at h3
    rw [if_pos (by omega)]
    exact .inl ⟨by omega, rfl⟩
end Cp
theorem bys_two (x : Nat) (h : x < 256) (a : UInt8) : bys [a, UInt8.ofNat x] = [.int .u8 (a.toNat : Int), .int .u8 (x : Nat)] := by
  unfold bys
  simp only [List.map_cons, List.map_nil, byNat x h]
  rfl
end Go.Proofs.YtohgkibpcgfihaaDoor
