
/-
  Paths: segments of numbers, as plain data and in memory.
-/
import Derived.Test.YtembdobkgpojfaaDoorOw
namespace Go.Proofs.YtembdobkgpojfaaDoor
open Go.RowKit

/-- A segment: its kind, its numbers. -/
abbrev Seg := UInt8 × List Nat

namespace Pt
def may1 (s : Seg) : Bool := decide (1 ≤ s.1.toNat) && decide (s.1.toNat ≤ 4) && decide (0 < s.2.length) && decide (s.2.length ≤ 255)
def may (p : List Seg) : Bool := p.all may1 && decide (p.length ≤ 32)
def cnt (p : List Seg) : Nat := (p.map (fun s => s.2.length)).sum
/-- Each number, and its segment's kind. -/
def all (p : List Seg) : List (UInt8 × Nat) := p.flatMap fun s => s.2.map fun n => (s.1, n)
theorem all_append (a b : List Seg) : all (a ++ b) = all a ++ all b := List.flatMap_append
theorem length_all (p : List Seg) : (all p).length = cnt p := by
  unfold all cnt
  induction p with
  | nil => rfl
  | cons s p ih => rw [List.flatMap_cons, List.length_append, ih, List.length_map]; simp
theorem cnt_append (a b : List Seg) : cnt (a ++ b) = cnt a + cnt b := by unfold cnt; rw [List.map_append, List.sum_append]
/-- Its numbers are numbers of ASes. -/
def fits (p : List Seg) : Prop := ∀ s ∈ p, ∀ n ∈ s.2, n < 4294967296
end Pt

/-- Numbers as the model has them. -/
def ass (l : List Nat) : List Value := l.map fun (n : Nat) => .int .u32 (n : Int)
theorem length_ass (l : List Nat) : (ass l).length = l.length := List.length_map _
theorem ass_append (a b : List Nat) : ass (a ++ b) = ass a ++ ass b := List.map_append
theorem getD_ass (l : List Nat) (i : Nat) (h : i < l.length) : (ass l)[i]? = some (.int .u32 ((l.getD i 0 : Nat) : Int)) := by
  unfold ass
  rw [List.getElem?_map, List.getElem?_eq_getElem h, List.getD_eq_getElem?_getD, List.getElem?_eq_getElem h]
  rfl
/-- The slice value v reads as the numbers l. -/
def As (w : World) (v : Value) (l : List Nat) : Prop := (∀ n ∈ l, n < 4294967296) ∧ ∃ A c, v = .slice A l.length c ∧ l.length ≤ c ∧ c ≤ maxLen ∧ Src w 1 A l.length (ass l)
theorem As.form {w : World} {v : Value} {l : List Nat} (h : As w v l) : ∃ A c, v = .slice A l.length c ∧ l.length ≤ c ∧ c ≤ maxLen := by
  obtain ⟨_, A, c, hv, hc, hm, _⟩ := h; exact ⟨A, c, hv, hc, hm⟩
theorem As.src {w : World} {A : Option Addr} {n c : Nat} {l : List Nat} (h : As w (.slice A n c) l) : Src w 1 A l.length (ass l) := by
  obtain ⟨_, A', c', hv, _, _, hs⟩ := h
  injection hv with h1 h2 h3
  subst h1
  exact hs
theorem As.old {w w' : World} {v : Value} {l : List Nat} (h : As w v l) (k : Kept Nothing w w') : As w' v l := by
  obtain ⟨h0, A, c, hv, hc, hm, hr⟩ := h
  exact ⟨h0, A, c, hv, hc, hm, hr.kept k⟩
theorem As.kept {S : Nat → Prop} {w w' : World} {v : Value} {l : List Nat} (h : As w v l) (k : Kept S w w') (hs : ∀ a n c, v = .slice (some a) n c → 0 < n → ¬ S a.block) : As w' v l := by
  obtain ⟨h0, A, c, hv, hc, hm, hr⟩ := h
  exact ⟨h0, A, c, hv, hc, hm, hr.kept_if k (fun a ha h0 => hs a l.length c (by rw [hv, ha]) h0)⟩
theorem As.at {w : World} {A : Option Addr} {n c : Nat} {l : List Nat} (h : As w (.slice A n c) l) (h0 : 0 < n) : ∃ b o, A = some ⟨b, o, none⟩ ∧ ∀ i, i < n → w.cell? ⟨b, o + i, none⟩ = some (.int .u32 ((l.getD i 0 : Nat) : Int)) := by
  obtain ⟨_, A', c', hv, _, _, hs⟩ := h
  injection hv with h1 h2 h3
  subst h1 h2 h3
  cases A with
  | none => have := hs.2.1 rfl; omega
  | some a =>
    have h1 : ∀ i, i < l.length → w.cell? (a.add i) = some (.int .u32 ((l.getD i 0 : Nat) : Int)) := fun i hi => hs.2.2.1 a rfl i _ (getD_ass l i hi)
    obtain ⟨b, o, spot⟩ := a
    have hsp : spot = none := by simpa [Addr.add] using World.cell?_spot (h1 0 h0)
    subst hsp
    exact ⟨b, o, rfl, fun i hi => by have := h1 i hi; rwa [add_none] at this⟩
theorem As.nil (w : World) : As w (.slice none 0 0) [] := ⟨(fun _ h => by cases h), none, 0, rfl, Nat.le_refl _, by simp [maxLen], rfl, fun _ => rfl, (fun a h => by cases h), (fun u h => by cases h)⟩
theorem As.of_own {w : World} {base : Nat} {e : TypeId} {v : Value} {l : List Nat} (h : w.ownsRow base e 1 v l.length (ass l)) (hx : ∀ n ∈ l, n < 4294967296) : As w v l := by
  obtain ⟨A, c, hv, hn, hm⟩ := ow_form h
  refine ⟨hx, A, c, hv, hn, hm, by rw [length_ass, Nat.mul_one], fun hA => ?_, fun a ha j u hu => ?_, fun u hu => ?_⟩
  · rcases h.2 with ⟨e1, h0⟩ | ⟨g, cap, cur, e1, _⟩
    · exact h0
    · rw [hv] at e1; injection e1 with e1; rw [hA] at e1; cases e1
  · have hj : j < l.length := by
      have := (List.getElem?_eq_some_iff.1 hu).1
      rwa [length_ass] at this
    rcases h.2 with ⟨e1, h0⟩ | ⟨g, cap, cur, e1, _, hg, _, _, _, ht⟩
    · omega
    · rw [hv] at e1
      injection e1 with e1
      rw [ha] at e1
      injection e1 with e1
      subst e1
      rw [add_none, cell_of_row w g _ cur _ _ hg, Nat.zero_add, ← hu, ← ht, List.getElem?_take_of_lt (by omega), Array.getElem?_toList]
  · unfold ass at hu
    obtain ⟨n, _, rfl⟩ := List.mem_map.1 hu
    rfl
/-- Its first numbers. -/
theorem As.pre {w : World} {A : Option Addr} {n c : Nat} {l : List Nat} (h : As w (.slice A n c) l) {m : Nat} (hm : m ≤ n) : As w (.slice A m c) (l.take m) := by
  obtain ⟨h0, A', c', hv, hc, hx, s1, s2, s3, s4⟩ := h
  injection hv with h1 h2 h3
  subst h1 h2 h3
  have hl : (l.take m).length = m := by rw [List.length_take]; omega
  refine ⟨fun n hn => h0 n (List.mem_of_mem_take hn), A, c, by rw [hl], by omega, hx, by rw [length_ass, Nat.mul_one], fun e => by have := s2 e; omega, fun a ha j u hu => ?_, fun u hu => ?_⟩
  · have hj : j < (l.take m).length := by
      have := (List.getElem?_eq_some_iff.1 hu).1
      rwa [length_ass] at this
    refine s3 a ha j u ?_
    rw [← hu]
    unfold ass
    rw [List.getElem?_map, List.getElem?_map, List.getElem?_take_of_lt (by omega)]
  · refine s4 u ?_
    unfold ass at hu ⊢
    obtain ⟨n, hn, rfl⟩ := List.mem_map.1 hu
    exact List.mem_map.2 ⟨n, List.mem_of_mem_take hn, rfl⟩

/-- The cells read as segments, their values by B. -/
def PCells (B : Value → List Nat → Prop) : List Value → List Seg → Prop
  | [], [] => True
  | a :: v :: xs, c :: l => a = by8 c.1 ∧ B v c.2 ∧ PCells B xs l
  | _, _ => False

theorem PCells.mono {B C : Value → List Nat → Prop} (h : ∀ v l, B v l → C v l) : ∀ {xs : List Value} {l : List Seg}, PCells B xs l → PCells C xs l
  | [], [], _ => trivial
  | _ :: _ :: _, _ :: _, ⟨h1, h2, h3⟩ => ⟨h1, h _ _ h2, PCells.mono h h3⟩
  | [], _ :: _, h => h.elim
  | [_], _, h => by unfold PCells at h; exact h.elim
  | _ :: _ :: _, [], h => by unfold PCells at h; exact h.elim
theorem PCells.snoc {B : Value → List Nat → Prop} {c : Seg} {v : Value} (hv : B v c.2) : ∀ {xs : List Value} {l : List Seg}, PCells B xs l → PCells B (xs ++ [by8 c.1, v]) (l ++ [c])
  | [], [], _ => ⟨rfl, hv, trivial⟩
  | _ :: _ :: _, _ :: _, ⟨h1, h2, h3⟩ => ⟨h1, h2, PCells.snoc hv h3⟩
  | [], _ :: _, h => h.elim
  | [_], _, h => by unfold PCells at h; exact h.elim
  | _ :: _ :: _, [], h => by unfold PCells at h; exact h.elim
theorem PCells.at {B : Value → List Nat → Prop} : ∀ {xs : List Value} {l : List Seg} (_ : PCells B xs l) (i : Nat) (h : i < l.length), xs[i * 2]? = some (by8 l[i].1) ∧ ∃ u, xs[i * 2 + 1]? = some u ∧ B u l[i].2
  | [], [], _, i, h => by simp at h
  | a :: v :: xs, c :: l, ⟨h1, h2, h3⟩, 0, _ => ⟨by simp [h1], v, by simp, h2⟩
  | a :: v :: xs, c :: l, ⟨h1, h2, h3⟩, i + 1, h => by
    have := PCells.at h3 i (by simp at h; omega)
    rw [show (i + 1) * 2 = i * 2 + 1 + 1 from by omega]
    simpa using this
  | [], _ :: _, h, _, _ => h.elim
  | [_], _, h, _, _ => by unfold PCells at h; exact h.elim
  | _ :: _ :: _, [], h, _, _ => by unfold PCells at h; exact h.elim

/-- The slice value v reads as the segments l. -/
def Pts (w : World) (v : Value) (l : List Seg) : Prop :=
  ∃ A c, v = .slice A l.length c ∧ l.length ≤ c ∧ c ≤ maxLen ∧ (0 < l.length → ∃ b o, A = some ⟨b, o, none⟩ ∧ ∀ i (h : i < l.length), w.cell? ⟨b, o + i * 2, none⟩ = some (by8 l[i].1) ∧ ∃ u, w.cell? ⟨b, o + i * 2 + 1, none⟩ = some u ∧ As w u l[i].2)
theorem Pts.old {w w' : World} {v : Value} {l : List Seg} (h : Pts w v l) (k : Kept Nothing w w') : Pts w' v l := by
  obtain ⟨A, c, hv, hc, hm, hr⟩ := h
  refine ⟨A, c, hv, hc, hm, fun h0 => ?_⟩
  obtain ⟨b, o, hA, hi⟩ := hr h0
  refine ⟨b, o, hA, fun i hl => ⟨k.cell_some (hi i hl).1 (fun x => x), ?_⟩⟩
  obtain ⟨u, h1, h2⟩ := (hi i hl).2
  exact ⟨u, k.cell_some h1 (fun x => x), h2.old k⟩
theorem Pts.form {w : World} {v : Value} {l : List Seg} (h : Pts w v l) : ∃ A c, v = .slice A l.length c ∧ l.length ≤ c ∧ c ≤ maxLen := by
  obtain ⟨A, c, hv, hc, hm, _⟩ := h; exact ⟨A, c, hv, hc, hm⟩
theorem Pts.nil (w : World) : Pts w (.slice none 0 0) [] := ⟨none, 0, rfl, Nat.le_refl _, by simp [maxLen], fun h => absurd h (by simp)⟩
theorem Pts.at {w : World} {A : Option Addr} {n c : Nat} {l : List Seg} (h : Pts w (.slice A n c) l) (h0 : 0 < n) :
    ∃ b o, A = some ⟨b, o, none⟩ ∧ ∀ i (h : i < l.length), w.cell? ⟨b, o + i * 2, none⟩ = some (by8 l[i].1) ∧ ∃ u, w.cell? ⟨b, o + i * 2 + 1, none⟩ = some u ∧ As w u l[i].2 := by
  obtain ⟨A', c', hv, _, _, hr⟩ := h
  injection hv with h1 h2 h3
  subst h1 h2
  exact hr h0
theorem Pts.of_own {w : World} {base : Nat} {e : TypeId} {v : Value} {l : List Seg} {xs : List Value} (h : w.ownsRow base e 2 v l.length xs) (hx : PCells (As w) xs l) : Pts w v l := by
  obtain ⟨A, c, hv0, hn, hm⟩ := ow_form h
  obtain ⟨_, h2⟩ := h
  refine ⟨A, c, hv0, hn, hm, fun h0 => ?_⟩
  rcases h2 with ⟨rfl, h0'⟩ | ⟨g, cap, cur, hv, _, hg, _, _, _, ht⟩
  · omega
  · rw [hv] at hv0
    injection hv0 with hA
    refine ⟨g, 0, hA.symm, fun i hi => ?_⟩
    obtain ⟨h1, u, h2, h3⟩ := hx.at i hi
    have cell : ∀ j, j < l.length * 2 → w.cell? ⟨g, 0 + j, none⟩ = xs[j]? := fun j hj => by
      rw [cell_of_row w g _ cur e (0, 0) hg, ← ht, List.getElem?_take_of_lt hj, Array.getElem?_toList, Nat.zero_add]
    have e1 := cell (i * 2) (by omega)
    have e2 := cell (i * 2 + 1) (by omega)
    exact ⟨by rw [e1, h1], u, by rw [Nat.add_assoc, e2, h2], h3⟩
/-- The first ones. -/
theorem Pts.pre {w : World} {A : Option Addr} {n c : Nat} {l : List Seg} (h : Pts w (.slice A n c) l) {m : Nat} (hm : m ≤ n) : Pts w (.slice A m c) (l.take m) := by
  obtain ⟨A', c', hv, hc, hx, hr⟩ := h
  injection hv with h1 h2 h3
  subst h1 h2 h3
  have hl : (l.take m).length = m := by rw [List.length_take]; omega
  refine ⟨A, c, by rw [hl], by omega, hx, fun h0 => ?_⟩
  obtain ⟨b, o, hA, hi⟩ := hr (by omega)
  refine ⟨b, o, hA, fun i hil => ?_⟩
  have := hi i (by omega)
  rwa [show (l.take m)[i] = l[i]'(by omega) from List.getElem_take]
theorem Pts.fits {w : World} {v : Value} {l : List Seg} (h : Pts w v l) : Pt.fits l := by
  obtain ⟨A, c, _, _, _, hr⟩ := h
  intro s hs n hn
  obtain ⟨i, hi, rfl⟩ := List.getElem_of_mem hs
  obtain ⟨b, o, _, hc⟩ := hr (by omega)
  obtain ⟨_, u, _, hu⟩ := hc i hi
  exact hu.1 n hn
end Go.Proofs.YtembdobkgpojfaaDoor
