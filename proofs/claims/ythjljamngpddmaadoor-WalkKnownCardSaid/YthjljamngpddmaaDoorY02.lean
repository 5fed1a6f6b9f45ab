
/-
  Paths: Same, Copy, in whatever memory.
-/
import Derived.Test.YthjljamngpddmaaDoorY01
import Derived.Deep.RegionLaw
import Derived.WalkSpells
import Derived.Lib.SliceRun
import Derived.BigQuiet
import Derived.Deep.DeepCutAuto
import Derived.Deep.CutBlock
import Derived.Outline
namespace Go.Proofs.YthjljamngpddmaaDoor
open Go.RowKit

/-- A segment: its kind, its numbers. -/
abbrev Seg := UInt8 × List Nat

namespace Pt
def may1 (s : Seg) : Bool := decide (1 ≤ s.1.toNat) && decide (s.1.toNat ≤ 4) && decide (0 < s.2.length) && decide (s.2.length ≤ 255)
def may (p : List Seg) : Bool := p.all may1 && decide (p.length ≤ 32)
def cnt (p : List Seg) : Nat := (p.map (fun s => s.2.length)).sum
/-- Each number, and its segment's kind. -/
def all (p : List Seg) : List (UInt8 × Nat) := p.flatMap fun s => s.2.map fun n => (s.1, n)
theorem all_append (a b : List Seg) : all (a ++ b) = all a ++ all b := List.flatMap_append
theorem length_all (p : List Seg) : (all p).length = cnt p := by
  unfold all cnt
  induction p with
  | nil => rfl
  | cons s p ih => rw [List.flatMap_cons, List.length_append, ih, List.length_map]; simp
theorem cnt_append (a b : List Seg) : cnt (a ++ b) = cnt a + cnt b := by unfold cnt; rw [List.map_append, List.sum_append]
/-- Its numbers are numbers of ASes. -/
def fits (p : List Seg) : Prop := ∀ s ∈ p, ∀ n ∈ s.2, n < 4294967296
end Pt

/-- Numbers as the model has them. -/
def ass (l : List Nat) : List Value := l.map fun (n : Nat) => .int .u32 (n : Int)
theorem length_ass (l : List Nat) : (ass l).length = l.length := List.length_map _
theorem ass_append (a b : List Nat) : ass (a ++ b) = ass a ++ ass b := List.map_append
theorem getD_ass (l : List Nat) (i : Nat) (h : i < l.length) : (ass l)[i]? = some (.int .u32 ((l.getD i 0 : Nat) : Int)) := by
  unfold ass
  rw [List.getElem?_map, List.getElem?_eq_getElem h, List.getD_eq_getElem?_getD, List.getElem?_eq_getElem h]
  rfl
/-- The slice value v reads as the numbers l. -/
def As (w : World) (v : Value) (l : List Nat) : Prop := (∀ n ∈ l, n < 4294967296) ∧ ∃ A c, v = .slice A l.length c ∧ l.length ≤ c ∧ c ≤ maxLen ∧ Src w 1 A l.length (ass l)
theorem As.form {w : World} {v : Value} {l : List Nat} (h : As w v l) : ∃ A c, v = .slice A l.length c ∧ l.length ≤ c ∧ c ≤ maxLen := by
  obtain ⟨_, A, c, hv, hc, hm, _⟩ := h; exact ⟨A, c, hv, hc, hm⟩
theorem As.src {w : World} {A : Option Addr} {n c : Nat} {l : List Nat} (h : As w (.slice A n c) l) : Src w 1 A l.length (ass l) := by
  obtain ⟨_, A', c', hv, _, _, hs⟩ := h
  injection hv with h1 h2 h3
  subst h1
  exact hs
theorem As.old {w w' : World} {v : Value} {l : List Nat} (h : As w v l) (k : Kept Nothing w w') : As w' v l := by
  obtain ⟨h0, A, c, hv, hc, hm, hr⟩ := h
  exact ⟨h0, A, c, hv, hc, hm, hr.kept k⟩
theorem As.kept {S : Nat → Prop} {w w' : World} {v : Value} {l : List Nat} (h : As w v l) (k : Kept S w w') (hs : ∀ a n c, v = .slice (some a) n c → 0 < n → ¬ S a.block) : As w' v l := by
  obtain ⟨h0, A, c, hv, hc, hm, hr⟩ := h
  exact ⟨h0, A, c, hv, hc, hm, hr.kept_if k (fun a ha h0 => hs a l.length c (by rw [hv, ha]) h0)⟩
theorem As.at {w : World} {A : Option Addr} {n c : Nat} {l : List Nat} (h : As w (.slice A n c) l) (h0 : 0 < n) : ∃ b o, A = some ⟨b, o, none⟩ ∧ ∀ i, i < n → w.cell? ⟨b, o + i, none⟩ = some (.int .u32 ((l.getD i 0 : Nat) : Int)) := by
  obtain ⟨_, A', c', hv, _, _, hs⟩ := h
  injection hv with h1 h2 h3
  subst h1 h2 h3
  cases A with
  | none => have := hs.2.1 rfl; omega
  | some a =>
    have h1 : ∀ i, i < l.length → w.cell? (a.add i) = some (.int .u32 ((l.getD i 0 : Nat) : Int)) := fun i hi => hs.2.2.1 a rfl i _ (getD_ass l i hi)
    obtain ⟨b, o, spot⟩ := a
    have hsp : spot = none := by simpa [Addr.add] using World.cell?_spot (h1 0 h0)
    subst hsp
    exact ⟨b, o, rfl, fun i hi => by have := h1 i hi; rwa [add_none] at this⟩
theorem As.nil (w : World) : As w (.slice none 0 0) [] := ⟨(fun _ h => by cases h), none, 0, rfl, Nat.le_refl _, by simp [maxLen], rfl, fun _ => rfl, (fun a h => by cases h), (fun u h => by cases h)⟩
theorem As.of_own {w : World} {base : Nat} {e : TypeId} {v : Value} {l : List Nat} (h : w.ownsRow base e 1 v l.length (ass l)) (hx : ∀ n ∈ l, n < 4294967296) : As w v l := by
  obtain ⟨A, c, hv, hn, hm⟩ := ow_form h
  refine ⟨hx, A, c, hv, hn, hm, by rw [length_ass, Nat.mul_one], fun hA => ?_, fun a ha j u hu => ?_, fun u hu => ?_⟩
  · rcases h.2 with ⟨e1, h0⟩ | ⟨g, cap, cur, e1, _⟩
    · exact h0
    · rw [hv] at e1; injection e1 with e1; rw [hA] at e1; cases e1
  · have hj : j < l.length := by
      have := (List.getElem?_eq_some_iff.1 hu).1
      rwa [length_ass] at this
    rcases h.2 with ⟨e1, h0⟩ | ⟨g, cap, cur, e1, _, hg, _, _, _, ht⟩
    · omega
    · rw [hv] at e1
      injection e1 with e1
      rw [ha] at e1
      injection e1 with e1
      subst e1
      rw [add_none, cell_of_row w g _ cur _ _ hg, Nat.zero_add, ← hu, ← ht, List.getElem?_take_of_lt (by omega), Array.getElem?_toList]
  · unfold ass at hu
    obtain ⟨n, _, rfl⟩ := List.mem_map.1 hu
    rfl
/-- Its first numbers. -/
theorem As.pre {w : World} {A : Option Addr} {n c : Nat} {l : List Nat} (h : As w (.slice A n c) l) {m : Nat} (hm : m ≤ n) : As w (.slice A m c) (l.take m) := by
  obtain ⟨h0, A', c', hv, hc, hx, s1, s2, s3, s4⟩ := h
  injection hv with h1 h2 h3
  subst h1 h2 h3
  have hl : (l.take m).length = m := by rw [List.length_take]; omega
  refine ⟨fun n hn => h0 n (List.mem_of_mem_take hn), A, c, by rw [hl], by omega, hx, by rw [length_ass, Nat.mul_one], fun e => by have := s2 e; omega, fun a ha j u hu => ?_, fun u hu => ?_⟩
  · have hj : j < (l.take m).length := by
      have := (List.getElem?_eq_some_iff.1 hu).1
      rwa [length_ass] at this
    refine s3 a ha j u ?_
    rw [← hu]
    unfold ass
    rw [List.getElem?_map, List.getElem?_map, List.getElem?_take_of_lt (by omega)]
  · refine s4 u ?_
    unfold ass at hu ⊢
    obtain ⟨n, hn, rfl⟩ := List.mem_map.1 hu
    exact List.mem_map.2 ⟨n, List.mem_of_mem_take hn, rfl⟩

/-- The cells read as segments, their values by B. -/
def PCells (B : Value → List Nat → Prop) : List Value → List Seg → Prop
  | [], [] => True
  | a :: v :: xs, c :: l => a = by8 c.1 ∧ B v c.2 ∧ PCells B xs l
  | _, _ => False

theorem PCells.mono {B C : Value → List Nat → Prop} (h : ∀ v l, B v l → C v l) : ∀ {xs : List Value} {l : List Seg}, PCells B xs l → PCells C xs l
  | [], [], _ => trivial
  | _ :: _ :: _, _ :: _, ⟨h1, h2, h3⟩ => ⟨h1, h _ _ h2, PCells.mono h h3⟩
  | [], _ :: _, h => h.elim
  | [_], _, h => by unfold PCells at h; exact h.elim
  | _ :: _ :: _, [], h => by unfold PCells at h; exact h.elim
theorem PCells.snoc {B : Value → List Nat → Prop} {c : Seg} {v : Value} (hv : B v c.2) : ∀ {xs : List Value} {l : List Seg}, PCells B xs l → PCells B (xs ++ [by8 c.1, v]) (l ++ [c])
  | [], [], _ => ⟨rfl, hv, trivial⟩
  | _ :: _ :: _, _ :: _, ⟨h1, h2, h3⟩ => ⟨h1, h2, PCells.snoc hv h3⟩
  | [], _ :: _, h => h.elim
  | [_], _, h => by unfold PCells at h; exact h.elim
  | _ :: _ :: _, [], h => by unfold PCells at h; exact h.elim
theorem PCells.at {B : Value → List Nat → Prop} : ∀ {xs : List Value} {l : List Seg} (_ : PCells B xs l) (i : Nat) (h : i < l.length), xs[i * 2]? = some (by8 l[i].1) ∧ ∃ u, xs[i * 2 + 1]? = some u ∧ B u l[i].2
  | [], [], _, i, h => by simp at h
  | a :: v :: xs, c :: l, ⟨h1, h2, h3⟩, 0, _ => ⟨by simp [h1], v, by simp, h2⟩
  | a :: v :: xs, c :: l, ⟨h1, h2, h3⟩, i + 1, h => by
    have := PCells.at h3 i (by simp at h; omega)
    rw [show (i + 1) * 2 = i * 2 + 1 + 1 from by omega]
    simpa using this
  | [], _ :: _, h, _, _ => h.elim
  | [_], _, h, _, _ => by unfold PCells at h; exact h.elim
  | _ :: _ :: _, [], h, _, _ => by unfold PCells at h; exact h.elim

/-- The slice value v reads as the segments l. -/
def Pts (w : World) (v : Value) (l : List Seg) : Prop :=
  ∃ A c, v = .slice A l.length c ∧ l.length ≤ c ∧ c ≤ maxLen ∧ (0 < l.length → ∃ b o, A = some ⟨b, o, none⟩ ∧ ∀ i (h : i < l.length), w.cell? ⟨b, o + i * 2, none⟩ = some (by8 l[i].1) ∧ ∃ u, w.cell? ⟨b, o + i * 2 + 1, none⟩ = some u ∧ As w u l[i].2)
theorem Pts.old {w w' : World} {v : Value} {l : List Seg} (h : Pts w v l) (k : Kept Nothing w w') : Pts w' v l := by
  obtain ⟨A, c, hv, hc, hm, hr⟩ := h
  refine ⟨A, c, hv, hc, hm, fun h0 => ?_⟩
  obtain ⟨b, o, hA, hi⟩ := hr h0
  refine ⟨b, o, hA, fun i hl => ⟨k.cell_some (hi i hl).1 (fun x => x), ?_⟩⟩
  obtain ⟨u, h1, h2⟩ := (hi i hl).2
  exact ⟨u, k.cell_some h1 (fun x => x), h2.old k⟩
theorem Pts.form {w : World} {v : Value} {l : List Seg} (h : Pts w v l) : ∃ A c, v = .slice A l.length c ∧ l.length ≤ c ∧ c ≤ maxLen := by
  obtain ⟨A, c, hv, hc, hm, _⟩ := h; exact ⟨A, c, hv, hc, hm⟩
theorem Pts.nil (w : World) : Pts w (.slice none 0 0) [] := ⟨none, 0, rfl, Nat.le_refl _, by simp [maxLen], fun h => absurd h (by simp)⟩
theorem Pts.at {w : World} {A : Option Addr} {n c : Nat} {l : List Seg} (h : Pts w (.slice A n c) l) (h0 : 0 < n) :
    ∃ b o, A = some ⟨b, o, none⟩ ∧ ∀ i (h : i < l.length), w.cell? ⟨b, o + i * 2, none⟩ = some (by8 l[i].1) ∧ ∃ u, w.cell? ⟨b, o + i * 2 + 1, none⟩ = some u ∧ As w u l[i].2 := by
  obtain ⟨A', c', hv, _, _, hr⟩ := h
  injection hv with h1 h2 h3
  subst h1 h2
  exact hr h0
theorem Pts.of_own {w : World} {base : Nat} {e : TypeId} {v : Value} {l : List Seg} {xs : List Value} (h : w.ownsRow base e 2 v l.length xs) (hx : PCells (As w) xs l) : Pts w v l := by
  obtain ⟨A, c, hv0, hn, hm⟩ := ow_form h
  obtain ⟨_, h2⟩ := h
  refine ⟨A, c, hv0, hn, hm, fun h0 => ?_⟩
  rcases h2 with ⟨rfl, h0'⟩ | ⟨g, cap, cur, hv, _, hg, _, _, _, ht⟩
  · omega
  · rw [hv] at hv0
    injection hv0 with hA
    refine ⟨g, 0, hA.symm, fun i hi => ?_⟩
    obtain ⟨h1, u, h2, h3⟩ := hx.at i hi
    have cell : ∀ j, j < l.length * 2 → w.cell? ⟨g, 0 + j, none⟩ = xs[j]? := fun j hj => by
      rw [cell_of_row w g _ cur e (0, 0) hg, ← ht, List.getElem?_take_of_lt hj, Array.getElem?_toList, Nat.zero_add]
    have e1 := cell (i * 2) (by omega)
    have e2 := cell (i * 2 + 1) (by omega)
    exact ⟨by rw [e1, h1], u, by rw [Nat.add_assoc, e2, h2], h3⟩
/-- The first ones. -/
theorem Pts.pre {w : World} {A : Option Addr} {n c : Nat} {l : List Seg} (h : Pts w (.slice A n c) l) {m : Nat} (hm : m ≤ n) : Pts w (.slice A m c) (l.take m) := by
  obtain ⟨A', c', hv, hc, hx, hr⟩ := h
  injection hv with h1 h2 h3
  subst h1 h2 h3
  have hl : (l.take m).length = m := by rw [List.length_take]; omega
  refine ⟨A, c, by rw [hl], by omega, hx, fun h0 => ?_⟩
  obtain ⟨b, o, hA, hi⟩ := hr (by omega)
  refine ⟨b, o, hA, fun i hil => ?_⟩
  have := hi i (by omega)
  rwa [show (l.take m)[i] = l[i]'(by omega) from List.getElem_take]
theorem Pts.fits {w : World} {v : Value} {l : List Seg} (h : Pts w v l) : Pt.fits l := by
  obtain ⟨A, c, _, _, _, hr⟩ := h
  intro s hs n hn
  obtain ⟨i, hi, rfl⟩ := List.getElem_of_mem hs
  obtain ⟨b, o, _, hc⟩ := hr (by omega)
  obtain ⟨_, u, _, hu⟩ := hc i hi
  exact hu.1 n hn
end Go.Proofs.YthjljamngpddmaaDoor
namespace Go.Proofs.YthjljamngpddmaaDoor
open Go.RowKit

structure RS where
  l : List UInt8
  k : Nat
  es : List Nat
  e : Int

namespace RS
/-- The end of the innermost block, or of all. -/
def top (s : RS) : Nat := match s.es with | [] => s.l.length | a :: _ => a
def left (s : RS) : Nat := if s.e = 0 then s.top - s.k else 0
def fail (s : RS) (x : Int) : RS := if s.e = 0 then { s with e := x } else s
def fits (s : RS) (n : Int) : RS := if n < 0 ∨ (s.left : Int) < n then s.fail 4 else s
def pass (s : RS) (n : Int) : RS := if (s.fits n).e = 0 then { s with k := s.k + n.toNat } else s.fits n
def got (s : RS) (n : Int) : List UInt8 := if (s.fits n).e = 0 then (s.l.drop s.k).take n.toNat else []
def opened (s : RS) (n : Int) : RS := if (s.fits n).e = 0 then { s with es := (s.k + n.toNat) :: s.es } else s.fits n
def skip (s : RS) : RS := if s.es = [] then s.fail 26 else if s.e = 0 then { s with k := s.top, es := s.es.tail } else s
def close (s : RS) : RS := if s.es ≠ [] ∧ 0 < s.left then s.fail 5 else s.skip
/-- The number of bytes, the first one the highest. -/
def num (l : List UInt8) : Nat := l.foldl (fun n b => 256 * n + b.toNat) 0

def okE : Nat → List Nat → Nat → Prop
  | k, [], n => k ≤ n
  | k, a :: r, n => k ≤ a ∧ okE a r n
def ok (s : RS) : Prop := okE s.k s.es s.l.length ∧ s.l.length ≤ 1099511627776

theorem okE_le : ∀ {k : Nat} {r : List Nat} {n : Nat}, okE k r n → k ≤ n
  | _, [], _, h => h
  | _, _ :: _, _, h => Nat.le_trans h.1 (okE_le h.2)
theorem okE_mono : ∀ {k k' : Nat} {r : List Nat} {n : Nat}, okE k r n → k' ≤ k → okE k' r n
  | _, _, [], _, h, hk => Nat.le_trans hk h
  | _, _, _ :: _, _, h, hk => ⟨Nat.le_trans hk h.1, h.2⟩
theorem ok.le {s : RS} (h : s.ok) : s.k ≤ s.top := by
  obtain ⟨h, _⟩ := h
  unfold top
  cases hs : s.es with
  | nil => rw [hs] at h; exact h
  | cons a r => rw [hs] at h; exact h.1
theorem ok.top_le {s : RS} (h : s.ok) : s.top ≤ s.l.length := by
  obtain ⟨h, _⟩ := h
  unfold top
  cases hs : s.es with
  | nil => exact Nat.le_refl _
  | cons a r => rw [hs] at h; exact okE_le h.2
theorem fail_ok {s : RS} (h : s.ok) (x : Int) : (s.fail x).ok := by unfold fail; split <;> exact h
theorem fits_ok {s : RS} (h : s.ok) (n : Int) : (s.fits n).ok := by unfold fits; split; exact fail_ok h _; exact h
/-- Where it fits nothing has changed, and n is within. -/
theorem fits_zero {s : RS} {n : Int} (h : (s.fits n).e = 0) : s.fits n = s ∧ s.e = 0 ∧ 0 ≤ n ∧ n ≤ s.left := by
  unfold fits at h ⊢
  split at h
  · next hc =>
    unfold fail at h
    split at h
    · simp at h
    · next h2 => exact absurd h h2
  · next hc => rw [if_neg hc]; exact ⟨rfl, h, by omega, by omega⟩
theorem left_zero {s : RS} (h : s.e = 0) : s.left = s.top - s.k := by unfold left; rw [if_pos h]
theorem fits_pos {s : RS} {n : Int} (h0 : 0 ≤ n) (h1 : n ≤ s.left) : s.fits n = s := by
  unfold fits; rw [if_neg (by omega)]
theorem pass_ok {s : RS} (h : s.ok) (n : Int) : (s.pass n).ok := by
  unfold pass
  split
  · next hz =>
    obtain ⟨_, he, h0, h1⟩ := fits_zero hz
    have hl := h.le
    rw [left_zero he] at h1
    refine ⟨?_, h.2⟩
    have h2 := h.1
    show okE (s.k + n.toNat) s.es s.l.length
    unfold top at h1 hl
    cases hs : s.es with
    | nil => rw [hs] at h1 hl; simp only at h1 hl; show _ ≤ _; omega
    | cons a r => rw [hs] at h1 hl h2; simp only at h1 hl; exact ⟨by omega, h2.2⟩
  · exact fits_ok h n
theorem opened_ok {s : RS} (h : s.ok) (n : Int) : (s.opened n).ok := by
  unfold opened
  split
  · next hz =>
    obtain ⟨_, he, h0, h1⟩ := fits_zero hz
    have hl := h.le
    rw [left_zero he] at h1
    refine ⟨⟨Nat.le_add_right _ _, ?_⟩, h.2⟩
    have h2 := h.1
    show okE (s.k + n.toNat) s.es s.l.length
    unfold top at h1 hl
    cases hs : s.es with
    | nil => rw [hs] at h1 hl; simp only at h1 hl; show _ ≤ _; omega
    | cons a r => rw [hs] at h1 hl h2; simp only at h1 hl; exact ⟨by omega, h2.2⟩
  · exact fits_ok h n
theorem skip_ok {s : RS} (h : s.ok) : s.skip.ok := by
  unfold skip
  split
  · exact fail_ok h _
  · next hne =>
    split
    · refine ⟨?_, h.2⟩
      have h2 := h.1
      show okE s.top s.es.tail s.l.length
      unfold top
      cases hs : s.es with
      | nil => exact absurd hs hne
      | cons a r => rw [hs] at h2; exact h2.2
    · exact h
theorem close_ok {s : RS} (h : s.ok) : s.close.ok := by
  unfold close; split; exact fail_ok h _; exact skip_ok h
theorem fail_l (s : RS) (x : Int) : (s.fail x).l = s.l ∧ (s.fail x).k = s.k ∧ (s.fail x).es = s.es := by unfold fail; split <;> exact ⟨rfl, rfl, rfl⟩
theorem fits_l (s : RS) (n : Int) : (s.fits n).l = s.l ∧ (s.fits n).k = s.k ∧ (s.fits n).es = s.es := by
  unfold fits; split; exact fail_l s 4; exact ⟨rfl, rfl, rfl⟩
end RS
end Go.Proofs.YthjljamngpddmaaDoor
namespace Go.Proofs.YthjljamngpddmaaDoor
open Go.RowKit

theorem cells5 {w : World} {p : Nat} {t : TypeId} {a b c d e : Value} (h : Blk w p t #[a, b, c, d, e]) :
    (w.cell? ⟨p, 0, none⟩ = some a ∧ w.cell? ⟨p, 1, none⟩ = some b ∧ w.cell? ⟨p, 2, none⟩ = some c ∧ w.cell? ⟨p, 3, none⟩ = some d ∧ w.cell? ⟨p, 4, none⟩ = some e) ∧
    (w.frozen? ⟨p, 2, none⟩ = false ∧ w.frozen? ⟨p, 3, none⟩ = false ∧ w.frozen? ⟨p, 4, none⟩ = false) :=
  ⟨⟨h.cell 0, h.cell 1, h.cell 2, h.cell 3, h.cell 4⟩, h.free 2, h.free 3, h.free 4⟩
theorem cells3 {w : World} {p : Nat} {t : TypeId} {a b c : Value} (h : Blk w p t #[a, b, c]) :
    w.cell? ⟨p, 0, none⟩ = some a ∧ w.cell? ⟨p, 1, none⟩ = some b ∧ w.cell? ⟨p, 2, none⟩ = some c :=
  ⟨h.cell 0, h.cell 1, h.cell 2⟩

end Go.Proofs.YthjljamngpddmaaDoor
namespace Go.Proofs.YthjljamngpddmaaDoor
open Go.RowKit

theorem RS.fail_ne {s : RS} {x : Int} (hx : x ≠ 0) : ((s.fail x).e == 0) = false := by
  unfold RS.fail
  split
  · simpa using hx
  · next h => simpa using h

end Go.Proofs.YthjljamngpddmaaDoor
namespace Go.Proofs.YthjljamngpddmaaDoor
open Go.RowKit

end Go.Proofs.YthjljamngpddmaaDoor
namespace Go.Proofs.YthjljamngpddmaaDoor
open Go.RowKit

/-- A piece of a slice of bytes. -/
theorem Bs.piece {w : World} {A : Option Addr} {n c : Nat} {l : List UInt8} (h : Bs w (.slice A n c) l) {k m : Nat} (hm : k + m ≤ n) :
    Bs w (.slice (if c = k then A else A.map (·.add k)) m (c - k)) ((l.drop k).take m) := by
  obtain ⟨A', c', hv, hc, hx, hr⟩ := h
  injection hv with h1 h2 h3
  subst h1 h2 h3
  have hlen : ((l.drop k).take m).length = m := by simp; omega
  refine ⟨_, _, by rw [hlen], by omega, by omega, fun h0 => ?_⟩
  obtain ⟨b, o, cs, f, rfl, hb, hi⟩ := hr (by omega)
  rw [if_neg (by omega)]
  have hadd : (⟨b, o, none⟩ : Addr).add k = ⟨b, o + k, none⟩ := by unfold Addr.add; split <;> simp_all
  refine ⟨b, o + k, cs, f, by simp [hadd], hb, fun i hil => ?_⟩
  rw [Nat.add_assoc, hi (k + i) (by omega)]
  congr 2
  simp only [List.getD_eq_getElem?_getD]
  rw [List.getElem?_take_of_lt (by omega), List.getElem?_drop]

end Go.Proofs.YthjljamngpddmaaDoor
namespace Go.Proofs.YthjljamngpddmaaDoor
open Go.RowKit

theorem as_info : (Tryd.prog.info? 25).map (fun i => (i.zero, i.size, i.bytes)) = some (some (.int .u32 0), 1, 4) := by kernel_rfl
theorem sg_info : (Tryd.prog.info? 61).map (fun i => (i.zero, i.size, i.bytes)) = some (some (.agg #[.int .u8 0, .slice none 0 0]), 2, 32) := by kernel_rfl

theorem as_clone (v : Value) (l : List Nat) (w : World) (h : As w v l) (hl : l.length ≤ 1099511627776) :
    Calls Tryd.prog 51 #[v] w fun r w' => ∃ v', r = .returned v' ∧ w'.ownsRow w.heap.size 25 1 v' l.length (ass l) ∧ Kept Nothing w w' := by
  obtain ⟨i0, hi, hz0, hz1, hz2⟩ := info_parts as_info
  have hq := fun (u : World) (a : Option Addr) (n c : Nat) => Lib.run_eql_slice_nil (P := Tryd.prog) u 59 25 a n c 0 0 Tryd.underlying59
  obtain ⟨A, c, rfl, hc, hm⟩ := h.form
  have HS := Lib.hid (h.src)
  cases A with
  | none =>
    obtain rfl : l = [] := List.eq_nil_of_length_eq_zero (HS.out.2.1 rfl)
    clear h hc hm
    go_enter Tryd.func51, Tryd.ntmps51
    go_wp2
    go_ret
    exact ⟨_, rfl, World.ownsRow_nil _ _ _ _, Kept.refl _ _⟩
  | some ad =>
    clear h hc hm
    have HL : Hid (0 + l.length ≤ maxLen ∧ (0 + l.length) * 4 ≤ 140737488355328) := ⟨by unfold maxLen; omega, by omega⟩
    go_enter Tryd.func51, Tryd.ntmps51
    go_wp2_with (at_builtin; refine wpList_app _ rfl _ _ 59 rfl w.heap.size 25 i0 (.int .u32 0) 1 4 Tryd.underlying59 hi hz0 hz1 hz2 rfl (by decide) (.slice (some ⟨w.heap.size, 0, none⟩) 0 0) 0 [] rfl (World.ownsRow_made w #[] 0 (Nat.le_refl _) (by simp [maxLen]) rfl) (some ad) l.length c (ass l) rfl (HS.out.kept ((Kept.refl _ w).alloc _)) HL.out.1 HL.out.2 (by simp) ?_; intro v' w' hown hg _)
    go_ret
    refine ⟨v', rfl, ?_, ((Kept.refl _ w).alloc _).grown hg (fun k hk hlt => ?_)⟩
    · simpa using hown
    · simp only [Value.ownBlock, Option.some.injEq] at hk
      omega

theorem seg_may (k : Nat) (A : Option Addr) (n c : Nat) (w : World) :
    Calls Tryd.prog 56 #[.agg #[.int .u8 (k : Int), .slice A n c]] w fun e w' => e = .returned (.bool (decide (1 ≤ k) && decide (k ≤ 4) && decide (0 < n) && decide (n ≤ 255))) ∧ Kept Nothing w w' := by
  go_enter Tryd.func56, Tryd.ntmps56
  go_wp2
  all_goals go_ret
  all_goals exact ⟨ret_bool (by rw [Bool.eq_iff_iff]; simp; try omega), (Kept.refl _ w).alloc _⟩

/-- The i-th segment in memory. -/
theorem Pts.at2 {w : World} {A : Option Addr} {n c : Nat} {l : List Seg} (h : Pts w (.slice A n c) l) {i : Nat} (hi : i < n) :
    ∃ b o Au cu, A = some ⟨b, o, none⟩ ∧ w.cell? ⟨b, o + i * 2, none⟩ = some (.int .u8 ((l.getD i (0, [])).1.toNat : Int)) ∧ w.cell? ⟨b, o + i * 2 + 1, none⟩ = some (.slice Au (l.getD i (0, [])).2.length cu) ∧ As w (.slice Au (l.getD i (0, [])).2.length cu) (l.getD i (0, [])).2 := by
  obtain ⟨A', c', hv, _⟩ := h.form
  injection hv with _ e2 _
  obtain ⟨b, o, rfl, hc⟩ := h.at (by omega)
  have hl : i < l.length := by omega
  obtain ⟨h1, u, h2, h3⟩ := hc i hl
  have hd : l.getD i (0, []) = l[i] := by rw [List.getD_eq_getElem?_getD, List.getElem?_eq_getElem hl]; rfl
  rw [hd]
  obtain ⟨Au, cu, rfl, _, _⟩ := h3.form
  exact ⟨b, o, Au, cu, rfl, h1, h2, h3⟩

set_option maxHeartbeats 800000 in
theorem path_may (v : Value) (l : List Seg) (w : World) (h : Pts w v l) (hl : l.length ≤ 1099511627776) :
    Calls Tryd.prog 34 #[v] w fun e w' => e = .returned (.bool (Pt.may l)) ∧ Kept Nothing w w' := by
  obtain ⟨A, c, rfl, hc, hm⟩ := h.form
  have HV := Lib.hid h
  clear h
  go_enter Tryd.func34, Tryd.ntmps34
  go_wp2
  go_loopw [7] (fun i wr => ∃ k : Nat, i = .int .i64 (k : Int) ∧ k ≤ l.length ∧ Hid (∀ j, j < k → Pt.may1 (l.getD j (0, [])) = true) ∧ Kept Nothing w wr) (fun i _ => l.length - (intOf i).toNat)
  case atStart => exact ⟨0, rfl, Nat.zero_le _, Lib.hid (fun j hj => absurd hj (Nat.not_lt_zero _)), Kept.refl _ _⟩
  case round =>
    obtain ⟨k, rfl, hk, HM, hkk⟩ := hrel
    have KK := Lib.hid hkk
    clear hkk
    by_cases hlt : k < l.length
    · obtain ⟨b, o, Au, cu, rfl, p0, p1, -⟩ := (HV.out.old KK.out).at2 hlt
      have i1 : (0 : Int) ≤ (k : Int) := by omega
      have i2 : (k : Int) < (l.length : Int) := by omega
      have EM : Hid (Pt.may1 (l.getD k (0, [])) = (decide (1 ≤ (l.getD k (0, [])).1.toNat) && decide ((l.getD k (0, [])).1.toNat ≤ 4) && decide (0 < (l.getD k (0, [])).2.length) && decide ((l.getD k (0, [])).2.length ≤ 255))) := Lib.hid rfl
      have EA : Hid (Pt.may1 (l.getD k (0, [])) = false → Pt.may l = false) := Lib.hid (fun e => by
        unfold Pt.may
        rw [Bool.and_eq_false_iff]
        left
        rw [List.all_eq_false]
        refine ⟨l.getD k (0, []), ?_, by rw [e]; simp⟩
        rw [List.getD_eq_getElem?_getD, List.getElem?_eq_getElem hlt]
        exact List.getElem_mem _)
      have EN : Hid (Pt.may1 (l.getD k (0, [])) = true → ∀ j, j < k + 1 → Pt.may1 (l.getD j (0, [])) = true) := Lib.hid (fun e j hj => by
        by_cases hjk : j = k
        · subst hjk; exact e
        · exact HM.out j (by omega))
      have HS := Lib.hid (fun w => seg_may (l.getD k (0, [])).1.toNat Au (l.getD k (0, [])).2.length cu w)
      rw [← EM.out] at HS
      clear EM HM
      generalize Pt.may1 (l.getD k (0, [])) = mb at *
      generalize (l.getD k (0, [])).1.toNat = kn at *
      generalize (l.getD k (0, [])).2.length = nn at *
      cases hb : mb with
      | true =>
        have HN := Lib.hid (EN.out hb)
        rw [hb] at HS
        clear hb EN EA
        go_wp2_with (go_at_call 56; refine (HS.out _).mono ?_; rintro e w2 ⟨rfl, k2⟩)
        go_roundw
        case rel => exact ⟨k + 1, by go_num, by omega, HN, (KK.out.alloc _).trans k2⟩
        case measure => simp [intOf]; omega
      | false =>
        have HN := Lib.hid (EA.out hb)
        rw [hb] at HS
        clear hb EN EA
        go_wp2_with (go_at_call 56; refine (HS.out _).mono ?_; rintro e w2 ⟨rfl, k2⟩)
        go_ret
        exact ⟨by rw [HN.out]; rfl, (KK.out.alloc _).trans k2⟩
    · obtain rfl : k = l.length := by omega
      have hall : l.all Pt.may1 = true := by
        rw [List.all_eq_true]
        intro s hs
        obtain ⟨i, hi, rfl⟩ := List.getElem_of_mem hs
        have := HM.out i hi
        rwa [List.getD_eq_getElem?_getD, List.getElem?_eq_getElem hi] at this
      have HE : Hid (Pt.may l = decide (l.length ≤ 32)) := Lib.hid (by unfold Pt.may; rw [hall]; rfl)
      clear hall HM
      go_wp2
      go_ret
      exact ⟨by rw [HE.out]; exact ret_bool (by rw [Bool.eq_iff_iff]; simp; try omega), KK.out⟩

end Go.Proofs.YthjljamngpddmaaDoor
namespace Go.Proofs.YthjljamngpddmaaDoor
open Go.RowKit

theorem take_next {α : Type} {l m : List α} {k : Nat} (h : l.take k = m.take k) (h1 : k < l.length) (h2 : k < m.length) (e : l[k] = m[k]) : l.take (k + 1) = m.take (k + 1) := by
  rw [List.take_succ_eq_append_getElem h1, List.take_succ_eq_append_getElem h2, h, e]
theorem getD_get {α : Type} {l : List α} {k : Nat} (h : k < l.length) (d : α) : l.getD k d = l[k] := by
  rw [List.getD_eq_getElem?_getD, List.getElem?_eq_getElem h]; rfl

end Go.Proofs.YthjljamngpddmaaDoor
