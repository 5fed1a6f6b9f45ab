
/-
  What the calls of package scroll's reader do: pass, Take, Rest, the numbers; New.
-/
import Derived.Test.YthjljamngpddmaaGreatDoorY01
import Derived.Deep.RegionLaw
import Derived.WalkSpells
namespace Go.Proofs.YthjljamngpddmaaGreatDoor
open Go.RowKit

/-- A segment: its kind, its numbers. -/
abbrev Seg := UInt8 × List Nat

namespace Pt
def may1 (s : Seg) : Bool := decide (1 ≤ s.1.toNat) && decide (s.1.toNat ≤ 4) && decide (0 < s.2.length) && decide (s.2.length ≤ 255)
def may (p : List Seg) : Bool := p.all may1 && decide (p.length ≤ 32)
def cnt (p : List Seg) : Nat := (p.map (fun s => s.2.length)).sum
/-- Each number, and its segment's kind. -/
def all (p : List Seg) : List (UInt8 × Nat) := p.flatMap fun s => s.2.map fun n => (s.1, n)
theorem all_append (a b : List Seg) : all (a ++ b) = all a ++ all b := List.flatMap_append
theorem length_all (p : List Seg) : (all p).length = cnt p := by
  unfold all cnt
  induction p with
  | nil => rfl
  | cons s p ih => rw [List.flatMap_cons, List.length_append, ih, List.length_map]; simp
theorem cnt_append (a b : List Seg) : cnt (a ++ b) = cnt a + cnt b := by unfold cnt; rw [List.map_append, List.sum_append]
/-- Its numbers are numbers of ASes. -/
def fits (p : List Seg) : Prop := ∀ s ∈ p, ∀ n ∈ s.2, n < 4294967296
end Pt

/-- Numbers as the model has them. -/
def ass (l : List Nat) : List Value := l.map fun (n : Nat) => .int .u32 (n : Int)
theorem length_ass (l : List Nat) : (ass l).length = l.length := List.length_map _
theorem ass_append (a b : List Nat) : ass (a ++ b) = ass a ++ ass b := List.map_append
theorem getD_ass (l : List Nat) (i : Nat) (h : i < l.length) : (ass l)[i]? = some (.int .u32 ((l.getD i 0 : Nat) : Int)) := by
  unfold ass
  rw [List.getElem?_map, List.getElem?_eq_getElem h, List.getD_eq_getElem?_getD, List.getElem?_eq_getElem h]
  rfl
/-- The slice value v reads as the numbers l. -/
def As (w : World) (v : Value) (l : List Nat) : Prop := (∀ n ∈ l, n < 4294967296) ∧ ∃ A c, v = .slice A l.length c ∧ l.length ≤ c ∧ c ≤ maxLen ∧ Src w 1 A l.length (ass l)
theorem As.form {w : World} {v : Value} {l : List Nat} (h : As w v l) : ∃ A c, v = .slice A l.length c ∧ l.length ≤ c ∧ c ≤ maxLen := by
  obtain ⟨_, A, c, hv, hc, hm, _⟩ := h; exact ⟨A, c, hv, hc, hm⟩
theorem As.src {w : World} {A : Option Addr} {n c : Nat} {l : List Nat} (h : As w (.slice A n c) l) : Src w 1 A l.length (ass l) := by
  obtain ⟨_, A', c', hv, _, _, hs⟩ := h
  injection hv with h1 h2 h3
  subst h1
  exact hs
theorem As.old {w w' : World} {v : Value} {l : List Nat} (h : As w v l) (k : Kept Nothing w w') : As w' v l := by
  obtain ⟨h0, A, c, hv, hc, hm, hr⟩ := h
  exact ⟨h0, A, c, hv, hc, hm, hr.kept k⟩
theorem As.kept {S : Nat → Prop} {w w' : World} {v : Value} {l : List Nat} (h : As w v l) (k : Kept S w w') (hs : ∀ a n c, v = .slice (some a) n c → 0 < n → ¬ S a.block) : As w' v l := by
  obtain ⟨h0, A, c, hv, hc, hm, hr⟩ := h
  exact ⟨h0, A, c, hv, hc, hm, hr.kept_if k (fun a ha h0 => hs a l.length c (by rw [hv, ha]) h0)⟩
theorem As.at {w : World} {A : Option Addr} {n c : Nat} {l : List Nat} (h : As w (.slice A n c) l) (h0 : 0 < n) : ∃ b o, A = some ⟨b, o, none⟩ ∧ ∀ i, i < n → w.cell? ⟨b, o + i, none⟩ = some (.int .u32 ((l.getD i 0 : Nat) : Int)) := by
  obtain ⟨_, A', c', hv, _, _, hs⟩ := h
  injection hv with h1 h2 h3
  subst h1 h2 h3
  cases A with
  | none => have := hs.2.1 rfl; omega
  | some a =>
    have h1 : ∀ i, i < l.length → w.cell? (a.add i) = some (.int .u32 ((l.getD i 0 : Nat) : Int)) := fun i hi => hs.2.2.1 a rfl i _ (getD_ass l i hi)
    obtain ⟨b, o, spot⟩ := a
    have hsp : spot = none := by simpa [Addr.add] using World.cell?_spot (h1 0 h0)
    subst hsp
    exact ⟨b, o, rfl, fun i hi => by have := h1 i hi; rwa [add_none] at this⟩
theorem As.nil (w : World) : As w (.slice none 0 0) [] := ⟨(fun _ h => by cases h), none, 0, rfl, Nat.le_refl _, by simp [maxLen], rfl, fun _ => rfl, (fun a h => by cases h), (fun u h => by cases h)⟩
theorem As.of_own {w : World} {base : Nat} {e : TypeId} {v : Value} {l : List Nat} (h : w.ownsRow base e 1 v l.length (ass l)) (hx : ∀ n ∈ l, n < 4294967296) : As w v l := by
  obtain ⟨A, c, hv, hn, hm⟩ := ow_form h
  refine ⟨hx, A, c, hv, hn, hm, by rw [length_ass, Nat.mul_one], fun hA => ?_, fun a ha j u hu => ?_, fun u hu => ?_⟩
  · rcases h.2 with ⟨e1, h0⟩ | ⟨g, cap, cur, e1, _⟩
    · exact h0
    · rw [hv] at e1; injection e1 with e1; rw [hA] at e1; cases e1
  · have hj : j < l.length := by
      have := (List.getElem?_eq_some_iff.1 hu).1
      rwa [length_ass] at this
    rcases h.2 with ⟨e1, h0⟩ | ⟨g, cap, cur, e1, _, hg, _, _, _, ht⟩
    · omega
    · rw [hv] at e1
      injection e1 with e1
      rw [ha] at e1
      injection e1 with e1
      subst e1
      rw [add_none, cell_of_row w g _ cur _ _ hg, Nat.zero_add, ← hu, ← ht, List.getElem?_take_of_lt (by omega), Array.getElem?_toList]
  · unfold ass at hu
    obtain ⟨n, _, rfl⟩ := List.mem_map.1 hu
    rfl
/-- Its first numbers. -/
theorem As.pre {w : World} {A : Option Addr} {n c : Nat} {l : List Nat} (h : As w (.slice A n c) l) {m : Nat} (hm : m ≤ n) : As w (.slice A m c) (l.take m) := by
  obtain ⟨h0, A', c', hv, hc, hx, s1, s2, s3, s4⟩ := h
  injection hv with h1 h2 h3
  subst h1 h2 h3
  have hl : (l.take m).length = m := by rw [List.length_take]; omega
  refine ⟨fun n hn => h0 n (List.mem_of_mem_take hn), A, c, by rw [hl], by omega, hx, by rw [length_ass, Nat.mul_one], fun e => by have := s2 e; omega, fun a ha j u hu => ?_, fun u hu => ?_⟩
  · have hj : j < (l.take m).length := by
      have := (List.getElem?_eq_some_iff.1 hu).1
      rwa [length_ass] at this
    refine s3 a ha j u ?_
    rw [← hu]
    unfold ass
    rw [List.getElem?_map, List.getElem?_map, List.getElem?_take_of_lt (by omega)]
  · refine s4 u ?_
    unfold ass at hu ⊢
    obtain ⟨n, hn, rfl⟩ := List.mem_map.1 hu
    exact List.mem_map.2 ⟨n, List.mem_of_mem_take hn, rfl⟩

/-- The cells read as segments, their values by B. -/
def PCells (B : Value → List Nat → Prop) : List Value → List Seg → Prop
  | [], [] => True
  | a :: v :: xs, c :: l => a = by8 c.1 ∧ B v c.2 ∧ PCells B xs l
  | _, _ => False

theorem PCells.mono {B C : Value → List Nat → Prop} (h : ∀ v l, B v l → C v l) : ∀ {xs : List Value} {l : List Seg}, PCells B xs l → PCells C xs l
  | [], [], _ => trivial
  | _ :: _ :: _, _ :: _, ⟨h1, h2, h3⟩ => ⟨h1, h _ _ h2, PCells.mono h h3⟩
  | [], _ :: _, h => h.elim
  | [_], _, h => by unfold PCells at h; exact h.elim
  | _ :: _ :: _, [], h => by unfold PCells at h; exact h.elim
theorem PCells.snoc {B : Value → List Nat → Prop} {c : Seg} {v : Value} (hv : B v c.2) : ∀ {xs : List Value} {l : List Seg}, PCells B xs l → PCells B (xs ++ [by8 c.1, v]) (l ++ [c])
  | [], [], _ => ⟨rfl, hv, trivial⟩
  | _ :: _ :: _, _ :: _, ⟨h1, h2, h3⟩ => ⟨h1, h2, PCells.snoc hv h3⟩
  | [], _ :: _, h => h.elim
  | [_], _, h => by unfold PCells at h; exact h.elim
  | _ :: _ :: _, [], h => by unfold PCells at h; exact h.elim
theorem PCells.at {B : Value → List Nat → Prop} : ∀ {xs : List Value} {l : List Seg} (_ : PCells B xs l) (i : Nat) (h : i < l.length), xs[i * 2]? = some (by8 l[i].1) ∧ ∃ u, xs[i * 2 + 1]? = some u ∧ B u l[i].2
  | [], [], _, i, h => by simp at h
  | a :: v :: xs, c :: l, ⟨h1, h2, h3⟩, 0, _ => ⟨by simp [h1], v, by simp, h2⟩
  | a :: v :: xs, c :: l, ⟨h1, h2, h3⟩, i + 1, h => by
    have := PCells.at h3 i (by simp at h; omega)
    rw [show (i + 1) * 2 = i * 2 + 1 + 1 from by omega]
    simpa using this
  | [], _ :: _, h, _, _ => h.elim
  | [_], _, h, _, _ => by unfold PCells at h; exact h.elim
  | _ :: _ :: _, [], h, _, _ => by unfold PCells at h; exact h.elim

/-- The slice value v reads as the segments l. -/
def Pts (w : World) (v : Value) (l : List Seg) : Prop :=
  ∃ A c, v = .slice A l.length c ∧ l.length ≤ c ∧ c ≤ maxLen ∧ (0 < l.length → ∃ b o, A = some ⟨b, o, none⟩ ∧ ∀ i (h : i < l.length), w.cell? ⟨b, o + i * 2, none⟩ = some (by8 l[i].1) ∧ ∃ u, w.cell? ⟨b, o + i * 2 + 1, none⟩ = some u ∧ As w u l[i].2)
theorem Pts.old {w w' : World} {v : Value} {l : List Seg} (h : Pts w v l) (k : Kept Nothing w w') : Pts w' v l := by
  obtain ⟨A, c, hv, hc, hm, hr⟩ := h
  refine ⟨A, c, hv, hc, hm, fun h0 => ?_⟩
  obtain ⟨b, o, hA, hi⟩ := hr h0
  refine ⟨b, o, hA, fun i hl => ⟨k.cell_some (hi i hl).1 (fun x => x), ?_⟩⟩
  obtain ⟨u, h1, h2⟩ := (hi i hl).2
  exact ⟨u, k.cell_some h1 (fun x => x), h2.old k⟩
theorem Pts.form {w : World} {v : Value} {l : List Seg} (h : Pts w v l) : ∃ A c, v = .slice A l.length c ∧ l.length ≤ c ∧ c ≤ maxLen := by
  obtain ⟨A, c, hv, hc, hm, _⟩ := h; exact ⟨A, c, hv, hc, hm⟩
theorem Pts.nil (w : World) : Pts w (.slice none 0 0) [] := ⟨none, 0, rfl, Nat.le_refl _, by simp [maxLen], fun h => absurd h (by simp)⟩
theorem Pts.at {w : World} {A : Option Addr} {n c : Nat} {l : List Seg} (h : Pts w (.slice A n c) l) (h0 : 0 < n) :
    ∃ b o, A = some ⟨b, o, none⟩ ∧ ∀ i (h : i < l.length), w.cell? ⟨b, o + i * 2, none⟩ = some (by8 l[i].1) ∧ ∃ u, w.cell? ⟨b, o + i * 2 + 1, none⟩ = some u ∧ As w u l[i].2 := by
  obtain ⟨A', c', hv, _, _, hr⟩ := h
  injection hv with h1 h2 h3
  subst h1 h2
  exact hr h0
theorem Pts.of_own {w : World} {base : Nat} {e : TypeId} {v : Value} {l : List Seg} {xs : List Value} (h : w.ownsRow base e 2 v l.length xs) (hx : PCells (As w) xs l) : Pts w v l := by
  obtain ⟨A, c, hv0, hn, hm⟩ := ow_form h
  obtain ⟨_, h2⟩ := h
  refine ⟨A, c, hv0, hn, hm, fun h0 => ?_⟩
  rcases h2 with ⟨rfl, h0'⟩ | ⟨g, cap, cur, hv, _, hg, _, _, _, ht⟩
  · omega
  · rw [hv] at hv0
    injection hv0 with hA
    refine ⟨g, 0, hA.symm, fun i hi => ?_⟩
    obtain ⟨h1, u, h2, h3⟩ := hx.at i hi
    have cell : ∀ j, j < l.length * 2 → w.cell? ⟨g, 0 + j, none⟩ = xs[j]? := fun j hj => by
      rw [cell_of_row w g _ cur e (0, 0) hg, ← ht, List.getElem?_take_of_lt hj, Array.getElem?_toList, Nat.zero_add]
    have e1 := cell (i * 2) (by omega)
    have e2 := cell (i * 2 + 1) (by omega)
    exact ⟨by rw [e1, h1], u, by rw [Nat.add_assoc, e2, h2], h3⟩
/-- The first ones. -/
theorem Pts.pre {w : World} {A : Option Addr} {n c : Nat} {l : List Seg} (h : Pts w (.slice A n c) l) {m : Nat} (hm : m ≤ n) : Pts w (.slice A m c) (l.take m) := by
  obtain ⟨A', c', hv, hc, hx, hr⟩ := h
  injection hv with h1 h2 h3
  subst h1 h2 h3
  have hl : (l.take m).length = m := by rw [List.length_take]; omega
  refine ⟨A, c, by rw [hl], by omega, hx, fun h0 => ?_⟩
  obtain ⟨b, o, hA, hi⟩ := hr (by omega)
  refine ⟨b, o, hA, fun i hil => ?_⟩
  have := hi i (by omega)
  rwa [show (l.take m)[i] = l[i]'(by omega) from List.getElem_take]
theorem Pts.fits {w : World} {v : Value} {l : List Seg} (h : Pts w v l) : Pt.fits l := by
  obtain ⟨A, c, _, _, _, hr⟩ := h
  intro s hs n hn
  obtain ⟨i, hi, rfl⟩ := List.getElem_of_mem hs
  obtain ⟨b, o, _, hc⟩ := hr (by omega)
  obtain ⟨_, u, _, hu⟩ := hc i hi
  exact hu.1 n hn
end Go.Proofs.YthjljamngpddmaaGreatDoor
namespace Go.Proofs.YthjljamngpddmaaGreatDoor
open Go.RowKit

structure RS where
  l : List UInt8
  k : Nat
  es : List Nat
  e : Int

namespace RS
/-- The end of the innermost block, or of all. -/
def top (s : RS) : Nat := match s.es with | [] => s.l.length | a :: _ => a
def left (s : RS) : Nat := if s.e = 0 then s.top - s.k else 0
def fail (s : RS) (x : Int) : RS := if s.e = 0 then { s with e := x } else s
def fits (s : RS) (n : Int) : RS := if n < 0 ∨ (s.left : Int) < n then s.fail 4 else s
def pass (s : RS) (n : Int) : RS := if (s.fits n).e = 0 then { s with k := s.k + n.toNat } else s.fits n
def got (s : RS) (n : Int) : List UInt8 := if (s.fits n).e = 0 then (s.l.drop s.k).take n.toNat else []
def opened (s : RS) (n : Int) : RS := if (s.fits n).e = 0 then { s with es := (s.k + n.toNat) :: s.es } else s.fits n
def skip (s : RS) : RS := if s.es = [] then s.fail 26 else if s.e = 0 then { s with k := s.top, es := s.es.tail } else s
def close (s : RS) : RS := if s.es ≠ [] ∧ 0 < s.left then s.fail 5 else s.skip
/-- The number of bytes, the first one the highest. -/
def num (l : List UInt8) : Nat := l.foldl (fun n b => 256 * n + b.toNat) 0

def okE : Nat → List Nat → Nat → Prop
  | k, [], n => k ≤ n
  | k, a :: r, n => k ≤ a ∧ okE a r n
def ok (s : RS) : Prop := okE s.k s.es s.l.length ∧ s.l.length ≤ 1099511627776

theorem okE_le : ∀ {k : Nat} {r : List Nat} {n : Nat}, okE k r n → k ≤ n
  | _, [], _, h => h
  | _, _ :: _, _, h => Nat.le_trans h.1 (okE_le h.2)
theorem okE_mono : ∀ {k k' : Nat} {r : List Nat} {n : Nat}, okE k r n → k' ≤ k → okE k' r n
  | _, _, [], _, h, hk => Nat.le_trans hk h
  | _, _, _ :: _, _, h, hk => ⟨Nat.le_trans hk h.1, h.2⟩
theorem ok.le {s : RS} (h : s.ok) : s.k ≤ s.top := by
  obtain ⟨h, _⟩ := h
  unfold top
  cases hs : s.es with
  | nil => rw [hs] at h; exact h
  | cons a r => rw [hs] at h; exact h.1
theorem ok.top_le {s : RS} (h : s.ok) : s.top ≤ s.l.length := by
  obtain ⟨h, _⟩ := h
  unfold top
  cases hs : s.es with
  | nil => exact Nat.le_refl _
  | cons a r => rw [hs] at h; exact okE_le h.2
theorem fail_ok {s : RS} (h : s.ok) (x : Int) : (s.fail x).ok := by unfold fail; split <;> exact h
theorem fits_ok {s : RS} (h : s.ok) (n : Int) : (s.fits n).ok := by unfold fits; split; exact fail_ok h _; exact h
/-- Where it fits nothing has changed, and n is within. -/
theorem fits_zero {s : RS} {n : Int} (h : (s.fits n).e = 0) : s.fits n = s ∧ s.e = 0 ∧ 0 ≤ n ∧ n ≤ s.left := by
  unfold fits at h ⊢
  split at h
  · next hc =>
    unfold fail at h
    split at h
    · simp at h
    · next h2 => exact absurd h h2
  · next hc => rw [if_neg hc]; exact ⟨rfl, h, by omega, by omega⟩
theorem left_zero {s : RS} (h : s.e = 0) : s.left = s.top - s.k := by unfold left; rw [if_pos h]
theorem fits_pos {s : RS} {n : Int} (h0 : 0 ≤ n) (h1 : n ≤ s.left) : s.fits n = s := by
  unfold fits; rw [if_neg (by omega)]
theorem pass_ok {s : RS} (h : s.ok) (n : Int) : (s.pass n).ok := by
  unfold pass
  split
  · next hz =>
    obtain ⟨_, he, h0, h1⟩ := fits_zero hz
    have hl := h.le
    rw [left_zero he] at h1
    refine ⟨?_, h.2⟩
    have h2 := h.1
    show okE (s.k + n.toNat) s.es s.l.length
    unfold top at h1 hl
    cases hs : s.es with
    | nil => rw [hs] at h1 hl; simp only at h1 hl; show _ ≤ _; omega
    | cons a r => rw [hs] at h1 hl h2; simp only at h1 hl; exact ⟨by omega, h2.2⟩
  · exact fits_ok h n
theorem opened_ok {s : RS} (h : s.ok) (n : Int) : (s.opened n).ok := by
  unfold opened
  split
  · next hz =>
    obtain ⟨_, he, h0, h1⟩ := fits_zero hz
    have hl := h.le
    rw [left_zero he] at h1
    refine ⟨⟨Nat.le_add_right _ _, ?_⟩, h.2⟩
    have h2 := h.1
    show okE (s.k + n.toNat) s.es s.l.length
    unfold top at h1 hl
    cases hs : s.es with
    | nil => rw [hs] at h1 hl; simp only at h1 hl; show _ ≤ _; omega
    | cons a r => rw [hs] at h1 hl h2; simp only at h1 hl; exact ⟨by omega, h2.2⟩
  · exact fits_ok h n
theorem skip_ok {s : RS} (h : s.ok) : s.skip.ok := by
  unfold skip
  split
  · exact fail_ok h _
  · next hne =>
    split
    · refine ⟨?_, h.2⟩
      have h2 := h.1
      show okE s.top s.es.tail s.l.length
      unfold top
      cases hs : s.es with
      | nil => exact absurd hs hne
      | cons a r => rw [hs] at h2; exact h2.2
    · exact h
theorem close_ok {s : RS} (h : s.ok) : s.close.ok := by
  unfold close; split; exact fail_ok h _; exact skip_ok h
theorem fail_l (s : RS) (x : Int) : (s.fail x).l = s.l ∧ (s.fail x).k = s.k ∧ (s.fail x).es = s.es := by unfold fail; split <;> exact ⟨rfl, rfl, rfl⟩
theorem fits_l (s : RS) (n : Int) : (s.fits n).l = s.l ∧ (s.fits n).k = s.k ∧ (s.fits n).es = s.es := by
  unfold fits; split; exact fail_l s 4; exact ⟨rfl, rfl, rfl⟩
end RS
end Go.Proofs.YthjljamngpddmaaGreatDoor
namespace Go.Proofs.YthjljamngpddmaaGreatDoor
open Go.RowKit

/-- Open blocks hang on each other. -/
def Chain (w : World) : Value → List Nat → Prop
  | v, [] => v = .pointer none
  | v, a :: r => ∃ q v', v = .pointer (some ⟨q, 0, none⟩) ∧ Blk w q 131 #[.int .i64 (a : Int), .int .i64 ((r.length : Int) + 1), v'] ∧ Chain w v' r

/-- At block p lies a reader that New made, and it is s. -/
def Rd (w : World) (p : Nat) (s : RS) : Prop :=
  ∃ bs inn, Blk w p 129 #[.bool true, bs, .int .i64 (s.k : Int), inn, .int .i64 s.e] ∧ Bs w bs s.l ∧ Chain w inn s.es ∧ s.ok

/-- A step that changes nothing that a reader is made of. -/
def NoRd (w : World) (S : Nat → Prop) : Prop := ∀ k, S k → ∀ cs t f, w.heap[k]? = some (.cells cs t f) → t ≠ 5 ∧ t ≠ 131 ∧ t ≠ 129

theorem Chain.kept {S : Nat → Prop} {w w' : World} (k : Kept S w w') (hs : ∀ q, S q → ∀ cs f, w.heap[q]? ≠ some (.cells cs 131 f)) : ∀ {r : List Nat} {v : Value}, Chain w v r → Chain w' v r
  | [], _, h => h
  | _ :: _, _, ⟨q, v', hv, hb, hr⟩ => ⟨q, v', hv, hb.kept k (fun x => hs q x _ _ hb), Chain.kept k hs hr⟩
theorem Rd.kept {S : Nat → Prop} {w w' : World} {p : Nat} {s : RS} (h : Rd w p s) (k : Kept S w w') (hs : NoRd w S) : Rd w' p s := by
  obtain ⟨bs, inn, hb, h1, h2, h3⟩ := h
  exact ⟨bs, inn, hb.kept k (fun x => (hs p x _ _ _ hb).2.2 rfl), h1.kept k (fun q x cs f e => (hs q x cs _ f e).1 rfl), Chain.kept k (fun q x cs f e => (hs q x cs _ f e).2.1 rfl) h2, h3⟩
theorem NoRd.of_blk {w : World} {g : Nat} {t : TypeId} {cs : Array Value} (h : Blk w g t cs) (ht : t ≠ 5 ∧ t ≠ 131 ∧ t ≠ 129) : NoRd w (Only g) := by
  intro k hk cs' t' f hb
  obtain rfl : k = g := hk
  unfold Blk at h
  rw [h] at hb
  injection hb with hb
  injection hb with _ h2
  subst h2
  exact ht
theorem NoRd.nothing (w : World) : NoRd w Nothing := fun _ h => h.elim
theorem Rd.ok {w : World} {p : Nat} {s : RS} (h : Rd w p s) : s.ok := by obtain ⟨_, _, _, _, _, h⟩ := h; exact h
theorem Rd.lt {w : World} {p : Nat} {s : RS} (h : Rd w p s) : p < w.heap.size := by obtain ⟨_, _, h, _⟩ := h; exact h.lt

/-- Behind a store into the reader's own block. -/
theorem Chain.own {w : World} {p i : Nat} {cs : Array Value} {u : Value} {v : Value} {r : List Nat} (h : Chain w v r) (hp : Blk w p 129 cs) : Chain (w.setCell ⟨p, i, none⟩ u) v r :=
  Chain.kept (Kept.own w p i u) (fun q hq cs' f e => by
    obtain rfl : q = p := hq
    unfold Blk at hp
    rw [hp] at e
    injection e with e
    injection e with _ h2
    exact absurd h2 (by decide)) h
theorem Bs.own {w : World} {p i : Nat} {cs : Array Value} {u v : Value} {l : List UInt8} (h : Bs w v l) (hp : Blk w p 129 cs) : Bs (w.setCell ⟨p, i, none⟩ u) v l :=
  h.kept (Kept.own w p i u) (NoBytes.of_blk hp (by decide))

theorem cells5 {w : World} {p : Nat} {t : TypeId} {a b c d e : Value} (h : Blk w p t #[a, b, c, d, e]) :
    (w.cell? ⟨p, 0, none⟩ = some a ∧ w.cell? ⟨p, 1, none⟩ = some b ∧ w.cell? ⟨p, 2, none⟩ = some c ∧ w.cell? ⟨p, 3, none⟩ = some d ∧ w.cell? ⟨p, 4, none⟩ = some e) ∧
    (w.frozen? ⟨p, 2, none⟩ = false ∧ w.frozen? ⟨p, 3, none⟩ = false ∧ w.frozen? ⟨p, 4, none⟩ = false) :=
  ⟨⟨h.cell 0, h.cell 1, h.cell 2, h.cell 3, h.cell 4⟩, h.free 2, h.free 3, h.free 4⟩
theorem cells3 {w : World} {p : Nat} {t : TypeId} {a b c : Value} (h : Blk w p t #[a, b, c]) :
    w.cell? ⟨p, 0, none⟩ = some a ∧ w.cell? ⟨p, 1, none⟩ = some b ∧ w.cell? ⟨p, 2, none⟩ = some c :=
  ⟨h.cell 0, h.cell 1, h.cell 2⟩

theorem rd_err (p : Nat) (s : RS) (w : World) (h : Rd w p s) :
    Calls Tryz.prog 61 #[.pointer (some ⟨p, 0, none⟩)] w fun r w' => r = .returned (.int .i64 s.e) ∧ w = w' := by
  obtain ⟨bs, inn, hb, _⟩ := h
  obtain ⟨⟨h0, -, -, -, h4⟩, -⟩ := cells5 hb
  clear hb
  go_enter Tryz.func61, Tryz.ntmps61
  go_wp2
  go_ret
  exact ⟨rfl, rfl⟩

theorem rd_left (p : Nat) (s : RS) (w : World) (h : Rd w p s) :
    Calls Tryz.prog 58 #[.pointer (some ⟨p, 0, none⟩)] w fun r w' => r = .returned (.int .i64 (s.left : Int)) ∧ ∃ n, w' = w.drewN n := by
  have hE := Lib.hid (rd_err p s w h)
  obtain ⟨bs, inn, hb, hs, hc, hk⟩ := h
  obtain ⟨⟨-, h1, h2, h3, -⟩, -⟩ := cells5 hb
  clear hb
  have hle := hk.le
  have htl := hk.top_le
  have hmx := hk.2
  obtain ⟨l, k, es, e⟩ := s
  obtain ⟨A, c, rfl, _, _⟩ := hs.form
  by_cases he : e = 0
  · subst he
    have HL : Hid (RS.left ⟨l, k, es, 0⟩ = RS.top ⟨l, k, es, 0⟩ - k) := RS.left_zero rfl
    cases es with
    | nil =>
      obtain rfl : inn = .pointer none := hc
      simp only [RS.top] at hle htl HL hmx
      clear hs hk
      go_enter Tryz.func58, Tryz.ntmps58
      go_wp2_with (go_at_call 61; refine (hE.out).mono ?_; rintro e w' ⟨rfl, rfl⟩)
      go_quiet (fail)
      go_wp2
      go_ret
      refine ⟨ret_int ?_, _, rfl⟩
      rw [HL.out]
      omega
    | cons a r =>
      obtain ⟨q, v', rfl, hq, _⟩ := hc
      obtain ⟨g0, -, -⟩ := cells3 hq
      clear hq
      simp only [RS.top] at hle htl HL hmx
      clear hs hk
      go_enter Tryz.func58, Tryz.ntmps58
      go_wp2_with (go_at_call 61; refine (hE.out).mono ?_; rintro e w' ⟨rfl, rfl⟩)
      go_quiet (fail)
      go_wp2
      go_ret
      refine ⟨ret_int ?_, _, rfl⟩
      rw [HL.out]
      omega
  · have hn : (e != 0) = true := by simpa using he
    have HL : Hid (RS.left ⟨l, k, es, e⟩ = 0) := by unfold RS.left; exact if_neg he
    clear hs hc hk
    go_enter Tryz.func58, Tryz.ntmps58
    go_wp2_with (go_at_call 61; refine (hE.out).mono ?_; rintro e w' ⟨rfl, rfl⟩)
    go_ret
    refine ⟨ret_int ?_, 0, rfl⟩
    rw [HL.out]
    rfl

/-- Behind a store of the error. -/
theorem Rd.put4 {w : World} {p : Nat} {s : RS} (h : Rd w p s) (x : Int) : Rd (w.setCell ⟨p, 4, none⟩ (.int .i64 x)) p { s with e := x } := by
  obtain ⟨bs, inn, hb, hs, hc, hk⟩ := h
  exact ⟨bs, inn, hb.put 4 _, hs.own hb, hc.own hb, hk⟩

theorem rd_fail (p : Nat) (s : RS) (x : Int) (w : World) (h : Rd w p s) :
    Calls Tryz.prog 60 #[.pointer (some ⟨p, 0, none⟩), .int .i64 x] w fun r w' => r = .returned (.tuple #[]) ∧ Rd w' p (s.fail x) ∧ Kept (Only p) w w' := by
  have hE := Lib.hid (rd_err p s w h)
  have HR := Lib.hid h
  obtain ⟨bs, inn, hb, hs, hc, hk⟩ := h
  obtain ⟨⟨-, -, -, -, h4⟩, -, -, f4⟩ := cells5 hb
  clear hb hs hc hk
  obtain ⟨l, k, es, e⟩ := s
  by_cases he : e = 0
  · subst he
    go_enter Tryz.func60, Tryz.ntmps60
    go_wp2_with (go_at_call 61; refine (hE.out).mono ?_; rintro e w' ⟨rfl, rfl⟩)
    go_end0
    exact ⟨rfl, HR.out.put4 x, Kept.own _ _ _ _⟩
  · have hn : (e == 0) = false := by simpa using he
    have HF : Hid (RS.fail ⟨l, k, es, e⟩ x = ⟨l, k, es, e⟩) := if_neg he
    go_enter Tryz.func60, Tryz.ntmps60
    go_wp2_with (go_at_call 61; refine (hE.out).mono ?_; rintro e w' ⟨rfl, rfl⟩)
    go_end0
    exact ⟨rfl, by rw [HF.out]; exact HR.out, Kept.refl _ _⟩
end Go.Proofs.YthjljamngpddmaaGreatDoor
namespace Go.Proofs.YthjljamngpddmaaGreatDoor
open Go.RowKit

theorem Rd.drewN {w : World} {p : Nat} {s : RS} (h : Rd w p s) (n : Nat) : Rd (w.drewN n) p s := h.kept (S := Nothing) ((Kept.refl _ w).drewN n) (NoRd.nothing w)

theorem rd_fits (p : Nat) (s : RS) (n : Int) (w : World) (h : Rd w p s) :
    Calls Tryz.prog 113 #[.pointer (some ⟨p, 0, none⟩), .int .i64 n] w fun r w' => r = .returned (.bool ((s.fits n).e == 0)) ∧ Rd w' p (s.fits n) ∧ Kept (Only p) w w' := by
  have HR := Lib.hid h
  clear h
  by_cases h0 : n < 0
  · have HF : Hid (s.fits n = s.fail 4) := if_pos (Or.inl h0)
    go_enter Tryz.func113, Tryz.ntmps113
    go_wp2_with fail
    refine (rd_fail p s 4 w HR.out).mono ?_
    rintro e w1 ⟨rfl, hr, hk⟩
    have HR1 := Lib.hid hr
    clear hr
    go_wp2_with fail
    refine (rd_err p _ w1 HR1.out).mono ?_
    rintro e w2 ⟨rfl, rfl⟩
    go_wp2
    go_ret
    rw [HF.out]
    exact ⟨rfl, HR1.out, hk⟩
  · go_enter Tryz.func113, Tryz.ntmps113
    go_wp2_with fail
    refine (rd_left p s w HR.out).mono ?_
    rintro e w1 ⟨rfl, m, rfl⟩
    have HR1 := Lib.hid (HR.out.drewN m)
    by_cases h1 : (s.left : Int) < n
    · have HF : Hid (s.fits n = s.fail 4) := if_pos (Or.inr h1)
      go_wp2_with fail
      refine (rd_fail p s 4 _ HR1.out).mono ?_
      rintro e w1 ⟨rfl, hr, hk⟩
      have HR2 := Lib.hid hr
      clear hr
      go_wp2_with fail
      refine (rd_err p _ w1 HR2.out).mono ?_
      rintro e w2 ⟨rfl, rfl⟩
      go_wp2
      go_ret
      rw [HF.out]
      exact ⟨rfl, HR2.out, ((Kept.refl _ w).drewN m).trans hk⟩
    · have HF : Hid (s.fits n = s) := if_neg (by omega)
      go_wp2_with fail
      refine (rd_err p _ _ HR1.out).mono ?_
      rintro e w2 ⟨rfl, rfl⟩
      go_wp2
      go_ret
      rw [HF.out]
      exact ⟨rfl, HR1.out, (Kept.refl _ w).drewN m⟩

theorem RS.fail_ne {s : RS} {x : Int} (hx : x ≠ 0) : ((s.fail x).e == 0) = false := by
  unfold RS.fail
  split
  · simpa using hx
  · next h => simpa using h

/-- Behind the stores of Skip. -/
theorem Rd.put_skip {w : World} {p : Nat} {l : List UInt8} {k a : Nat} {r : List Nat} {e : Int} (h : Rd w p ⟨l, k, a :: r, e⟩) :
    ∃ q v', (w.cell? ⟨p, 3, none⟩ = some (.pointer (some ⟨q, 0, none⟩)) ∧ w.cell? ⟨q, 0, none⟩ = some (.int .i64 (a : Int)) ∧ w.cell? ⟨q, 2, none⟩ = some v' ∧ q ≠ p) ∧
      Rd ((w.setCell ⟨p, 2, none⟩ (.int .i64 (a : Int))).setCell ⟨p, 3, none⟩ v') p ⟨l, a, r, e⟩ ∧ (∃ A, v' = .pointer A) := by
  obtain ⟨bs, inn, hb, hs, ⟨q, v', rfl, hq, hc⟩, hk⟩ := h
  obtain ⟨⟨-, -, -, h3, -⟩, -⟩ := cells5 hb
  obtain ⟨g0, -, g2⟩ := cells3 hq
  refine ⟨q, v', ⟨h3, g0, g2, hq.apart hb (by decide)⟩, ⟨bs, v', (hb.put 2 _).put 3 _, (hs.own hb).own (hb.put 2 _), (hc.own hb).own (hb.put 2 _), hk.1.2, hk.2⟩, ?_⟩
  cases r with
  | nil => exact ⟨none, hc⟩
  | cons b r => obtain ⟨q', _, e, _⟩ := hc; exact ⟨_, e⟩

end Go.Proofs.YthjljamngpddmaaGreatDoor
namespace Go.Proofs.YthjljamngpddmaaGreatDoor
open Go.RowKit

/-- Behind the box and the store of Open. -/
theorem Rd.put_open {w : World} {p : Nat} {l : List UInt8} {k : Nat} {es : List Nat} {e : Int} (h : Rd w p ⟨l, k, es, e⟩) (a : Nat) (ha : RS.ok ⟨l, k, a :: es, e⟩) :
    ∃ inn, w.cell? ⟨p, 3, none⟩ = some inn ∧ (∃ A, inn = .pointer A) ∧
      Rd ((w.setCell ⟨p, 3, none⟩ (.pointer (some ⟨w.heap.size, 0, none⟩))).alloc (.cells #[.int .i64 (a : Int), .int .i64 ((es.length : Int) + 1), inn] 131)) p ⟨l, k, a :: es, e⟩ := by
  obtain ⟨bs, inn, hb, hs, hc, hk⟩ := h
  obtain ⟨⟨-, -, -, h3, -⟩, -⟩ := cells5 hb
  refine ⟨inn, h3, ?_, ?_⟩
  · cases es with
    | nil => exact ⟨none, hc⟩
    | cons b r => obtain ⟨q', _, e, _⟩ := hc; exact ⟨_, e⟩
  · have hc1 : Chain (w.setCell ⟨p, 3, none⟩ (.pointer (some ⟨w.heap.size, 0, none⟩))) inn es := hc.own hb
    have hs1 : Bs (w.setCell ⟨p, 3, none⟩ (.pointer (some ⟨w.heap.size, 0, none⟩))) bs l := hs.own hb
    have hb1 := hb.put 3 (.pointer (some ⟨w.heap.size, 0, none⟩))
    have hz : (w.setCell ⟨p, 3, none⟩ (.pointer (some ⟨w.heap.size, 0, none⟩))).heap.size = w.heap.size := World.size_setCell _ _ _
    generalize w.setCell ⟨p, 3, none⟩ (.pointer (some ⟨w.heap.size, 0, none⟩)) = w1 at *
    have kal := (Kept.refl Nothing w1).alloc (.cells #[.int .i64 (a : Int), .int .i64 ((es.length : Int) + 1), inn] 131)
    refine ⟨bs, _, hb1.kept kal (fun x => x), hs1.kept kal (NoBytes.nothing w1), ⟨w.heap.size, inn, rfl, ?_, Chain.kept kal (fun q x => x.elim) hc1⟩, ha⟩
    rw [← hz]
    exact Blk.fresh w1 _ _

end Go.Proofs.YthjljamngpddmaaGreatDoor
namespace Go.Proofs.YthjljamngpddmaaGreatDoor
open Go.RowKit

/-- A piece of a slice of bytes. -/
theorem Bs.piece {w : World} {A : Option Addr} {n c : Nat} {l : List UInt8} (h : Bs w (.slice A n c) l) {k m : Nat} (hm : k + m ≤ n) :
    Bs w (.slice (if c = k then A else A.map (·.add k)) m (c - k)) ((l.drop k).take m) := by
  obtain ⟨A', c', hv, hc, hx, hr⟩ := h
  injection hv with h1 h2 h3
  subst h1 h2 h3
  have hlen : ((l.drop k).take m).length = m := by simp; omega
  refine ⟨_, _, by rw [hlen], by omega, by omega, fun h0 => ?_⟩
  obtain ⟨b, o, cs, f, rfl, hb, hi⟩ := hr (by omega)
  rw [if_neg (by omega)]
  have hadd : (⟨b, o, none⟩ : Addr).add k = ⟨b, o + k, none⟩ := by unfold Addr.add; split <;> simp_all
  refine ⟨b, o + k, cs, f, by simp [hadd], hb, fun i hil => ?_⟩
  rw [Nat.add_assoc, hi (k + i) (by omega)]
  congr 2
  simp only [List.getD_eq_getElem?_getD]
  rw [List.getElem?_take_of_lt (by omega), List.getElem?_drop]

/-- Behind a store of the place. -/
theorem Rd.put2 {w : World} {p : Nat} {s : RS} (h : Rd w p s) (k : Nat) (hk : RS.ok { s with k := k }) : Rd (w.setCell ⟨p, 2, none⟩ (.int .i64 (k : Int))) p { s with k := k } := by
  obtain ⟨bs, inn, hb, hs, hc, _⟩ := h
  exact ⟨bs, inn, hb.put 2 _, hs.own hb, hc.own hb, hk⟩

set_option maxHeartbeats 400000 in
theorem rd_pass (p : Nat) (s : RS) (n : Int) (w : World) (h : Rd w p s) :
    Calls Tryz.prog 102 #[.pointer (some ⟨p, 0, none⟩), .int .i64 n] w fun r w' => ∃ v, r = .returned v ∧ Bs w' v (s.got n) ∧ Rd w' p (s.pass n) ∧ Kept (Only p) w w' := by
  have HW := Lib.hid (rd_fits p s n w h)
  by_cases h0 : (s.fits n).e = 0
  · obtain ⟨e1, he, hn0, hn1⟩ := RS.fits_zero h0
    have hok := RS.pass_ok h.ok n
    have HF : Hid (s.pass n = { s with k := s.k + n.toNat }) := if_pos h0
    have HG : Hid (s.got n = (s.l.drop s.k).take n.toNat) := if_pos h0
    rw [HF.out] at hok ⊢
    rw [HG.out]
    rw [e1] at HW
    have hmx := h.ok.2
    have hle := h.ok.le
    have htl := h.ok.top_le
    rw [RS.left_zero he] at hn1
    clear h e1 h0 HF HG
    obtain ⟨l, k, es, e⟩ := s
    obtain rfl : e = 0 := he
    simp only at hmx hle hok hn1 htl ⊢
    generalize RS.top ⟨l, k, es, 0⟩ = top at *
    have HO := Lib.hid hok
    clear hok
    go_enter Tryz.func102, Tryz.ntmps102
    go_wp2_with fail
    refine HW.out.mono ?_
    rintro e w1 ⟨rfl, hr, hk⟩
    have HK := Lib.hid hk
    have hR := hr.put2 _ HO.out
    rw [show ((k + n.toNat : Nat) : Int) = (k : Int) + n from by omega] at hR
    have HR2 := Lib.hid hR
    obtain ⟨bs, inn, hb, hs, _, _⟩ := hr
    obtain ⟨⟨-, h1, h2, -, -⟩, f2, -, -⟩ := cells5 hb
    change Bs w1 bs l at hs
    obtain ⟨A, c, rfl, hc1, hc2⟩ := hs.form
    have HB := Lib.hid ((hs.piece (k := k) (m := n.toNat) (by omega)).own (i := 2) (u := .int .i64 ((k : Int) + n)) hb)
    unfold maxLen at hc2
    clear hb hs hR hk HW HO
    have hcI : (k : Int) + n ≤ c := by omega
    have hkn : (k : Int) ≤ (k : Int) + n := by omega
    go_wp2
    go_quiet (fail)
    go_wp2
    all_goals
      have hB := HB.out.kept ((Kept.refl Nothing _).drewN nq) (NoBytes.nothing _)
      first | rw [if_pos h] at hB | rw [if_neg h] at hB
      go_ret
      refine ⟨_, rfl, ?_, HR2.out.drewN nq, (HK.out.trans (Kept.own _ _ _ _)).drewN nq⟩
      show Bs _ (.slice _ (((k : Int) + n).toNat - k) _) _
      rw [show ((k : Int) + n).toNat - k = n.toNat from by omega]
      first | exact hB | (rw [show c - k = 0 from by omega] at hB; exact hB)
  · have HF : Hid (s.pass n = s.fits n) := if_neg h0
    have HG : Hid (s.got n = []) := if_neg h0
    have hn : ((s.fits n).e == 0) = false := by simpa using h0
    rw [HF.out, HG.out]
    clear HF HG h0 h
    go_enter Tryz.func102, Tryz.ntmps102
    go_wp2_with fail
    refine HW.out.mono ?_
    rintro e w1 ⟨rfl, hr, hk⟩
    have HR1 := Lib.hid hr
    clear hr
    go_wp2
    go_ret
    exact ⟨_, rfl, Bs.nil _, HR1.out, hk⟩


theorem sl_clone (v : Value) (l : List UInt8) (w : World) (h : By w v l) (hl : l.length ≤ 1099511627776) :
    Calls Tryz.prog 76 #[v] w fun r w' => ∃ v', r = .returned v' ∧ w'.ownsRow w.heap.size 5 1 v' l.length (bys l) ∧ Kept Nothing w w' := by
  obtain ⟨i0, hi, hz0, hz1, hz2⟩ := info_parts u8_info
  have hq := fun (u : World) (a : Option Addr) (n c : Nat) => Lib.run_eql_slice_nil (P := Tryz.prog) u 28 5 a n c 0 0 Tryz.underlying28
  obtain ⟨A, c, rfl, hc, hm⟩ := h.form
  have HS := Lib.hid (h.src)
  cases A with
  | none =>
    obtain rfl : l = [] := List.eq_nil_of_length_eq_zero (HS.out.2.1 rfl)
    clear h hc hm
    go_enter Tryz.func76, Tryz.ntmps76
    go_wp2
    go_ret
    exact ⟨_, rfl, World.ownsRow_nil _ _ _ _, Kept.refl _ _⟩
  | some ad =>
    clear h hc hm
    have HL : Hid (0 + l.length ≤ maxLen ∧ (0 + l.length) * 1 ≤ 140737488355328) := ⟨by unfold maxLen; omega, by omega⟩
    go_enter Tryz.func76, Tryz.ntmps76
    go_wp2_with (at_builtin; refine wpList_app _ rfl _ _ 28 rfl w.heap.size 5 i0 (.int .u8 0) 1 1 Tryz.underlying28 hi hz0 hz1 hz2 rfl (by decide) (.slice (some ⟨w.heap.size, 0, none⟩) 0 0) 0 [] rfl (World.ownsRow_made w #[] 0 (Nat.le_refl _) (by simp [maxLen]) rfl) (some ad) l.length c (bys l) rfl (HS.out.kept ((Kept.refl _ w).alloc _)) HL.out.1 HL.out.2 (by simp) ?_; intro v' w' hown hg _)
    go_ret
    refine ⟨v', rfl, ?_, ((Kept.refl _ w).alloc _).grown hg (fun k hk hlt => ?_)⟩
    · simpa using hown
    · simp only [Value.ownBlock, Option.some.injEq] at hk
      omega

theorem rd_new (v : Value) (l : List UInt8) (w : World) (h : By w v l) (hl : l.length ≤ 1099511627776) :
    Calls Tryz.prog 57 #[v] w fun r w' => ∃ p, r = .returned (.pointer (some ⟨p, 0, none⟩)) ∧ Rd w' p ⟨l, 0, [], 0⟩ ∧ Kept Nothing w w' ∧ w.heap.size ≤ p := by
  have HW := Lib.hid (sl_clone v l w h hl)
  have HL := Lib.hid hl
  clear h hl
  go_enter Tryz.func57, Tryz.ntmps57
  go_wp2_with fail
  refine HW.out.mono ?_
  rintro e w1 ⟨v', rfl, ho, hk⟩
  have HB := Lib.hid (Bs.of_own ho)
  have HK := Lib.hid hk
  obtain ⟨A, c, rfl, _, _⟩ := HB.out.form
  clear ho hk
  go_wp2
  go_ret
  refine ⟨w1.heap.size, rfl, ⟨_, _, Blk.fresh w1 _ _, HB.out.kept ((Kept.refl Nothing w1).alloc _) (NoBytes.nothing _), rfl, Nat.zero_le _, HL.out⟩, HK.out.alloc _, HK.out.size⟩
end Go.Proofs.YthjljamngpddmaaGreatDoor
