
/-
  What the calls of package scroll's reader do: pass, Take, Rest, the numbers; New.
-/
import Derived.Test.YteofbpdogmajoaaGreatDoorZa
import Derived.Deep.RegionLaw
import Derived.WalkSpells
namespace Go.Proofs.YteofbpdogmajoaaGreatDoor
open Go.RowKit

structure WS where
  l : List UInt8
  hs : List (Nat × Nat)
  e : Int

namespace WS
def note (s : WS) (x : Int) : WS := if s.e = 0 then { s with e := x } else s
def lay (s : WS) (b : List UInt8) : WS := if s.e = 0 then { s with l := s.l ++ b } else s
def hold (s : WS) (n : Int) : WS :=
  if n = 1 ∨ n = 2 then (if s.e = 0 then { s with l := s.l ++ List.replicate n.toNat 0, hs := s.hs ++ [(n.toNat, s.l.length + n.toNat)] } else s) else s.note 1
/-- The last w bytes ahead of place b tell n. -/
def tell (l : List UInt8) (b n : Nat) : Nat → List UInt8
  | 0 => l
  | i + 1 => (tell l b n i).set (b - 1 - i) (UInt8.ofNat (n / 256 ^ i))
def fill (s : WS) : WS :=
  if s.e = 0 then
    match s.hs.getLast? with
    | none => s.note 26
    | some h => if 256 ^ h.1 ≤ s.l.length - h.2 then s.note 3 else { s with l := tell s.l h.2 (s.l.length - h.2) h.1, hs := s.hs.dropLast }
  else s
def done (s : WS) : List UInt8 × Int := if s.e = 0 then (if s.hs = [] then (s.l, 0) else ([], 26)) else ([], s.e)
def ok (s : WS) : Prop := (∀ h ∈ s.hs, (h.1 = 1 ∨ h.1 = 2) ∧ h.1 ≤ h.2 ∧ h.2 ≤ s.l.length) ∧ s.l.length ≤ 1099511627776 ∧ s.hs.length ≤ 1099511627776
theorem note_ok {s : WS} (h : s.ok) (x : Int) : (s.note x).ok := by unfold note; split <;> exact h
theorem lay_ok {s : WS} (h : s.ok) {b : List UInt8} (hb : s.l.length + b.length ≤ 1099511627776) : (s.lay b).ok := by
  unfold lay
  split
  · refine ⟨fun x hx => ?_, by simpa using hb, h.2.2⟩
    have := h.1 x hx
    refine ⟨this.1, this.2.1, ?_⟩
    simp only [List.length_append]
    omega
  · exact h
theorem length_tell (l : List UInt8) (b n i : Nat) : (tell l b n i).length = l.length := by
  induction i with
  | zero => rfl
  | succ i ih => simp [tell, ih]
theorem hold_ok {s : WS} (h : s.ok) {n : Int} (hb : s.l.length + 2 ≤ 1099511627776) (hd : s.hs.length < 1099511627776) : (s.hold n).ok := by
  unfold hold
  split
  · next hn =>
    split
    · have hn' : n.toNat = 1 ∨ n.toNat = 2 := by omega
      refine ⟨fun x hx => ?_, by simp; omega, by simp; omega⟩
      rcases List.mem_append.1 hx with hx | hx
      · have := h.1 x hx
        refine ⟨this.1, this.2.1, ?_⟩
        simp only [List.length_append, List.length_replicate]
        omega
      · obtain rfl := List.mem_singleton.1 hx
        refine ⟨hn', by simp, ?_⟩
        simp
    · exact h
  · exact note_ok h _
theorem fill_ok {s : WS} (h : s.ok) : s.fill.ok := by
  unfold fill
  split
  · split
    · exact note_ok h _
    · split
      · exact note_ok h _
      · refine ⟨fun x hx => ?_, by simpa [length_tell] using h.2.1, by simp; have := h.2.2; omega⟩
        simp only [length_tell]
        exact h.1 x (List.dropLast_subset _ hx)
  · exact h
end WS

/-- The cells of holds. -/
def hcs (l : List (Nat × Nat)) : List Value := l.flatMap fun h => [.int .i64 (h.1 : Int), .int .i64 (h.2 : Int)]
theorem length_hcs (l : List (Nat × Nat)) : (hcs l).length = l.length * 2 := by
  induction l with
  | nil => rfl
  | cons a r ih => simp only [hcs, List.flatMap_cons, List.length_append, List.length_cons, List.length_nil] at ih ⊢; omega

/-- The blocks that a writer is made of. -/
def wown (p : Nat) (bv hv : Value) : Nat → Prop := fun k => k = p ∨ bv.ownBlock = some k ∨ hv.ownBlock = some k

/-- At block p lies a writer that Lay made, and it is s; it is made of the blocks F. -/
def Wr (w : World) (F : Nat → Prop) (p : Nat) (s : WS) : Prop :=
  ∃ bv hv, F = wown p bv hv ∧ Blk w p 166 #[.bool true, bv, hv, .int .i64 s.e] ∧
    w.ownsRow 0 5 1 bv s.l.length (bys s.l) ∧ w.ownsRow 0 206 2 hv s.hs.length (hcs s.hs) ∧ s.ok

/-- Blocks of F' are of F, or new. -/
def Sub (w : World) (F' F : Nat → Prop) : Prop := ∀ k, F' k → F k ∨ w.heap.size ≤ k
theorem Sub.refl (w : World) (F : Nat → Prop) : Sub w F F := fun _ h => .inl h
theorem Sub.trans {w w1 : World} {F F1 F2 : Nat → Prop} (h : Sub w F1 F) (k : Sub w1 F2 F1) (hz : w.heap.size ≤ w1.heap.size) : Sub w F2 F := fun i hi => by
  rcases k i hi with h1 | h1
  · exact h i h1
  · exact .inr (by omega)
theorem Kept.sub {w w1 w2 : World} {F F1 : Nat → Prop} (h : Kept F w w1) (hs : Sub w F1 F) (k : Kept F1 w1 w2) : Kept F w w2 :=
  h.trans_new k (fun i hi x => by rcases hs i x with y | y; exact y; omega)

theorem own_lt {w : World} {base : Nat} {e : TypeId} {size n : Nat} {v : Value} {xs : List Value} (h : w.ownsRow base e size v n xs) {g : Nat} (hg : v.ownBlock = some g) : ∃ cs, w.heap[g]? = some (.cells cs e (0, 0)) := by
  rcases h.2 with ⟨rfl, _⟩ | ⟨g', cap, cur, rfl, _, hh, _⟩
  · simp [Value.ownBlock] at hg
  · have : g' = g := by simpa [Value.ownBlock] using hg
    subst this
    exact ⟨cur, hh⟩
/-- What kinds of blocks a writer is made of. -/
theorem Wr.kinds {w : World} {F : Nat → Prop} {p : Nat} {s : WS} (h : Wr w F p s) {k : Nat} (hk : F k) : ∃ cs t, w.heap[k]? = some (.cells cs t (0, 0)) ∧ (t = 166 ∨ t = 5 ∨ t = 206) := by
  obtain ⟨bv, hv, rfl, hb, h1, h2, _⟩ := h
  rcases hk with rfl | hk | hk
  · exact ⟨_, _, hb, .inl rfl⟩
  · obtain ⟨cs, hcs⟩ := own_lt h1 hk; exact ⟨cs, _, hcs, .inr (.inl rfl)⟩
  · obtain ⟨cs, hcs⟩ := own_lt h2 hk; exact ⟨cs, _, hcs, .inr (.inr rfl)⟩
theorem Wr.lt {w : World} {F : Nat → Prop} {p : Nat} {s : WS} (h : Wr w F p s) {k : Nat} (hk : F k) : k < w.heap.size := by
  obtain ⟨cs, t, hh, _⟩ := h.kinds hk
  exact (Array.getElem?_eq_some_iff.1 hh).1
theorem Wr.ok {w : World} {F : Nat → Prop} {p : Nat} {s : WS} (h : Wr w F p s) : s.ok := by obtain ⟨_, _, _, _, _, _, h⟩ := h; exact h
theorem own_kept {S : Nat → Prop} {w w' : World} {base : Nat} {e : TypeId} {size n : Nat} {v : Value} {xs : List Value} (h : w.ownsRow base e size v n xs) (k : Kept S w w') (hs : ∀ g, v.ownBlock = some g → ¬ S g) : w'.ownsRow base e size v n xs := by
  obtain ⟨h1, h2⟩ := h
  refine ⟨h1, ?_⟩
  rcases h2 with h2 | ⟨g, cap, cur, rfl, hb, hh, r⟩
  · exact .inl h2
  · exact .inr ⟨g, cap, cur, rfl, hb, (k.block g (Array.getElem?_eq_some_iff.1 hh).1 (hs g rfl)).trans hh, r⟩
theorem Wr.kept {S F : Nat → Prop} {w w' : World} {p : Nat} {s : WS} (h : Wr w F p s) (k : Kept S w w') (hs : ∀ g, F g → ¬ S g) : Wr w' F p s := by
  obtain ⟨bv, hv, rfl, hb, h1, h2, h3⟩ := h
  exact ⟨bv, hv, rfl, hb.kept k (hs _ (.inl rfl)), own_kept h1 k (fun g hg => hs g (.inr (.inl hg))), own_kept h2 k (fun g hg => hs g (.inr (.inr hg))), h3⟩
theorem Wr.drewN {F : Nat → Prop} {w : World} {p : Nat} {s : WS} (h : Wr w F p s) (n : Nat) : Wr (w.drewN n) F p s := h.kept ((Kept.refl Nothing w).drewN n) (fun _ _ x => x)
/-- Behind a store of the error. -/
theorem Wr.put3 {F : Nat → Prop} {w : World} {p : Nat} {s : WS} (h : Wr w F p s) (x : Int) : Wr (w.setCell ⟨p, 3, none⟩ (.int .i64 x)) F p { s with e := x } ∧ Kept F w (w.setCell ⟨p, 3, none⟩ (.int .i64 x)) := by
  obtain ⟨bv, hv, rfl, hb, h1, h2, h3⟩ := h
  have k := Kept.own w p 3 (.int .i64 x)
  have nb : ∀ g, bv.ownBlock = some g → ¬ Only p g := fun g hg e => by
    obtain ⟨cs, hh⟩ := own_lt h1 hg
    exact hb.apart (t' := 5) hh (by decide) e.symm
  have nh : ∀ g, hv.ownBlock = some g → ¬ Only p g := fun g hg e => by
    obtain ⟨cs, hh⟩ := own_lt h2 hg
    exact hb.apart (t' := 206) hh (by decide) e.symm
  exact ⟨⟨bv, hv, rfl, hb.put 3 _, own_kept h1 k nb, own_kept h2 k nh, h3⟩, k.mono (fun _ e => .inl e)⟩
theorem cells4 {w : World} {p : Nat} {t : TypeId} {a b c d : Value} (h : Blk w p t #[a, b, c, d]) :
    (w.cell? ⟨p, 0, none⟩ = some a ∧ w.cell? ⟨p, 1, none⟩ = some b ∧ w.cell? ⟨p, 2, none⟩ = some c ∧ w.cell? ⟨p, 3, none⟩ = some d) ∧
    (w.frozen? ⟨p, 1, none⟩ = false ∧ w.frozen? ⟨p, 2, none⟩ = false ∧ w.frozen? ⟨p, 3, none⟩ = false) :=
  ⟨⟨h.cell 0, h.cell 1, h.cell 2, h.cell 3⟩, h.free 1, h.free 2, h.free 3⟩
theorem own_form {w : World} {base : Nat} {e : TypeId} {size n : Nat} {v : Value} {xs : List Value} (h : w.ownsRow base e size v n xs) : ∃ A c, v = .slice A n c ∧ n ≤ c ∧ c ≤ maxLen := by
  rcases h.2 with ⟨rfl, rfl⟩ | ⟨g, cap, cur, rfl, _, _, hn, hm, _⟩
  · exact ⟨none, 0, rfl, Nat.le_refl _, by simp [maxLen]⟩
  · exact ⟨_, cap, rfl, hn, hm⟩
end Go.Proofs.YteofbpdogmajoaaGreatDoor
namespace Go.Proofs.YteofbpdogmajoaaGreatDoor
open Go.RowKit

structure RS where
  l : List UInt8
  k : Nat
  es : List Nat
  e : Int

namespace RS
/-- The end of the innermost block, or of all. -/
def top (s : RS) : Nat := match s.es with | [] => s.l.length | a :: _ => a
def left (s : RS) : Nat := if s.e = 0 then s.top - s.k else 0
def fail (s : RS) (x : Int) : RS := if s.e = 0 then { s with e := x } else s
def fits (s : RS) (n : Int) : RS := if n < 0 ∨ (s.left : Int) < n then s.fail 4 else s
def pass (s : RS) (n : Int) : RS := if (s.fits n).e = 0 then { s with k := s.k + n.toNat } else s.fits n
def got (s : RS) (n : Int) : List UInt8 := if (s.fits n).e = 0 then (s.l.drop s.k).take n.toNat else []
def opened (s : RS) (n : Int) : RS := if (s.fits n).e = 0 then { s with es := (s.k + n.toNat) :: s.es } else s.fits n
def skip (s : RS) : RS := if s.es = [] then s.fail 26 else if s.e = 0 then { s with k := s.top, es := s.es.tail } else s
def close (s : RS) : RS := if s.es ≠ [] ∧ 0 < s.left then s.fail 5 else s.skip
/-- The number of bytes, the first one the highest. -/
def num (l : List UInt8) : Nat := l.foldl (fun n b => 256 * n + b.toNat) 0

def okE : Nat → List Nat → Nat → Prop
  | k, [], n => k ≤ n
  | k, a :: r, n => k ≤ a ∧ okE a r n
def ok (s : RS) : Prop := okE s.k s.es s.l.length ∧ s.l.length ≤ 1099511627776

theorem okE_le : ∀ {k : Nat} {r : List Nat} {n : Nat}, okE k r n → k ≤ n
  | _, [], _, h => h
  | _, _ :: _, _, h => Nat.le_trans h.1 (okE_le h.2)
theorem okE_mono : ∀ {k k' : Nat} {r : List Nat} {n : Nat}, okE k r n → k' ≤ k → okE k' r n
  | _, _, [], _, h, hk => Nat.le_trans hk h
  | _, _, _ :: _, _, h, hk => ⟨Nat.le_trans hk h.1, h.2⟩
theorem ok.le {s : RS} (h : s.ok) : s.k ≤ s.top := by
  obtain ⟨h, _⟩ := h
  unfold top
  cases hs : s.es with
  | nil => rw [hs] at h; exact h
  | cons a r => rw [hs] at h; exact h.1
theorem ok.top_le {s : RS} (h : s.ok) : s.top ≤ s.l.length := by
  obtain ⟨h, _⟩ := h
  unfold top
  cases hs : s.es with
  | nil => exact Nat.le_refl _
  | cons a r => rw [hs] at h; exact okE_le h.2
theorem fail_ok {s : RS} (h : s.ok) (x : Int) : (s.fail x).ok := by unfold fail; split <;> exact h
theorem fits_ok {s : RS} (h : s.ok) (n : Int) : (s.fits n).ok := by unfold fits; split; exact fail_ok h _; exact h
/-- Where it fits nothing has changed, and n is within. -/
theorem fits_zero {s : RS} {n : Int} (h : (s.fits n).e = 0) : s.fits n = s ∧ s.e = 0 ∧ 0 ≤ n ∧ n ≤ s.left := by
  unfold fits at h ⊢
  split at h
  · next hc =>
    unfold fail at h
    split at h
    · simp at h
    · next h2 => exact absurd h h2
  · next hc => rw [if_neg hc]; exact ⟨rfl, h, by omega, by omega⟩
theorem left_zero {s : RS} (h : s.e = 0) : s.left = s.top - s.k := by unfold left; rw [if_pos h]
theorem fits_pos {s : RS} {n : Int} (h0 : 0 ≤ n) (h1 : n ≤ s.left) : s.fits n = s := by
  unfold fits; rw [if_neg (by omega)]
theorem pass_ok {s : RS} (h : s.ok) (n : Int) : (s.pass n).ok := by
  unfold pass
  split
  · next hz =>
    obtain ⟨_, he, h0, h1⟩ := fits_zero hz
    have hl := h.le
    rw [left_zero he] at h1
    refine ⟨?_, h.2⟩
    have h2 := h.1
    show okE (s.k + n.toNat) s.es s.l.length
    unfold top at h1 hl
    cases hs : s.es with
    | nil => rw [hs] at h1 hl; simp only at h1 hl; show _ ≤ _; omega
    | cons a r => rw [hs] at h1 hl h2; simp only at h1 hl; exact ⟨by omega, h2.2⟩
  · exact fits_ok h n
theorem opened_ok {s : RS} (h : s.ok) (n : Int) : (s.opened n).ok := by
  unfold opened
  split
  · next hz =>
    obtain ⟨_, he, h0, h1⟩ := fits_zero hz
    have hl := h.le
    rw [left_zero he] at h1
    refine ⟨⟨Nat.le_add_right _ _, ?_⟩, h.2⟩
    have h2 := h.1
    show okE (s.k + n.toNat) s.es s.l.length
    unfold top at h1 hl
    cases hs : s.es with
    | nil => rw [hs] at h1 hl; simp only at h1 hl; show _ ≤ _; omega
    | cons a r => rw [hs] at h1 hl h2; simp only at h1 hl; exact ⟨by omega, h2.2⟩
  · exact fits_ok h n
theorem skip_ok {s : RS} (h : s.ok) : s.skip.ok := by
  unfold skip
  split
  · exact fail_ok h _
  · next hne =>
    split
    · refine ⟨?_, h.2⟩
      have h2 := h.1
      show okE s.top s.es.tail s.l.length
      unfold top
      cases hs : s.es with
      | nil => exact absurd hs hne
      | cons a r => rw [hs] at h2; exact h2.2
    · exact h
theorem close_ok {s : RS} (h : s.ok) : s.close.ok := by
  unfold close; split; exact fail_ok h _; exact skip_ok h
theorem fail_l (s : RS) (x : Int) : (s.fail x).l = s.l ∧ (s.fail x).k = s.k ∧ (s.fail x).es = s.es := by unfold fail; split <;> exact ⟨rfl, rfl, rfl⟩
theorem fits_l (s : RS) (n : Int) : (s.fits n).l = s.l ∧ (s.fits n).k = s.k ∧ (s.fits n).es = s.es := by
  unfold fits; split; exact fail_l s 4; exact ⟨rfl, rfl, rfl⟩
end RS
end Go.Proofs.YteofbpdogmajoaaGreatDoor
namespace Go.Proofs.YteofbpdogmajoaaGreatDoor
open Go.RowKit

/-- Open blocks hang on each other. -/
def Chain (w : World) : Value → List Nat → Prop
  | v, [] => v = .pointer none
  | v, a :: r => ∃ q v', v = .pointer (some ⟨q, 0, none⟩) ∧ Blk w q 141 #[.int .i64 (a : Int), .int .i64 ((r.length : Int) + 1), v'] ∧ Chain w v' r

/-- At block p lies a reader that New made, and it is s. -/
def Rd (w : World) (p : Nat) (s : RS) : Prop :=
  ∃ bs inn, Blk w p 132 #[.bool true, bs, .int .i64 (s.k : Int), inn, .int .i64 s.e] ∧ Bs w bs s.l ∧ Chain w inn s.es ∧ s.ok

/-- A step that changes nothing that a reader is made of. -/
def NoRd (w : World) (S : Nat → Prop) : Prop := ∀ k, S k → ∀ cs t f, w.heap[k]? = some (.cells cs t f) → t ≠ 5 ∧ t ≠ 141 ∧ t ≠ 132

theorem Chain.kept {S : Nat → Prop} {w w' : World} (k : Kept S w w') (hs : ∀ q, S q → ∀ cs f, w.heap[q]? ≠ some (.cells cs 141 f)) : ∀ {r : List Nat} {v : Value}, Chain w v r → Chain w' v r
  | [], _, h => h
  | _ :: _, _, ⟨q, v', hv, hb, hr⟩ => ⟨q, v', hv, hb.kept k (fun x => hs q x _ _ hb), Chain.kept k hs hr⟩
theorem Rd.kept {S : Nat → Prop} {w w' : World} {p : Nat} {s : RS} (h : Rd w p s) (k : Kept S w w') (hs : NoRd w S) : Rd w' p s := by
  obtain ⟨bs, inn, hb, h1, h2, h3⟩ := h
  exact ⟨bs, inn, hb.kept k (fun x => (hs p x _ _ _ hb).2.2 rfl), h1.kept k (fun q x cs f e => (hs q x cs _ f e).1 rfl), Chain.kept k (fun q x cs f e => (hs q x cs _ f e).2.1 rfl) h2, h3⟩
theorem NoRd.of_blk {w : World} {g : Nat} {t : TypeId} {cs : Array Value} (h : Blk w g t cs) (ht : t ≠ 5 ∧ t ≠ 141 ∧ t ≠ 132) : NoRd w (Only g) := by
  intro k hk cs' t' f hb
  obtain rfl : k = g := hk
  unfold Blk at h
  rw [h] at hb
  injection hb with hb
  injection hb with _ h2
  subst h2
  exact ht
theorem NoRd.nothing (w : World) : NoRd w Nothing := fun _ h => h.elim
theorem Rd.ok {w : World} {p : Nat} {s : RS} (h : Rd w p s) : s.ok := by obtain ⟨_, _, _, _, _, h⟩ := h; exact h
theorem Rd.lt {w : World} {p : Nat} {s : RS} (h : Rd w p s) : p < w.heap.size := by obtain ⟨_, _, h, _⟩ := h; exact h.lt

/-- Behind a store into the reader's own block. -/
theorem Chain.own {w : World} {p i : Nat} {cs : Array Value} {u : Value} {v : Value} {r : List Nat} (h : Chain w v r) (hp : Blk w p 132 cs) : Chain (w.setCell ⟨p, i, none⟩ u) v r :=
  Chain.kept (Kept.own w p i u) (fun q hq cs' f e => by
    obtain rfl : q = p := hq
    unfold Blk at hp
    rw [hp] at e
    injection e with e
    injection e with _ h2
    exact absurd h2 (by decide)) h
theorem Bs.own {w : World} {p i : Nat} {cs : Array Value} {u v : Value} {l : List UInt8} (h : Bs w v l) (hp : Blk w p 132 cs) : Bs (w.setCell ⟨p, i, none⟩ u) v l :=
  h.kept (Kept.own w p i u) (NoBytes.of_blk hp (by decide))

theorem cells5 {w : World} {p : Nat} {t : TypeId} {a b c d e : Value} (h : Blk w p t #[a, b, c, d, e]) :
    (w.cell? ⟨p, 0, none⟩ = some a ∧ w.cell? ⟨p, 1, none⟩ = some b ∧ w.cell? ⟨p, 2, none⟩ = some c ∧ w.cell? ⟨p, 3, none⟩ = some d ∧ w.cell? ⟨p, 4, none⟩ = some e) ∧
    (w.frozen? ⟨p, 2, none⟩ = false ∧ w.frozen? ⟨p, 3, none⟩ = false ∧ w.frozen? ⟨p, 4, none⟩ = false) :=
  ⟨⟨h.cell 0, h.cell 1, h.cell 2, h.cell 3, h.cell 4⟩, h.free 2, h.free 3, h.free 4⟩
theorem cells3 {w : World} {p : Nat} {t : TypeId} {a b c : Value} (h : Blk w p t #[a, b, c]) :
    w.cell? ⟨p, 0, none⟩ = some a ∧ w.cell? ⟨p, 1, none⟩ = some b ∧ w.cell? ⟨p, 2, none⟩ = some c :=
  ⟨h.cell 0, h.cell 1, h.cell 2⟩

theorem rd_err (p : Nat) (s : RS) (w : World) (h : Rd w p s) :
    Calls Tryz.prog 27 #[.pointer (some ⟨p, 0, none⟩)] w fun r w' => r = .returned (.int .i64 s.e) ∧ w = w' := by
  obtain ⟨bs, inn, hb, _⟩ := h
  obtain ⟨⟨h0, -, -, -, h4⟩, -⟩ := cells5 hb
  clear hb
  go_enter Tryz.func27, Tryz.ntmps27
  go_wp2
  go_ret
  exact ⟨rfl, rfl⟩

theorem rd_at (p : Nat) (s : RS) (w : World) (h : Rd w p s) :
    Calls Tryz.prog 25 #[.pointer (some ⟨p, 0, none⟩)] w fun r w' => r = .returned (.int .i64 (s.k : Int)) ∧ w = w' := by
  obtain ⟨bs, inn, hb, _⟩ := h
  obtain ⟨⟨-, -, h2, -, -⟩, -⟩ := cells5 hb
  clear hb
  go_enter Tryz.func25, Tryz.ntmps25
  go_wp2
  go_ret
  exact ⟨rfl, rfl⟩

theorem rd_left (p : Nat) (s : RS) (w : World) (h : Rd w p s) :
    Calls Tryz.prog 24 #[.pointer (some ⟨p, 0, none⟩)] w fun r w' => r = .returned (.int .i64 (s.left : Int)) ∧ ∃ n, w' = w.drewN n := by
  have hE := Lib.hid (rd_err p s w h)
  obtain ⟨bs, inn, hb, hs, hc, hk⟩ := h
  obtain ⟨⟨-, h1, h2, h3, -⟩, -⟩ := cells5 hb
  clear hb
  have hle := hk.le
  have htl := hk.top_le
  have hmx := hk.2
  obtain ⟨l, k, es, e⟩ := s
  obtain ⟨A, c, rfl, _, _⟩ := hs.form
  by_cases he : e = 0
  · subst he
    have HL : Hid (RS.left ⟨l, k, es, 0⟩ = RS.top ⟨l, k, es, 0⟩ - k) := RS.left_zero rfl
    cases es with
    | nil =>
      obtain rfl : inn = .pointer none := hc
      simp only [RS.top] at hle htl HL hmx
      clear hs hk
      go_enter Tryz.func24, Tryz.ntmps24
      go_wp2_with (go_at_call 27; refine (hE.out).mono ?_; rintro e w' ⟨rfl, rfl⟩)
      go_quiet (fail)
      go_wp2
      go_ret
      refine ⟨ret_int ?_, _, rfl⟩
      rw [HL.out]
      omega
    | cons a r =>
      obtain ⟨q, v', rfl, hq, _⟩ := hc
      obtain ⟨g0, -, -⟩ := cells3 hq
      clear hq
      simp only [RS.top] at hle htl HL hmx
      clear hs hk
      go_enter Tryz.func24, Tryz.ntmps24
      go_wp2_with (go_at_call 27; refine (hE.out).mono ?_; rintro e w' ⟨rfl, rfl⟩)
      go_quiet (fail)
      go_wp2
      go_ret
      refine ⟨ret_int ?_, _, rfl⟩
      rw [HL.out]
      omega
  · have hn : (e != 0) = true := by simpa using he
    have HL : Hid (RS.left ⟨l, k, es, e⟩ = 0) := by unfold RS.left; exact if_neg he
    clear hs hc hk
    go_enter Tryz.func24, Tryz.ntmps24
    go_wp2_with (go_at_call 27; refine (hE.out).mono ?_; rintro e w' ⟨rfl, rfl⟩)
    go_ret
    refine ⟨ret_int ?_, 0, rfl⟩
    rw [HL.out]
    rfl

/-- Behind a store of the error. -/
theorem Rd.put4 {w : World} {p : Nat} {s : RS} (h : Rd w p s) (x : Int) : Rd (w.setCell ⟨p, 4, none⟩ (.int .i64 x)) p { s with e := x } := by
  obtain ⟨bs, inn, hb, hs, hc, hk⟩ := h
  exact ⟨bs, inn, hb.put 4 _, hs.own hb, hc.own hb, hk⟩

theorem rd_fail (p : Nat) (s : RS) (x : Int) (w : World) (h : Rd w p s) :
    Calls Tryz.prog 121 #[.pointer (some ⟨p, 0, none⟩), .int .i64 x] w fun r w' => r = .returned (.tuple #[]) ∧ Rd w' p (s.fail x) ∧ Kept (Only p) w w' := by
  have hE := Lib.hid (rd_err p s w h)
  have HR := Lib.hid h
  obtain ⟨bs, inn, hb, hs, hc, hk⟩ := h
  obtain ⟨⟨-, -, -, -, h4⟩, -, -, f4⟩ := cells5 hb
  clear hb hs hc hk
  obtain ⟨l, k, es, e⟩ := s
  by_cases he : e = 0
  · subst he
    go_enter Tryz.func121, Tryz.ntmps121
    go_wp2_with (go_at_call 27; refine (hE.out).mono ?_; rintro e w' ⟨rfl, rfl⟩)
    go_end0
    exact ⟨rfl, HR.out.put4 x, Kept.own _ _ _ _⟩
  · have hn : (e == 0) = false := by simpa using he
    have HF : Hid (RS.fail ⟨l, k, es, e⟩ x = ⟨l, k, es, e⟩) := if_neg he
    go_enter Tryz.func121, Tryz.ntmps121
    go_wp2_with (go_at_call 27; refine (hE.out).mono ?_; rintro e w' ⟨rfl, rfl⟩)
    go_end0
    exact ⟨rfl, by rw [HF.out]; exact HR.out, Kept.refl _ _⟩
end Go.Proofs.YteofbpdogmajoaaGreatDoor
namespace Go.Proofs.YteofbpdogmajoaaGreatDoor
open Go.RowKit

theorem Rd.drewN {w : World} {p : Nat} {s : RS} (h : Rd w p s) (n : Nat) : Rd (w.drewN n) p s := h.kept (S := Nothing) ((Kept.refl _ w).drewN n) (NoRd.nothing w)

theorem rd_fits (p : Nat) (s : RS) (n : Int) (w : World) (h : Rd w p s) :
    Calls Tryz.prog 153 #[.pointer (some ⟨p, 0, none⟩), .int .i64 n] w fun r w' => r = .returned (.bool ((s.fits n).e == 0)) ∧ Rd w' p (s.fits n) ∧ Kept (Only p) w w' := by
  have HR := Lib.hid h
  clear h
  by_cases h0 : n < 0
  · have HF : Hid (s.fits n = s.fail 4) := if_pos (Or.inl h0)
    go_enter Tryz.func153, Tryz.ntmps153
    go_wp2_with fail
    refine (rd_fail p s 4 w HR.out).mono ?_
    rintro e w1 ⟨rfl, hr, hk⟩
    have HR1 := Lib.hid hr
    clear hr
    go_wp2_with fail
    refine (rd_err p _ w1 HR1.out).mono ?_
    rintro e w2 ⟨rfl, rfl⟩
    go_wp2
    go_ret
    rw [HF.out]
    exact ⟨rfl, HR1.out, hk⟩
  · go_enter Tryz.func153, Tryz.ntmps153
    go_wp2_with fail
    refine (rd_left p s w HR.out).mono ?_
    rintro e w1 ⟨rfl, m, rfl⟩
    have HR1 := Lib.hid (HR.out.drewN m)
    by_cases h1 : (s.left : Int) < n
    · have HF : Hid (s.fits n = s.fail 4) := if_pos (Or.inr h1)
      go_wp2_with fail
      refine (rd_fail p s 4 _ HR1.out).mono ?_
      rintro e w1 ⟨rfl, hr, hk⟩
      have HR2 := Lib.hid hr
      clear hr
      go_wp2_with fail
      refine (rd_err p _ w1 HR2.out).mono ?_
      rintro e w2 ⟨rfl, rfl⟩
      go_wp2
      go_ret
      rw [HF.out]
      exact ⟨rfl, HR2.out, ((Kept.refl _ w).drewN m).trans hk⟩
    · have HF : Hid (s.fits n = s) := if_neg (by omega)
      go_wp2_with fail
      refine (rd_err p _ _ HR1.out).mono ?_
      rintro e w2 ⟨rfl, rfl⟩
      go_wp2
      go_ret
      rw [HF.out]
      exact ⟨rfl, HR1.out, (Kept.refl _ w).drewN m⟩

theorem RS.fail_ne {s : RS} {x : Int} (hx : x ≠ 0) : ((s.fail x).e == 0) = false := by
  unfold RS.fail
  split
  · simpa using hx
  · next h => simpa using h

/-- Behind the stores of Skip. -/
theorem Rd.put_skip {w : World} {p : Nat} {l : List UInt8} {k a : Nat} {r : List Nat} {e : Int} (h : Rd w p ⟨l, k, a :: r, e⟩) :
    ∃ q v', (w.cell? ⟨p, 3, none⟩ = some (.pointer (some ⟨q, 0, none⟩)) ∧ w.cell? ⟨q, 0, none⟩ = some (.int .i64 (a : Int)) ∧ w.cell? ⟨q, 2, none⟩ = some v' ∧ q ≠ p) ∧
      Rd ((w.setCell ⟨p, 2, none⟩ (.int .i64 (a : Int))).setCell ⟨p, 3, none⟩ v') p ⟨l, a, r, e⟩ ∧ (∃ A, v' = .pointer A) := by
  obtain ⟨bs, inn, hb, hs, ⟨q, v', rfl, hq, hc⟩, hk⟩ := h
  obtain ⟨⟨-, -, -, h3, -⟩, -⟩ := cells5 hb
  obtain ⟨g0, -, g2⟩ := cells3 hq
  refine ⟨q, v', ⟨h3, g0, g2, hq.apart hb (by decide)⟩, ⟨bs, v', (hb.put 2 _).put 3 _, (hs.own hb).own (hb.put 2 _), (hc.own hb).own (hb.put 2 _), hk.1.2, hk.2⟩, ?_⟩
  cases r with
  | nil => exact ⟨none, hc⟩
  | cons b r => obtain ⟨q', _, e, _⟩ := hc; exact ⟨_, e⟩

end Go.Proofs.YteofbpdogmajoaaGreatDoor
namespace Go.Proofs.YteofbpdogmajoaaGreatDoor
open Go.RowKit

/-- Behind the box and the store of Open. -/
theorem Rd.put_open {w : World} {p : Nat} {l : List UInt8} {k : Nat} {es : List Nat} {e : Int} (h : Rd w p ⟨l, k, es, e⟩) (a : Nat) (ha : RS.ok ⟨l, k, a :: es, e⟩) :
    ∃ inn, w.cell? ⟨p, 3, none⟩ = some inn ∧ (∃ A, inn = .pointer A) ∧
      Rd ((w.setCell ⟨p, 3, none⟩ (.pointer (some ⟨w.heap.size, 0, none⟩))).alloc (.cells #[.int .i64 (a : Int), .int .i64 ((es.length : Int) + 1), inn] 141)) p ⟨l, k, a :: es, e⟩ := by
  obtain ⟨bs, inn, hb, hs, hc, hk⟩ := h
  obtain ⟨⟨-, -, -, h3, -⟩, -⟩ := cells5 hb
  refine ⟨inn, h3, ?_, ?_⟩
  · cases es with
    | nil => exact ⟨none, hc⟩
    | cons b r => obtain ⟨q', _, e, _⟩ := hc; exact ⟨_, e⟩
  · have hc1 : Chain (w.setCell ⟨p, 3, none⟩ (.pointer (some ⟨w.heap.size, 0, none⟩))) inn es := hc.own hb
    have hs1 : Bs (w.setCell ⟨p, 3, none⟩ (.pointer (some ⟨w.heap.size, 0, none⟩))) bs l := hs.own hb
    have hb1 := hb.put 3 (.pointer (some ⟨w.heap.size, 0, none⟩))
    have hz : (w.setCell ⟨p, 3, none⟩ (.pointer (some ⟨w.heap.size, 0, none⟩))).heap.size = w.heap.size := World.size_setCell _ _ _
    generalize w.setCell ⟨p, 3, none⟩ (.pointer (some ⟨w.heap.size, 0, none⟩)) = w1 at *
    have kal := (Kept.refl Nothing w1).alloc (.cells #[.int .i64 (a : Int), .int .i64 ((es.length : Int) + 1), inn] 141)
    refine ⟨bs, _, hb1.kept kal (fun x => x), hs1.kept kal (NoBytes.nothing w1), ⟨w.heap.size, inn, rfl, ?_, Chain.kept kal (fun q x => x.elim) hc1⟩, ha⟩
    rw [← hz]
    exact Blk.fresh w1 _ _

end Go.Proofs.YteofbpdogmajoaaGreatDoor
namespace Go.Proofs.YteofbpdogmajoaaGreatDoor
open Go.RowKit

/-- A piece of a slice of bytes. -/
theorem Bs.piece {w : World} {A : Option Addr} {n c : Nat} {l : List UInt8} (h : Bs w (.slice A n c) l) {k m : Nat} (hm : k + m ≤ n) :
    Bs w (.slice (if c = k then A else A.map (·.add k)) m (c - k)) ((l.drop k).take m) := by
  obtain ⟨A', c', hv, hc, hx, hr⟩ := h
  injection hv with h1 h2 h3
  subst h1 h2 h3
  have hlen : ((l.drop k).take m).length = m := by simp; omega
  refine ⟨_, _, by rw [hlen], by omega, by omega, fun h0 => ?_⟩
  obtain ⟨b, o, cs, f, rfl, hb, hi⟩ := hr (by omega)
  rw [if_neg (by omega)]
  have hadd : (⟨b, o, none⟩ : Addr).add k = ⟨b, o + k, none⟩ := by unfold Addr.add; split <;> simp_all
  refine ⟨b, o + k, cs, f, by simp [hadd], hb, fun i hil => ?_⟩
  rw [Nat.add_assoc, hi (k + i) (by omega)]
  congr 2
  simp only [List.getD_eq_getElem?_getD]
  rw [List.getElem?_take_of_lt (by omega), List.getElem?_drop]

/-- Behind a store of the place. -/
theorem Rd.put2 {w : World} {p : Nat} {s : RS} (h : Rd w p s) (k : Nat) (hk : RS.ok { s with k := k }) : Rd (w.setCell ⟨p, 2, none⟩ (.int .i64 (k : Int))) p { s with k := k } := by
  obtain ⟨bs, inn, hb, hs, hc, _⟩ := h
  exact ⟨bs, inn, hb.put 2 _, hs.own hb, hc.own hb, hk⟩

set_option maxHeartbeats 400000 in
theorem rd_pass (p : Nat) (s : RS) (n : Int) (w : World) (h : Rd w p s) :
    Calls Tryz.prog 126 #[.pointer (some ⟨p, 0, none⟩), .int .i64 n] w fun r w' => ∃ v, r = .returned v ∧ Bs w' v (s.got n) ∧ Rd w' p (s.pass n) ∧ Kept (Only p) w w' := by
  have HW := Lib.hid (rd_fits p s n w h)
  by_cases h0 : (s.fits n).e = 0
  · obtain ⟨e1, he, hn0, hn1⟩ := RS.fits_zero h0
    have hok := RS.pass_ok h.ok n
    have HF : Hid (s.pass n = { s with k := s.k + n.toNat }) := if_pos h0
    have HG : Hid (s.got n = (s.l.drop s.k).take n.toNat) := if_pos h0
    rw [HF.out] at hok ⊢
    rw [HG.out]
    rw [e1] at HW
    have hmx := h.ok.2
    have hle := h.ok.le
    have htl := h.ok.top_le
    rw [RS.left_zero he] at hn1
    clear h e1 h0 HF HG
    obtain ⟨l, k, es, e⟩ := s
    obtain rfl : e = 0 := he
    simp only at hmx hle hok hn1 htl ⊢
    generalize RS.top ⟨l, k, es, 0⟩ = top at *
    have HO := Lib.hid hok
    clear hok
    go_enter Tryz.func126, Tryz.ntmps126
    go_wp2_with fail
    refine HW.out.mono ?_
    rintro e w1 ⟨rfl, hr, hk⟩
    have HK := Lib.hid hk
    have hR := hr.put2 _ HO.out
    rw [show ((k + n.toNat : Nat) : Int) = (k : Int) + n from by omega] at hR
    have HR2 := Lib.hid hR
    obtain ⟨bs, inn, hb, hs, _, _⟩ := hr
    obtain ⟨⟨-, h1, h2, -, -⟩, f2, -, -⟩ := cells5 hb
    change Bs w1 bs l at hs
    obtain ⟨A, c, rfl, hc1, hc2⟩ := hs.form
    have HB := Lib.hid ((hs.piece (k := k) (m := n.toNat) (by omega)).own (i := 2) (u := .int .i64 ((k : Int) + n)) hb)
    unfold maxLen at hc2
    clear hb hs hR hk HW HO
    have hcI : (k : Int) + n ≤ c := by omega
    have hkn : (k : Int) ≤ (k : Int) + n := by omega
    go_wp2
    go_quiet (fail)
    go_wp2
    all_goals
      have hB := HB.out.kept ((Kept.refl Nothing _).drewN nq) (NoBytes.nothing _)
      first | rw [if_pos h] at hB | rw [if_neg h] at hB
      go_ret
      refine ⟨_, rfl, ?_, HR2.out.drewN nq, (HK.out.trans (Kept.own _ _ _ _)).drewN nq⟩
      show Bs _ (.slice _ (((k : Int) + n).toNat - k) _) _
      rw [show ((k : Int) + n).toNat - k = n.toNat from by omega]
      first | exact hB | (rw [show c - k = 0 from by omega] at hB; exact hB)
  · have HF : Hid (s.pass n = s.fits n) := if_neg h0
    have HG : Hid (s.got n = []) := if_neg h0
    have hn : ((s.fits n).e == 0) = false := by simpa using h0
    rw [HF.out, HG.out]
    clear HF HG h0 h
    go_enter Tryz.func126, Tryz.ntmps126
    go_wp2_with fail
    refine HW.out.mono ?_
    rintro e w1 ⟨rfl, hr, hk⟩
    have HR1 := Lib.hid hr
    clear hr
    go_wp2
    go_ret
    exact ⟨_, rfl, Bs.nil _, HR1.out, hk⟩


theorem sl_clone (v : Value) (l : List UInt8) (w : World) (h : By w v l) (hl : l.length ≤ 1099511627776) :
    Calls Tryz.prog 69 #[v] w fun r w' => ∃ v', r = .returned v' ∧ w'.ownsRow w.heap.size 5 1 v' l.length (bys l) ∧ Kept Nothing w w' := by
  obtain ⟨i0, hi, hz0, hz1, hz2⟩ := info_parts u8_info
  have hq := fun (u : World) (a : Option Addr) (n c : Nat) => Lib.run_eql_slice_nil (P := Tryz.prog) u 22 5 a n c 0 0 Tryz.underlying22
  obtain ⟨A, c, rfl, hc, hm⟩ := h.form
  have HS := Lib.hid (h.src)
  cases A with
  | none =>
    obtain rfl : l = [] := List.eq_nil_of_length_eq_zero (HS.out.2.1 rfl)
    clear h hc hm
    go_enter Tryz.func69, Tryz.ntmps69
    go_wp2
    go_ret
    exact ⟨_, rfl, World.ownsRow_nil _ _ _ _, Kept.refl _ _⟩
  | some ad =>
    clear h hc hm
    have HL : Hid (0 + l.length ≤ maxLen ∧ (0 + l.length) * 1 ≤ 140737488355328) := ⟨by unfold maxLen; omega, by omega⟩
    go_enter Tryz.func69, Tryz.ntmps69
    go_wp2_with (at_builtin; refine wpList_app _ rfl _ _ 22 rfl w.heap.size 5 i0 (.int .u8 0) 1 1 Tryz.underlying22 hi hz0 hz1 hz2 rfl (by decide) (.slice (some ⟨w.heap.size, 0, none⟩) 0 0) 0 [] rfl (World.ownsRow_made w #[] 0 (Nat.le_refl _) (by simp [maxLen]) rfl) (some ad) l.length c (bys l) rfl (HS.out.kept ((Kept.refl _ w).alloc _)) HL.out.1 HL.out.2 (by simp) ?_; intro v' w' hown hg _)
    go_ret
    refine ⟨v', rfl, ?_, ((Kept.refl _ w).alloc _).grown hg (fun k hk hlt => ?_)⟩
    · simpa using hown
    · simp only [Value.ownBlock, Option.some.injEq] at hk
      omega

theorem rd_take (p : Nat) (s : RS) (n : Int) (w : World) (h : Rd w p s) :
    Calls Tryz.prog 87 #[.pointer (some ⟨p, 0, none⟩), .int .i64 n] w fun r w' => ∃ v, r = .returned v ∧ Bs w' v (s.got n) ∧ Rd w' p (s.pass n) ∧ Kept (Only p) w w' := by
  have hlen : (s.got n).length ≤ 1099511627776 := by
    have := h.ok.2
    unfold RS.got
    split <;> simp
    omega
  have HL := Lib.hid hlen
  have HW := Lib.hid (rd_pass p s n w h)
  clear h hlen
  go_enter Tryz.func87, Tryz.ntmps87
  go_wp2_with fail
  refine HW.out.mono ?_
  rintro e w1 ⟨v, rfl, hb, hr, hk⟩
  have HC := Lib.hid (sl_clone v _ w1 hb.by HL.out)
  have HR := Lib.hid hr
  have HK := Lib.hid hk
  clear hb hr hk
  go_wp2_with fail
  refine HC.out.mono ?_
  rintro e w2 ⟨v', rfl, ho, hk2⟩
  have HO := Lib.hid ho
  have HK2 := Lib.hid hk2
  clear ho hk2
  go_wp2
  go_ret
  exact ⟨_, rfl, Bs.of_own HO.out, HR.out.kept HK2.out (NoRd.nothing _), HK.out.trans (HK2.out.mono (fun _ x => x.elim))⟩

theorem rd_rest (p : Nat) (s : RS) (w : World) (h : Rd w p s) :
    Calls Tryz.prog 120 #[.pointer (some ⟨p, 0, none⟩)] w fun r w' => ∃ v, r = .returned v ∧ Bs w' v (s.got s.left) ∧ Rd w' p (s.pass s.left) ∧ Kept (Only p) w w' := by
  have HW := Lib.hid (rd_left p s w h)
  have HR := Lib.hid h
  clear h
  go_enter Tryz.func120, Tryz.ntmps120
  go_wp2_with fail
  refine HW.out.mono ?_
  rintro e w1 ⟨rfl, m, rfl⟩
  have HT := Lib.hid (rd_take p s s.left _ (HR.out.drewN m))
  go_wp2_with fail
  refine HT.out.mono ?_
  rintro e w1 ⟨v, rfl, hb, hr, hk⟩
  have HB := Lib.hid hb
  have HR := Lib.hid hr
  have HK := Lib.hid hk
  clear hb hr hk
  go_wp2
  go_ret
  exact ⟨_, rfl, HB.out, HR.out, ((Kept.refl _ w).drewN m).trans HK.out⟩

theorem rd_new (v : Value) (l : List UInt8) (w : World) (h : By w v l) (hl : l.length ≤ 1099511627776) :
    Calls Tryz.prog 22 #[v] w fun r w' => ∃ p, r = .returned (.pointer (some ⟨p, 0, none⟩)) ∧ Rd w' p ⟨l, 0, [], 0⟩ ∧ Kept Nothing w w' ∧ w.heap.size ≤ p := by
  have HW := Lib.hid (sl_clone v l w h hl)
  have HL := Lib.hid hl
  clear h hl
  go_enter Tryz.func22, Tryz.ntmps22
  go_wp2_with fail
  refine HW.out.mono ?_
  rintro e w1 ⟨v', rfl, ho, hk⟩
  have HB := Lib.hid (Bs.of_own ho)
  have HK := Lib.hid hk
  obtain ⟨A, c, rfl, _, _⟩ := HB.out.form
  clear ho hk
  go_wp2
  go_ret
  refine ⟨w1.heap.size, rfl, ⟨_, _, Blk.fresh w1 _ _, HB.out.kept ((Kept.refl Nothing w1).alloc _) (NoBytes.nothing _), rfl, Nat.zero_le _, HL.out⟩, HK.out.alloc _, HK.out.size⟩
end Go.Proofs.YteofbpdogmajoaaGreatDoor
