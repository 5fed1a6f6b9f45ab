
/-
  What the calls of package scroll's reader do, each in whatever memory: by walks over their text.
-/
import Derived.Test.YtembdobkgpojfaaDoorRs
namespace Go.Proofs.YtembdobkgpojfaaDoor
open Go.RowKit

/-- Open blocks hang on each other. -/
def Chain (w : World) : Value → List Nat → Prop
  | v, [] => v = .pointer none
  | v, a :: r => ∃ q v', v = .pointer (some ⟨q, 0, none⟩) ∧ Blk w q 184 #[.int .i64 (a : Int), .int .i64 ((r.length : Int) + 1), v'] ∧ Chain w v' r

/-- At block p lies a reader that New made, and it is s. -/
def Rd (w : World) (p : Nat) (s : RS) : Prop :=
  ∃ bs inn, Blk w p 173 #[.bool true, bs, .int .i64 (s.k : Int), inn, .int .i64 s.e] ∧ Bs w bs s.l ∧ Chain w inn s.es ∧ s.ok

/-- A step that changes nothing that a reader is made of. -/
def NoRd (w : World) (S : Nat → Prop) : Prop := ∀ k, S k → ∀ cs t f, w.heap[k]? = some (.cells cs t f) → t ≠ 5 ∧ t ≠ 184 ∧ t ≠ 173

theorem Chain.kept {S : Nat → Prop} {w w' : World} (k : Kept S w w') (hs : ∀ q, S q → ∀ cs f, w.heap[q]? ≠ some (.cells cs 184 f)) : ∀ {r : List Nat} {v : Value}, Chain w v r → Chain w' v r
  | [], _, h => h
  | _ :: _, _, ⟨q, v', hv, hb, hr⟩ => ⟨q, v', hv, hb.kept k (fun x => hs q x _ _ hb), Chain.kept k hs hr⟩
theorem Rd.kept {S : Nat → Prop} {w w' : World} {p : Nat} {s : RS} (h : Rd w p s) (k : Kept S w w') (hs : NoRd w S) : Rd w' p s := by
  obtain ⟨bs, inn, hb, h1, h2, h3⟩ := h
  exact ⟨bs, inn, hb.kept k (fun x => (hs p x _ _ _ hb).2.2 rfl), h1.kept k (fun q x cs f e => (hs q x cs _ f e).1 rfl), Chain.kept k (fun q x cs f e => (hs q x cs _ f e).2.1 rfl) h2, h3⟩
theorem NoRd.of_blk {w : World} {g : Nat} {t : TypeId} {cs : Array Value} (h : Blk w g t cs) (ht : t ≠ 5 ∧ t ≠ 184 ∧ t ≠ 173) : NoRd w (Only g) := by
  intro k hk cs' t' f hb
  obtain rfl : k = g := hk
  unfold Blk at h
  rw [h] at hb
  injection hb with hb
  injection hb with _ h2
  subst h2
  exact ht
theorem NoRd.nothing (w : World) : NoRd w Nothing := fun _ h => h.elim
theorem Rd.ok {w : World} {p : Nat} {s : RS} (h : Rd w p s) : s.ok := by obtain ⟨_, _, _, _, _, h⟩ := h; exact h
theorem Rd.lt {w : World} {p : Nat} {s : RS} (h : Rd w p s) : p < w.heap.size := by obtain ⟨_, _, h, _⟩ := h; exact h.lt

/-- Behind a store into the reader's own block. -/
theorem Chain.own {w : World} {p i : Nat} {cs : Array Value} {u : Value} {v : Value} {r : List Nat} (h : Chain w v r) (hp : Blk w p 173 cs) : Chain (w.setCell ⟨p, i, none⟩ u) v r :=
  Chain.kept (Kept.own w p i u) (fun q hq cs' f e => by
    obtain rfl : q = p := hq
    unfold Blk at hp
    rw [hp] at e
    injection e with e
    injection e with _ h2
    exact absurd h2 (by decide)) h
theorem Bs.own {w : World} {p i : Nat} {cs : Array Value} {u v : Value} {l : List UInt8} (h : Bs w v l) (hp : Blk w p 173 cs) : Bs (w.setCell ⟨p, i, none⟩ u) v l :=
  h.kept (Kept.own w p i u) (NoBytes.of_blk hp (by decide))

theorem cells5 {w : World} {p : Nat} {t : TypeId} {a b c d e : Value} (h : Blk w p t #[a, b, c, d, e]) :
    (w.cell? ⟨p, 0, none⟩ = some a ∧ w.cell? ⟨p, 1, none⟩ = some b ∧ w.cell? ⟨p, 2, none⟩ = some c ∧ w.cell? ⟨p, 3, none⟩ = some d ∧ w.cell? ⟨p, 4, none⟩ = some e) ∧
    (w.frozen? ⟨p, 2, none⟩ = false ∧ w.frozen? ⟨p, 3, none⟩ = false ∧ w.frozen? ⟨p, 4, none⟩ = false) :=
  ⟨⟨h.cell 0, h.cell 1, h.cell 2, h.cell 3, h.cell 4⟩, h.free 2, h.free 3, h.free 4⟩
theorem cells3 {w : World} {p : Nat} {t : TypeId} {a b c : Value} (h : Blk w p t #[a, b, c]) :
    w.cell? ⟨p, 0, none⟩ = some a ∧ w.cell? ⟨p, 1, none⟩ = some b ∧ w.cell? ⟨p, 2, none⟩ = some c :=
  ⟨h.cell 0, h.cell 1, h.cell 2⟩

theorem rd_err (p : Nat) (s : RS) (w : World) (h : Rd w p s) :
    Calls Tryd.prog 129 #[.pointer (some ⟨p, 0, none⟩)] w fun r w' => r = .returned (.int .i64 s.e) ∧ w = w' := by
  obtain ⟨bs, inn, hb, _⟩ := h
  obtain ⟨⟨h0, -, -, -, h4⟩, -⟩ := cells5 hb
  clear hb
  go_enter Tryd.func129, Tryd.ntmps129
  go_wp2
  go_ret
  exact ⟨rfl, rfl⟩

theorem rd_left (p : Nat) (s : RS) (w : World) (h : Rd w p s) :
    Calls Tryd.prog 127 #[.pointer (some ⟨p, 0, none⟩)] w fun r w' => r = .returned (.int .i64 (s.left : Int)) ∧ ∃ n, w' = w.drewN n := by
  have hE := Lib.hid (rd_err p s w h)
  obtain ⟨bs, inn, hb, hs, hc, hk⟩ := h
  obtain ⟨⟨-, h1, h2, h3, -⟩, -⟩ := cells5 hb
  clear hb
  have hle := hk.le
  have htl := hk.top_le
  have hmx := hk.2
  obtain ⟨l, k, es, e⟩ := s
  obtain ⟨A, c, rfl, _, _⟩ := hs.form
  by_cases he : e = 0
  · subst he
    have HL : Hid (RS.left ⟨l, k, es, 0⟩ = RS.top ⟨l, k, es, 0⟩ - k) := RS.left_zero rfl
    cases es with
    | nil =>
      obtain rfl : inn = .pointer none := hc
      simp only [RS.top] at hle htl HL hmx
      clear hs hk
      go_enter Tryd.func127, Tryd.ntmps127
      go_wp2_with (go_at_call 129; refine (hE.out).mono ?_; rintro e w' ⟨rfl, rfl⟩)
      go_quiet (fail)
      go_wp2
      go_ret
      refine ⟨ret_int ?_, _, rfl⟩
      rw [HL.out]
      omega
    | cons a r =>
      obtain ⟨q, v', rfl, hq, _⟩ := hc
      obtain ⟨g0, -, -⟩ := cells3 hq
      clear hq
      simp only [RS.top] at hle htl HL hmx
      clear hs hk
      go_enter Tryd.func127, Tryd.ntmps127
      go_wp2_with (go_at_call 129; refine (hE.out).mono ?_; rintro e w' ⟨rfl, rfl⟩)
      go_quiet (fail)
      go_wp2
      go_ret
      refine ⟨ret_int ?_, _, rfl⟩
      rw [HL.out]
      omega
  · have hn : (e != 0) = true := by simpa using he
    have HL : Hid (RS.left ⟨l, k, es, e⟩ = 0) := by unfold RS.left; exact if_neg he
    clear hs hc hk
    go_enter Tryd.func127, Tryd.ntmps127
    go_wp2_with (go_at_call 129; refine (hE.out).mono ?_; rintro e w' ⟨rfl, rfl⟩)
    go_ret
    refine ⟨ret_int ?_, 0, rfl⟩
    rw [HL.out]
    rfl

/-- Behind a store of the error. -/
theorem Rd.put4 {w : World} {p : Nat} {s : RS} (h : Rd w p s) (x : Int) : Rd (w.setCell ⟨p, 4, none⟩ (.int .i64 x)) p { s with e := x } := by
  obtain ⟨bs, inn, hb, hs, hc, hk⟩ := h
  exact ⟨bs, inn, hb.put 4 _, hs.own hb, hc.own hb, hk⟩

theorem rd_fail (p : Nat) (s : RS) (x : Int) (w : World) (h : Rd w p s) :
    Calls Tryd.prog 128 #[.pointer (some ⟨p, 0, none⟩), .int .i64 x] w fun r w' => r = .returned (.tuple #[]) ∧ Rd w' p (s.fail x) ∧ Kept (Only p) w w' := by
  have hE := Lib.hid (rd_err p s w h)
  have HR := Lib.hid h
  obtain ⟨bs, inn, hb, hs, hc, hk⟩ := h
  obtain ⟨⟨-, -, -, -, h4⟩, -, -, f4⟩ := cells5 hb
  clear hb hs hc hk
  obtain ⟨l, k, es, e⟩ := s
  by_cases he : e = 0
  · subst he
    go_enter Tryd.func128, Tryd.ntmps128
    go_wp2_with (go_at_call 129; refine (hE.out).mono ?_; rintro e w' ⟨rfl, rfl⟩)
    go_end0
    exact ⟨rfl, HR.out.put4 x, Kept.own _ _ _ _⟩
  · have hn : (e == 0) = false := by simpa using he
    have HF : Hid (RS.fail ⟨l, k, es, e⟩ x = ⟨l, k, es, e⟩) := if_neg he
    go_enter Tryd.func128, Tryd.ntmps128
    go_wp2_with (go_at_call 129; refine (hE.out).mono ?_; rintro e w' ⟨rfl, rfl⟩)
    go_end0
    exact ⟨rfl, by rw [HF.out]; exact HR.out, Kept.refl _ _⟩
end Go.Proofs.YtembdobkgpojfaaDoor
