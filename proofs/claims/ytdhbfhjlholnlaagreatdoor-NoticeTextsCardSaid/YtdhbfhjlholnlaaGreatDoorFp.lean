
/-
  What the calls of package frame do: Feed.
-/
import Derived.Test.YtdhbfhjlholnlaaGreatDoorFo
import Derived.Test.YtdhbfhjlholnlaaGreatDoorFq
import Derived.Test.YtdhbfhjlholnlaaGreatDoorSj
import Derived.WalkMore
import Derived.Outline
namespace Go.Proofs.YtdhbfhjlholnlaaGreatDoor
open Go.RowKit

/-- The cells of messages: each its type, its body's slice. -/
def mcs (tl : List (Msg × Value)) : List Value := tl.flatMap fun x => [.int .u8 (x.1.1.toNat : Int), x.2]
theorem length_mcs (tl : List (Msg × Value)) : (mcs tl).length = tl.length * 2 := by
  unfold mcs
  induction tl with
  | nil => rfl
  | cons a r ih => rw [List.flatMap_cons, List.length_append, ih]; simp; omega
theorem mcs_append (a b : List (Msg × Value)) : mcs (a ++ b) = mcs a ++ mcs b := List.flatMap_append
/-- A slice whose bytes lie in a block from base on. -/
def Past (base : Nat) (v : Value) : Prop := ∀ a n c, v = .slice (some a) n c → 0 < n → base ≤ a.block
def Ms (w : World) (base : Nat) (F : Nat → Prop) (v : Value) (l : List Msg) : Prop :=
  ∃ tl : List (Msg × Value), tl.map (·.1) = l ∧ w.ownsRow base 65 2 v tl.length (mcs tl) ∧ ∀ x ∈ tl, Bs w x.2 x.1.2 ∧ Off F x.2 ∧ Past base x.2
theorem Bs.off {S : Nat → Prop} {w w' : World} {v : Value} {l : List UInt8} (h : Bs w v l) (k : Kept S w w') (hs : Off S v) : Bs w' v l := by
  obtain ⟨A, c, hv, hc, hm, hr⟩ := h
  refine ⟨A, c, hv, hc, hm, fun h0 => ?_⟩
  obtain ⟨b, o, cs, f, hA, hb, hi⟩ := hr h0
  exact ⟨b, o, cs, f, hA, (k.block b (Array.getElem?_eq_some_iff.1 hb).1 (fun x => hs ⟨b, o, none⟩ _ _ (by rw [hv, hA]) h0 x)).trans hb, hi⟩
theorem Off.own {w : World} {base : Nat} {e : TypeId} {n : Nat} {v : Value} {xs : List Value} {S : Nat → Prop} (h : w.ownsRow base e 1 v n xs) (hs : ∀ k, S k → k < base) : Off S v := fun a n' c he _ x => by
  rcases h.2 with ⟨rfl, _⟩ | ⟨g, cap, cur, rfl, hb, _⟩
  · cases he
  · injection he with he
    injection he with he
    have := hs _ x
    rw [← he] at this
    simp only at this
    omega
/-- A step that changes no row of messages. -/
def NoMs (w : World) (S : Nat → Prop) : Prop := ∀ k, S k → ∀ cs f, w.heap[k]? ≠ some (.cells cs 65 f)
theorem Ms.nil (w : World) (base : Nat) (F : Nat → Prop) : Ms w base F (.slice none 0 0) [] := ⟨[], rfl, World.ownsRow_nil _ _ _ _, fun _ h => by cases h⟩
theorem Ms.step {w w' : World} {base : Nat} {F F' : Nat → Prop} {v : Value} {l : List Msg} (h : Ms w base F v l) (k : Kept F w w') (hs : Sub w F' F) (hn : NoMs w F) : Ms w' base F' v l := by
  obtain ⟨tl, h1, h2, h3⟩ := h
  refine ⟨tl, h1, own_kept h2 k (fun g hg hF => ?_), fun x hx => ⟨(h3 x hx).1.off k (h3 x hx).2.1, (h3 x hx).2.1.sub (h3 x hx).1.by hs, (h3 x hx).2.2⟩⟩
  obtain ⟨cs, hh⟩ := own_lt h2 hg
  exact hn g hF cs _ hh
theorem Ms.old {w w' : World} {base : Nat} {F : Nat → Prop} {v : Value} {l : List Msg} (h : Ms w base F v l) (k : Kept Nothing w w') : Ms w' base F v l := by
  obtain ⟨tl, h1, h2, h3⟩ := h
  exact ⟨tl, h1, own_kept h2 k (fun g hg x => x), fun x hx => ⟨(h3 x hx).1.kept k (NoBytes.nothing _), (h3 x hx).2⟩⟩

/-- .. behind a step into blocks that its bodies are known to be off. -/
theorem Ms.step2 {w w' : World} {base : Nat} {S D D' : Nat → Prop} {v : Value} {l : List Msg} (h : Ms w base D v l) (k : Kept S w w') (hSD : ∀ g, S g → D g) (hs : Sub w D' D) (hn : NoMs w S) : Ms w' base D' v l := by
  obtain ⟨tl, h1, h2, h3⟩ := h
  refine ⟨tl, h1, own_kept h2 k (fun g hg hF => ?_), fun x hx => ⟨(h3 x hx).1.off k ((h3 x hx).2.1.mono hSD), (h3 x hx).2.1.sub (h3 x hx).1.by hs, (h3 x hx).2.2⟩⟩
  obtain ⟨cs, hh⟩ := own_lt h2 hg
  exact hn g hF cs _ hh
theorem Ms.mono {w : World} {base : Nat} {D D' : Nat → Prop} {v : Value} {l : List Msg} (h : Ms w base D v l) (hs : ∀ k, D' k → D k) : Ms w base D' v l := by
  obtain ⟨tl, h1, h2, h3⟩ := h
  exact ⟨tl, h1, h2, fun x hx => ⟨(h3 x hx).1, (h3 x hx).2.1.mono hs, (h3 x hx).2.2⟩⟩
theorem NoMs.blk {w : World} {g : Nat} {t : TypeId} {cs : Array Value} (h : Blk w g t cs) (ht : t ≠ 65) : NoMs w (Only g) := fun k hk cs' f e => by
  obtain rfl : k = g := hk
  unfold Blk at h
  rw [h] at e
  injection e with e
  injection e with _ e2
  exact ht e2
/-- Those blocks, and one more. -/
def U (F : Nat → Prop) (h : Nat) : Nat → Prop := fun k => F k ∨ k = h
theorem Sub.u {w : World} {F F' : Nat → Prop} (h : Sub w F' F) (g : Nat) : Sub w (U F' g) (U F g) := fun k hk => by
  rcases hk with hk | hk
  · rcases h k hk with x | x
    · exact .inl (.inl x)
    · exact .inr x
  · exact .inl (.inr hk)
theorem Off.empty (S : Nat → Prop) (A : Option Addr) (c : Nat) : Off S (.slice A 0 c) := fun a n c' e h0 => by
  injection e with _ e2 _
  omega
theorem New.off {w : World} {v : Value} {S : Nat → Prop} (h : New w v) (hs : ∀ k, S k → k < w.heap.size) : Off S v := fun a n c e _ x => by
  have h1 := h a n c e
  have h2 := hs _ x
  omega

theorem own_ge {w : World} {base : Nat} {e : TypeId} {size n : Nat} {v : Value} {xs : List Value} (h : w.ownsRow base e size v n xs) {g : Nat} (hg : v.ownBlock = some g) : base ≤ g := by
  rcases h.2 with ⟨rfl, _⟩ | ⟨g', cap, cur, rfl, hb, _⟩
  · simp [Value.ownBlock] at hg
  · have : g' = g := by simpa [Value.ownBlock] using hg
    omega
theorem Past.own {w : World} {base b : Nat} {e : TypeId} {n : Nat} {v : Value} {xs : List Value} (h : w.ownsRow b e 1 v n xs) (hb : base ≤ b) : Past base v := fun a n' c he _ => by
  have := own_ge h (g := a.block) (by rw [he]; rfl)
  omega
theorem By.empty_off {w : World} {v : Value} (h : By w v []) (S : Nat → Prop) : Off S v := by
  obtain ⟨A, c, rfl, _, _⟩ := h.form
  exact Off.empty S A c

/-- A slice whose bytes lie in one of these blocks. -/
def On (D : Nat → Prop) (v : Value) : Prop := ∀ a n c, v = .slice (some a) n c → 0 < n → D a.block
theorem On.empty {w : World} {v : Value} (h : By w v []) (D : Nat → Prop) : On D v := fun a n c e h0 => by
  obtain ⟨A, c', rfl, _, _⟩ := h.form
  injection e with _ e2 _
  have : ([] : List UInt8).length = 0 := rfl
  omega
theorem On.mono {D D' : Nat → Prop} {v : Value} (h : On D v) (hs : ∀ k, D k → D' k) : On D' v := fun a n c e h0 => hs _ (h a n c e h0)
/-- Behind the stores of a fault and its data. -/
def judged (w : World) (p s : Nat) (dv : Value) : World := ((w.setCell ⟨p, 2, none⟩ (.int .u8 (codeOf s))).setCell ⟨p, 3, none⟩ (.int .u8 (s : Int))).setCell ⟨p, 4, none⟩ dv
theorem judged_kept (w : World) (p s : Nat) (dv : Value) : Kept (Only p) w (judged w p s dv) := ((Kept.own w p 2 _).trans (Kept.own _ p 3 _)).trans (Kept.own _ p 4 _)
theorem cons_of {n : Nat} : ∀ {l : List Value}, l.length = n + 1 → ∃ x r, l = x :: r ∧ r.length = n
  | [], h => by simp at h
  | x :: r, h => ⟨x, r, rfl, by simpa using h⟩
theorem list70 (l : List Value) (h : l.length = 70) : ∃ x0 x1 x2 x3 x4 x5 x6 x7 x8 x9 x10 x11 x12 x13 x14 x15 x16 x17 x18 x19 x20 x21 x22 x23 x24 x25 x26 x27 x28 x29 x30 x31 x32 x33 x34 x35 x36 x37 x38 x39 x40 x41 x42 x43 x44 x45 x46 x47 x48 x49 x50 x51 x52 x53 x54 x55 x56 x57 x58 x59 x60 x61 x62 x63 x64 x65 x66 x67 x68 x69 : Value, l = [x0, x1, x2, x3, x4, x5, x6, x7, x8, x9, x10, x11, x12, x13, x14, x15, x16, x17, x18, x19, x20, x21, x22, x23, x24, x25, x26, x27, x28, x29, x30, x31, x32, x33, x34, x35, x36, x37, x38, x39, x40, x41, x42, x43, x44, x45, x46, x47, x48, x49, x50, x51, x52, x53, x54, x55, x56, x57, x58, x59, x60, x61, x62, x63, x64, x65, x66, x67, x68, x69] := by
  obtain ⟨x0, l0, e0, h0⟩ := cons_of h
  obtain ⟨x1, l1, e1, h1⟩ := cons_of h0
  obtain ⟨x2, l2, e2, h2⟩ := cons_of h1
  obtain ⟨x3, l3, e3, h3⟩ := cons_of h2
  obtain ⟨x4, l4, e4, h4⟩ := cons_of h3
  obtain ⟨x5, l5, e5, h5⟩ := cons_of h4
  obtain ⟨x6, l6, e6, h6⟩ := cons_of h5
  obtain ⟨x7, l7, e7, h7⟩ := cons_of h6
  obtain ⟨x8, l8, e8, h8⟩ := cons_of h7
  obtain ⟨x9, l9, e9, h9⟩ := cons_of h8
  obtain ⟨x10, l10, e10, h10⟩ := cons_of h9
  obtain ⟨x11, l11, e11, h11⟩ := cons_of h10
  obtain ⟨x12, l12, e12, h12⟩ := cons_of h11
  obtain ⟨x13, l13, e13, h13⟩ := cons_of h12
  obtain ⟨x14, l14, e14, h14⟩ := cons_of h13
  obtain ⟨x15, l15, e15, h15⟩ := cons_of h14
  obtain ⟨x16, l16, e16, h16⟩ := cons_of h15
  obtain ⟨x17, l17, e17, h17⟩ := cons_of h16
  obtain ⟨x18, l18, e18, h18⟩ := cons_of h17
  obtain ⟨x19, l19, e19, h19⟩ := cons_of h18
  obtain ⟨x20, l20, e20, h20⟩ := cons_of h19
  obtain ⟨x21, l21, e21, h21⟩ := cons_of h20
  obtain ⟨x22, l22, e22, h22⟩ := cons_of h21
  obtain ⟨x23, l23, e23, h23⟩ := cons_of h22
  obtain ⟨x24, l24, e24, h24⟩ := cons_of h23
  obtain ⟨x25, l25, e25, h25⟩ := cons_of h24
  obtain ⟨x26, l26, e26, h26⟩ := cons_of h25
  obtain ⟨x27, l27, e27, h27⟩ := cons_of h26
  obtain ⟨x28, l28, e28, h28⟩ := cons_of h27
  obtain ⟨x29, l29, e29, h29⟩ := cons_of h28
  obtain ⟨x30, l30, e30, h30⟩ := cons_of h29
  obtain ⟨x31, l31, e31, h31⟩ := cons_of h30
  obtain ⟨x32, l32, e32, h32⟩ := cons_of h31
  obtain ⟨x33, l33, e33, h33⟩ := cons_of h32
  obtain ⟨x34, l34, e34, h34⟩ := cons_of h33
  obtain ⟨x35, l35, e35, h35⟩ := cons_of h34
  obtain ⟨x36, l36, e36, h36⟩ := cons_of h35
  obtain ⟨x37, l37, e37, h37⟩ := cons_of h36
  obtain ⟨x38, l38, e38, h38⟩ := cons_of h37
  obtain ⟨x39, l39, e39, h39⟩ := cons_of h38
  obtain ⟨x40, l40, e40, h40⟩ := cons_of h39
  obtain ⟨x41, l41, e41, h41⟩ := cons_of h40
  obtain ⟨x42, l42, e42, h42⟩ := cons_of h41
  obtain ⟨x43, l43, e43, h43⟩ := cons_of h42
  obtain ⟨x44, l44, e44, h44⟩ := cons_of h43
  obtain ⟨x45, l45, e45, h45⟩ := cons_of h44
  obtain ⟨x46, l46, e46, h46⟩ := cons_of h45
  obtain ⟨x47, l47, e47, h47⟩ := cons_of h46
  obtain ⟨x48, l48, e48, h48⟩ := cons_of h47
  obtain ⟨x49, l49, e49, h49⟩ := cons_of h48
  obtain ⟨x50, l50, e50, h50⟩ := cons_of h49
  obtain ⟨x51, l51, e51, h51⟩ := cons_of h50
  obtain ⟨x52, l52, e52, h52⟩ := cons_of h51
  obtain ⟨x53, l53, e53, h53⟩ := cons_of h52
  obtain ⟨x54, l54, e54, h54⟩ := cons_of h53
  obtain ⟨x55, l55, e55, h55⟩ := cons_of h54
  obtain ⟨x56, l56, e56, h56⟩ := cons_of h55
  obtain ⟨x57, l57, e57, h57⟩ := cons_of h56
  obtain ⟨x58, l58, e58, h58⟩ := cons_of h57
  obtain ⟨x59, l59, e59, h59⟩ := cons_of h58
  obtain ⟨x60, l60, e60, h60⟩ := cons_of h59
  obtain ⟨x61, l61, e61, h61⟩ := cons_of h60
  obtain ⟨x62, l62, e62, h62⟩ := cons_of h61
  obtain ⟨x63, l63, e63, h63⟩ := cons_of h62
  obtain ⟨x64, l64, e64, h64⟩ := cons_of h63
  obtain ⟨x65, l65, e65, h65⟩ := cons_of h64
  obtain ⟨x66, l66, e66, h66⟩ := cons_of h65
  obtain ⟨x67, l67, e67, h67⟩ := cons_of h66
  obtain ⟨x68, l68, e68, h68⟩ := cons_of h67
  obtain ⟨x69, l69, e69, h69⟩ := cons_of h68
  have e70 := List.eq_nil_of_length_eq_zero h69
  exact ⟨x0, x1, x2, x3, x4, x5, x6, x7, x8, x9, x10, x11, x12, x13, x14, x15, x16, x17, x18, x19, x20, x21, x22, x23, x24, x25, x26, x27, x28, x29, x30, x31, x32, x33, x34, x35, x36, x37, x38, x39, x40, x41, x42, x43, x44, x45, x46, x47, x48, x49, x50, x51, x52, x53, x54, x55, x56, x57, x58, x59, x60, x61, x62, x63, x64, x65, x66, x67, x68, x69, by rw [e0, e1, e2, e3, e4, e5, e6, e7, e8, e9, e10, e11, e12, e13, e14, e15, e16, e17, e18, e19, e20, e21, e22, e23, e24, e25, e26, e27, e28, e29, e30, e31, e32, e33, e34, e35, e36, e37, e38, e39, e40, e41, e42, e43, e44, e45, e46, e47, e48, e49, e50, e51, e52, e53, e54, e55, e56, e57, e58, e59, e60, e61, e62, e63, e64, e65, e66, e67, e68, e69, e70]⟩
end Go.Proofs.YtdhbfhjlholnlaaGreatDoor
