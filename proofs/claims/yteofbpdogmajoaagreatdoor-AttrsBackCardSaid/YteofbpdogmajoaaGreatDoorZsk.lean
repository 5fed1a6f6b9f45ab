
/-
  attrs: what lies in memory while Get goes on (printed by wip/gen_yw.py).
-/
import Derived.Test.YteofbpdogmajoaaGreatDoorZa
import Derived.ScopeJumps
import Derived.WalkMore
import Derived.Test.YteofbpdogmajoaaGreatDoorZyv
namespace Go.Proofs.YteofbpdogmajoaaGreatDoor
open Go.RowKit

/-- As Q; by a goto to label l: J l. -/
def jumps (J : Nat → Act → World → Prop) (Q : Exit → Act → World → Prop) : Exit → Act → World → Prop
  | .goto l, a, w => J l a w
  | e, a, w => Q e a w

section
variable {P : Program} {a : Act} {w : World} {Q : Exit → Act → World → Prop}

theorem wp_scope_labels {c : Code} (J : Nat → Act → World → Prop) (μ : Nat → Act → World → Nat)
    (first : c.wp P (jumps (fun l a w => J l a w ∧ True) Q) a w)
    (pass : ∀ l a w, J l a w → ∃ rest, findLabel c l = some rest ∧ rest.wp P (jumps (fun l' a' w' => J l' a' w' ∧ μ l' a' w' < μ l a w) Q) a w) : (Code.scope c).wp P Q a w := by
  intro b k cs
  have key : ∀ n l a w, μ l a w = n → J l a w → ∃ rest, findLabel c l = some rest ∧ ∃ e a' w', Q e a' w' ∧ Arrives P (lone (b.at a (.code rest :: .inScope c :: k)) cs w) b k cs e a' w' := by
    intro n
    induction n using Nat.strongRecOn with
    | _ n ih =>
      intro l a w hn hJ
      obtain ⟨rest, hf, hp⟩ := pass l a w hJ
      refine ⟨rest, hf, ?_⟩
      obtain ⟨e, a₁, w₁, hq, harr⟩ := hp b (.inScope c :: k) cs
      cases e with
      | normal => exact ⟨.normal, a₁, w₁, hq, Steps.trans harr (.one step_inScope)⟩
      | exit id => exact ⟨.exit id, a₁, w₁, hq, fun k' hk => harr k' (by simp [exitTo, hk])⟩
      | goto l' =>
        obtain ⟨hJ', hlt⟩ := hq
        obtain ⟨rest', hf', e₂, a₂, w₂, hq₂, harr₂⟩ := ih _ (by omega) l' a₁ w₁ rfl hJ'
        exact ⟨e₂, a₂, w₂, hq₂, .of_steps (harr _ (by simp [gotoIn, hf'])) harr₂⟩
      | ret => exact ⟨_, a₁, w₁, hq, harr⟩
      | panic ch => exact ⟨_, a₁, w₁, hq, harr⟩
      | outgrown => exact ⟨_, a₁, w₁, hq, harr⟩
  obtain ⟨e, a₁, w₁, hq, harr⟩ := first b (.inScope c :: k) cs
  cases e with
  | normal => exact ⟨.normal, a₁, w₁, hq, .head step_scope (Steps.trans harr (.one step_inScope))⟩
  | exit id => exact ⟨.exit id, a₁, w₁, hq, fun k' hk => .head step_scope (harr k' (by simp [exitTo, hk]))⟩
  | goto l' =>
    obtain ⟨rest', hf', e₂, a₂, w₂, hq₂, harr₂⟩ := key _ l' a₁ w₁ rfl hq.1
    exact ⟨e₂, a₂, w₂, hq₂, .of_steps (.head step_scope (harr _ (by simp [gotoIn, hf']))) harr₂⟩
  | ret => exact ⟨_, a₁, w₁, hq, .of_steps (.one step_scope) harr⟩
  | panic ch => exact ⟨_, a₁, w₁, hq, .of_steps (.one step_scope) harr⟩
  | outgrown => exact ⟨_, a₁, w₁, hq, .of_steps (.one step_scope) harr⟩
end
end Go.Proofs.YteofbpdogmajoaaGreatDoor
namespace Go.Proofs.YteofbpdogmajoaaGreatDoor
open Go.RowKit

section
variable {P : Program} {a : Act} {w : World} {Q : Exit → Act → World → Prop}
theorem wp_scope4 {c r0 r1 r2 r3 : Code} (J : Nat → Act → World → Prop) (μ : Nat → Act → World → Nat)
    (h0 : findLabel c 0 = some (Code.skip.seq r0)) (h1 : findLabel c 1 = some (Code.skip.seq r1)) (h2 : findLabel c 2 = some (Code.skip.seq r2)) (h3 : findLabel c 3 = some (Code.skip.seq r3)) (hJ : ∀ l a w, J l a w → l < 4)
    (pass : ∀ (J' : Nat → Act → World → Prop) (l : Nat) (r : Code) a w, J l a w → (l = 0 ∧ r = r0 ∨ l = 1 ∧ r = r1 ∨ l = 2 ∧ r = r2 ∨ l = 3 ∧ r = r3) → (∀ l' a' w', J l' a' w' → μ l' a' w' < μ l a w → J' l' a' w') → r.wp P (jumps J' Q) a w)
    (first : ∀ J' : Nat → Act → World → Prop, (∀ a w, J 1 a w → r1.wp P (jumps J' Q) a w) → c.wp P (jumps J' Q) a w) : (Code.scope c).wp P Q a w := by
  refine wp_scope_labels J μ (first _ (fun a w h => pass _ 1 r1 a w h (.inr (.inl ⟨rfl, rfl⟩)) (fun _ _ _ h _ => ⟨h, trivial⟩))) (fun l a w h => ?_)
  have hl := hJ l a w h
  obtain rfl | rfl | rfl | rfl : l = 0 ∨ l = 1 ∨ l = 2 ∨ l = 3 := by omega
  · exact ⟨_, h0, wp_seq (wp_skip (pass _ 0 r0 a w h (.inl ⟨rfl, rfl⟩) (fun _ _ _ h1 h2 => ⟨h1, h2⟩)))⟩
  · exact ⟨_, h1, wp_seq (wp_skip (pass _ 1 r1 a w h (.inr (.inl ⟨rfl, rfl⟩)) (fun _ _ _ h1 h2 => ⟨h1, h2⟩)))⟩
  · exact ⟨_, h2, wp_seq (wp_skip (pass _ 2 r2 a w h (.inr (.inr (.inl ⟨rfl, rfl⟩))) (fun _ _ _ h1 h2 => ⟨h1, h2⟩)))⟩
  · exact ⟨_, h3, wp_seq (wp_skip (pass _ 3 r3 a w h (.inr (.inr (.inr ⟨rfl, rfl⟩))) (fun _ _ _ h1 h2 => ⟨h1, h2⟩)))⟩
end
end Go.Proofs.YteofbpdogmajoaaGreatDoor
namespace Go.Proofs.YteofbpdogmajoaaGreatDoor
open Go.RowKit

theorem cons_ofG {α : Type} {n : Nat} : ∀ {l : List α} (_ : l.length = n + 1), ∃ x r, l = x :: r ∧ r.length = n
  | [], h => by simp at h
  | x :: r, h => ⟨x, r, rfl, by simpa using h⟩
theorem list87 (l : List Value) (h : l.length = 87) : ∃ x0 x1 x2 x3 x4 x5 x6 x7 x8 x9 x10 x11 x12 x13 x14 x15 x16 x17 x18 x19 x20 x21 x22 x23 x24 x25 x26 x27 x28 x29 x30 x31 x32 x33 x34 x35 x36 x37 x38 x39 x40 x41 x42 x43 x44 x45 x46 x47 x48 x49 x50 x51 x52 x53 x54 x55 x56 x57 x58 x59 x60 x61 x62 x63 x64 x65 x66 x67 x68 x69 x70 x71 x72 x73 x74 x75 x76 x77 x78 x79 x80 x81 x82 x83 x84 x85 x86 : Value, l = [x0, x1, x2, x3, x4, x5, x6, x7, x8, x9, x10, x11, x12, x13, x14, x15, x16, x17, x18, x19, x20, x21, x22, x23, x24, x25, x26, x27, x28, x29, x30, x31, x32, x33, x34, x35, x36, x37, x38, x39, x40, x41, x42, x43, x44, x45, x46, x47, x48, x49, x50, x51, x52, x53, x54, x55, x56, x57, x58, x59, x60, x61, x62, x63, x64, x65, x66, x67, x68, x69, x70, x71, x72, x73, x74, x75, x76, x77, x78, x79, x80, x81, x82, x83, x84, x85, x86] := by
  obtain ⟨x0, l0, e0, h0⟩ := cons_ofG h
  obtain ⟨x1, l1, e1, h1⟩ := cons_ofG h0
  obtain ⟨x2, l2, e2, h2⟩ := cons_ofG h1
  obtain ⟨x3, l3, e3, h3⟩ := cons_ofG h2
  obtain ⟨x4, l4, e4, h4⟩ := cons_ofG h3
  obtain ⟨x5, l5, e5, h5⟩ := cons_ofG h4
  obtain ⟨x6, l6, e6, h6⟩ := cons_ofG h5
  obtain ⟨x7, l7, e7, h7⟩ := cons_ofG h6
  obtain ⟨x8, l8, e8, h8⟩ := cons_ofG h7
  obtain ⟨x9, l9, e9, h9⟩ := cons_ofG h8
  obtain ⟨x10, l10, e10, h10⟩ := cons_ofG h9
  obtain ⟨x11, l11, e11, h11⟩ := cons_ofG h10
  obtain ⟨x12, l12, e12, h12⟩ := cons_ofG h11
  obtain ⟨x13, l13, e13, h13⟩ := cons_ofG h12
  obtain ⟨x14, l14, e14, h14⟩ := cons_ofG h13
  obtain ⟨x15, l15, e15, h15⟩ := cons_ofG h14
  obtain ⟨x16, l16, e16, h16⟩ := cons_ofG h15
  obtain ⟨x17, l17, e17, h17⟩ := cons_ofG h16
  obtain ⟨x18, l18, e18, h18⟩ := cons_ofG h17
  obtain ⟨x19, l19, e19, h19⟩ := cons_ofG h18
  obtain ⟨x20, l20, e20, h20⟩ := cons_ofG h19
  obtain ⟨x21, l21, e21, h21⟩ := cons_ofG h20
  obtain ⟨x22, l22, e22, h22⟩ := cons_ofG h21
  obtain ⟨x23, l23, e23, h23⟩ := cons_ofG h22
  obtain ⟨x24, l24, e24, h24⟩ := cons_ofG h23
  obtain ⟨x25, l25, e25, h25⟩ := cons_ofG h24
  obtain ⟨x26, l26, e26, h26⟩ := cons_ofG h25
  obtain ⟨x27, l27, e27, h27⟩ := cons_ofG h26
  obtain ⟨x28, l28, e28, h28⟩ := cons_ofG h27
  obtain ⟨x29, l29, e29, h29⟩ := cons_ofG h28
  obtain ⟨x30, l30, e30, h30⟩ := cons_ofG h29
  obtain ⟨x31, l31, e31, h31⟩ := cons_ofG h30
  obtain ⟨x32, l32, e32, h32⟩ := cons_ofG h31
  obtain ⟨x33, l33, e33, h33⟩ := cons_ofG h32
  obtain ⟨x34, l34, e34, h34⟩ := cons_ofG h33
  obtain ⟨x35, l35, e35, h35⟩ := cons_ofG h34
  obtain ⟨x36, l36, e36, h36⟩ := cons_ofG h35
  obtain ⟨x37, l37, e37, h37⟩ := cons_ofG h36
  obtain ⟨x38, l38, e38, h38⟩ := cons_ofG h37
  obtain ⟨x39, l39, e39, h39⟩ := cons_ofG h38
  obtain ⟨x40, l40, e40, h40⟩ := cons_ofG h39
  obtain ⟨x41, l41, e41, h41⟩ := cons_ofG h40
  obtain ⟨x42, l42, e42, h42⟩ := cons_ofG h41
  obtain ⟨x43, l43, e43, h43⟩ := cons_ofG h42
  obtain ⟨x44, l44, e44, h44⟩ := cons_ofG h43
  obtain ⟨x45, l45, e45, h45⟩ := cons_ofG h44
  obtain ⟨x46, l46, e46, h46⟩ := cons_ofG h45
  obtain ⟨x47, l47, e47, h47⟩ := cons_ofG h46
  obtain ⟨x48, l48, e48, h48⟩ := cons_ofG h47
  obtain ⟨x49, l49, e49, h49⟩ := cons_ofG h48
  obtain ⟨x50, l50, e50, h50⟩ := cons_ofG h49
  obtain ⟨x51, l51, e51, h51⟩ := cons_ofG h50
  obtain ⟨x52, l52, e52, h52⟩ := cons_ofG h51
  obtain ⟨x53, l53, e53, h53⟩ := cons_ofG h52
  obtain ⟨x54, l54, e54, h54⟩ := cons_ofG h53
  obtain ⟨x55, l55, e55, h55⟩ := cons_ofG h54
  obtain ⟨x56, l56, e56, h56⟩ := cons_ofG h55
  obtain ⟨x57, l57, e57, h57⟩ := cons_ofG h56
  obtain ⟨x58, l58, e58, h58⟩ := cons_ofG h57
  obtain ⟨x59, l59, e59, h59⟩ := cons_ofG h58
  obtain ⟨x60, l60, e60, h60⟩ := cons_ofG h59
  obtain ⟨x61, l61, e61, h61⟩ := cons_ofG h60
  obtain ⟨x62, l62, e62, h62⟩ := cons_ofG h61
  obtain ⟨x63, l63, e63, h63⟩ := cons_ofG h62
  obtain ⟨x64, l64, e64, h64⟩ := cons_ofG h63
  obtain ⟨x65, l65, e65, h65⟩ := cons_ofG h64
  obtain ⟨x66, l66, e66, h66⟩ := cons_ofG h65
  obtain ⟨x67, l67, e67, h67⟩ := cons_ofG h66
  obtain ⟨x68, l68, e68, h68⟩ := cons_ofG h67
  obtain ⟨x69, l69, e69, h69⟩ := cons_ofG h68
  obtain ⟨x70, l70, e70, h70⟩ := cons_ofG h69
  obtain ⟨x71, l71, e71, h71⟩ := cons_ofG h70
  obtain ⟨x72, l72, e72, h72⟩ := cons_ofG h71
  obtain ⟨x73, l73, e73, h73⟩ := cons_ofG h72
  obtain ⟨x74, l74, e74, h74⟩ := cons_ofG h73
  obtain ⟨x75, l75, e75, h75⟩ := cons_ofG h74
  obtain ⟨x76, l76, e76, h76⟩ := cons_ofG h75
  obtain ⟨x77, l77, e77, h77⟩ := cons_ofG h76
  obtain ⟨x78, l78, e78, h78⟩ := cons_ofG h77
  obtain ⟨x79, l79, e79, h79⟩ := cons_ofG h78
  obtain ⟨x80, l80, e80, h80⟩ := cons_ofG h79
  obtain ⟨x81, l81, e81, h81⟩ := cons_ofG h80
  obtain ⟨x82, l82, e82, h82⟩ := cons_ofG h81
  obtain ⟨x83, l83, e83, h83⟩ := cons_ofG h82
  obtain ⟨x84, l84, e84, h84⟩ := cons_ofG h83
  obtain ⟨x85, l85, e85, h85⟩ := cons_ofG h84
  obtain ⟨x86, l86, e86, h86⟩ := cons_ofG h85
  have e87 := List.eq_nil_of_length_eq_zero h86
  exact ⟨x0, x1, x2, x3, x4, x5, x6, x7, x8, x9, x10, x11, x12, x13, x14, x15, x16, x17, x18, x19, x20, x21, x22, x23, x24, x25, x26, x27, x28, x29, x30, x31, x32, x33, x34, x35, x36, x37, x38, x39, x40, x41, x42, x43, x44, x45, x46, x47, x48, x49, x50, x51, x52, x53, x54, x55, x56, x57, x58, x59, x60, x61, x62, x63, x64, x65, x66, x67, x68, x69, x70, x71, x72, x73, x74, x75, x76, x77, x78, x79, x80, x81, x82, x83, x84, x85, x86, by rw [e0, e1, e2, e3, e4, e5, e6, e7, e8, e9, e10, e11, e12, e13, e14, e15, e16, e17, e18, e19, e20, e21, e22, e23, e24, e25, e26, e27, e28, e29, e30, e31, e32, e33, e34, e35, e36, e37, e38, e39, e40, e41, e42, e43, e44, e45, e46, e47, e48, e49, e50, e51, e52, e53, e54, e55, e56, e57, e58, e59, e60, e61, e62, e63, e64, e65, e66, e67, e68, e69, e70, e71, e72, e73, e74, e75, e76, e77, e78, e79, e80, e81, e82, e83, e84, e85, e86, e87]⟩

/-- The types that were there, as cells. -/
def seenA (l : List UInt8) : Array Value := ((List.range 256).map fun i => Value.bool (decide (UInt8.ofNat i ∈ l))).toArray
theorem seenA_nil : Tryz.zeroCells77 = seenA [] := by kernel_rfl
theorem seenA_at (l : List UInt8) (t : UInt8) : (seenA l)[t.toNat]? = some (.bool (decide (t ∈ l))) := by
  have ht := t.toNat_lt
  unfold seenA
  rw [List.getElem?_toArray, List.getElem?_map, List.getElem?_range (by omega)]
  simp
theorem seenA_set (l : List UInt8) (t : UInt8) : (seenA l).setIfInBounds t.toNat (.bool true) = seenA (t :: l) := by
  have ht := t.toNat_lt
  unfold seenA
  refine Array.ext_getElem? (fun j => ?_)
  rw [Array.getElem?_setIfInBounds]
  by_cases hj : j < 256
  · by_cases e : t.toNat = j
    · subst e
      rw [if_pos rfl, if_pos (by simp; omega), List.getElem?_toArray, List.getElem?_map, List.getElem?_range (by omega)]
      simp
    · rw [if_neg e, List.getElem?_toArray, List.getElem?_toArray, List.getElem?_map, List.getElem?_map, List.getElem?_range hj]
      have hne : UInt8.ofNat j ≠ t := fun h => e (by rw [← h]; simp; omega)
      simp [hne]
  · rw [if_neg (by omega), List.getElem?_toArray, List.getElem?_toArray, List.getElem?_eq_none (by simp; omega), List.getElem?_eq_none (by simp; omega)]
theorem and_u8 (f m : UInt8) : bits .and .u8 (f.toNat : Int) (m.toNat : Int) = ((f &&& m).toNat : Int) := by
  have hf := f.toNat_lt
  have hm := m.toNat_lt
  show IntKind.u8.wrap ((BitVec.ofInt 8 (f.toNat : Int) &&& BitVec.ofInt 8 (m.toNat : Int)).toNat : Int) = _
  rw [BitVec.ofInt_natCast, BitVec.ofInt_natCast, BitVec.toNat_and, BitVec.toNat_ofNat, BitVec.toNat_ofNat, UInt8.toNat_and, Nat.mod_eq_of_lt hf, Nat.mod_eq_of_lt hm]
  have h : f.toNat &&& m.toNat ≤ f.toNat := Nat.and_le_left
  simp [IntKind.wrap, IntKind.bits, IntKind.signed]
  omega
def zeroC : Array Value := #[.int .u32 0, .int .u8 0, .slice none 0 0, .int .u32 0, .int .u32 0, .int .u32 0, .int .u32 0, .int .u32 0, .slice none 0 0, .slice none 0 0, .int .u32 0, .int .u32 0, .slice none 0 0]
theorem zeroC_eq : zeroC = Ax.agg Ax.zeroA (.slice none 0 0) (.slice none 0 0) (.slice none 0 0) (.slice none 0 0) := rfl
def fateC : Array Value := #[.int .i64 0, .int .u8 0, .int .u8 0, .slice none 0 0]
theorem AtO.zero (w : World) (B : Nat) : AtO w B Ax.zeroA (.slice none 0 0) (.slice none 0 0) (.slice none 0 0) (.slice none 0 0) :=
  ⟨Pown.nil _ _, ⟨World.ownsRow_nil _ _ _ _, fun _ h => by cases h⟩, Pown.nil _ _, Oown.nil _ _, by decide, by decide, by decide, by decide, by decide, by decide, by decide, by decide⟩

/-- What lies in memory between two attributes. -/
structure GM (W : World) (D : List UInt8) (four outside : Bool) (p pb pf bm k : Nat) (st : Ax.Gs) (oc : Array Value) (u : World) : Prop where
  rd : Rd u p ⟨D, k, [], 0⟩
  at_ : ∃ pv cv qv ov, Blk u (W.heap.size + 1 + 1) 33 (Ax.agg st.a pv cv qv ov) ∧ AtO u (W.heap.size + 5) st.a pv cv qv ov
  bo : Blk u (W.heap.size + 1 + 1 + 1) 73 oc
  bs : Blk u (W.heap.size + 1 + 1 + 1 + 1) 77 (seenA st.seen)
  b6 : Blk u W.heap.size 33 zeroC
  b7 : Blk u (W.heap.size + 1) 37 fateC
  bb : Blk u pb 133 #[.pointer (some ⟨W.heap.size + 1 + 1, 0, none⟩)]
  bf : Blk u pf 4 #[.bool four]
  mp : Rdm u pb pf bm four outside
  kept : Kept Nothing W u
  hp : W.heap.size + 5 ≤ p
  hpb : W.heap.size + 5 ≤ pb
  hpf : W.heap.size + 5 ≤ pf
  hbm : W.heap.size + 5 ≤ bm
  hg : 0 < W.heap.size
  small : Ax.small st.a
  dis : st.a.others.Pairwise (fun x y => x.t ≠ y.t)
  sub : ∀ o ∈ st.a.others, o.t ∈ st.seen
  len : st.a.others.length ≤ k
  cls : st.cls ≤ 2
  wtd : Wtd u
  le : k ≤ D.length
/-- What lies in memory at the end, if all is withdrawn. -/
structure GB (W u : World) : Prop where
  b6 : Blk u W.heap.size 33 zeroC
  b7 : Blk u (W.heap.size + 1) 37 fateC
  kept : Kept Nothing W u
theorem Rdm.ne {w : World} {pb pf b g : Nat} {four outside : Bool} {t : TypeId} {cs : Array Value} (h : Rdm w pb pf b four outside) (hb : Blk w g t cs) : b ≠ g := by
  obtain ⟨_, _, ⟨es, clock, hm, _⟩, _⟩ := h
  rintro rfl
  unfold Blk at hb
  rw [hm] at hb
  cases hb
theorem Rdm.nrd {w : World} {pb pf b p : Nat} {four outside : Bool} {s : RS} (h : Rdm w pb pf b four outside) (hr : Rd w p s) : b ≠ p := by
  obtain ⟨_, _, hb, _⟩ := hr
  exact h.ne hb
/-- The table lies in no reader. -/
theorem wtd_old {u : World} {p : Nat} {s : RS} (h : Wtd u) (hr : Rd u p s) : 0 ≠ p := by
  obtain ⟨t, fr, hb⟩ := h
  obtain ⟨_, _, hp, _⟩ := hr
  rintro rfl
  unfold Blk at hp
  rw [hp] at hb
  injection hb with hb
  injection hb with h1 _ _
  have := congrArg Array.size h1
  exact absurd (show (5 : Nat) = 19 from this) (by decide)
theorem wtd_ne {u : World} {g : Nat} {t : TypeId} {cs : Array Value} (h : Wtd u) (hb : Blk u g t cs) (hc : cs.size ≠ 19) : 0 ≠ g := by
  obtain ⟨t', fr, hw⟩ := h
  rintro rfl
  unfold Blk at hb
  rw [hb] at hw
  injection hw with hw
  injection hw with h1 _ _
  have := congrArg Array.size h1
  exact hc this
variable {W : World} {D : List UInt8} {four outside : Bool} {p pb pf bm k : Nat} {st : Ax.Gs} {oc : Array Value} {u u' : World}
theorem GM.gb (h : GM W D four outside p pb pf bm k st oc u) : GB W u := ⟨h.b6, h.b7, h.kept⟩
theorem GM.gbrd {s : RS} (h : GM W D four outside p pb pf bm k st oc u) (hr : Rd u p s) (kk : Kept (Only p) u u') : GB W u' := ⟨h.b6.rd hr (by decide) kk, h.b7.rd hr (by decide) kk, h.kept.rd kk (by have := h.hp; omega)⟩
theorem GM.read {k' : Nat} (h : GM W D four outside p pb pf bm k st oc u) (hr : Rd u' p ⟨D, k', [], 0⟩) (kk : Kept (Only p) u u') (hk : k ≤ k') (hk2 : k' ≤ D.length) : GM W D four outside p pb pf bm k' st oc u' := by
  obtain ⟨pv, cv, qv, ov, h1, h2⟩ := h.at_
  exact ⟨hr, ⟨pv, cv, qv, ov, h1.rd h.rd (by decide) kk, h2.off5 kk (Off5.rd h.rd)⟩, h.bo.rd h.rd (by decide) kk, h.bs.rd h.rd (by decide) kk, h.b6.rd h.rd (by decide) kk, h.b7.rd h.rd (by decide) kk, h.bb.rd h.rd (by decide) kk, h.bf.rd h.rd (by decide) kk,
    h.mp.kept kk (fun e => h.mp.nrd h.rd e), h.kept.rd kk (by have := h.hp; omega), h.hp, h.hpb, h.hpf, h.hbm, h.hg, h.small, h.dis, h.sub, Nat.le_trans h.len hk, h.cls, h.wtd.keptS kk (fun e => wtd_old h.wtd h.rd e), hk2⟩
theorem GM.old (h : GM W D four outside p pb pf bm k st oc u) (kk : Kept Nothing u u') : GM W D four outside p pb pf bm k st oc u' :=
  h.read (h.rd.kept kk (NoRd.nothing _)) (kk.mono (fun _ x => x.elim)) (Nat.le_refl _) h.le
theorem ow_low {S : Nat → Prop} {w w' : World} {B : Nat} {e : TypeId} {size n : Nat} {v : Value} {xs : List Value} (h : w.ownsRow B e size v n xs) (k : Kept S w w') (hs : ∀ g, S g → g < B) : w'.ownsRow B e size v n xs :=
  ow_kept h k (fun g hg x => by have := (ow_ge h hg).1; have := hs g x; omega)
theorem Rws.low {S : Nat → Prop} {w w' : World} {B : Nat} (k : Kept S w w') (hs : ∀ g, S g → g < B) : ∀ {xs : List Value} {l : List Seg}, Rws w B xs l → Rws w' B xs l
  | [], [], _ => trivial
  | _ :: _ :: _, _ :: _, ⟨h1, h2, h3, h4⟩ => ⟨h1, ow_low h2 k hs, h3, Rws.low k hs h4⟩
  | [], _ :: _, h => h.elim
  | [_], _, h => by unfold Rws at h; exact h.elim
  | _ :: _ :: _, [], h => by unfold Rws at h; exact h.elim
theorem Ors.low {S : Nat → Prop} {w w' : World} {B : Nat} (k : Kept S w w') (hs : ∀ g, S g → g < B) : ∀ {xs : List Value} {l : List Ot}, Ors w B xs l → Ors w' B xs l
  | [], [], _ => trivial
  | _ :: _ :: _ :: _, _ :: _, ⟨h1, h2, h3, h4⟩ => ⟨h1, h2, ow_low h3 k hs, Ors.low k hs h4⟩
  | [], _ :: _, h => h.elim
  | [_], _, h => by unfold Ors at h; exact h.elim
  | [_, _], _, h => by unfold Ors at h; exact h.elim
  | _ :: _ :: _ :: _, [], h => by unfold Ors at h; exact h.elim
theorem AtO.low {S : Nat → Prop} {w w' : World} {B : Nat} {a : At} {pv cv qv ov : Value} (h : AtO w B a pv cv qv ov) (k : Kept S w w') (hs : ∀ g, S g → g < B) : AtO w' B a pv cv qv ov := by
  obtain ⟨⟨xs, h1, h2⟩, ⟨h3, h4⟩, ⟨ys, h5, h6⟩, ⟨zs, h7, h8⟩, h9⟩ := h
  exact ⟨⟨xs, ow_low h1 k hs, h2.low k hs⟩, ⟨ow_low h3 k hs, h4⟩, ⟨ys, ow_low h5 k hs, h6.low k hs⟩, ⟨zs, ow_low h7 k hs, h8.low k hs⟩, h9⟩
theorem Ors.weak {w : World} {B B' : Nat} (hb : B' ≤ B) : ∀ {xs : List Value} {l : List Ot}, Ors w B xs l → Ors w B' xs l
  | [], [], _ => trivial
  | _ :: _ :: _ :: _, _ :: _, ⟨h1, h2, h3, h4⟩ => ⟨h1, h2, own_weakA h3 hb, Ors.weak hb h4⟩
  | [], _ :: _, h => h.elim
  | [_], _, h => by unfold Ors at h; exact h.elim
  | [_, _], _, h => by unfold Ors at h; exact h.elim
  | _ :: _ :: _ :: _, [], h => by unfold Ors at h; exact h.elim
theorem Oown.weak {w : World} {B B' : Nat} {v : Value} {l : List Ot} (h : Oown w B v l) (hb : B' ≤ B) : Oown w B' v l := by
  obtain ⟨xs, h1, h2⟩ := h
  exact ⟨xs, own_weakA h1 hb, h2.weak hb⟩
theorem AtO.weak {w : World} {B B' : Nat} {a : At} {pv cv qv ov : Value} (h : AtO w B a pv cv qv ov) (hb : B' ≤ B) : AtO w B' a pv cv qv ov :=
  ⟨h.1.weak hb, ⟨own_weakA h.2.1.1 hb, h.2.1.2⟩, h.2.2.1.weak hb, h.2.2.2.1.weak hb, h.2.2.2.2⟩
/-- What stays, while the blocks of the attributes, of the attribute that is read and of the types that were there are written. -/
theorem GM.stays {S : Nat → Prop} (h : GM W D four outside p pb pf bm k st oc u) (kk : Kept S u u') (hs : ∀ g, S g → W.heap.size + 2 ≤ g ∧ g < W.heap.size + 5)
    (hrd : Rd u' p ⟨D, k, [], 0⟩) {st' : Ax.Gs} {oc' : Array Value} (hat : ∃ pv cv qv ov, Blk u' (W.heap.size + 1 + 1) 33 (Ax.agg st'.a pv cv qv ov) ∧ AtO u' (W.heap.size + 5) st'.a pv cv qv ov) (hbo : Blk u' (W.heap.size + 1 + 1 + 1) 73 oc') (hbs : Blk u' (W.heap.size + 1 + 1 + 1 + 1) 77 (seenA st'.seen))
    (hsm : Ax.small st'.a) (hdis : st'.a.others.Pairwise (fun x y => x.t ≠ y.t)) (hsub : ∀ o ∈ st'.a.others, o.t ∈ st'.seen) (hlen : st'.a.others.length ≤ k) (hcls : st'.cls ≤ 2) : GM W D four outside p pb pf bm k st' oc' u' :=
  ⟨hrd, hat, hbo, hbs, h.b6.kept kk (fun e => by have := hs _ e; omega), h.b7.kept kk (fun e => by have := hs _ e; omega), h.bb.kept kk (fun e => by have := hs _ e; have := h.hpb; omega), h.bf.kept kk (fun e => by have := hs _ e; have := h.hpf; omega),
    h.mp.kept kk (fun e => by have := hs _ e; have := h.hbm; omega), h.kept.trans_new kk (fun i hi e => by have := hs _ e; omega), h.hp, h.hpb, h.hpf, h.hbm, h.hg, hsm, hdis, hsub, hlen, hcls, h.wtd.keptS kk (fun e => by have := hs _ e; have := h.hg; omega), h.le⟩
/-- Another class. -/
theorem GM.class {c : Nat} (h : GM W D four outside p pb pf bm k st oc u) (hc : c ≤ 2) : GM W D four outside p pb pf bm k { st with cls := c } oc u :=
  ⟨h.rd, h.at_, h.bo, h.bs, h.b6, h.b7, h.bb, h.bf, h.mp, h.kept, h.hp, h.hpb, h.hpf, h.hbm, h.hg, h.small, h.dis, h.sub, h.len, hc, h.wtd, h.le⟩
/-- Behind a store into the attribute that is read. -/
theorem GM.puto {oc' : Array Value} (h : GM W D four outside p pb pf bm k st oc u) (kk : Kept (Only (W.heap.size + 1 + 1 + 1)) u u') (hb : Blk u' (W.heap.size + 1 + 1 + 1) 73 oc') : GM W D four outside p pb pf bm k st oc' u' := by
  obtain ⟨pv, cv, qv, ov, h1, h2⟩ := h.at_
  refine h.stays kk (fun g (e : g = W.heap.size + 1 + 1 + 1) => by omega) (h.rd.kept kk (NoRd.of_blk h.bo (by decide))) ⟨pv, cv, qv, ov, h1.kept kk (fun (e : W.heap.size + 1 + 1 = W.heap.size + 1 + 1 + 1) => by omega), h2.low kk (fun g (e : g = W.heap.size + 1 + 1 + 1) => by omega)⟩ hb (h.bs.kept kk (fun (e : W.heap.size + 1 + 1 + 1 + 1 = W.heap.size + 1 + 1 + 1) => by omega)) h.small h.dis h.sub h.len h.cls
/-- Behind a note that a type was there. -/
theorem GM.puts (t : UInt8) (h : GM W D four outside p pb pf bm k st oc u) : GM W D four outside p pb pf bm k { st with seen := t :: st.seen } oc (u.setCell ⟨W.heap.size + 1 + 1 + 1 + 1, t.toNat, none⟩ (.bool true)) := by
  obtain ⟨pv, cv, qv, ov, h1, h2⟩ := h.at_
  have kk := Kept.own u (W.heap.size + 1 + 1 + 1 + 1) t.toNat (.bool true)
  refine h.stays kk (fun g (e : g = W.heap.size + 1 + 1 + 1 + 1) => by omega) (h.rd.kept kk (NoRd.of_blk h.bs (by decide))) ⟨pv, cv, qv, ov, h1.kept kk (fun (e : W.heap.size + 1 + 1 = W.heap.size + 1 + 1 + 1 + 1) => by omega), h2.low kk (fun g (e : g = W.heap.size + 1 + 1 + 1 + 1) => by omega)⟩ (h.bo.kept kk (fun (e : W.heap.size + 1 + 1 + 1 = W.heap.size + 1 + 1 + 1 + 1) => by omega)) ?_ h.small h.dis (fun o ho => List.mem_cons_of_mem _ (h.sub o ho)) h.len h.cls
  have := h.bs.put t.toNat (.bool true)
  rw [seenA_set] at this
  exact this
/-- Behind a value that was kept, or not. -/
theorem GM.putk {a' : At} {c : Nat} {pv cv qv ov : Value} (h : GM W D four outside p pb pf bm k st oc u) (kk : Kept (Only (W.heap.size + 1 + 1)) u u') (hb : Blk u' (W.heap.size + 1 + 1) 33 (Ax.agg a' pv cv qv ov)) (ho : AtO u' (W.heap.size + 5) a' pv cv qv ov) (hsm : Ax.small a') (hoth : a'.others = st.a.others) (hc : c ≤ 2) :
    GM W D four outside p pb pf bm k { a := a', cls := c, seen := st.seen } oc u' := by
  obtain ⟨pv0, cv0, qv0, ov0, h1, h2⟩ := h.at_
  exact h.stays kk (fun g (e : g = W.heap.size + 1 + 1) => by omega) (h.rd.kept kk (NoRd.of_blk h1 (by decide))) ⟨pv, cv, qv, ov, hb, ho⟩ (h.bo.kept kk (fun (e : W.heap.size + 1 + 1 + 1 = W.heap.size + 1 + 1) => by omega)) (h.bs.kept kk (fun (e : W.heap.size + 1 + 1 + 1 + 1 = W.heap.size + 1 + 1) => by omega)) hsm (by rw [hoth]; exact h.dis) (by rw [hoth]; exact h.sub) (by rw [hoth]; exact h.len) hc
end Go.Proofs.YteofbpdogmajoaaGreatDoor
