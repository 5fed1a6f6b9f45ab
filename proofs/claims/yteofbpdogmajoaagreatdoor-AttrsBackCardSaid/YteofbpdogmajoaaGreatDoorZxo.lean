
/-
  Bytes appended, whatever they lie in; Get where its answer is known; zero attributes compared.
-/
import Derived.Test.YteofbpdogmajoaaGreatDoorZxa
import Derived.Test.YteofbpdogmajoaaGreatDoorZum
import Derived.Test.YteofbpdogmajoaaGreatDoorZuf
namespace Go.Proofs.YteofbpdogmajoaaGreatDoor
open Go.RowKit

theorem u8_infoX : (Tryz.prog.info? 5).map (fun i => (i.zero, i.size, i.bytes)) = some (some (.int .u8 0), 1, 1) := by kernel_rfl
theorem wpList_appB {ops : Array Oper} {rest : List Oper} {o : Oper} {a : Act} {Q : Exit → Act → World → Prop} {w : World} (hgd : o.guard = none) (s x : Operand)
    (ho : o.op = .call { callee := .builtin .append, args := #[s, x], argTypes := #[22, 22] })
    (base : Nat) (v : Value) (n : Nat) (l : List UInt8) (hn : n = l.length) (hv : a.eval s = v) (hown : w.ownsRow base 5 1 v n (bys l))
    (A : Option Addr) (m c : Nat) (d : List UInt8) (hx : a.eval x = .slice A m c) (hs : By w (.slice A m c) d) (hl : l.length + d.length ≤ 1000000000) (hbase : base ≤ w.heap.size)
    (h : ∀ (A' : Option Addr) (n' c' : Nat) (w' : World), n' = (l ++ d).length → w'.ownsRow base 5 1 (.slice A' n' c') n' (bys (l ++ d)) → (∀ w0 : World, Kept Nothing w0 w → w0.heap.size ≤ base → Kept Nothing w0 w') → Kept (fun k => v.ownBlock = some k) w w' → wpList Tryz.prog ops Q rest (a.put o.dst (.slice A' n' c')) w') : wpList Tryz.prog ops Q (o :: rest) a w := by
  subst hn
  obtain ⟨i0, hi, hz0, hz1, hz2⟩ := info_parts u8_infoX
  have hsrc := hs.src
  have hm : d.length = m := by obtain ⟨_, _, e, _, _⟩ := hs.form; cases e; rfl
  refine wpList_app w hgd s x 22 ho base 5 i0 _ 1 1 Tryz.underlying22 hi hz0 hz1 hz2 rfl (by decide) v l.length (bys l) hv hown A m c (bys d) hx (by rw [hm] at hsrc; exact hsrc) (by unfold maxLen; omega) (by omega) hbase ?_
  intro v' w' ho' hg _
  have e1 : bys l ++ bys d = bys (l ++ d) := by unfold bys; rw [List.map_append]
  have e2 : l.length + m = (l ++ d).length := by rw [List.length_append, hm]
  rw [e1, e2] at ho'
  obtain ⟨A', c', rfl, -, -⟩ := ow_form ho'
  exact h A' _ c' w' rfl ho' (fun w0 k hb => k.own_grown hown hb hg) ((Kept.refl _ w).grown hg (fun _ hk _ => hk))
/-- append(nil, x...). -/
theorem wpList_app0 {ops : Array Oper} {rest : List Oper} {o : Oper} {a : Act} {Q : Exit → Act → World → Prop} {w : World} (hgd : o.guard = none) (s x : Operand)
    (ho : o.op = .call { callee := .builtin .append, args := #[s, x], argTypes := #[22, 22] })
    (base : Nat) (hv : a.eval s = .slice none 0 0)
    (A : Option Addr) (m c : Nat) (d : List UInt8) (hx : a.eval x = .slice A m c) (hs : By w (.slice A m c) d) (hl : d.length ≤ 1000000000) (hbase : base ≤ w.heap.size)
    (h : ∀ (A' : Option Addr) (c' : Nat) (w' : World), w'.ownsRow base 5 1 (.slice A' d.length c') d.length (bys d) → (∀ w0 : World, Kept Nothing w0 w → w0.heap.size ≤ base → Kept Nothing w0 w') → wpList Tryz.prog ops Q rest (a.put o.dst (.slice A' d.length c')) w') : wpList Tryz.prog ops Q (o :: rest) a w :=
  wpList_appB hgd s x ho base (.slice none 0 0) 0 [] rfl hv (World.ownsRow_nil _ _ _ _) A m c d hx hs (by simpa using hl) hbase (fun A' n' c' w' hn ho hk _ => by subst hn; exact h A' c' w' ho hk)
theorem own_lit (w : World) (l : List UInt8) (cs : Array Value) (hc : cs.toList = bys l) (hm : l.length ≤ maxLen) : (w.alloc (.cells cs 5)).ownsRow w.heap.size 5 1 (.slice (some ⟨w.heap.size, 0, none⟩) l.length l.length) l.length (bys l) := by
  have hs : cs.size = l.length := by rw [← Array.length_toList, hc, length_bys]
  exact ⟨by rw [length_bys]; omega, .inr ⟨w.heap.size, l.length, cs, rfl, Nat.le_refl _, heap_alloc_new w _, Nat.le_refl _, hm, by omega, by rw [hc, List.take_of_length_le (by rw [length_bys]; omega)]⟩⟩
theorem by_lit (w : World) (l : List UInt8) (cs : Array Value) (hc : cs.toList = bys l) (hm : l.length ≤ maxLen) : By (w.alloc (.cells cs 5)) (.slice (some ⟨w.heap.size, 0, none⟩) l.length l.length) l :=
  (Bs.made (Blk.fresh w 5 cs) hc hm).by
theorem own_by {w : World} {base : Nat} {A : Option Addr} {n c : Nat} {l : List UInt8} (h : w.ownsRow base 5 1 (.slice A n c) n (bys l)) (hn : n = l.length) : By w (.slice A n c) l := by
  subst hn
  exact (Bs.of_own h).by

/-- Get, its answer written out. -/
theorem at_getX (v : Value) (D : List UInt8) (four outside : Bool) (W : World) (hv : By W v D) (hD : D.length ≤ 100000000) (ht : Wtd W) {a : At} {c : Nat} {d : List UInt8} (hR : Ax.get D four outside = (a, c, d)) {c' x y : Int} {n : Nat} (hc : (c : Int) = c') (hx : (if c = 3 then (3 : Int) else 0) = x) (hy : (if c = 3 then (2 : Int) else 0) = y) (hn : d.length = n) :
    Calls Tryz.prog 8 #[v, .bool four, .bool outside] W fun e w' => ∃ Ap np Ac nc Aq nq Ao no Ad nd, e = .returned (.tuple #[.agg (Ax.agg a (.slice Ap a.path.length np) (.slice Ac a.comms.length nc) (.slice Aq a.path4.length nq) (.slice Ao a.others.length no)), .agg #[.int .i64 c', .int .u8 x, .int .u8 y, .slice Ad n nd]]) ∧
      AtO w' W.heap.size a (.slice Ap a.path.length np) (.slice Ac a.comms.length nc) (.slice Aq a.path4.length nq) (.slice Ao a.others.length no) ∧ Bs w' (.slice Ad n nd) d ∧ Kept Nothing W w' := by
  have h := at_get v D four outside W hv hD ht
  rw [hR] at h
  refine h.mono ?_
  rintro e w' ⟨pv, cv, qv, ov, dv, rfl, h1, h2, h3⟩
  have h5 := Bs.of_own h2
  obtain ⟨⟨Ap, np, rfl⟩, ⟨Ac, nc, rfl⟩, ⟨Aq, nq, rfl⟩, Ao, no, rfl⟩ := h1.forms
  obtain ⟨Ad, nd, rfl, -, -⟩ := h5.form
  subst hc hx hy hn
  exact ⟨Ap, np, Ac, nc, Aq, nq, Ao, no, Ad, nd, rfl, h1, h5, h3⟩
def zAgg (Ap Ac Aq Ao : Option Addr) (np nc nq no : Nat) : Array Value := #[.int .u32 0, .int .u8 0, .slice Ap 0 np, .int .u32 0, .int .u32 0, .int .u32 0, .int .u32 0, .int .u32 0, .slice Ac 0 nc, .slice Aq 0 nq, .int .u32 0, .int .u32 0, .slice Ao 0 no]
theorem at_getN (v : Value) (D : List UInt8) (four outside : Bool) (W : World) (hv : By W v D) (hD : D.length ≤ 100000000) (ht : Wtd W) {c : Nat} {d : List UInt8} (hR : Ax.get D four outside = (Ax.zeroA, c, d)) {c' x y : Int} {n : Nat} (hc : (c : Int) = c') (hx : (if c = 3 then (3 : Int) else 0) = x) (hy : (if c = 3 then (2 : Int) else 0) = y) (hn : d.length = n) :
    Calls Tryz.prog 8 #[v, .bool four, .bool outside] W fun e w' => ∃ Ap np Ac nc Aq nq Ao no Ad nd, e = .returned (.tuple #[.agg #[.int .u32 0, .int .u8 0, .slice Ap 0 np, .int .u32 0, .int .u32 0, .int .u32 0, .int .u32 0, .int .u32 0, .slice Ac 0 nc, .slice Aq 0 nq, .int .u32 0, .int .u32 0, .slice Ao 0 no], .agg #[.int .i64 c', .int .u8 x, .int .u8 y, .slice Ad n nd]]) ∧
      AtO w' W.heap.size Ax.zeroA (.slice Ap 0 np) (.slice Ac 0 nc) (.slice Aq 0 nq) (.slice Ao 0 no) ∧ Bs w' (.slice Ad n nd) d ∧ Kept Nothing W w' :=
  (at_getX v D four outside W hv hD ht hR hc hx hy hn).mono (fun _ _ h => h)
theorem at_getE (v : Value) (D : List UInt8) (four outside : Bool) (W : World) (hv : By W v D) (hD : D.length ≤ 100000000) (ht : Wtd W) {a : At} {c : Nat} {d : List UInt8} (hR : Ax.get D four outside = (a, c, d)) {c' x y : Int} {n : Nat} (hc : (c : Int) = c') (hx : (if c = 3 then (3 : Int) else 0) = x) (hy : (if c = 3 then (2 : Int) else 0) = y) (hn : d.length = n) :
    Calls Tryz.prog 8 #[v, .bool four, .bool outside] W fun e w' => ∃ Ap np Ac nc Aq nq Ao no Ad nd, e = .returned (.tuple #[.agg #[.int .u32 (a.has : Int), .int .u8 (a.origin.toNat : Int), .slice Ap a.path.length np, .int .u32 (a.nh : Int), .int .u32 (a.med : Int), .int .u32 (a.pref : Int), .int .u32 (a.byA : Int), .int .u32 (a.byI : Int), .slice Ac a.comms.length nc, .slice Aq a.path4.length nq, .int .u32 (a.by4A : Int), .int .u32 (a.by4I : Int), .slice Ao a.others.length no], .agg #[.int .i64 c', .int .u8 x, .int .u8 y, .slice Ad n nd]]) ∧
      AtO w' W.heap.size a (.slice Ap a.path.length np) (.slice Ac a.comms.length nc) (.slice Aq a.path4.length nq) (.slice Ao a.others.length no) ∧ Bs w' (.slice Ad n nd) d ∧ Kept Nothing W w' :=
  (at_getX v D four outside W hv hD ht hR hc hx hy hn).mono (fun _ _ h => h)
theorem ow_newer {S : Nat → Prop} {w w' : World} {B : Nat} {e : TypeId} {size n : Nat} {v : Value} {xs : List Value} (h : w.ownsRow B e size v n xs) (k : Kept S w w') (hS : ∀ g, S g → g < B) : w'.ownsRow B e size v n xs :=
  ow_kept h k (fun g hg x => by have := (ow_ge h hg).1; have := hS g x; omega)
theorem Rws.newer {S : Nat → Prop} {w w' : World} {B : Nat} (k : Kept S w w') (hS : ∀ g, S g → g < B) : ∀ {xs : List Value} {l : List Seg}, Rws w B xs l → Rws w' B xs l
  | [], [], _ => trivial
  | _ :: _ :: _, _ :: _, ⟨h1, h2, h3, h4⟩ => ⟨h1, ow_newer h2 k hS, h3, Rws.newer k hS h4⟩
  | [], _ :: _, h => h.elim
  | [_], _, h => by unfold Rws at h; exact h.elim
  | _ :: _ :: _, [], h => by unfold Rws at h; exact h.elim
theorem Ors.newer {S : Nat → Prop} {w w' : World} {B : Nat} (k : Kept S w w') (hS : ∀ g, S g → g < B) : ∀ {xs : List Value} {l : List Ot}, Ors w B xs l → Ors w' B xs l
  | [], [], _ => trivial
  | _ :: _ :: _ :: _, _ :: _, ⟨h1, h2, h3, h4⟩ => ⟨h1, h2, ow_newer h3 k hS, Ors.newer k hS h4⟩
  | [], _ :: _, h => h.elim
  | [_], _, h => by unfold Ors at h; exact h.elim
  | [_, _], _, h => by unfold Ors at h; exact h.elim
  | _ :: _ :: _ :: _, [], h => by unfold Ors at h; exact h.elim
theorem AtO.newer {S : Nat → Prop} {w w' : World} {B : Nat} {a : At} {pv cv qv ov : Value} (h : AtO w B a pv cv qv ov) (k : Kept S w w') (hS : ∀ g, S g → g < B) : AtO w' B a pv cv qv ov := by
  obtain ⟨⟨xs, h1, h2⟩, ⟨h3, h4⟩, ⟨ys, h5, h6⟩, ⟨zs, h7, h8⟩, h9⟩ := h
  exact ⟨⟨xs, ow_newer h1 k hS, h2.newer k hS⟩, ⟨ow_newer h3 k hS, h4⟩, ⟨ys, ow_newer h5 k hS, h6.newer k hS⟩, ⟨zs, ow_newer h7 k hS, h8.newer k hS⟩, h9⟩
theorem AtO.atp2 {w : World} {B : Nat} {a : At} {pv cv qv ov : Value} (h : AtO w B a pv cv qv ov) : Atp w a pv cv qv ov := h.atp (Oown.ots h.2.2.2.1)
/-- Zero attributes compared with none. -/
theorem same_zero (Ap Ac Aq Ao : Option Addr) (np nc nq no : Nat) (u : World) (h : Atp u Ax.zeroA (.slice Ap 0 np) (.slice Ac 0 nc) (.slice Aq 0 nq) (.slice Ao 0 no)) :
    Calls Tryz.prog 17 #[.agg #[.int .u32 0, .int .u8 0, .slice Ap 0 np, .int .u32 0, .int .u32 0, .int .u32 0, .int .u32 0, .int .u32 0, .slice Ac 0 nc, .slice Aq 0 nq, .int .u32 0, .int .u32 0, .slice Ao 0 no], .agg #[.int .u32 0, .int .u8 0, .slice none 0 0, .int .u32 0, .int .u32 0, .int .u32 0, .int .u32 0, .int .u32 0, .slice none 0 0, .slice none 0 0, .int .u32 0, .int .u32 0, .slice none 0 0]] u fun e u' => e = .returned (.bool true) ∧ Kept Nothing u u' := by
  have := at_same2 Ax.zeroA Ax.zeroA _ _ _ _ (.slice none 0 0) (.slice none 0 0) (.slice none 0 0) (.slice none 0 0) u h ⟨(Pown.nil u 0).pts, As.nil u, (Pown.nil u 0).pts, Ots.nil u, by unfold Ax.fit; simp [Ax.zeroA]⟩
  rw [Ax.same_self] at this
  exact this
end Go.Proofs.YteofbpdogmajoaaGreatDoor
