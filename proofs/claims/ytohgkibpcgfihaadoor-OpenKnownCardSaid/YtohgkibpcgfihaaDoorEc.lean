
/-
  What Get of chapter 6 does.
-/
import Derived.Test.YtohgkibpcgfihaaDoorEb
namespace Go.Proofs.YtohgkibpcgfihaaDoor
open Go.RowKit

theorem RS.step {b : List UInt8} {k : Nat} (n : Nat) (h : k + n ≤ b.length) : RS.pass ⟨b, k, [], 0⟩ (n : Int) = ⟨b, k + n, [], 0⟩ ∧ RS.got ⟨b, k, [], 0⟩ (n : Int) = (b.drop k).take n := by
  have hf : RS.fits ⟨b, k, [], 0⟩ (n : Int) = ⟨b, k, [], 0⟩ := RS.fits_pos (by omega) (by rw [RS.left_zero rfl]; unfold RS.top; simp only; omega)
  unfold RS.pass RS.got
  rw [hf, if_pos rfl, if_pos rfl, Int.toNat_natCast]
  exact ⟨rfl, rfl⟩
theorem RS.left_at (b : List UInt8) (k : Nat) : RS.left ⟨b, k, [], 0⟩ = b.length - k := by rw [RS.left_zero rfl]; rfl

/-- What lies in memory while Get reads: the reader, and the boxes of what it answers. -/
structure GetS (w : World) (p : Nat) (b : List UInt8) (k : Nat) (u : World) : Prop where
  rd : Rd u p ⟨b, k, [], 0⟩
  f0 : Blk u w.heap.size 28 #[.int .u8 0, .int .u16 0, .int .u16 0, .int .u32 0, .slice none 0 0]
  f1 : Blk u (w.heap.size + 1) 30 #[.int .u8 0, .int .u8 0]
  kept : Kept Nothing w u
  at_ : w.heap.size + 1 + 1 ≤ p
theorem GetS.step {w : World} {p : Nat} {b : List UInt8} {k k' : Nat} {u u' : World} (h : GetS w p b k u) (hr : Rd u' p ⟨b, k', [], 0⟩) (hk : Kept (Only p) u u') : GetS w p b k' u' :=
  ⟨hr, h.f0.kept hk (fun e => by have := h.at_; have e' : w.heap.size = p := e; omega), h.f1.kept hk (fun e => by have := h.at_; have e' : w.heap.size + 1 = p := e; omega), h.kept.rd hk (by have := h.at_; omega), h.at_⟩
theorem GetS.old {w : World} {p : Nat} {b : List UInt8} {k : Nat} {u u' : World} (h : GetS w p b k u) (hk : Kept Nothing u u') : GetS w p b k u' :=
  ⟨h.rd.kept hk (NoRd.nothing _), h.f0.kept hk (fun x => x), h.f1.kept hk (fun x => x), h.kept.trans hk, h.at_⟩
theorem Bs.two {w w' : World} {p q : Nat} {t u : TypeId} {cs ds : Array Value} {v : Value} {l : List UInt8} (h : Bs w v l) (h1 : Blk w p t cs) (h2 : Blk w q u ds) (ht : t ≠ 5) (hu : u ≠ 5) (k : Kept (fun k => k = p ∨ k = q) w w') : Bs w' v l := h.kept k (NoBytes.two h1 h2 ht hu)
theorem kept_two5 {w : World} {p q : Nat} (a0 a1 a2 a3 a4 b0 b1 : Value) : Kept (fun k => k = p ∨ k = q) w (((((((w.setCell ⟨p, 0, none⟩ a0).setCell ⟨p, 1, none⟩ a1).setCell ⟨p, 2, none⟩ a2).setCell ⟨p, 3, none⟩ a3).setCell ⟨p, 4, none⟩ a4).setCell ⟨q, 0, none⟩ b0).setCell ⟨q, 1, none⟩ b1) := by
  refine Kept.setCell (Kept.setCell (Kept.setCell (Kept.setCell (Kept.setCell (Kept.setCell (Kept.setCell (Kept.refl _ _) ?_ _) ?_ _) ?_ _) ?_ _) ?_ _) ?_ _) ?_ _
  all_goals (intro _; first | exact Or.inl rfl | exact Or.inr rfl)
theorem kept_get {w : World} {p q z : Nat} (x a0 a1 a2 a3 a4 b0 b1 : Value) : Kept (fun k => k = p ∨ k = q ∨ k = z) w ((((((((w.setCell ⟨z, 4, none⟩ x).setCell ⟨p, 0, none⟩ a0).setCell ⟨p, 1, none⟩ a1).setCell ⟨p, 2, none⟩ a2).setCell ⟨p, 3, none⟩ a3).setCell ⟨p, 4, none⟩ a4).setCell ⟨q, 0, none⟩ b0).setCell ⟨q, 1, none⟩ b1) := by
  refine Kept.setCell (Kept.setCell (Kept.setCell (Kept.setCell (Kept.setCell (Kept.setCell (Kept.setCell (Kept.setCell (Kept.refl _ _) ?_ _) ?_ _) ?_ _) ?_ _) ?_ _) ?_ _) ?_ _) ?_ _
  all_goals (intro _; first | exact Or.inl rfl | exact Or.inr (Or.inl rfl) | exact Or.inr (Or.inr rfl))
theorem fin_get {w : World} {p q z : Nat} {t u : TypeId} {x0 x1 x2 x3 x4 y0 y1 : Value} (hp : Blk w p t #[x0, x1, x2, x3, x4]) (hq : Blk w q u #[y0, y1]) (h1 : p ≠ z) (h2 : q ≠ z) (h3 : p ≠ q) (x a0 a1 a2 a3 a4 b0 b1 : Value) (o : Obj) :
    ((((((((((w.setCell ⟨z, 4, none⟩ x).setCell ⟨p, 0, none⟩ a0).setCell ⟨p, 1, none⟩ a1).setCell ⟨p, 2, none⟩ a2).setCell ⟨p, 3, none⟩ a3).setCell ⟨p, 4, none⟩ a4).setCell ⟨q, 0, none⟩ b0).setCell ⟨q, 1, none⟩ b1).alloc o).cell? ⟨p, 0, none⟩ = some a0 ∧ (((((((((w.setCell ⟨z, 4, none⟩ x).setCell ⟨p, 0, none⟩ a0).setCell ⟨p, 1, none⟩ a1).setCell ⟨p, 2, none⟩ a2).setCell ⟨p, 3, none⟩ a3).setCell ⟨p, 4, none⟩ a4).setCell ⟨q, 0, none⟩ b0).setCell ⟨q, 1, none⟩ b1).alloc o).cell? ⟨p, 1, none⟩ = some a1 ∧ (((((((((w.setCell ⟨z, 4, none⟩ x).setCell ⟨p, 0, none⟩ a0).setCell ⟨p, 1, none⟩ a1).setCell ⟨p, 2, none⟩ a2).setCell ⟨p, 3, none⟩ a3).setCell ⟨p, 4, none⟩ a4).setCell ⟨q, 0, none⟩ b0).setCell ⟨q, 1, none⟩ b1).alloc o).cell? ⟨p, 2, none⟩ = some a2 ∧ (((((((((w.setCell ⟨z, 4, none⟩ x).setCell ⟨p, 0, none⟩ a0).setCell ⟨p, 1, none⟩ a1).setCell ⟨p, 2, none⟩ a2).setCell ⟨p, 3, none⟩ a3).setCell ⟨p, 4, none⟩ a4).setCell ⟨q, 0, none⟩ b0).setCell ⟨q, 1, none⟩ b1).alloc o).cell? ⟨p, 3, none⟩ = some a3 ∧ (((((((((w.setCell ⟨z, 4, none⟩ x).setCell ⟨p, 0, none⟩ a0).setCell ⟨p, 1, none⟩ a1).setCell ⟨p, 2, none⟩ a2).setCell ⟨p, 3, none⟩ a3).setCell ⟨p, 4, none⟩ a4).setCell ⟨q, 0, none⟩ b0).setCell ⟨q, 1, none⟩ b1).alloc o).cell? ⟨p, 4, none⟩ = some a4) ∧ (((((((((w.setCell ⟨z, 4, none⟩ x).setCell ⟨p, 0, none⟩ a0).setCell ⟨p, 1, none⟩ a1).setCell ⟨p, 2, none⟩ a2).setCell ⟨p, 3, none⟩ a3).setCell ⟨p, 4, none⟩ a4).setCell ⟨q, 0, none⟩ b0).setCell ⟨q, 1, none⟩ b1).alloc o).cell? ⟨q, 0, none⟩ = some b0 ∧ (((((((((w.setCell ⟨z, 4, none⟩ x).setCell ⟨p, 0, none⟩ a0).setCell ⟨p, 1, none⟩ a1).setCell ⟨p, 2, none⟩ a2).setCell ⟨p, 3, none⟩ a3).setCell ⟨p, 4, none⟩ a4).setCell ⟨q, 0, none⟩ b0).setCell ⟨q, 1, none⟩ b1).alloc o).cell? ⟨q, 1, none⟩ = some b1 := by
  have e1 : Blk (((((((((w.setCell ⟨z, 4, none⟩ x).setCell ⟨p, 0, none⟩ a0).setCell ⟨p, 1, none⟩ a1).setCell ⟨p, 2, none⟩ a2).setCell ⟨p, 3, none⟩ a3).setCell ⟨p, 4, none⟩ a4).setCell ⟨q, 0, none⟩ b0).setCell ⟨q, 1, none⟩ b1).alloc o) p t #[a0, a1, a2, a3, a4] := ((((((((hp.far h1 x).put 0 a0).put 1 a1).put 2 a2).put 3 a3).put 4 a4).far h3 b0).far h3 b1).alloc o
  have e2 : Blk (((((((((w.setCell ⟨z, 4, none⟩ x).setCell ⟨p, 0, none⟩ a0).setCell ⟨p, 1, none⟩ a1).setCell ⟨p, 2, none⟩ a2).setCell ⟨p, 3, none⟩ a3).setCell ⟨p, 4, none⟩ a4).setCell ⟨q, 0, none⟩ b0).setCell ⟨q, 1, none⟩ b1).alloc o) q u #[b0, b1] := ((((((((hq.far h2 x).far h3.symm a0).far h3.symm a1).far h3.symm a2).far h3.symm a3).far h3.symm a4).put 0 b0).put 1 b1).alloc o
  exact ⟨⟨e1.cell 0, e1.cell 1, e1.cell 2, e1.cell 3, e1.cell 4⟩, e2.cell 0, e2.cell 1⟩
theorem fin_bad {w : World} {p q : Nat} {t u : TypeId} {x0 x1 x2 x3 x4 y0 y1 : Value} (hp : Blk w p t #[x0, x1, x2, x3, x4]) (hq : Blk w q u #[y0, y1]) (h3 : p ≠ q) (a0 a1 a2 a3 a4 b0 b1 : Value) (o : Obj) :
    (((((((((w.setCell ⟨p, 0, none⟩ a0).setCell ⟨p, 1, none⟩ a1).setCell ⟨p, 2, none⟩ a2).setCell ⟨p, 3, none⟩ a3).setCell ⟨p, 4, none⟩ a4).setCell ⟨q, 0, none⟩ b0).setCell ⟨q, 1, none⟩ b1).alloc o).cell? ⟨p, 0, none⟩ = some a0 ∧ ((((((((w.setCell ⟨p, 0, none⟩ a0).setCell ⟨p, 1, none⟩ a1).setCell ⟨p, 2, none⟩ a2).setCell ⟨p, 3, none⟩ a3).setCell ⟨p, 4, none⟩ a4).setCell ⟨q, 0, none⟩ b0).setCell ⟨q, 1, none⟩ b1).alloc o).cell? ⟨p, 1, none⟩ = some a1 ∧ ((((((((w.setCell ⟨p, 0, none⟩ a0).setCell ⟨p, 1, none⟩ a1).setCell ⟨p, 2, none⟩ a2).setCell ⟨p, 3, none⟩ a3).setCell ⟨p, 4, none⟩ a4).setCell ⟨q, 0, none⟩ b0).setCell ⟨q, 1, none⟩ b1).alloc o).cell? ⟨p, 2, none⟩ = some a2 ∧ ((((((((w.setCell ⟨p, 0, none⟩ a0).setCell ⟨p, 1, none⟩ a1).setCell ⟨p, 2, none⟩ a2).setCell ⟨p, 3, none⟩ a3).setCell ⟨p, 4, none⟩ a4).setCell ⟨q, 0, none⟩ b0).setCell ⟨q, 1, none⟩ b1).alloc o).cell? ⟨p, 3, none⟩ = some a3 ∧ ((((((((w.setCell ⟨p, 0, none⟩ a0).setCell ⟨p, 1, none⟩ a1).setCell ⟨p, 2, none⟩ a2).setCell ⟨p, 3, none⟩ a3).setCell ⟨p, 4, none⟩ a4).setCell ⟨q, 0, none⟩ b0).setCell ⟨q, 1, none⟩ b1).alloc o).cell? ⟨p, 4, none⟩ = some a4) ∧ ((((((((w.setCell ⟨p, 0, none⟩ a0).setCell ⟨p, 1, none⟩ a1).setCell ⟨p, 2, none⟩ a2).setCell ⟨p, 3, none⟩ a3).setCell ⟨p, 4, none⟩ a4).setCell ⟨q, 0, none⟩ b0).setCell ⟨q, 1, none⟩ b1).alloc o).cell? ⟨q, 0, none⟩ = some b0 ∧ ((((((((w.setCell ⟨p, 0, none⟩ a0).setCell ⟨p, 1, none⟩ a1).setCell ⟨p, 2, none⟩ a2).setCell ⟨p, 3, none⟩ a3).setCell ⟨p, 4, none⟩ a4).setCell ⟨q, 0, none⟩ b0).setCell ⟨q, 1, none⟩ b1).alloc o).cell? ⟨q, 1, none⟩ = some b1 := by
  have e1 : Blk ((((((((w.setCell ⟨p, 0, none⟩ a0).setCell ⟨p, 1, none⟩ a1).setCell ⟨p, 2, none⟩ a2).setCell ⟨p, 3, none⟩ a3).setCell ⟨p, 4, none⟩ a4).setCell ⟨q, 0, none⟩ b0).setCell ⟨q, 1, none⟩ b1).alloc o) p t #[a0, a1, a2, a3, a4] := (((((((hp.put 0 a0).put 1 a1).put 2 a2).put 3 a3).put 4 a4).far h3 b0).far h3 b1).alloc o
  have e2 : Blk ((((((((w.setCell ⟨p, 0, none⟩ a0).setCell ⟨p, 1, none⟩ a1).setCell ⟨p, 2, none⟩ a2).setCell ⟨p, 3, none⟩ a3).setCell ⟨p, 4, none⟩ a4).setCell ⟨q, 0, none⟩ b0).setCell ⟨q, 1, none⟩ b1).alloc o) q u #[b0, b1] := (((((((hq.far h3.symm a0).far h3.symm a1).far h3.symm a2).far h3.symm a3).far h3.symm a4).put 0 b0).put 1 b1).alloc o
  exact ⟨⟨e1.cell 0, e1.cell 1, e1.cell 2, e1.cell 3, e1.cell 4⟩, e2.cell 0, e2.cell 1⟩
theorem Kept.late {w u u' : World} {P : Nat → Prop} (h : Kept Nothing w u) (k : Kept P u u') (hp : ∀ i, P i → w.heap.size ≤ i) : Kept Nothing w u' :=
  h.trans_new k (fun i hi x => absurd (hp i x) (Nat.not_le.2 hi))

theorem get_left {w : World} {p : Nat} {b : List UInt8} {k : Nat} {u : World} (h : GetS w p b k u) :
    Calls Tryd.prog 34 #[.pointer (some ⟨p, 0, none⟩)] u fun r u' => r = .returned (.int .i64 ((b.length - k : Nat) : Int)) ∧ GetS w p b k u' ∧ Kept Nothing u u' := by
  have C := rd_left p _ _ h.rd
  rw [RS.left_at] at C
  refine C.mono ?_
  rintro e w' ⟨rfl, n, rfl⟩
  exact ⟨rfl, h.old ((Kept.refl _ _).drewN n), (Kept.refl _ _).drewN n⟩
theorem get_byte {w : World} {p : Nat} {b : List UInt8} {k : Nat} {u : World} (h : GetS w p b k u) (hk : k + 1 ≤ b.length) {n : Nat} (hn : RS.num ((b.drop k).take 1) = n) :
    Calls Tryd.prog 36 #[.pointer (some ⟨p, 0, none⟩)] u fun r u' => r = .returned (.int .u8 (n : Int)) ∧ GetS w p b (k + 1) u' ∧ Kept (Only p) u u' := by
  subst hn
  have C := rd_byte p _ _ h.rd
  obtain ⟨e1, e2⟩ := RS.step 1 hk
  rw [show ((1 : Nat) : Int) = 1 from rfl] at e1 e2
  rw [e1, e2] at C
  exact C.mono fun e w' ⟨h1, h2, h3⟩ => ⟨h1, h.step h2 h3, h3⟩
theorem get_two {w : World} {p : Nat} {b : List UInt8} {k : Nat} {u : World} (h : GetS w p b k u) (hk : k + 2 ≤ b.length) {n : Nat} (hn : RS.num ((b.drop k).take 2) = n) :
    Calls Tryd.prog 37 #[.pointer (some ⟨p, 0, none⟩)] u fun r u' => r = .returned (.int .u16 (n : Int)) ∧ GetS w p b (k + 2) u' ∧ Kept (Only p) u u' := by
  subst hn
  have C := rd_two p _ _ h.rd
  obtain ⟨e1, e2⟩ := RS.step 2 hk
  rw [show ((2 : Nat) : Int) = 2 from rfl] at e1 e2
  rw [e1, e2] at C
  exact C.mono fun e w' ⟨h1, h2, h3⟩ => ⟨h1, h.step h2 h3, h3⟩
theorem get_four {w : World} {p : Nat} {b : List UInt8} {k : Nat} {u : World} (h : GetS w p b k u) (hk : k + 4 ≤ b.length) {n : Nat} (hn : RS.num ((b.drop k).take 4) = n) :
    Calls Tryd.prog 38 #[.pointer (some ⟨p, 0, none⟩)] u fun r u' => r = .returned (.int .u32 (n : Int)) ∧ GetS w p b (k + 4) u' ∧ Kept (Only p) u u' := by
  subst hn
  have C := rd_four p _ _ h.rd
  obtain ⟨e1, e2⟩ := RS.step 4 hk
  rw [show ((4 : Nat) : Int) = 4 from rfl] at e1 e2
  rw [e1, e2] at C
  exact C.mono fun e w' ⟨h1, h2, h3⟩ => ⟨h1, h.step h2 h3, h3⟩
theorem get_rest {w : World} {p : Nat} {b : List UInt8} {k : Nat} {u : World} (h : GetS w p b k u) (hk : k ≤ b.length) {d : List UInt8} (hd : b.drop k = d) :
    Calls Tryd.prog 40 #[.pointer (some ⟨p, 0, none⟩)] u fun r u' => ∃ v, r = .returned v ∧ Bs u' v d ∧ GetS w p b b.length u' ∧ Kept (Only p) u u' := by
  subst hd
  have C := rd_rest p _ _ h.rd
  obtain ⟨e1, e2⟩ := RS.step (b := b) (k := k) (b.length - k) (by omega)
  rw [RS.left_at, e1, e2, List.take_of_length_le (by rw [List.length_drop]; exact Nat.le_refl _), show k + (b.length - k) = b.length by omega] at C
  exact C.mono fun e w' ⟨v, h1, h2, h3, h4⟩ => ⟨v, h1, h2, h.step h3 h4, h4⟩
theorem num_at (b : List UInt8) (k : Nat) (h : k < b.length) : RS.num ((b.drop k).take 1) = (b.getD k 0).toNat := by
  rw [List.drop_eq_getElem_cons h, List.take_succ_cons, List.take_zero, RS.num_one, List.getD_eq_getElem?_getD, List.getElem?_eq_getElem h]
  rfl
theorem num_le1 (l : List UInt8) : RS.num (l.take 1) < 256 := by
  rcases l with _ | ⟨x, l⟩
  · decide
  · have := x.toNat_lt
    simpa [RS.num] using this

set_option maxRecDepth 20000 in
set_option maxHeartbeats 4000000 in
theorem op_get (v : Value) (b : List UInt8) (w : World) (hv : By w v b) (hb : b.length ≤ 100000) :
    Calls Tryd.prog 9 #[v] w fun e w' => ∃ rv d, e = .returned (.tuple #[.agg #[.int .u8 ((Opn.get b).1.ver : Nat), .int .u16 ((Opn.get b).1.asn : Nat), .int .u16 ((Opn.get b).1.hold : Nat), .int .u32 ((Opn.get b).1.id : Nat), rv], .agg #[.int .u8 ((Opn.get b).2.1 : Nat), .int .u8 ((Opn.get b).2.2.1 : Nat)], d]) ∧ Cps w' rv (Opn.get b).1.caps ∧ Bs w' d (Opn.get b).2.2.2 ∧ Kept Nothing w w' := by
  obtain ⟨A, c, rfl, hc, hm⟩ := hv.form
  have HV := Lib.hid hv
  obtain ⟨R, HR⟩ : ∃ R, Hid (Opn.get b = R) := ⟨_, Lib.hid rfl⟩
  rw [HR.out]
  obtain ⟨d, HD⟩ : ∃ d, Hid (b.drop 10 = d) := ⟨_, Lib.hid rfl⟩
  have HDL : Hid (d.length ≤ 100000) := Lib.hid (by rw [← HD.out, List.length_drop]; omega)
  obtain ⟨n1, H1⟩ : ∃ n1, Hid (RS.num ((b.drop 0).take 1) = n1) := ⟨_, Lib.hid rfl⟩
  obtain ⟨n2, H2⟩ : ∃ n2, Hid (RS.num ((b.drop 1).take 2) = n2) := ⟨_, Lib.hid rfl⟩
  obtain ⟨n3, H3⟩ : ∃ n3, Hid (RS.num ((b.drop 3).take 2) = n3) := ⟨_, Lib.hid rfl⟩
  obtain ⟨n4, H4⟩ : ∃ n4, Hid (RS.num ((b.drop 5).take 4) = n4) := ⟨_, Lib.hid rfl⟩
  obtain ⟨n5, H5⟩ : ∃ n5, Hid (RS.num ((b.drop 9).take 1) = n5) := ⟨_, Lib.hid rfl⟩
  have F0 := Lib.hid ((Blk.fresh w 28 #[.int .u8 0, .int .u16 0, .int .u16 0, .int .u32 0, .slice none 0 0]).alloc (.cells #[.int .u8 0, .int .u8 0] 30))
  have F1 := Lib.hid (Blk.fresh (w.alloc (.cells #[.int .u8 0, .int .u16 0, .int .u16 0, .int .u32 0, .slice none 0 0] 28)) 30 #[.int .u8 0, .int .u8 0])
  rw [show (w.alloc (.cells #[.int .u8 0, .int .u16 0, .int .u16 0, .int .u32 0, .slice none 0 0] 28)).heap.size = w.heap.size + 1 by simp] at F1
  have KW := Lib.hid (((Kept.refl Nothing w).alloc (.cells #[.int .u8 0, .int .u16 0, .int .u16 0, .int .u32 0, .slice none 0 0] 28)).alloc (.cells #[.int .u8 0, .int .u8 0] 30))
  clear hv
  go_enter Tryd.func9, Tryd.ntmps9
  go_wp2_with fail
  refine (rd_new _ b _ (HV.out.old KW.out) (by omega)).mono ?_
  rintro e w1 ⟨p, rfl, hr, hk, hp⟩
  have G0 : Hid (GetS w p b 0 w1) := Lib.hid ⟨hr, F0.out.kept hk (fun x => x), F1.out.kept hk (fun x => x), KW.out.trans hk, by simp at hp; omega⟩
  clear hr hk hp F0 F1 KW
  go_wp2_with fail
  refine (get_left G0.out).mono ?_
  rintro e w2 ⟨rfl, hg, hk⟩
  rw [Nat.sub_zero]
  have G1 := Lib.hid hg
  clear hg hk G0
  by_cases h10 : b.length < 10
  · have hR : Opn.bad 0 = R := by rw [← HR.out]; unfold Opn.get; rw [if_pos h10]
    have h10i : (b.length : Int) < 10 := by omega
    obtain rfl := hR
    clear HR h10
    go_wp2_with fail
    refine (op_refuse 0 (by decide) _).mono ?_
    rintro e w8 ⟨dv, rfl, hb3, hk⟩
    have G8 := G1.out.old hk
    have B3 := Lib.hid hb3
    have h0 := G8.f0.lt
    have h1 := G8.f1.lt
    obtain ⟨⟨a0, a1, a2, a3, a4⟩, a5, a6, a7, a8, a9⟩ := full5 G8.f0
    obtain ⟨⟨d0, d1⟩, d2, d3⟩ := full2 G8.f1
    obtain ⟨A1, c1, rfl, _, _⟩ := hb3.form
    have H8 := Lib.hid G8
    clear hk hb3 G8 G1
    go_wp2
    exact bodyPost_ret (v := .tuple #[.agg #[.int .u8 0, .int .u16 0, .int .u16 0, .int .u32 0, .slice none 0 0], .agg #[.int .u8 2, .int .u8 0], .slice A1 (Opn.data 0).length c1]) (by simp [results, Tryd.results9, go_sem, a0, a1, a2, a3, a4, d0, d1]) rfl ⟨_, _, rfl, Cps.nil _, B3.out.two H8.out.f0 H8.out.f1 (by decide) (by decide) (kept_two5 _ _ _ _ _ _ _), H8.out.kept.late (kept_two5 _ _ _ _ _ _ _) (by rintro i (rfl | rfl) <;> omega)⟩
  · have h10i : ¬ ((b.length : Int) < 10) := by omega
    go_wp2_with fail
    refine (get_byte G1.out (by omega) H1.out).mono ?_
    rintro e w3 ⟨rfl, hg, hk⟩
    have G2 := Lib.hid hg
    clear hg hk G1
    go_wp2_with fail
    refine (get_two G2.out (by omega) H2.out).mono ?_
    rintro e w4 ⟨rfl, hg, hk⟩
    have G3 := Lib.hid hg
    clear hg hk G2
    go_wp2_with fail
    refine (get_two G3.out (by omega) H3.out).mono ?_
    rintro e w5 ⟨rfl, hg, hk⟩
    have G4 := Lib.hid hg
    clear hg hk G3
    go_wp2_with fail
    refine (get_four G4.out (by omega) H4.out).mono ?_
    rintro e w6 ⟨rfl, hg, hk⟩
    have G5 : Hid (GetS w p b 9 w6) := Lib.hid hg
    clear hg hk G4
    have hv1 : n1 < 256 := by rw [← H1.out]; exact num_le1 _
    have HB0 : Hid (n1 = (b.getD 0 0).toNat) := Lib.hid (by rw [← H1.out]; exact num_at b 0 (by omega))
    have HB9 : Hid (n5 = (b.getD 9 0).toNat) := Lib.hid (by rw [← H5.out]; exact num_at b 9 (by omega))
    have hv5 : n5 < 256 := by rw [← H5.out]; exact num_le1 _
    have HG : Hid (Opn.got b = ⟨n1, n2, n3, n4, (Cp.out [] d).1⟩) := Lib.hid (by unfold Opn.got; rw [← HD.out, ← H1.out, ← H2.out, ← H3.out, ← H4.out]; rfl)
    by_cases h4 : n1 = 4
    · subst h4
      have FO := Lib.hid (Blk.fresh w6 28 #[.int .u8 4, .int .u16 (n2 : Int), .int .u16 (n3 : Int), .int .u32 (n4 : Int), .slice none 0 0])
      have G6 := Lib.hid (G5.out.old ((Kept.refl Nothing w6).alloc (.cells #[.int .u8 4, .int .u16 (n2 : Int), .int .u16 (n3 : Int), .int .u32 (n4 : Int), .slice none 0 0] 28)))
      have hpo : p ≠ w6.heap.size := by have := G5.out.rd.lt; omega
      have hzo : w.heap.size + 1 < w6.heap.size := G5.out.f1.lt
      clear G5
      go_wp2_with fail
      refine (get_byte G6.out (by omega) H5.out).mono ?_
      rintro e w7 ⟨rfl, hg, hk⟩
      have G7 : Hid (GetS w p b 10 w7) := Lib.hid hg
      have FO7 := Lib.hid (FO.out.kept hk (fun e => hpo e.symm))
      clear hg hk FO G6
      go_wp2_with fail
      refine (get_left G7.out).mono ?_
      rintro e w8 ⟨rfl, hg, hk⟩
      have G8 := Lib.hid hg
      have FO8 := Lib.hid (FO7.out.kept hk (fun x => x))
      clear hg hk FO7 G7
      by_cases h9 : b.length = 10 + n5
      · have h9i : (((b.length - 10 : Nat) : Int) != (n5 : Int)) = false := by simp; omega
        go_wp2_with fail
        refine (get_rest G8.out (by omega) HD.out).mono ?_
        rintro e w9 ⟨v9, rfl, hb9, hg, hk⟩
        have G9 := Lib.hid hg
        have B9 := Lib.hid hb9
        have FO9 := Lib.hid (FO8.out.kept hk (fun e => hpo e.symm))
        obtain ⟨A9, c9, rfl, _, _⟩ := hb9.form
        clear hg hk FO8 G8 hb9
        go_wp2_with fail
        refine (cp_read_own _ d _ B9.out.by HDL.out).mono ?_
        rintro e w10 ⟨rv, rfl, ⟨xs, ho, hcs⟩, hk⟩
        have hnone := Cp.out_none d []
        have hflt := Cp.out_fault d []
        have hR0 : Opn.get b = (if (Cp.out [] d).2.1 ≠ 0 then (Opn.zero, (Cp.out [] d).2.1, (Cp.out [] d).2.2, []) else (Opn.got b, 0, 0, [])) := by
          unfold Opn.get; rw [HD.out, if_neg h10, if_neg (by rw [← HB0.out]; decide), if_neg (by rw [← HB9.out]; omega)]
        rw [HR.out, HG.out] at hR0
        have HR0 := Lib.hid hR0
        clear hR0 HR HG HB0 HB9 H1 H2 H3 H4 H5
        generalize Cp.out [] d = q at *
        obtain ⟨l, cc, ss⟩ := q
        simp only at HR0 ho hcs hnone hflt
        have hG10 := G9.out.old hk
        have hFO10 := FO9.out.kept hk (fun x => x)
        have l0 := G9.out.f0.lt
        have l1 := G9.out.f1.lt
        have l2 := FO9.out.lt
        have hNB : NoBytes w10 (fun k => k = w.heap.size ∨ k = w.heap.size + 1 ∨ k = w6.heap.size) := by
          rintro k (rfl | rfl | rfl)
          · exact NoBytes.of_blk hG10.f0 (by decide) _ rfl
          · exact NoBytes.of_blk hG10.f1 (by decide) _ rfl
          · exact NoBytes.of_blk hFO10 (by decide) _ rfl
        have HC := Lib.hid (CpsO.of_own (P := fun k => k = w.heap.size ∨ k = w.heap.size + 1 ∨ k = w6.heap.size) ho (hcs.mono (fun u m hb => ⟨hb.by, hb.offb hNB⟩)) (by rintro k (rfl | rfl | rfl) <;> assumption))
        obtain ⟨A10, c10, rfl, _, _⟩ := ow_form ho
        have hG := Lib.hid hG10
        have hFO := Lib.hid hFO10
        have hsz := hk.size
        clear ho hcs hk hG10 hFO10 hNB G9 FO9 B9 l0 l1 l2
        by_cases hz : cc = 0
        · have hs := hnone hz
          subst hz hs
          obtain rfl : R = (⟨4, n2, n3, n4, l⟩, 0, 0, []) := HR0.out.trans (if_neg (by decide))
          have G10 := hG
          have FO10 := hFO
          have n0 := hG.out.f0.lt
          have n1 := hG.out.f1.lt
          have n2' := hFO.out.lt
          clear hG hFO
          obtain ⟨⟨o0, o1, o2, o3, o4⟩, o5, o6, o7, o8, o9⟩ := full5 FO10.out
          obtain ⟨⟨a0, a1, a2, a3, a4⟩, a5, a6, a7, a8, a9⟩ := full5 G10.out.f0
          obtain ⟨⟨d0, d1⟩, d2, d3⟩ := full2 G10.out.f1
          clear HR0 hnone hflt FO10
          go_wp2
          have HFIN := fin_get (w := w10) (p := w.heap.size) (q := w.heap.size + 1) (z := w6.heap.size) G10.out.f0 G10.out.f1 (by omega) (by omega) (by omega) (.slice A10 l.length c10) (.int .u8 4) (.int .u16 (n2 : Int)) (.int .u16 (n3 : Int)) (.int .u32 (n4 : Int)) (.slice A10 l.length c10) (.int .u8 0) (.int .u8 0) (.cells #[.int .u8 0, .int .u8 0] 30)
          obtain ⟨⟨r0, r1, r2, r3, r4⟩, r5, r6⟩ := HFIN
          exact bodyPost_ret (v := .tuple #[.agg #[.int .u8 4, .int .u16 (n2 : Int), .int .u16 (n3 : Int), .int .u32 (n4 : Int), .slice A10 l.length c10], .agg #[.int .u8 0, .int .u8 0], .slice none 0 0]) (by simp [results, Tryd.results9, go_sem, r0, r1, r2, r3, r4, r5, r6]) rfl ⟨_, _, rfl, (HC.out.off ((kept_get (p := w.heap.size) (q := w.heap.size + 1) (z := w6.heap.size) _ _ _ _ _ _ _ _).alloc _)).cps, Bs.nil _, G10.out.kept.late ((kept_get (p := w.heap.size) (q := w.heap.size + 1) (z := w6.heap.size) _ _ _ _ _ _ _ _).alloc _) (by rintro i (rfl | rfl | rfl) <;> omega)⟩
        · obtain ⟨rfl, rfl, hss⟩ := hflt hz
          obtain rfl : R = (Opn.zero, 2, ss, []) := HR0.out.trans (if_pos (by decide))
          have G10 := hG
          have FO10 := hFO
          have n0 := hG.out.f0.lt
          have n1 := hG.out.f1.lt
          have n2' := hFO.out.lt
          clear hG hFO
          obtain ⟨⟨a0, a1, a2, a3, a4⟩, a5, a6, a7, a8, a9⟩ := full5 G10.out.f0
          obtain ⟨⟨d0, d1⟩, d2, d3⟩ := full2 G10.out.f1
          clear HR0 hnone hflt FO10 hz
          go_wp2
          go_region
          all_goals
            go_wp2
            obtain ⟨⟨r0, r1, r2, r3, r4⟩, r5, r6⟩ := fin_bad (w := w10) (p := w.heap.size) (q := w.heap.size + 1) G10.out.f0 G10.out.f1 (by omega) (.int .u8 0) (.int .u16 0) (.int .u16 0) (.int .u32 0) (.slice none 0 0) (.int .u8 2) (.int .u8 (ss : Int)) (.cells #[.int .u8 2, .int .u8 (ss : Int)] 30)
            exact bodyPost_ret (v := .tuple #[.agg #[.int .u8 0, .int .u16 0, .int .u16 0, .int .u32 0, .slice none 0 0], .agg #[.int .u8 2, .int .u8 (ss : Int)], .slice none 0 0]) (by simp [results, Tryd.results9, go_sem, r0, r1, r2, r3, r4, r5, r6]) rfl ⟨_, _, rfl, Cps.nil _, Bs.nil _, G10.out.kept.late (((kept_two5 (p := w.heap.size) (q := w.heap.size + 1) _ _ _ _ _ _ _).alloc _).drew) (by rintro i (rfl | rfl) <;> omega)⟩
      · have hR : Opn.bad 0 = R := by rw [← HR.out]; unfold Opn.get; rw [if_neg h10, if_neg (by rw [← HB0.out]; decide), if_pos (by rw [← HB9.out]; exact h9)]
        have h9i : (((b.length - 10 : Nat) : Int) != (n5 : Int)) = true := by simp; omega
        obtain rfl := hR
        clear HR HB0 HB9 h9 HG h10 H1 H2 H3 H4 H5 FO8
        go_wp2_with fail
        refine (op_refuse 0 (by decide) _).mono ?_
        rintro e w11 ⟨dv, rfl, hb3, hk⟩
        have G11 := G8.out.old hk
        have B3 := Lib.hid hb3
        have h0 := G11.f0.lt
        have h1 := G11.f1.lt
        obtain ⟨⟨a0, a1, a2, a3, a4⟩, a5, a6, a7, a8, a9⟩ := full5 G11.f0
        obtain ⟨⟨d0, d1⟩, d2, d3⟩ := full2 G11.f1
        obtain ⟨A1, c1, rfl, _, _⟩ := hb3.form
        have H8 := Lib.hid G11
        clear hk hb3 G11 G8
        go_wp2
        exact bodyPost_ret (v := .tuple #[.agg #[.int .u8 0, .int .u16 0, .int .u16 0, .int .u32 0, .slice none 0 0], .agg #[.int .u8 2, .int .u8 0], .slice A1 (Opn.data 0).length c1]) (by simp [results, Tryd.results9, go_sem, a0, a1, a2, a3, a4, d0, d1]) rfl ⟨_, _, rfl, Cps.nil _, B3.out.two H8.out.f0 H8.out.f1 (by decide) (by decide) (kept_two5 _ _ _ _ _ _ _), H8.out.kept.late (kept_two5 _ _ _ _ _ _ _) (by rintro i (rfl | rfl) <;> omega)⟩
    · have hR : Opn.bad 1 = R := by rw [← HR.out]; unfold Opn.get; rw [if_neg h10, if_pos (by rw [← HB0.out]; exact h4)]
      have h4i : ((n1 : Int) != 4) = true := by simp; omega
      have G6 := Lib.hid (G5.out.old ((Kept.refl Nothing w6).alloc (.cells #[.int .u8 (n1 : Int), .int .u16 (n2 : Int), .int .u16 (n3 : Int), .int .u32 (n4 : Int), .slice none 0 0] 28)))
      obtain rfl := hR
      clear HR HB0 HB9 h4 G5 HG h10 H1 H2 H3 H4 H5
      go_wp2_with fail
      refine (op_refuse 1 (by decide) _).mono ?_
      rintro e w8 ⟨dv, rfl, hb3, hk⟩
      have G8 := G6.out.old hk
      have B3 := Lib.hid hb3
      have h0 := G8.f0.lt
      have h1 := G8.f1.lt
      obtain ⟨⟨a0, a1, a2, a3, a4⟩, a5, a6, a7, a8, a9⟩ := full5 G8.f0
      obtain ⟨⟨d0, d1⟩, d2, d3⟩ := full2 G8.f1
      obtain ⟨A1, c1, rfl, _, _⟩ := hb3.form
      have H8 := Lib.hid G8
      clear hk hb3 G8 G6
      go_wp2
      exact bodyPost_ret (v := .tuple #[.agg #[.int .u8 0, .int .u16 0, .int .u16 0, .int .u32 0, .slice none 0 0], .agg #[.int .u8 2, .int .u8 1], .slice A1 (Opn.data 1).length c1]) (by simp [results, Tryd.results9, go_sem, a0, a1, a2, a3, a4, d0, d1]) rfl ⟨_, _, rfl, Cps.nil _, B3.out.two H8.out.f0 H8.out.f1 (by decide) (by decide) (kept_two5 _ _ _ _ _ _ _), H8.out.kept.late (kept_two5 _ _ _ _ _ _ _) (by rintro i (rfl | rfl) <;> omega)⟩
end Go.Proofs.YtohgkibpcgfihaaDoor
