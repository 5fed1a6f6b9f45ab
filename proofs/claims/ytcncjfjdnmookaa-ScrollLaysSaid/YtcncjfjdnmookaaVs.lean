/-
  The document's own writer (package consulateref01) in memory; its Lay, Hold, Done.
-/
import Derived.Test.YtcncjfjdnmookaaWt
namespace Go.Proofs.Ytcncjfjdnmookaa
open Go.RowKit

/-- The cells of the document's holds: the place, how wide. -/
def rcs (l : List (Nat × Nat)) : List Value := l.flatMap fun h => [.int .i64 ((h.2 - h.1 : Nat) : Int), .int .i64 (h.1 : Int)]
theorem length_rcs (l : List (Nat × Nat)) : (rcs l).length = l.length * 2 := by
  induction l with
  | nil => rfl
  | cons a r ih => simp only [rcs, List.flatMap_cons, List.length_append, List.length_cons, List.length_nil] at ih ⊢; omega
theorem rcs_append (a b : List (Nat × Nat)) : rcs (a ++ b) = rcs a ++ rcs b := List.flatMap_append

/-- It is not too long. -/
def WS.small (s : WS) : Prop := s.l.length ≤ 1099511627776 ∧ s.hs.length ≤ 1099511627776
theorem WS.ok.small {s : WS} (h : s.ok) : s.small := ⟨h.2.1, h.2.2⟩

/-- At block q lies the document's writer, and it is s; it is made of the blocks F. -/
def Vr (w : World) (F : Nat → Prop) (q : Nat) (s : WS) : Prop :=
  ∃ bv hv, F = wown q bv hv ∧ Blk w q 45 #[bv, hv, .int .i64 s.e] ∧
    w.ownsRow 0 5 1 bv s.l.length (bys s.l) ∧ w.ownsRow 0 86 2 hv s.hs.length (rcs s.hs) ∧ s.small

section
variable {w w' : World} {F : Nat → Prop} {q : Nat} {s : WS}
theorem Vr.ok (h : Vr w F q s) : s.small := by obtain ⟨_, _, _, _, _, _, h⟩ := h; exact h
theorem Vr.kinds (h : Vr w F q s) {k : Nat} (hk : F k) : ∃ cs t, w.heap[k]? = some (.cells cs t (0, 0)) ∧ (t = 45 ∨ t = 5 ∨ t = 86) := by
  obtain ⟨bv, hv, rfl, hb, h1, h2, _⟩ := h
  rcases hk with rfl | hk | hk
  · exact ⟨_, _, hb, .inl rfl⟩
  · obtain ⟨cs, hcs⟩ := own_lt h1 hk; exact ⟨cs, _, hcs, .inr (.inl rfl)⟩
  · obtain ⟨cs, hcs⟩ := own_lt h2 hk; exact ⟨cs, _, hcs, .inr (.inr rfl)⟩
theorem Vr.lt (h : Vr w F q s) {k : Nat} (hk : F k) : k < w.heap.size := by
  obtain ⟨cs, t, hh, _⟩ := h.kinds hk
  exact (Array.getElem?_eq_some_iff.1 hh).1
theorem Vr.kept {S : Nat → Prop} (h : Vr w F q s) (k : Kept S w w') (hs : ∀ g, F g → ¬ S g) : Vr w' F q s := by
  obtain ⟨bv, hv, rfl, hb, h1, h2, h3⟩ := h
  exact ⟨bv, hv, rfl, hb.kept k (hs _ (.inl rfl)), own_kept h1 k (fun g hg => hs g (.inr (.inl hg))), own_kept h2 k (fun g hg => hs g (.inr (.inr hg))), h3⟩
theorem Vr.drewN (h : Vr w F q s) (n : Nat) : Vr (w.drewN n) F q s := h.kept ((Kept.refl Nothing w).drewN n) (fun _ _ x => x)
theorem Vr.put2 (h : Vr w F q s) (x : Int) : Vr (w.setCell ⟨q, 2, none⟩ (.int .i64 x)) F q { s with e := x } ∧ Kept F w (w.setCell ⟨q, 2, none⟩ (.int .i64 x)) := by
  obtain ⟨bv, hv, rfl, hb, h1, h2, h3⟩ := h
  have k := Kept.own w q 2 (.int .i64 x)
  refine ⟨⟨bv, hv, rfl, hb.put 2 _, own_kept h1 k (fun g hg e => ?_), own_kept h2 k (fun g hg e => ?_), h3⟩, k.mono (fun _ e => .inl e)⟩
  · obtain ⟨cs, hh⟩ := own_lt h1 hg
    exact hb.apart (t' := 5) hh (by decide) e.symm
  · obtain ⟨cs, hh⟩ := own_lt h2 hg
    exact hb.apart (t' := 86) hh (by decide) e.symm
end
theorem v_cells {w : World} {p : Nat} {t : TypeId} {a b c : Value} (h : Blk w p t #[a, b, c]) :
    (w.cell? ⟨p, 0, none⟩ = some a ∧ w.cell? ⟨p, 1, none⟩ = some b ∧ w.cell? ⟨p, 2, none⟩ = some c) ∧ (w.frozen? ⟨p, 0, none⟩ = false ∧ w.frozen? ⟨p, 1, none⟩ = false ∧ w.frozen? ⟨p, 2, none⟩ = false) :=
  ⟨⟨h.cell 0, h.cell 1, h.cell 2⟩, h.free 0, h.free 1, h.free 2⟩

/-- Behind append's store of the bytes. -/
theorem Vr.put0 {w w1 : World} {q : Nat} {s : WS} {bv hv bv' : Value} {l : List UInt8} {o : Obj} (hb : Blk w q 45 #[bv, hv, .int .i64 s.e])
    (h1 : w.ownsRow 0 5 1 bv s.l.length (bys s.l)) (h2 : w.ownsRow 0 86 2 hv s.hs.length (rcs s.hs)) (hok : WS.small { s with l := l })
    {n : Nat} {xs : List Value} (hn : n = l.length) (hx : xs = bys l) (ho : w1.ownsRow 0 5 1 bv' n xs) (hg : (w.alloc o).drew.grownBy w1 bv.ownBlock) (hat : bv'.ownBlock = bv.ownBlock ∨ bv'.ownBlock = some (w.alloc o).drew.heap.size) :
    Blk w1 q 45 #[bv, hv, .int .i64 s.e] ∧ ∃ F', Vr (w1.setCell ⟨q, 0, none⟩ bv') F' q { s with l := l } ∧ Kept (wown q bv hv) w (w1.setCell ⟨q, 0, none⟩ bv') ∧ Sub w F' (wown q bv hv) := by
  subst hn hx
  have kg : Kept (fun k => bv.ownBlock = some k) w w1 := (((Kept.refl _ w).alloc o).drew).grown hg (fun k hk _ => hk)
  have nb : ∀ g, bv.ownBlock = some g → g ≠ q := fun g hg => by
    obtain ⟨cs, hh⟩ := own_lt h1 hg
    exact (hb.apart (t' := 5) hh (by decide)).symm
  have hb1 := hb.kept kg (fun e => nb q e rfl)
  have h21 := own_kept h2 kg (fun g hg e => by
    obtain ⟨cs, hh⟩ := own_lt h2 hg
    obtain ⟨cs', hh'⟩ := own_lt h1 e
    rw [hh] at hh'
    injection hh' with hh'
    injection hh' with _ ht
    exact absurd ht (by decide))
  have k1 := Kept.own w1 q 0 bv'
  refine ⟨hb1, wown q bv' hv, ⟨bv', hv, rfl, hb1.put 0 _, own_kept ho k1 (fun g hg e => ?_), own_kept h21 k1 (fun g hg e => ?_), hok⟩, ?_, ?_⟩
  · obtain ⟨cs, hh⟩ := own_lt ho hg
    exact hb1.apart (t' := 5) hh (by decide) e.symm
  · obtain ⟨cs, hh⟩ := own_lt h21 hg
    exact hb1.apart (t' := 86) hh (by decide) e.symm
  · exact (kg.mono (fun k hk => .inr (.inl hk))).trans (k1.mono (fun k e => .inl e))
  · intro k hk
    rcases hk with hk | hk | hk
    · exact .inl (.inl hk)
    · rcases hat with h | h
      · rw [h] at hk; exact .inl (.inr (.inl hk))
      · rw [h] at hk
        injection hk with hk
        exact .inr (by rw [← hk]; simp)
    · exact .inl (.inr (.inr hk))

/-- The bytes of n, so many, the highest first. -/
def be (n wide : Nat) : List UInt8 := (List.range wide).map fun i => UInt8.ofNat (n / 256 ^ (wide - 1 - i))
theorem be_one (n : Nat) : be n 1 = [UInt8.ofNat n] := by simp [be, List.range_succ]
theorem be_two (n : Nat) : be n 2 = two n := by simp [be, List.range_succ, two]
theorem ofNat_mod (a b : Nat) (h : a % 256 = b % 256) : UInt8.ofNat a = UInt8.ofNat b := by
  apply UInt8.toNat_inj.1
  rw [UInt8.toNat_ofNat', UInt8.toNat_ofNat']
  exact h
theorem be_four (n : Nat) : be n 4 = fours [n] := by
  simp only [be, List.range_succ, List.range_zero, List.nil_append, List.map_cons, List.map_nil, fours, List.flatMap_cons, List.flatMap_nil, twos, two, List.append_nil, List.cons_append]
  refine congr (congrArg _ (ofNat_mod _ _ ?_)) (congr (congrArg _ (ofNat_mod _ _ ?_)) (congr (congrArg _ (ofNat_mod _ _ ?_)) (congrArg (fun x => [x]) (ofNat_mod _ _ ?_)))) <;> omega
end Go.Proofs.Ytcncjfjdnmookaa
