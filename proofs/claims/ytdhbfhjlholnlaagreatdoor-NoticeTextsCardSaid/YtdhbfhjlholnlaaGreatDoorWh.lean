
/-
  What the calls of package scroll's writer do: Hold.
-/
import Derived.Test.YtdhbfhjlholnlaaGreatDoorWr
namespace Go.Proofs.YtdhbfhjlholnlaaGreatDoor
open Go.RowKit

theorem hold_info : (Tryz.prog.info? 298).map (fun i => (i.zero, i.size, i.bytes)) = some (some (.agg #[.int .i64 0, .int .i64 0]), 2, 16) := by kernel_rfl
theorem make1 : ∀ w : World, (Instr.makeSlice 55 (.int .i64 1) (.int .i64 1)).run Tryz.prog w = .ok (.slice (some ⟨w.heap.size, 0, none⟩) 1 1) (w.alloc (.cells #[.int .u8 0] 5)) := fun _ => by kernel_rfl
theorem make2 : ∀ w : World, (Instr.makeSlice 55 (.int .i64 2) (.int .i64 2)).run Tryz.prog w = .ok (.slice (some ⟨w.heap.size, 0, none⟩) 2 2) (w.alloc (.cells #[.int .u8 0, .int .u8 0] 5)) := fun _ => by kernel_rfl

theorem hcs_append (a b : List (Nat × Nat)) : hcs (a ++ b) = hcs a ++ hcs b := List.flatMap_append

/-- Behind append's store of the holds. -/
theorem Wr.put2 {F : Nat → Prop} {w w1 : World} {p : Nat} {s : WS} {bv hv hv' : Value} {hs : List (Nat × Nat)} (hF : F = wown p bv hv) (hb : Blk w p 143 #[.bool true, bv, hv, .int .i64 s.e])
    (h1 : w.ownsRow 0 5 1 bv s.l.length (bys s.l)) (h2 : w.ownsRow 0 298 2 hv s.hs.length (hcs s.hs)) (hok : WS.ok { s with hs := hs })
    {n : Nat} {xs : List Value} (hn : n = hs.length) (hx : xs = hcs hs) (ho : w1.ownsRow 0 298 2 hv' n xs) (kg : Kept (fun k => hv.ownBlock = some k) w w1) (hat : hv'.ownBlock = hv.ownBlock ∨ ∃ g, hv'.ownBlock = some g ∧ w.heap.size ≤ g) :
    ∃ F', Wr (w1.setCell ⟨p, 2, none⟩ hv') F' p { s with hs := hs } ∧ Kept F w (w1.setCell ⟨p, 2, none⟩ hv') ∧ Sub w F' F := by
  subst hF hn hx
  have nb : ∀ g, hv.ownBlock = some g → g ≠ p := fun g hg => by
    obtain ⟨cs, hh⟩ := own_lt h2 hg
    exact (hb.apart (t' := 298) hh (by decide)).symm
  have hb1 := hb.kept kg (fun e => nb p e rfl)
  have h11 := own_kept h1 kg (fun g hg e => by
    obtain ⟨cs, hh⟩ := own_lt h1 hg
    obtain ⟨cs', hh'⟩ := own_lt h2 e
    rw [hh] at hh'
    injection hh' with hh'
    injection hh' with _ ht
    exact absurd ht (by decide))
  have k1 := Kept.own w1 p 2 hv'
  refine ⟨wown p bv hv', ⟨bv, hv', rfl, hb1.put 2 _, own_kept h11 k1 (fun g hg e => ?_), own_kept ho k1 (fun g hg e => ?_), hok⟩, ?_, ?_⟩
  · obtain ⟨cs, hh⟩ := own_lt h11 hg
    exact hb1.apart (t' := 5) hh (by decide) e.symm
  · obtain ⟨cs, hh⟩ := own_lt ho hg
    exact hb1.apart (t' := 298) hh (by decide) e.symm
  · exact (kg.mono (fun k hk => .inr (.inr hk))).trans (k1.mono (fun k e => .inl e))
  · intro k hk
    rcases hk with hk | hk | hk
    · exact .inl (.inl hk)
    · exact .inl (.inr (.inl hk))
    · rcases hat with h | ⟨g, h, hg⟩
      · rw [h] at hk; exact .inl (.inr (.inr hk))
      · rw [h] at hk
        injection hk with hk
        exact .inr (by omega)
theorem Wr.staysH {w w1 : World} {p : Nat} {hv : Value} {hs : List (Nat × Nat)} {cs : Array Value} (hb : Blk w p 143 cs) (h1 : w.ownsRow 0 298 2 hv hs.length (hcs hs)) (kg : Kept (fun k => hv.ownBlock = some k) w w1) : Blk w1 p 143 cs :=
  hb.kept kg (fun e => by
    obtain ⟨cs', hh⟩ := own_lt h1 e
    exact hb.apart (t' := 298) hh (by decide) rfl)

theorem Bs.made {w : World} {b : Nat} {l : List UInt8} {cs : Array Value} (h : Blk w b 5 cs) (hl : cs.toList = bys l) (hm : l.length ≤ maxLen) : Bs w (.slice (some ⟨b, 0, none⟩) l.length l.length) l :=
  ⟨_, _, rfl, Nat.le_refl _, hm, fun _ => ⟨b, 0, cs, _, rfl, h, fun i hi => by rw [Nat.zero_add, ← getD_bys l i hi, ← hl, Array.getElem?_toList]⟩⟩

theorem cells_src {w : World} {b : Nat} {t : TypeId} {cs : Array Value} (h : Blk w b t cs) {size m : Nat} (hl : cs.size = m * size) (h1 : ∀ u ∈ cs.toList, u.oneCell' = true) : Src w size (some ⟨b, 0, none⟩) m cs.toList := by
  refine ⟨by simpa using hl, (fun h => by cases h), fun a ha j u hu => ?_, h1⟩
  injection ha with ha
  subst ha
  rw [add_none, Nat.zero_add, h.cell j, ← hu, Array.getElem?_toList]
theorem src_new2 (w : World) (t : TypeId) (a b : Value) (ha : a.oneCell' = true) (hb : b.oneCell' = true) : Src (w.alloc (.cells #[a, b] t)).drew 2 (some ⟨w.heap.size, 0, none⟩) 1 [a, b] :=
  cells_src (cs := #[a, b]) (Blk.fresh w t #[a, b]).drew rfl (by intro u hu; simp at hu; rcases hu with rfl | rfl <;> assumption)

theorem Sub.less {S F F' : Nat → Prop} {w w1 : World} (k : Kept S w w1) (h : Sub w1 F' F) : Sub w F' F := fun i hi => (h i hi).imp (fun x => x) (fun x => Nat.le_trans k.size x)

theorem WS.hold_eq {s : WS} (he : s.e = 0) {n : Nat} (hn : n = 1 ∨ n = 2) : s.hold (n : Int) = { s with l := s.l ++ List.replicate n 0, hs := s.hs ++ [(n, s.l.length + n)] } := by
  unfold WS.hold
  rw [if_pos (by omega), if_pos he]
  simp

end Go.Proofs.YtdhbfhjlholnlaaGreatDoor
