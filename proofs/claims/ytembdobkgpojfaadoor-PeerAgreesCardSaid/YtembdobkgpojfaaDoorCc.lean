
/-
  What the program's Read of chapter 5 does: one capability, then all.
-/
import Derived.Test.YtembdobkgpojfaaDoorCb
import Derived.Test.YtembdobkgpojfaaDoorRn
namespace Go.Proofs.YtembdobkgpojfaaDoor
open Go.RowKit

theorem Rd.rem_eq {w : World} {p : Nat} {s : RS} (h : Rd w p s) : rdm w p = s.rem := by
  obtain ⟨bs, inn, hb, hs, _, _⟩ := h
  obtain ⟨⟨-, h1, h2, -, h4⟩, -⟩ := cells5 hb
  obtain ⟨A, c, rfl, _, _⟩ := hs.form
  unfold rdm RS.rem
  rw [h1, h2, h4]
  simp only [intOf, Option.getD_some, Int.toNat_natCast]
  rfl
theorem num_got1 (s : RS) : RS.num (s.got 1) < 256 := by
  have h1 := RS.num_lt (s.got 1)
  have h2 := RS.got_len (s := s) (n := 1)
  have : 256 ^ (s.got 1).length ≤ 256 ^ 1 := Nat.pow_le_pow_right (by decide) h2
  omega

theorem cap_info : (Tryd.prog.info? 62).map (fun i => (i.zero, i.size, i.bytes)) = some (some (.agg #[.int .u8 0, .slice none 0 0]), 2, 32) := by kernel_rfl
theorem grown_kept {w w' : World} {v : Value} (hg : w.grownBy w' v.ownBlock) : Kept (fun k => v.ownBlock = some k) w w' := (Kept.refl _ w).grown hg (fun _ hk _ => hk)
theorem NoRd.own {w : World} {base : Nat} {e : TypeId} {size n : Nat} {v : Value} {xs : List Value} (h : w.ownsRow base e size v n xs) (ht : e ≠ 5 ∧ e ≠ 184 ∧ e ≠ 173) : NoRd w (fun k => v.ownBlock = some k) := by
  intro k hk cs t f hb
  obtain ⟨cs', hh⟩ := ow_lt h hk
  rw [hh] at hb
  injection hb with hb
  injection hb with _ h2
  subst h2
  exact ht
theorem NoBytes.own {w : World} {base : Nat} {e : TypeId} {size n : Nat} {v : Value} {xs : List Value} (h : w.ownsRow base e size v n xs) (ht : e ≠ 5) : NoBytes w (fun k => v.ownBlock = some k) := by
  intro k hk cs f hb
  obtain ⟨cs', hh⟩ := ow_lt h hk
  rw [hh] at hb
  injection hb with hb
  injection hb with _ h2
  exact ht h2
theorem NoBytes.rd {w : World} {p : Nat} {s : RS} (h : Rd w p s) : NoBytes w (Only p) := by
  obtain ⟨_, _, hb, _⟩ := h
  exact NoBytes.of_blk hb (by decide)
theorem ow_rd {w w' : World} {p : Nat} {s : RS} {base : Nat} {e : TypeId} {size n : Nat} {v : Value} {xs : List Value} (h : w.ownsRow base e size v n xs) (hr : Rd w p s) (he : e ≠ 173) (k : Kept (Only p) w w') : w'.ownsRow base e size v n xs := by
  obtain ⟨_, _, hb, _⟩ := hr
  exact ow_kept h k (ow_far h hb he)
theorem Blk.rd {w w' : World} {p g : Nat} {s : RS} {t : TypeId} {cs : Array Value} (h : Blk w g t cs) (hr : Rd w p s) (ht : t ≠ 173) (k : Kept (Only p) w w') : Blk w' g t cs := by
  obtain ⟨_, _, hb, _⟩ := hr
  exact h.kept k (fun e => h.apart hb ht e)
theorem Cells.bs {w w' : World} {S : Nat → Prop} {xs : List Value} {l : List Cp} (h : Cells (Bs w) xs l) (k : Kept S w w') (hs : NoBytes w S) : Cells (Bs w') xs l := h.mono (fun _ _ hb => hb.kept k hs)
theorem Kept.rd {w w1 w2 : World} {p : Nat} (h : Kept Nothing w w1) (k : Kept (Only p) w1 w2) (hp : w.heap.size ≤ p) : Kept Nothing w w2 :=
  h.trans_new k (fun i hi e => by have : i = p := e; omega)

theorem pass_es (s : RS) (n : Int) : (s.pass n).es = s.es := by
  unfold RS.pass
  split
  · rfl
  · exact (RS.fits_l s n).2.2

/-- What lies in memory between two steps of Read. -/
structure Mid (w : World) (p : Nat) (b : List UInt8) (s : RS) (acc : List Cp) (lv : Value) (wr : World) : Prop where
  rd : Rd wr p s
  own : ∃ xs, wr.ownsRow w.heap.size 62 2 lv acc.length xs ∧ Cells (Bs wr) xs acc
  kept : Kept Nothing w wr
  cell : Blk wr w.heap.size 28 #[.int .u8 0, .int .u8 0]
  at_ : w.heap.size ≤ p
  less : acc.length + s.rem ≤ 2 * b.length + 1
theorem Mid.step {w wr w' : World} {p : Nat} {b : List UInt8} {s s' : RS} {acc : List Cp} {lv : Value} (h : Mid w p b s acc lv wr) (hr : Rd w' p s') (k : Kept (Only p) wr w') (hs : s'.rem ≤ s.rem) : Mid w p b s' acc lv w' := by
  obtain ⟨xs, ho, hc⟩ := h.own
  exact ⟨hr, ⟨xs, ow_rd ho h.rd (by decide) k, hc.bs k (NoBytes.rd h.rd)⟩, h.kept.rd k h.at_, h.cell.rd h.rd (by decide) k, h.at_, by have := h.less; omega⟩
theorem Mid.draw {w wr : World} {p : Nat} {b : List UInt8} {s : RS} {acc : List Cp} {lv : Value} (h : Mid w p b s acc lv wr) (n : Nat) : Mid w p b s acc lv (wr.drewN n) :=
  h.step (h.rd.drewN n) ((Kept.refl _ wr).drewN n) (Nat.le_refl _)

theorem Mid.told {w wr : World} {p : Nat} {b : List UInt8} {s : RS} {acc : List Cp} {lv : Value} (h : Mid w p b s acc lv wr) (x y : Value) :
    (∃ ys, ((wr.setCell ⟨w.heap.size, 0, none⟩ x).setCell ⟨w.heap.size, 1, none⟩ y).ownsRow w.heap.size 62 2 lv acc.length ys ∧ Cells (Bs ((wr.setCell ⟨w.heap.size, 0, none⟩ x).setCell ⟨w.heap.size, 1, none⟩ y)) ys acc) ∧ Kept Nothing w ((wr.setCell ⟨w.heap.size, 0, none⟩ x).setCell ⟨w.heap.size, 1, none⟩ y) ∧
      ((wr.setCell ⟨w.heap.size, 0, none⟩ x).setCell ⟨w.heap.size, 1, none⟩ y).cell? ⟨w.heap.size, 0, none⟩ = some x ∧ ((wr.setCell ⟨w.heap.size, 0, none⟩ x).setCell ⟨w.heap.size, 1, none⟩ y).cell? ⟨w.heap.size, 1, none⟩ = some y := by
  obtain ⟨xs, ho, hc⟩ := h.own
  have b1 := h.cell.put 0 x
  have b2 := b1.put 1 y
  have k1 := Kept.own wr w.heap.size 0 x
  have k2 := Kept.own (wr.setCell ⟨w.heap.size, 0, none⟩ x) w.heap.size 1 y
  have o1 := ow_kept ho k1 (ow_far ho h.cell (by decide))
  have o2 := ow_kept o1 k2 (ow_far o1 b1 (by decide))
  have c2 := (hc.bs k1 (NoBytes.of_blk h.cell (by decide))).bs k2 (NoBytes.of_blk b1 (by decide))
  exact ⟨⟨xs, o2, c2⟩, (h.kept.setCell (p := ⟨w.heap.size, 0, none⟩) (fun h => absurd h (Nat.lt_irrefl _)) x).setCell (p := ⟨w.heap.size, 1, none⟩) (fun h => absurd h (Nat.lt_irrefl _)) y, b2.cell 0, b2.cell 1⟩
theorem Mid.push {w wr w7 : World} {p : Nat} {b : List UInt8} {s : RS} {acc : List Cp} {lv v' : Value} {xs : List Value} (h : Mid w p b s acc lv wr) (ho : wr.ownsRow w.heap.size 62 2 lv acc.length xs) (hc : Cells (Bs wr) xs acc)
    (c : Cp) (u : Value) (hu : Bs wr u c.2) (o : Obj) (hg : (wr.alloc o).grownBy w7 lv.ownBlock) (ho7 : w7.ownsRow w.heap.size 62 2 v' (acc.length + 1) (xs ++ [by8 c.1, u])) (hl : acc.length + 1 + s.rem ≤ 2 * b.length + 1) : Mid w p b s (acc ++ [c]) v' w7 := by
  have k1 := (Kept.refl Nothing wr).alloc o
  have k2 := grown_kept hg
  have ho1 := ow_kept ho k1 (fun _ _ x => x)
  have hb1 := h.cell.kept k1 (fun x => x)
  refine ⟨(h.rd.kept k1 (NoRd.nothing _)).kept k2 (NoRd.own ho1 (by decide)), ⟨_, by rw [List.length_append]; exact ho7, Cells.snoc ((hu.kept k1 (NoBytes.nothing _)).kept k2 (NoBytes.own ho1 (by decide))) ((hc.bs k1 (NoBytes.nothing _)).bs k2 (NoBytes.own ho1 (by decide)))⟩, (h.kept.trans k1).grown hg (fun k hk hlt => by have := (ho.lt k hk).1; omega), hb1.kept k2 (fun e => ?_), h.at_, by rw [List.length_append]; exact hl⟩
  obtain ⟨cs', hh⟩ := ow_lt ho1 e
  exact hb1.apart (t' := 62) hh (by decide) rfl

end Go.Proofs.YtembdobkgpojfaaDoor
