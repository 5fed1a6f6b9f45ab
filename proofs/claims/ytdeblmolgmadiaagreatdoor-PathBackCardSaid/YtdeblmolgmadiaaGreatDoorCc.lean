
/-
  What the program's Read of chapter 5 does: one capability, then all.
-/
import Derived.Test.YtdeblmolgmadiaaGreatDoorCb
import Derived.Test.YtdeblmolgmadiaaGreatDoorRn
namespace Go.Proofs.YtdeblmolgmadiaaGreatDoor
open Go.RowKit

theorem Rd.rem_eq {w : World} {p : Nat} {s : RS} (h : Rd w p s) : rdm w p = s.rem := by
  obtain ⟨bs, inn, hb, hs, _, _⟩ := h
  obtain ⟨⟨-, h1, h2, -, h4⟩, -⟩ := cells5 hb
  obtain ⟨A, c, rfl, _, _⟩ := hs.form
  unfold rdm RS.rem
  rw [h1, h2, h4]
  simp only [intOf, Option.getD_some, Int.toNat_natCast]
  rfl
theorem num_got1 (s : RS) : RS.num (s.got 1) < 256 := by
  have h1 := RS.num_lt (s.got 1)
  have h2 := RS.got_len (s := s) (n := 1)
  have : 256 ^ (s.got 1).length ≤ 256 ^ 1 := Nat.pow_le_pow_right (by decide) h2
  omega

theorem grown_kept {w w' : World} {v : Value} (hg : w.grownBy w' v.ownBlock) : Kept (fun k => v.ownBlock = some k) w w' := (Kept.refl _ w).grown hg (fun _ hk _ => hk)
theorem NoRd.own {w : World} {base : Nat} {e : TypeId} {size n : Nat} {v : Value} {xs : List Value} (h : w.ownsRow base e size v n xs) (ht : e ≠ 5 ∧ e ≠ 182 ∧ e ≠ 180) : NoRd w (fun k => v.ownBlock = some k) := by
  intro k hk cs t f hb
  obtain ⟨cs', hh⟩ := ow_lt h hk
  rw [hh] at hb
  injection hb with hb
  injection hb with _ h2
  subst h2
  exact ht
theorem NoBytes.own {w : World} {base : Nat} {e : TypeId} {size n : Nat} {v : Value} {xs : List Value} (h : w.ownsRow base e size v n xs) (ht : e ≠ 5) : NoBytes w (fun k => v.ownBlock = some k) := by
  intro k hk cs f hb
  obtain ⟨cs', hh⟩ := ow_lt h hk
  rw [hh] at hb
  injection hb with hb
  injection hb with _ h2
  exact ht h2
theorem NoBytes.rd {w : World} {p : Nat} {s : RS} (h : Rd w p s) : NoBytes w (Only p) := by
  obtain ⟨_, _, hb, _⟩ := h
  exact NoBytes.of_blk hb (by decide)
theorem ow_rd {w w' : World} {p : Nat} {s : RS} {base : Nat} {e : TypeId} {size n : Nat} {v : Value} {xs : List Value} (h : w.ownsRow base e size v n xs) (hr : Rd w p s) (he : e ≠ 180) (k : Kept (Only p) w w') : w'.ownsRow base e size v n xs := by
  obtain ⟨_, _, hb, _⟩ := hr
  exact ow_kept h k (ow_far h hb he)
theorem Blk.rd {w w' : World} {p g : Nat} {s : RS} {t : TypeId} {cs : Array Value} (h : Blk w g t cs) (hr : Rd w p s) (ht : t ≠ 180) (k : Kept (Only p) w w') : Blk w' g t cs := by
  obtain ⟨_, _, hb, _⟩ := hr
  exact h.kept k (fun e => h.apart hb ht e)
theorem Cells.bs {w w' : World} {S : Nat → Prop} {xs : List Value} {l : List Cp} (h : Cells (Bs w) xs l) (k : Kept S w w') (hs : NoBytes w S) : Cells (Bs w') xs l := h.mono (fun _ _ hb => hb.kept k hs)
theorem Kept.rd {w w1 w2 : World} {p : Nat} (h : Kept Nothing w w1) (k : Kept (Only p) w1 w2) (hp : w.heap.size ≤ p) : Kept Nothing w w2 :=
  h.trans_new k (fun i hi e => by have : i = p := e; omega)

theorem pass_es (s : RS) (n : Int) : (s.pass n).es = s.es := by
  unfold RS.pass
  split
  · rfl
  · exact (RS.fits_l s n).2.2

end Go.Proofs.YtdeblmolgmadiaaGreatDoor
