
/-
  What the calls of package scroll's reader do: pass, Take, Rest, the numbers; New.
-/
import Derived.Test.YtfjpphfadglohaaDoorRo
import Derived.Test.YtfjpphfadglohaaDoorAp
import Derived.WalkSpells
namespace Go.Proofs.YtfjpphfadglohaaDoor
open Go.RowKit

/-- A piece of a slice of bytes. -/
theorem Bs.piece {w : World} {A : Option Addr} {n c : Nat} {l : List UInt8} (h : Bs w (.slice A n c) l) {k m : Nat} (hm : k + m ≤ n) :
    Bs w (.slice (if c = k then A else A.map (·.add k)) m (c - k)) ((l.drop k).take m) := by
  obtain ⟨A', c', hv, hc, hx, hr⟩ := h
  injection hv with h1 h2 h3
  subst h1 h2 h3
  have hlen : ((l.drop k).take m).length = m := by simp; omega
  refine ⟨_, _, by rw [hlen], by omega, by omega, fun h0 => ?_⟩
  obtain ⟨b, o, cs, f, rfl, hb, hi⟩ := hr (by omega)
  rw [if_neg (by omega)]
  have hadd : (⟨b, o, none⟩ : Addr).add k = ⟨b, o + k, none⟩ := by unfold Addr.add; split <;> simp_all
  refine ⟨b, o + k, cs, f, by simp [hadd], hb, fun i hil => ?_⟩
  rw [Nat.add_assoc, hi (k + i) (by omega)]
  congr 2
  simp only [List.getD_eq_getElem?_getD]
  rw [List.getElem?_take_of_lt (by omega), List.getElem?_drop]

theorem sl_clone (v : Value) (l : List UInt8) (w : World) (h : By w v l) (hl : l.length ≤ 1099511627776) :
    Calls Tryd.prog 84 #[v] w fun r w' => ∃ v', r = .returned v' ∧ w'.ownsRow w.heap.size 5 1 v' l.length (bys l) ∧ Kept Nothing w w' := by
  obtain ⟨i0, hi, hz0, hz1, hz2⟩ := info_parts u8_info
  have hq := fun (u : World) (a : Option Addr) (n c : Nat) => Lib.run_eql_slice_nil (P := Tryd.prog) u 26 5 a n c 0 0 Tryd.underlying26
  obtain ⟨A, c, rfl, hc, hm⟩ := h.form
  have HS := Lib.hid (h.src)
  cases A with
  | none =>
    obtain rfl : l = [] := List.eq_nil_of_length_eq_zero (HS.out.2.1 rfl)
    clear h hc hm
    go_enter Tryd.func84, Tryd.ntmps84
    go_wp2
    go_ret
    exact ⟨_, rfl, World.ownsRow_nil _ _ _ _, Kept.refl _ _⟩
  | some ad =>
    clear h hc hm
    have HL : Hid (0 + l.length ≤ maxLen ∧ (0 + l.length) * 1 ≤ 140737488355328) := ⟨by unfold maxLen; omega, by omega⟩
    go_enter Tryd.func84, Tryd.ntmps84
    go_wp2_with (at_builtin; refine wpList_app _ rfl _ _ 26 rfl w.heap.size 5 i0 (.int .u8 0) 1 1 Tryd.underlying26 hi hz0 hz1 hz2 rfl (by decide) (.slice (some ⟨w.heap.size, 0, none⟩) 0 0) 0 [] rfl (World.ownsRow_made w #[] 0 (Nat.le_refl _) (by simp [maxLen]) rfl) (some ad) l.length c (bys l) rfl (HS.out.kept ((Kept.refl _ w).alloc _)) HL.out.1 HL.out.2 (by simp) ?_; intro v' w' hown hg _)
    go_ret
    refine ⟨v', rfl, ?_, ((Kept.refl _ w).alloc _).grown hg (fun k hk hlt => ?_)⟩
    · simpa using hown
    · simp only [Value.ownBlock, Option.some.injEq] at hk
      omega

end Go.Proofs.YtfjpphfadglohaaDoor
