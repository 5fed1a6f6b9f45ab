
/-
  What the calls of package scroll's reader do: pass, Take, Rest, the numbers; New.
-/
import Derived.Test.YtembdobkgpojfaaDoorRo
import Derived.Test.YtembdobkgpojfaaDoorAp
import Derived.WalkSpells
namespace Go.Proofs.YtembdobkgpojfaaDoor
open Go.RowKit

/-- A piece of a slice of bytes. -/
theorem Bs.piece {w : World} {A : Option Addr} {n c : Nat} {l : List UInt8} (h : Bs w (.slice A n c) l) {k m : Nat} (hm : k + m ≤ n) :
    Bs w (.slice (if c = k then A else A.map (·.add k)) m (c - k)) ((l.drop k).take m) := by
  obtain ⟨A', c', hv, hc, hx, hr⟩ := h
  injection hv with h1 h2 h3
  subst h1 h2 h3
  have hlen : ((l.drop k).take m).length = m := by simp; omega
  refine ⟨_, _, by rw [hlen], by omega, by omega, fun h0 => ?_⟩
  obtain ⟨b, o, cs, f, rfl, hb, hi⟩ := hr (by omega)
  rw [if_neg (by omega)]
  have hadd : (⟨b, o, none⟩ : Addr).add k = ⟨b, o + k, none⟩ := by unfold Addr.add; split <;> simp_all
  refine ⟨b, o + k, cs, f, by simp [hadd], hb, fun i hil => ?_⟩
  rw [Nat.add_assoc, hi (k + i) (by omega)]
  congr 2
  simp only [List.getD_eq_getElem?_getD]
  rw [List.getElem?_take_of_lt (by omega), List.getElem?_drop]

/-- Behind a store of the place. -/
theorem Rd.put2 {w : World} {p : Nat} {s : RS} (h : Rd w p s) (k : Nat) (hk : RS.ok { s with k := k }) : Rd (w.setCell ⟨p, 2, none⟩ (.int .i64 (k : Int))) p { s with k := k } := by
  obtain ⟨bs, inn, hb, hs, hc, _⟩ := h
  exact ⟨bs, inn, hb.put 2 _, hs.own hb, hc.own hb, hk⟩

set_option maxHeartbeats 400000 in
theorem rd_pass (p : Nat) (s : RS) (n : Int) (w : World) (h : Rd w p s) :
    Calls Tryd.prog 125 #[.pointer (some ⟨p, 0, none⟩), .int .i64 n] w fun r w' => ∃ v, r = .returned v ∧ Bs w' v (s.got n) ∧ Rd w' p (s.pass n) ∧ Kept (Only p) w w' := by
  have HW := Lib.hid (rd_fits p s n w h)
  by_cases h0 : (s.fits n).e = 0
  · obtain ⟨e1, he, hn0, hn1⟩ := RS.fits_zero h0
    have hok := RS.pass_ok h.ok n
    have HF : Hid (s.pass n = { s with k := s.k + n.toNat }) := if_pos h0
    have HG : Hid (s.got n = (s.l.drop s.k).take n.toNat) := if_pos h0
    rw [HF.out] at hok ⊢
    rw [HG.out]
    rw [e1] at HW
    have hmx := h.ok.2
    have hle := h.ok.le
    have htl := h.ok.top_le
    rw [RS.left_zero he] at hn1
    clear h e1 h0 HF HG
    obtain ⟨l, k, es, e⟩ := s
    obtain rfl : e = 0 := he
    simp only at hmx hle hok hn1 htl ⊢
    generalize RS.top ⟨l, k, es, 0⟩ = top at *
    have HO := Lib.hid hok
    clear hok
    go_enter Tryd.func125, Tryd.ntmps125
    go_wp2_with fail
    refine HW.out.mono ?_
    rintro e w1 ⟨rfl, hr, hk⟩
    have HK := Lib.hid hk
    have hR := hr.put2 _ HO.out
    rw [show ((k + n.toNat : Nat) : Int) = (k : Int) + n from by omega] at hR
    have HR2 := Lib.hid hR
    obtain ⟨bs, inn, hb, hs, _, _⟩ := hr
    obtain ⟨⟨-, h1, h2, -, -⟩, f2, -, -⟩ := cells5 hb
    change Bs w1 bs l at hs
    obtain ⟨A, c, rfl, hc1, hc2⟩ := hs.form
    have HB := Lib.hid ((hs.piece (k := k) (m := n.toNat) (by omega)).own (i := 2) (u := .int .i64 ((k : Int) + n)) hb)
    unfold maxLen at hc2
    clear hb hs hR hk HW HO
    have hcI : (k : Int) + n ≤ c := by omega
    have hkn : (k : Int) ≤ (k : Int) + n := by omega
    go_wp2
    go_quiet (fail)
    go_wp2
    all_goals
      have hB := HB.out.kept ((Kept.refl Nothing _).drewN nq) (NoBytes.nothing _)
      first | rw [if_pos h] at hB | rw [if_neg h] at hB
      go_ret
      refine ⟨_, rfl, ?_, HR2.out.drewN nq, (HK.out.trans (Kept.own _ _ _ _)).drewN nq⟩
      show Bs _ (.slice _ (((k : Int) + n).toNat - k) _) _
      rw [show ((k : Int) + n).toNat - k = n.toNat from by omega]
      first | exact hB | (rw [show c - k = 0 from by omega] at hB; exact hB)
  · have HF : Hid (s.pass n = s.fits n) := if_neg h0
    have HG : Hid (s.got n = []) := if_neg h0
    have hn : ((s.fits n).e == 0) = false := by simpa using h0
    rw [HF.out, HG.out]
    clear HF HG h0 h
    go_enter Tryd.func125, Tryd.ntmps125
    go_wp2_with fail
    refine HW.out.mono ?_
    rintro e w1 ⟨rfl, hr, hk⟩
    have HR1 := Lib.hid hr
    clear hr
    go_wp2
    go_ret
    exact ⟨_, rfl, Bs.nil _, HR1.out, hk⟩


theorem sl_clone (v : Value) (l : List UInt8) (w : World) (h : By w v l) (hl : l.length ≤ 1099511627776) :
    Calls Tryd.prog 112 #[v] w fun r w' => ∃ v', r = .returned v' ∧ w'.ownsRow w.heap.size 5 1 v' l.length (bys l) ∧ Kept Nothing w w' := by
  obtain ⟨i0, hi, hz0, hz1, hz2⟩ := info_parts u8_info
  have hq := fun (u : World) (a : Option Addr) (n c : Nat) => Lib.run_eql_slice_nil (P := Tryd.prog) u 29 5 a n c 0 0 Tryd.underlying29
  obtain ⟨A, c, rfl, hc, hm⟩ := h.form
  have HS := Lib.hid (h.src)
  cases A with
  | none =>
    obtain rfl : l = [] := List.eq_nil_of_length_eq_zero (HS.out.2.1 rfl)
    clear h hc hm
    go_enter Tryd.func112, Tryd.ntmps112
    go_wp2
    go_ret
    exact ⟨_, rfl, World.ownsRow_nil _ _ _ _, Kept.refl _ _⟩
  | some ad =>
    clear h hc hm
    have HL : Hid (0 + l.length ≤ maxLen ∧ (0 + l.length) * 1 ≤ 140737488355328) := ⟨by unfold maxLen; omega, by omega⟩
    go_enter Tryd.func112, Tryd.ntmps112
    go_wp2_with (at_builtin; refine wpList_app _ rfl _ _ 29 rfl w.heap.size 5 i0 (.int .u8 0) 1 1 Tryd.underlying29 hi hz0 hz1 hz2 rfl (by decide) (.slice (some ⟨w.heap.size, 0, none⟩) 0 0) 0 [] rfl (World.ownsRow_made w #[] 0 (Nat.le_refl _) (by simp [maxLen]) rfl) (some ad) l.length c (bys l) rfl (HS.out.kept ((Kept.refl _ w).alloc _)) HL.out.1 HL.out.2 (by simp) ?_; intro v' w' hown hg _)
    go_ret
    refine ⟨v', rfl, ?_, ((Kept.refl _ w).alloc _).grown hg (fun k hk hlt => ?_)⟩
    · simpa using hown
    · simp only [Value.ownBlock, Option.some.injEq] at hk
      omega

theorem rd_new (v : Value) (l : List UInt8) (w : World) (h : By w v l) (hl : l.length ≤ 1099511627776) :
    Calls Tryd.prog 110 #[v] w fun r w' => ∃ p, r = .returned (.pointer (some ⟨p, 0, none⟩)) ∧ Rd w' p ⟨l, 0, [], 0⟩ ∧ Kept Nothing w w' ∧ w.heap.size ≤ p := by
  have HW := Lib.hid (sl_clone v l w h hl)
  have HL := Lib.hid hl
  clear h hl
  go_enter Tryd.func110, Tryd.ntmps110
  go_wp2_with fail
  refine HW.out.mono ?_
  rintro e w1 ⟨v', rfl, ho, hk⟩
  have HB := Lib.hid (Bs.of_own ho)
  have HK := Lib.hid hk
  obtain ⟨A, c, rfl, _, _⟩ := HB.out.form
  clear ho hk
  go_wp2
  go_ret
  refine ⟨w1.heap.size, rfl, ⟨_, _, Blk.fresh w1 _ _, HB.out.kept ((Kept.refl Nothing w1).alloc _) (NoBytes.nothing _), rfl, Nat.zero_le _, HL.out⟩, HK.out.alloc _, HK.out.size⟩
end Go.Proofs.YtembdobkgpojfaaDoor
