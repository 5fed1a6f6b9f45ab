/-
  What the calls of the document's own reader (package consulateref01) do: Take, Number.
-/
import Derived.Test.YtcncjfjdnmookaaRf
import Derived.Deep.RegionLaw
namespace Go.Proofs.Ytcncjfjdnmookaa
open Go.RowKit

theorem By.cell {w : World} {A : Option Addr} {n c : Nat} {l : List UInt8} (h : By w (.slice A n c) l) {i : Nat} (hi : i < l.length) : ∃ b o, A = some ⟨b, o, none⟩ ∧ w.cell? ⟨b, o + i, none⟩ = some (by8 (l.getD i 0)) := by
  have hs := h.src
  cases A with
  | none => have := hs.2.1 rfl; omega
  | some a =>
    obtain ⟨b, o, sp⟩ := a
    have h0 := hs.2.2.1 _ rfl 0 _ (List.getElem?_eq_getElem (by rw [length_bys]; omega))
    have hsp : sp = none := by simpa [Addr.add] using World.cell?_spot h0
    subst hsp
    refine ⟨b, o, rfl, ?_⟩
    have := hs.2.2.1 _ rfl i _ (getD_bys l i hi)
    rwa [add_none] at this

theorem own_old {w w' : World} {B : Nat} {e : TypeId} {size n : Nat} {v : Value} {xs : List Value} {F : Nat → Prop} (h : w.ownsRow B e size v n xs) (hk : Kept F w w') (hF : ∀ k, F k → k < B) : w'.ownsRow B e size v n xs :=
  own_kept h hk (fun g hg x => by
    have h1 := hF g x
    rcases h.2 with ⟨rfl, _⟩ | ⟨g', cap, cur, rfl, hb, _⟩
    · simp [Value.ownBlock] at hg
    · have : g' = g := by simpa [Value.ownBlock] using hg
      omega)

theorem Rf.grown {w w2 : World} {base B p n : Nat} {F : Nat → Prop} {s : RS} {v : Value} {xs : List Value} {o : Obj} (h : Rf w base F p s) (ho : w.ownsRow B 5 1 v n xs) (hB : base ≤ B) (hg : (w.alloc o).drew.grownBy w2 v.ownBlock) :
    Rf w2 base F p s ∧ Kept (fun k => v.ownBlock = some k) w w2 := by
  have kg : Kept (fun k => v.ownBlock = some k) w w2 := (((Kept.refl _ w).alloc o).drew).grown hg (fun k hk _ => hk)
  refine ⟨h.kept kg (fun g hF hg' => ?_) (fun g hg' => ?_), kg⟩
  · obtain ⟨_, cs, t, hh, ht⟩ := h.kinds hF
    obtain ⟨cs', hh'⟩ := own_lt ho hg'
    rw [hh] at hh'
    injection hh' with hh'
    injection hh' with _ e
    rcases ht with rfl | rfl <;> exact absurd e (by decide)
  · rcases ho.2 with ⟨rfl, _⟩ | ⟨g', cap, cur, rfl, hb, _⟩
    · simp [Value.ownBlock] at hg'
    · have : g' = g := by simpa [Value.ownBlock] using hg'
      omega
theorem own_base' {w : World} {B : Nat} {e : TypeId} {size n : Nat} {v : Value} {xs : List Value} (h : w.ownsRow B e size v n xs) {g : Nat} (hg : v.ownBlock = some g) : B ≤ g := by
  rcases h.2 with ⟨rfl, _⟩ | ⟨g', cap, cur, rfl, hb, _⟩
  · simp [Value.ownBlock] at hg
  · have : g' = g := by simpa [Value.ownBlock] using hg
    omega

/-- A byte more. -/
theorem take_more (l : List UInt8) (k j : Nat) (h : k + j < l.length) : bys ((l.drop k).take j) ++ [by8 (l.getD (k + j) 0)] = bys ((l.drop k).take (j + 1)) := by
  rw [List.take_succ_eq_append_getElem (by simp; omega), bys_append]
  congr 1
  unfold bys
  simp only [List.map_cons, List.map_nil, List.getElem_drop, List.getD_eq_getElem?_getD, List.getElem?_eq_getElem h, Option.getD_some]

theorem RS.okE_pass {s : RS} (h : s.ok) {m k : Nat} (hp : RS.ok { s with k := m }) (h2 : k + 1 ≤ m) : RS.ok { s with k := k + 1 } := by
  refine ⟨RS.okE_mono hp.1 h2, h.2⟩

set_option maxHeartbeats 1600000 in
theorem rf_take (p base : Nat) (F : Nat → Prop) (s : RS) (n : Int) (w : World) (h : Rf w base F p s) :
    Calls Try.prog 53 #[.pointer (some ⟨p, 0, none⟩), .int .i64 n] w fun r w' => ∃ v, r = .returned v ∧ Bs w' v (s.got n) ∧ Rf w' base F p (s.pass n) ∧ Kept F w w' := by
  have HR := Lib.hid h
  have HL := Lib.hid (rf_left p base F s w h)
  have hok := h.ok
  obtain ⟨A, c, ev, hF, hbp, hb, hby, hbb, ho, _⟩ := h
  obtain ⟨⟨h0, h1, -, h3⟩, f1, -, f3⟩ := f_cells4 hb
  have hlt := hb.lt
  by_cases he : s.e = 0
  · have hn : (s.e != 0) = false := by simpa using he
    by_cases hneg : n < 0
    · have HF : Hid (s.fits n = { s with e := 4 }) := by show _ = _; unfold RS.fits RS.fail; rw [if_pos (Or.inl hneg), if_pos he]
      have HG : Hid (s.got n = [] ∧ s.pass n = { s with e := 4 }) := by
        unfold RS.got RS.pass; rw [HF.out]; exact ⟨if_neg (show ¬ ((4 : Int) = 0) by decide), if_neg (show ¬ ((4 : Int) = 0) by decide)⟩
      rw [HG.out.1, HG.out.2]
      clear HF HG he hby hbb ho hb hok hF hbp
      go_enter Try.func53, Try.ntmps53
      go_wp2
      go_ret
      exact ⟨_, rfl, Bs.nil _, HR.out.put3 4⟩
    · by_cases hbig : (s.left : Int) < n
      · have HF : Hid (s.fits n = { s with e := 4 }) := by show _ = _; unfold RS.fits RS.fail; rw [if_pos (Or.inr hbig), if_pos he]
        have HG : Hid (s.got n = [] ∧ s.pass n = { s with e := 4 }) := by
          unfold RS.got RS.pass; rw [HF.out]; exact ⟨if_neg (show ¬ ((4 : Int) = 0) by decide), if_neg (show ¬ ((4 : Int) = 0) by decide)⟩
        rw [HG.out.1, HG.out.2]
        clear HF HG he hby hbb ho hb hok hF hbp
        go_enter Try.func53, Try.ntmps53
        go_wp2_with fail
        refine HL.out.mono ?_
        rintro e w1 ⟨rfl, m, rfl⟩
        go_wp2
        go_ret
        have := (HR.out.drewN m).put3 4
        exact ⟨_, rfl, Bs.nil _, this.1, ((Kept.refl F w).drewN m).trans this.2⟩
      · have hz : (s.fits n).e = 0 := by unfold RS.fits; rw [if_neg (by omega)]; exact he
        have HG : Hid (s.got n = (s.l.drop s.k).take n.toNat ∧ s.pass n = { s with k := s.k + n.toNat }) := by
          unfold RS.got RS.pass; exact ⟨if_pos hz, if_pos hz⟩
        have HOKp := Lib.hid (RS.pass_ok hok n)
        rw [HG.out.1]
        rw [HG.out.2] at HOKp ⊢
        have hle := hok.le
        have htl := hok.top_le
        have hmx := hok.2
        have HNB := Lib.hid hbig
        rw [RS.left_zero he] at hbig
        have hnn : s.k + n.toNat ≤ s.top := by omega
        have HOKE := Lib.hid hok
        have HFt : Hid (∀ k, F k → k < w.heap.size) := fun k hk => by
          obtain ⟨_, cs, t, hh, _⟩ := HR.out.kinds hk
          exact (Array.getElem?_eq_some_iff.1 hh).1
        have HBP := Lib.hid hbp
        clear HG he hby hbb ho hb hok hF hz hbig hbp
        obtain ⟨nn, rfl⟩ := Int.eq_ofNat_of_zero_le (a := n) (by omega)
        simp only [Int.toNat_natCast] at hnn HOKp ⊢
        go_enter Try.func53, Try.ntmps53
        go_wp2_with fail
        refine HL.out.mono ?_
        rintro e w1 ⟨rfl, m, rfl⟩
        have hlx : decide (s.left < nn) = false := by have := HNB.out; simp; omega
        go_wp2
        go_loopw [5, 6] (fun out i wr => ∃ j : Nat, i = .int .i64 (j : Int) ∧ j ≤ nn ∧ Rf wr base F p { s with k := s.k + j } ∧ wr.ownsRow w.heap.size 5 1 out j (bys ((s.l.drop s.k).take j)) ∧ Kept F w wr) (fun _ i _ => nn - (intOf i).toNat)
        case atStart => exact ⟨0, rfl, Nat.zero_le _, HR.out.drewN m, World.ownsRow_nil _ _ _ _, (Kept.refl F w).drewN m⟩
        case round =>
          obtain ⟨j, rfl, hj, hrf, hown, hkw⟩ := hrel
          by_cases hlt2 : j < nn
          · have R2 := Lib.hid hrf
            have O2 := Lib.hid hown
            have K2 := Lib.hid hkw
            have hRR := hrf
            obtain ⟨A', c', ev', _, _, hb', hby', hbb', _, _⟩ := hRR
            simp only at hb' hby' hbb'
            obtain ⟨b, o, rfl, hcell⟩ := hby'.cell (i := s.k + j) (by omega)
            obtain ⟨⟨d0, d1, -, -⟩, e1, -, -⟩ := f_cells4 hb'
            obtain ⟨A5, c5, rfl, _, _⟩ := own_form hown
            have plt := hb'.lt
            have blt := World.block_lt_of_cell? wr _ hcell
            have hbase : w.heap.size ≤ wr.heap.size := hkw.size
            obtain ⟨A9, c9, e9, l9, m9⟩ := hby'.form
            cases e9
            unfold maxLen at m9
            simp only at blt
            unfold by8 at hcell
            obtain ⟨i1, hi, hz0, hz1, hz2⟩ := info_parts u8_info
            have HLn : Hid (j + 1 ≤ maxLen ∧ (j + 1) * 1 ≤ 140737488355328) := ⟨by unfold maxLen; omega, by omega⟩
            have hkl : s.k + j < s.l.length := by omega
            have hnnb : nn ≤ 1099511627776 := by omega
            have HTM := Lib.hid (take_more s.l s.k j hkl)
            have HKN := Lib.hid (show s.k + j + 1 ≤ s.k + nn by omega)
            generalize hkj : s.k + j = kj at *
            have HKJ := Lib.hid hkj
            generalize s.l.getD kj 0 = by0 at *
            have i2 : (kj : Int) < (s.l.length : Int) := by omega
            have hby0 : (by0.toNat : Int) < 256 := by have := by0.toNat_lt; omega
            clear hrf hown hkw hb' hby' hbb' hkj hnn hle htl
            go_wp2_with fail
            go_region_law (first | (refine step_app _ (by rfl) _ _ 22 (by rfl) w.heap.size 5 i1 _ 1 1 Try.underlying22 hi hz0 hz1 hz2 rfl (by decide) (.slice A5 j c5) j (bys ((s.l.drop s.k).take j)) (by rfl) (own_kept O2.out (((Kept.refl Nothing wr).alloc _).drew) (fun _ _ x => x)) (some ⟨wr.heap.size, 0, none⟩) 1 1 [.int .u8 (by0.toNat : Int)] (by rfl) (cells_src (cs := #[.int .u8 (by0.toNat : Int)]) (Blk.fresh wr 5 #[.int .u8 (by0.toNat : Int)]).drew rfl (by simp [Value.oneCell'])) HLn.out.1 HLn.out.2 (Nat.le_trans hbase (by simp)) ?_; intro v' w2 ho hg hat; (have HO := Lib.hid ho); (have HG := Lib.hid hg); clear ho hg hat))
            all_goals
              have hgr := Rf.grown R2.out O2.out (Nat.le_trans HBP.out (Nat.le_of_lt hlt)) HG.out
              have hgb := hgr.1
              obtain ⟨A3, c3, ev3, _, _, hb3, _⟩ := hgb
              obtain ⟨⟨-, x1, -, -⟩, y1, -, -⟩ := f_cells4 hb3
              simp only at x1
              have HGR := Lib.hid hgr
              clear hgr hb3
              go_wp2
              go_roundw
              case rel =>
                have hp1 := HGR.out.1.put1 (kj + 1) (RS.okE_pass HOKE.out HOKp.out HKN.out)
                refine ⟨j + 1, by go_num, by omega, ?_, ?_, ?_⟩
                · rw [← Nat.add_assoc, HKJ.out]
                  exact hp1.1
                · have h5 := HO.out
                  rw [show [Value.int .u8 (by0.toNat : Int)] = [by8 by0] from rfl, HTM.out] at h5
                  exact own_kept h5 hp1.2 (fun g hg x => by
                    obtain ⟨_, cs, t, hh, ht⟩ := HGR.out.1.kinds x
                    obtain ⟨cs', hh'⟩ := own_lt h5 hg
                    rw [hh] at hh'
                    injection hh' with hh'
                    injection hh' with _ e
                    rcases ht with rfl | rfl <;> exact absurd e (by decide))
                · refine K2.out.trans_new (HGR.out.2.mono (T := fun k => w.heap.size ≤ k) (fun k hk => own_base' O2.out hk)) (fun i hi x => ?_) |>.trans hp1.2
                  omega
              case measure => simp [intOf]; omega
          · obtain rfl : j = nn := by omega
            have R2 := Lib.hid hrf
            have O2 := Lib.hid hown
            have K2 := Lib.hid hkw
            clear hrf hown hkw
            go_wp2
            go_ret
            have ol : ((s.l.drop s.k).take j).length = j := by simp; omega
            refine ⟨_, rfl, Bs.of_own (base := w.heap.size) ?_, R2.out, K2.out⟩
            rw [ol]
            exact O2.out
  · have HB : Hid (s.got n = [] ∧ s.pass n = s) := by
      unfold RS.got
      rw [RS.fits_bad he]
      exact ⟨if_neg he, RS.pass_bad he n⟩
    rw [HB.out.1, HB.out.2]
    have hn : (s.e != 0) = true := by simpa using he
    clear HB he hby hbb ho hb hok hF
    go_enter Try.func53, Try.ntmps53
    go_wp2
    go_ret
    exact ⟨_, rfl, Bs.nil _, HR.out, Kept.refl _ _⟩
end Go.Proofs.Ytcncjfjdnmookaa
