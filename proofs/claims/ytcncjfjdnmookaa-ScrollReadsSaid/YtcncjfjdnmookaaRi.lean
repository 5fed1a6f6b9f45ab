/-
  What the calls of the document's own reader (package consulateref01) do: Open.
-/
import Derived.Test.YtcncjfjdnmookaaRh
import Derived.Test.YtcncjfjdnmookaaWh
namespace Go.Proofs.Ytcncjfjdnmookaa
open Go.RowKit

theorem int_info8 : (Try.prog.info? 3).map (fun i => (i.zero, i.size, i.bytes)) = some (some (.int .i64 0), 1, 8) := by kernel_rfl

/-- Behind append's store of the ends. -/
theorem Rf.put_ends {w w3 : World} {base p : Nat} {A : Option Addr} {c : Nat} {ev ev' : Value} {s : RS} {a : Nat} {o : Obj} (hp : base ≤ p) (h1 : Blk w p 30 #[.slice A s.l.length c, .int .i64 (s.k : Int), ev, .int .i64 s.e]) (h2 : By w (.slice A s.l.length c) s.l) (h3 : ∀ x, A = some x → 0 < s.l.length → x.block < base)
    (h4 : w.ownsRow base 3 1 ev s.es.length (ints s.es.reverse)) (hok : RS.ok { s with es := a :: s.es }) {x : Int} (hx : x = (a : Int)) (ho : w3.ownsRow base 3 1 ev' (s.es.length + 1) (ints s.es.reverse ++ [.int .i64 x]))
    (hg : (w.alloc o).drew.grownBy w3 ev.ownBlock) (hat : ev'.ownBlock = ev.ownBlock ∨ ev'.ownBlock = some (w.alloc o).drew.heap.size) :
    (Blk w3 p 30 #[.slice A s.l.length c, .int .i64 (s.k : Int), ev, .int .i64 s.e]) ∧ ∃ F', Rf (w3.setCell ⟨p, 2, none⟩ ev') base F' p { s with es := a :: s.es } ∧ Kept (fown p ev) w (w3.setCell ⟨p, 2, none⟩ ev') ∧ Sub w F' (fown p ev) := by
  subst hx
  have kg : Kept (fun k => ev.ownBlock = some k) w w3 := (((Kept.refl _ w).alloc o).drew).grown hg (fun k hk _ => hk)
  have hb3 : Blk w3 p 30 #[.slice A s.l.length c, .int .i64 (s.k : Int), ev, .int .i64 s.e] := h1.kept kg (fun e => by
    obtain ⟨cs, hh⟩ := own_lt h4 e
    exact h1.apart (t' := 3) hh (by decide) rfl)
  have hy3 : By w3 (.slice A s.l.length c) s.l := h2.kept kg (fun x hx h0 e => by have := h3 x hx h0; have := own_base' h4 e; omega)
  have ho' : w3.ownsRow base 3 1 ev' (a :: s.es).length (ints (a :: s.es).reverse) := by
    rw [List.length_cons, List.reverse_cons, ints_append]; exact ho
  obtain ⟨g2, g4⟩ := Rf.own_step (i := 2) (u := ev') hp hb3 hy3 h3 ho'
  refine ⟨hb3, fown p ev', ⟨A, c, ev', rfl, hp, hb3.put 2 _, g2, h3, g4, hok⟩, ?_, ?_⟩
  · exact (kg.mono (fun k hk => .inr hk)).trans ((Kept.own w3 p 2 ev').mono (fun _ e => .inl e))
  · intro k hk
    rcases hk with hk | hk
    · exact .inl (.inl hk)
    · rcases hat with h | h
      · rw [h] at hk; exact .inl (.inr hk)
      · rw [h] at hk
        injection hk with hk
        exact .inr (by rw [← hk]; simp)

set_option maxHeartbeats 800000 in
theorem rf_open (p base : Nat) (F : Nat → Prop) (s : RS) (n : Int) (w : World) (h : Rf w base F p s) (hd : s.es.length ≤ 1099511627776) :
    Calls Try.prog 54 #[.pointer (some ⟨p, 0, none⟩), .int .i64 n] w fun r w' => ∃ F', r = .returned (.tuple #[]) ∧ Rf w' base F' p (s.opened n) ∧ Kept F w w' ∧ Sub w F' F := by
  have HR := Lib.hid h
  have HL := Lib.hid (rf_left p base F s w h)
  have hok := h.ok
  have h' := h
  obtain ⟨A, c, ev, hF, hbp, hb, hby, hbb, ho, _⟩ := h'
  obtain ⟨⟨-, h1, h2, h3⟩, f1, f2, f3⟩ := f_cells4 hb
  have hlt := hb.lt
  by_cases he : s.e = 0
  · have hn : (s.e != 0) = false := by simpa using he
    by_cases hneg : n < 0
    · have HG : Hid (s.opened n = { s with e := 4 }) := by
        show _ = _
        have HF : s.fits n = { s with e := 4 } := by unfold RS.fits RS.fail; rw [if_pos (Or.inl hneg), if_pos he]
        unfold RS.opened; rw [HF]; exact if_neg (show ¬ ((4 : Int) = 0) by decide)
      rw [HG.out]
      clear HG he hby hbb ho hb hok hF hbp h h2
      go_enter Try.func54, Try.ntmps54
      go_wp2
      first | go_end0 | refine bodyPost_ret (results_none rfl _ _ _) rfl ?_
      exact ⟨F, rfl, (HR.out.put3 4).1, (HR.out.put3 4).2, Sub.refl _ _⟩
    · by_cases hbig : (s.left : Int) < n
      · have HG : Hid (s.opened n = { s with e := 4 }) := by
          show _ = _
          have HF : s.fits n = { s with e := 4 } := by unfold RS.fits RS.fail; rw [if_pos (Or.inr hbig), if_pos he]
          unfold RS.opened; rw [HF]; exact if_neg (show ¬ ((4 : Int) = 0) by decide)
        rw [HG.out]
        clear HG he hby hbb ho hb hok hF hbp h h2
        go_enter Try.func54, Try.ntmps54
        go_wp2_with fail
        refine HL.out.mono ?_
        rintro e w1 ⟨rfl, m, rfl⟩
        go_wp2
        first | go_end0 | refine bodyPost_ret (results_none rfl _ _ _) rfl ?_
        have := (HR.out.drewN m).put3 4
        exact ⟨F, rfl, this.1, ((Kept.refl F w).drewN m).trans this.2, Sub.refl _ _⟩
      · have hz : (s.fits n).e = 0 := by unfold RS.fits; rw [if_neg (by omega)]; exact he
        have HG : Hid (s.opened n = { s with es := (s.k + n.toNat) :: s.es }) := if_pos hz
        have HOKp := Lib.hid (RS.opened_ok hok n)
        rw [HG.out] at HOKp ⊢
        have hle := hok.le
        have htl := hok.top_le
        have hmx := hok.2
        have HNB := Lib.hid hbig
        rw [RS.left_zero he] at hbig
        have hnn : s.k + n.toNat ≤ s.top := by omega
        obtain ⟨A1, c1, rfl, _, _⟩ := own_form ho
        have HFF := Lib.hid hF
        clear HG he hok hz hbig h hF
        obtain ⟨nn, rfl⟩ := Int.eq_ofNat_of_zero_le (a := n) (by omega)
        simp only [Int.toNat_natCast] at hnn HOKp ⊢
        have hlx : decide (s.left < nn) = false := by have := HNB.out; simp; omega
        obtain ⟨i1, hi, hz0, hz1, hz2⟩ := info_parts int_info8
        have HLn : Hid (s.es.length + 1 ≤ maxLen ∧ (s.es.length + 1) * 8 ≤ 140737488355328) := ⟨by unfold maxLen; omega, by omega⟩
        have hs1 : s.k + nn ≤ 1099511627776 := by omega
        have hbs : base ≤ w.heap.size := by omega
        go_enter Try.func54, Try.ntmps54
        go_wp2_with fail
        refine HL.out.mono ?_
        rintro e w1 ⟨rfl, m, rfl⟩
        have HB := Lib.hid (hb.drewN m)
        have HY := Lib.hid (hby.old ((Kept.refl Nothing w).drewN m))
        have HO := Lib.hid (own_kept ho ((Kept.refl Nothing w).drewN m) (fun _ _ x => x))
        have HBB := Lib.hid hbb
        have HKM := Lib.hid ((Kept.refl F w).drewN m)
        have HZ := Lib.hid (show (w.drewN m).heap.size = w.heap.size from rfl)
        clear hb hby ho hbb hle htl hnn HL HR
        have g1 : (w.drewN m).cell? ⟨p, 1, none⟩ = some (.int .i64 (s.k : Int)) := h1
        have g2 : (w.drewN m).cell? ⟨p, 2, none⟩ = some (.slice A1 s.es.length c1) := h2
        have j2 : (w.drewN m).frozen? ⟨p, 2, none⟩ = false := f2
        have plt : p < (w.drewN m).heap.size := hlt
        have hbs' : base ≤ (w.drewN m).heap.size := hbs
        clear h1 h2 h3 f1 f2 f3 hlt hbs
        generalize w.drewN m = w1 at *
        have wre : IntKind.i64.wrap ((s.k : Int) + (nn : Int)) = (s.k : Int) + (nn : Int) := IntWalk.i64_in _ (by omega)
        go_wp2_with fail
        go_region_law (first | (refine step_app _ (by rfl) _ _ 28 (by rfl) base 3 i1 _ 1 8 Try.underlying28 hi hz0 hz1 hz2 rfl (by decide) (.slice A1 s.es.length c1) s.es.length (ints s.es.reverse) (by rfl) (own_kept HO.out (((Kept.refl Nothing w1).alloc _).drew) (fun _ _ x => x)) (some ⟨w1.heap.size, 0, none⟩) 1 1 [.int .i64 ((s.k : Int) + (nn : Int))] (by rfl) (cells_src (cs := #[.int .i64 ((s.k : Int) + (nn : Int))]) (Blk.fresh w1 3 #[.int .i64 ((s.k : Int) + (nn : Int))]).drew rfl (by simp [Value.oneCell'])) HLn.out.1 HLn.out.2 (Nat.le_trans hbs' (by simp)) ?_; intro v' w2 ho hg hat; (have HPE := Lib.hid (Rf.put_ends hbp HB.out HY.out HBB.out HO.out HOKp.out (by omega) ho hg hat)); (obtain ⟨⟨-, -, x2, -⟩, -, y2, -⟩ := f_cells4 HPE.out.1); (obtain ⟨A2, cc2, rfl, _, _⟩ := own_form ho); clear ho hg hat))
        all_goals
          go_wp2
          first | go_end0 | refine bodyPost_ret (results_none rfl _ _ _) rfl ?_
          obtain ⟨F', a1, a2, a3⟩ := HPE.out.2
          rw [← HFF.out] at a2 a3
          exact ⟨F', rfl, a1, HKM.out.trans a2, fun k hk => by rw [← HZ.out]; exact a3 k hk⟩
  · have HF : Hid (s.opened n = s) := RS.opened_bad he n
    rw [HF.out]
    have hn : (s.e != 0) = true := by simpa using he
    clear HF he hb hby hbb ho hok hF hbp h
    go_enter Try.func54, Try.ntmps54
    go_wp2
    first | go_end0 | refine bodyPost_ret (results_none rfl _ _ _) rfl ?_
    exact ⟨F, rfl, HR.out, Kept.refl _ _, Sub.refl _ _⟩
end Go.Proofs.Ytcncjfjdnmookaa
