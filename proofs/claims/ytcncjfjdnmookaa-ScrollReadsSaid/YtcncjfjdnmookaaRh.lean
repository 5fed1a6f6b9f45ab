/-
  What the calls of the document's own reader (package consulateref01) do: Number, Open, Close.
-/
import Derived.Test.YtcncjfjdnmookaaRg
namespace Go.Proofs.Ytcncjfjdnmookaa
open Go.RowKit

theorem RS.num_more (l : List UInt8) (k : Nat) (h : k < l.length) : RS.num (l.take (k + 1)) = 256 * RS.num (l.take k) + l[k].toNat := by
  rw [List.take_succ_eq_append_getElem h, RS.num_snoc]

set_option maxHeartbeats 400000 in
theorem rf_number (p base : Nat) (F : Nat → Prop) (s : RS) (n : Nat) (w : World) (h : Rf w base F p s) (hn : n ≤ 4) :
    Calls Try.prog 52 #[.pointer (some ⟨p, 0, none⟩), .int .i64 (n : Int)] w fun r w' => r = .returned (.int .i64 (RS.num (s.got n) : Int)) ∧ Rf w' base F p (s.pass n) ∧ Kept F w w' := by
  have HT := Lib.hid (rf_take p base F s n w h)
  have hlen : (s.got n).length ≤ 4 := Nat.le_trans RS.got_len hn
  clear h
  generalize s.got (n : Int) = l at *
  generalize s.pass (n : Int) = s' at *
  go_enter Try.func52, Try.ntmps52
  go_wp2_with fail
  refine HT.out.mono ?_
  rintro e w1 ⟨v, rfl, hb, hr, hk⟩
  have HR := Lib.hid hr
  have HK := Lib.hid hk
  have HB := Lib.hid hb
  obtain ⟨A, c, rfl, _, _⟩ := hb.form
  clear hb hr hk HT
  go_wp2
  go_loop [6, 7] (fun m i => ∃ k : Nat, k ≤ l.length ∧ i = .int .i64 k ∧ m = .int .i64 (RS.num (l.take k) : Int)) (fun _ i => l.length - (intOf i).toNat)
  case atStart => exact ⟨0, Nat.zero_le _, rfl, rfl⟩
  case round =>
    obtain ⟨k, hk, rfl, rfl⟩ := hrel
    by_cases hlt : k < l.length
    · obtain ⟨b, o, rfl, hcell⟩ := HB.out.cell hlt
      unfold by8 at hcell
      have h1 := RS.num_lt (l.take k)
      have h3 : 256 ^ (l.take k).length ≤ 256 ^ 3 := Nat.pow_le_pow_right (by decide) (by simp; omega)
      have hb1 : RS.num (l.take k) < 16777216 := by omega
      have hb2 : l[k].toNat < 256 := (l[k]).toNat_lt
      have HM := Lib.hid (RS.num_more l k hlt)
      have e2 : (l.getD k 0) = l[k] := by rw [List.getD_eq_getElem?_getD, List.getElem?_eq_getElem hlt]; rfl
      rw [e2] at hcell
      generalize l[k].toNat = x at *
      generalize RS.num (l.take k) = y at *
      clear h1 h3 e2
      go_wp2
      refine ⟨⟨k + 1, by omega, by go_num, ?_⟩, by simp [intOf]; omega⟩
      rw [HM.out]
      go_num
    · have HE : Hid (RS.num (l.take k) = RS.num l) := by show _ = _; rw [List.take_of_length_le (by omega)]
      go_wp2
      go_ret
      refine ⟨ret_int ?_, HR.out, HK.out⟩
      rw [HE.out]

/-- Behind the stores of Close. -/
theorem Rf.put_close {w : World} {base p : Nat} {F : Nat → Prop} {l : List UInt8} {k a : Nat} {r : List Nat} {e : Int} (h : Rf w base F p ⟨l, k, a :: r, e⟩) :
    ∃ g c, (w.cell? ⟨p, 2, none⟩ = some (.slice (some ⟨g, 0, none⟩) (r.length + 1) c) ∧ r.length + 1 ≤ c ∧ c ≤ maxLen ∧ w.cell? ⟨g, r.length, none⟩ = some (.int .i64 (a : Int)) ∧ g ≠ p) ∧
      ∃ F', Rf ((w.setCell ⟨p, 1, none⟩ (.int .i64 (a : Int))).setCell ⟨p, 2, none⟩ (.slice (some ⟨g, 0, none⟩) r.length c)) base F' p ⟨l, a, r, e⟩ ∧ Kept F w ((w.setCell ⟨p, 1, none⟩ (.int .i64 (a : Int))).setCell ⟨p, 2, none⟩ (.slice (some ⟨g, 0, none⟩) r.length c)) ∧ Sub w F' F := by
  obtain ⟨A, c0, ev, rfl, hp, h1, h2, h3, h4, h5⟩ := h
  simp only at h1 h2 h3 h4
  obtain ⟨g, c, rfl, hc1, hc2, hl⟩ := own_last h4
  have gp : g ≠ p := by
    obtain ⟨cs', hh⟩ := own_lt h4 (g := g) rfl
    exact (h1.apart (t' := 3) hh (by decide)).symm
  refine ⟨g, c, ⟨h1.cell 2, hc1, hc2, hl, gp⟩, fown p (.slice (some ⟨g, 0, none⟩) r.length c), ?_, ?_, ?_⟩
  · obtain ⟨g2, g4⟩ := Rf.own_step (i := 1) (u := .int .i64 (a : Int)) hp h1 h2 h3 h4
    obtain ⟨k2, k4⟩ := Rf.own_step (i := 2) (u := .slice (some ⟨g, 0, none⟩) r.length c) hp (h1.put 1 (.int .i64 (a : Int))) g2 h3 g4
    have k5 := own_shrink k4 (m := r.length) (by simp)
    have e : (ints (a :: r).reverse).take (r.length * 1) = ints r.reverse := by
      unfold ints
      rw [List.reverse_cons, List.map_append, Nat.mul_one]
      have : (r.reverse.map fun (n : Nat) => Value.int .i64 (n : Int)).length = r.length := by simp
      rw [← this, List.take_left]
    rw [e] at k5
    exact ⟨A, c0, _, rfl, hp, (h1.put 1 _).put 2 _, k2, h3, k5, h5.1.2, h5.2⟩
  · exact ((Kept.own w p 1 _).trans (Kept.own _ p 2 _)).mono (fun _ e => .inl e)
  · intro k hk
    rcases hk with hk | hk
    · exact .inl (.inl hk)
    · exact .inl (.inr hk)

set_option maxHeartbeats 800000 in
theorem rf_close (p base : Nat) (F : Nat → Prop) (s : RS) (b : Bool) (w : World) (h : Rf w base F p s) :
    Calls Try.prog 55 #[.pointer (some ⟨p, 0, none⟩), .bool b] w fun r w' => ∃ F', r = .returned (.tuple #[]) ∧ Rf w' base F' p (if b then s.skip else s.close) ∧ Kept F w w' ∧ Sub w F' F := by
  have HR := Lib.hid h
  have HL := Lib.hid (rf_left p base F s w h)
  have h' := h
  obtain ⟨A, c, ev, hF, hbp, hb, hby, hbb, ho, hok⟩ := h'
  obtain ⟨⟨-, -, h2, h3⟩, f1, f2, f3⟩ := f_cells4 hb
  by_cases he : s.e = 0
  · have hn : (s.e != 0) = false := by simpa using he
    by_cases hes : s.es = []
    · have HF : Hid ((if b then s.skip else s.close) = { s with e := 26 }) := by
        have e1 : s.skip = { s with e := 26 } := by unfold RS.skip RS.fail; rw [if_pos hes, if_pos he]
        have e2 : s.close = s.skip := by unfold RS.close; rw [if_neg (fun x => x.1 hes)]
        show _ = _
        cases b
        · simp [e2, e1]
        · simp [e1]
      rw [HF.out]
      obtain ⟨A1, c1, rfl, _, _⟩ := own_form ho
      rw [hes] at h2
      simp only [List.length_nil] at h2
      clear HF he hes hb hby hbb ho hok hF hbp h
      go_enter Try.func55, Try.ntmps55
      go_wp2
      first | go_end0 | refine bodyPost_ret (results_none rfl _ _ _) rfl ?_
      exact ⟨F, rfl, (HR.out.put3 26).1, (HR.out.put3 26).2, Sub.refl _ _⟩
    · obtain ⟨l, k, es, e⟩ := s
      obtain rfl : e = 0 := he
      cases es with
      | nil => exact absurd rfl hes
      | cons a r =>
        obtain ⟨g, c1, ⟨x2, xc, xm, xl, xg⟩, F', y1, y2, y3⟩ := h.put_close
        have HS : Hid (RS.skip ⟨l, k, a :: r, 0⟩ = ⟨l, a, r, 0⟩) := rfl
        unfold maxLen at xm
        by_cases hform : b = false ∧ 0 < RS.left ⟨l, k, a :: r, 0⟩
        · obtain ⟨rfl, hfl⟩ := hform
          have HF : Hid ((if false = true then RS.skip ⟨l, k, a :: r, 0⟩ else RS.close ⟨l, k, a :: r, 0⟩) = ⟨l, k, a :: r, 5⟩) := by
            show _ = _
            rw [if_neg (by decide)]
            unfold RS.close
            rw [if_pos ⟨by simp, hfl⟩]
            rfl
          rw [HF.out]
          have hflI : (0 : Int) < (RS.left ⟨l, k, a :: r, 0⟩ : Int) := by omega
          have hlz : ((r.length : Int) + 1 == 0) = false := by simp; omega
          clear HF hb hby hbb ho hok hF hbp h y1 y2 y3 h2 HS hes
          go_enter Try.func55, Try.ntmps55
          go_wp2_with fail
          refine HL.out.mono ?_
          rintro e w1 ⟨rfl, m, rfl⟩
          go_wp2
          first | go_end0 | refine bodyPost_ret (results_none rfl _ _ _) rfl ?_
          have hp3 := (HR.out.drewN m).put3 5
          exact ⟨F, rfl, hp3.1, ((Kept.refl F w).drewN m).trans hp3.2, Sub.refl _ _⟩
        · have HF : Hid ((if b then RS.skip ⟨l, k, a :: r, 0⟩ else RS.close ⟨l, k, a :: r, 0⟩) = ⟨l, a, r, 0⟩) := by
            show _ = _
            cases b
            · have : RS.close ⟨l, k, a :: r, 0⟩ = RS.skip ⟨l, k, a :: r, 0⟩ := if_neg (fun x => hform ⟨rfl, x.2⟩)
              rw [this]; rfl
            · rfl
          rw [HF.out]
          have Y1 := Lib.hid y1
          have Y2 := Lib.hid y2
          have Y3 := Lib.hid y3
          have h1 := hb.cell 1
          simp only at h1
          have hlz : ((r.length : Int) + 1 == 0) = false := by simp; omega
          have hgp' : p ≠ g := xg.symm
          have hri : (r.length : Int) < (r.length : Int) + 1 := by omega
          have hri2 : (0 : Int) ≤ (r.length : Int) := Int.natCast_nonneg _
          have h1' : w.cell? ⟨p, 1, none⟩ = some (.int .i64 (k : Int)) := h1
          clear HF hb hby hbb ho hok hF hbp h y1 y2 y3 h2 HS hes h1
          cases b with
          | true =>
            go_enter Try.func55, Try.ntmps55
            go_wp2
            go_region
            all_goals go_wp2
            all_goals go_region
            all_goals
              go_wp2
              go_end0
              refine ⟨F', rfl, ?_, ?_, Y3.out⟩
              · exact Y1.out.drewN 2
              · exact Y2.out.drewN 2
          | false =>
            have hfl : decide (0 < RS.left ⟨l, k, a :: r, 0⟩) = false := by simp only [decide_eq_false_iff_not]; exact fun x => hform ⟨rfl, x⟩
            clear hform
            go_enter Try.func55, Try.ntmps55
            go_wp2_with fail
            refine HL.out.mono ?_
            rintro e w1 ⟨rfl, m, rfl⟩
            go_wp2
            go_region
            all_goals go_wp2
            all_goals go_region
            all_goals
              go_wp2
              go_end0
              refine ⟨F', rfl, ?_, ?_, Y3.out⟩
              · exact Y1.out.drewN (m + 2)
              · exact Y2.out.drewN (m + 2)
  · have HF : Hid ((if b then s.skip else s.close) = s) := by
      show _ = _
      rw [RS.skip_bad he, RS.close_bad he]
      simp
    rw [HF.out]
    have hn : (s.e != 0) = true := by simpa using he
    clear HF he hb hby hbb ho hok hF hbp h
    go_enter Try.func55, Try.ntmps55
    go_wp2
    first | go_end0 | refine bodyPost_ret (results_none rfl _ _ _) rfl ?_
    exact ⟨F, rfl, HR.out, Kept.refl _ _, Sub.refl _ _⟩
end Go.Proofs.Ytcncjfjdnmookaa
