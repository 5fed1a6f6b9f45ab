
/-
  slices.Insert of several numbers at the head of a row of numbers.
-/
import Derived.Test.YthjljamngpddmaaGreatDoorY13
import Derived.Test.YthjljamngpddmaaGreatDoorY09
import Derived.Shelf.Spec.SlicesInsertGrow
namespace Go.Proofs.YthjljamngpddmaaGreatDoor
open Go.RowKit Go.Shelf

theorem cons_ofF {α : Type} {n : Nat} : ∀ {l : List α} (_ : l.length = n + 1), ∃ x r, l = x :: r ∧ r.length = n
  | [], h => by simp at h
  | x :: r, h => ⟨x, r, rfl, by simpa using h⟩
theorem list48 (l : List Value) (h : l.length = 48) : ∃ x0 x1 x2 x3 x4 x5 x6 x7 x8 x9 x10 x11 x12 x13 x14 x15 x16 x17 x18 x19 x20 x21 x22 x23 x24 x25 x26 x27 x28 x29 x30 x31 x32 x33 x34 x35 x36 x37 x38 x39 x40 x41 x42 x43 x44 x45 x46 x47 : Value, l = [x0, x1, x2, x3, x4, x5, x6, x7, x8, x9, x10, x11, x12, x13, x14, x15, x16, x17, x18, x19, x20, x21, x22, x23, x24, x25, x26, x27, x28, x29, x30, x31, x32, x33, x34, x35, x36, x37, x38, x39, x40, x41, x42, x43, x44, x45, x46, x47] := by
  obtain ⟨x0, l0, e0, h0⟩ := cons_ofF h
  obtain ⟨x1, l1, e1, h1⟩ := cons_ofF h0
  obtain ⟨x2, l2, e2, h2⟩ := cons_ofF h1
  obtain ⟨x3, l3, e3, h3⟩ := cons_ofF h2
  obtain ⟨x4, l4, e4, h4⟩ := cons_ofF h3
  obtain ⟨x5, l5, e5, h5⟩ := cons_ofF h4
  obtain ⟨x6, l6, e6, h6⟩ := cons_ofF h5
  obtain ⟨x7, l7, e7, h7⟩ := cons_ofF h6
  obtain ⟨x8, l8, e8, h8⟩ := cons_ofF h7
  obtain ⟨x9, l9, e9, h9⟩ := cons_ofF h8
  obtain ⟨x10, l10, e10, h10⟩ := cons_ofF h9
  obtain ⟨x11, l11, e11, h11⟩ := cons_ofF h10
  obtain ⟨x12, l12, e12, h12⟩ := cons_ofF h11
  obtain ⟨x13, l13, e13, h13⟩ := cons_ofF h12
  obtain ⟨x14, l14, e14, h14⟩ := cons_ofF h13
  obtain ⟨x15, l15, e15, h15⟩ := cons_ofF h14
  obtain ⟨x16, l16, e16, h16⟩ := cons_ofF h15
  obtain ⟨x17, l17, e17, h17⟩ := cons_ofF h16
  obtain ⟨x18, l18, e18, h18⟩ := cons_ofF h17
  obtain ⟨x19, l19, e19, h19⟩ := cons_ofF h18
  obtain ⟨x20, l20, e20, h20⟩ := cons_ofF h19
  obtain ⟨x21, l21, e21, h21⟩ := cons_ofF h20
  obtain ⟨x22, l22, e22, h22⟩ := cons_ofF h21
  obtain ⟨x23, l23, e23, h23⟩ := cons_ofF h22
  obtain ⟨x24, l24, e24, h24⟩ := cons_ofF h23
  obtain ⟨x25, l25, e25, h25⟩ := cons_ofF h24
  obtain ⟨x26, l26, e26, h26⟩ := cons_ofF h25
  obtain ⟨x27, l27, e27, h27⟩ := cons_ofF h26
  obtain ⟨x28, l28, e28, h28⟩ := cons_ofF h27
  obtain ⟨x29, l29, e29, h29⟩ := cons_ofF h28
  obtain ⟨x30, l30, e30, h30⟩ := cons_ofF h29
  obtain ⟨x31, l31, e31, h31⟩ := cons_ofF h30
  obtain ⟨x32, l32, e32, h32⟩ := cons_ofF h31
  obtain ⟨x33, l33, e33, h33⟩ := cons_ofF h32
  obtain ⟨x34, l34, e34, h34⟩ := cons_ofF h33
  obtain ⟨x35, l35, e35, h35⟩ := cons_ofF h34
  obtain ⟨x36, l36, e36, h36⟩ := cons_ofF h35
  obtain ⟨x37, l37, e37, h37⟩ := cons_ofF h36
  obtain ⟨x38, l38, e38, h38⟩ := cons_ofF h37
  obtain ⟨x39, l39, e39, h39⟩ := cons_ofF h38
  obtain ⟨x40, l40, e40, h40⟩ := cons_ofF h39
  obtain ⟨x41, l41, e41, h41⟩ := cons_ofF h40
  obtain ⟨x42, l42, e42, h42⟩ := cons_ofF h41
  obtain ⟨x43, l43, e43, h43⟩ := cons_ofF h42
  obtain ⟨x44, l44, e44, h44⟩ := cons_ofF h43
  obtain ⟨x45, l45, e45, h45⟩ := cons_ofF h44
  obtain ⟨x46, l46, e46, h46⟩ := cons_ofF h45
  obtain ⟨x47, l47, e47, h47⟩ := cons_ofF h46
  have e48 := List.eq_nil_of_length_eq_zero h47
  exact ⟨x0, x1, x2, x3, x4, x5, x6, x7, x8, x9, x10, x11, x12, x13, x14, x15, x16, x17, x18, x19, x20, x21, x22, x23, x24, x25, x26, x27, x28, x29, x30, x31, x32, x33, x34, x35, x36, x37, x38, x39, x40, x41, x42, x43, x44, x45, x46, x47, by rw [e0, e1, e2, e3, e4, e5, e6, e7, e8, e9, e10, e11, e12, e13, e14, e15, e16, e17, e18, e19, e20, e21, e22, e23, e24, e25, e26, e27, e28, e29, e30, e31, e32, e33, e34, e35, e36, e37, e38, e39, e40, e41, e42, e43, e44, e45, e46, e47, e48]⟩

/-- A path's tail. -/
theorem Pts.tail1 {w : World} {A : Option Addr} {n c : Nat} {s : Seg} {l : List Seg} (h : Pts w (.slice A n c) (s :: l)) :
    ∃ A' c', (∀ u, (Instr.slice 23 (.slice A n c) (some (.int .i64 1)) none none).run Tryz.prog u = .ok (.slice A' l.length c') u) ∧ Pts w (.slice A' l.length c') l := by
  obtain ⟨A0, c0, hv, hc, hm, hr⟩ := h
  injection hv with e1 e2 e3
  subst e1 e2 e3
  obtain ⟨b, o, rfl, hi⟩ := hr (by simp)
  rw [List.length_cons] at hc
  have hz := Tryz.sizeOf72
  have he : Tryz.prog.elem 23 = 72 := by kernel_rfl
  by_cases hc1 : c = 1
  · have hl : l = [] := List.eq_nil_of_length_eq_zero (by omega)
    subst hl
    refine ⟨some ⟨b, o, none⟩, 0, fun u => ?_, some ⟨b, o, none⟩, 0, rfl, Nat.le_refl _, by simp [maxLen], fun h0 => absurd h0 (by simp)⟩
    rw [run_slice_l u 23 _ _ c (by kernel_rfl) .i64 1 (by omega) (by simp), he, hz]
    simp [sliced, hc1]
  · refine ⟨some ⟨b, o + 2, none⟩, c - 1, fun u => ?_, some ⟨b, o + 2, none⟩, c - 1, rfl, by omega, by omega, fun h0 => ⟨b, o + 2, rfl, fun i hil => ?_⟩⟩
    · rw [run_slice_l u 23 _ _ c (by kernel_rfl) .i64 1 (by omega) (by rw [List.length_cons]; omega), he, hz]
      simp [sliced, hc1, add_none]
    · have := hi (i + 1) (by simp; omega)
      rw [show o + 2 + i * 2 = o + (i + 1) * 2 by omega]
      simpa using this

def widthF : Value → Nat | .slice _ n _ => n | _ => 0
/-- At the label: what is still to be read, what is wanting, what was put. -/
def LeadAt (W : World) (l : List Seg) (n : Nat) (a : Act) (w : World) : Prop :=
  ∃ (pv av : Value) (m : List Seg) (r : Nat) (acc : List Seg) (xs : List Value), a.defers = [] ∧ a.tmps.size = 48 ∧ a.tmps.getD 0 undef = pv ∧ a.tmps.getD 1 undef = .int .i64 (r : Int) ∧ a.tmps.getD 5 undef = av ∧
    Pts W pv m ∧ w.ownsRow W.heap.size 72 2 av acc.length xs ∧ Rws w W.heap.size xs acc ∧ Dist xs ∧ Kept Nothing W w ∧ acc ++ Fz.lead m r = Fz.lead l n ∧ acc.length + m.length ≤ l.length ∧ r ≤ n ∧ ∀ s ∈ m, s.2.length ≤ 1000000

theorem Fz.lead_nil (n : Nat) : Fz.lead [] n = [] := rfl
theorem Fz.lead_stop {s : Seg} {l : List Seg} (h : Wk.confed s.1 = false) : Fz.lead (s :: l) 0 = [] := by
  show (if _ then _ else _) = _
  rw [if_pos ⟨rfl, h⟩]
theorem Fz.lead_cut {s : Seg} {l : List Seg} {n : Nat} (h : ¬ (n = 0 ∧ Wk.confed s.1 = false)) (hc : (Fz.takn s n).2.length < s.2.length) : Fz.lead (s :: l) n = [Fz.takn s n] := by
  show (if _ then _ else _) = _
  rw [if_neg h, if_pos hc]
theorem Fz.lead_on {s : Seg} {l : List Seg} {n : Nat} (h : ¬ (n = 0 ∧ Wk.confed s.1 = false)) (hc : ¬ (Fz.takn s n).2.length < s.2.length) : Fz.lead (s :: l) n = Fz.takn s n :: Fz.lead l (n - Fz.wt1 (Fz.takn s n)) := by
  show (if _ then _ else _) = _
  rw [if_neg h, if_neg hc]
theorem Fz.takn_le {s : Seg} {n : Nat} (h : ¬ (n = 0 ∧ Wk.confed s.1 = false)) : Fz.wt1 (Fz.takn s n) ≤ n := by
  by_cases h2 : s.1.toNat = 2
  · have e : Fz.takn s n = (s.1, s.2.take n) := if_pos h2
    rw [e]
    unfold Fz.wt1
    simp only [h2, if_true, List.length_take]
    omega
  · have e : Fz.takn s n = s := if_neg h2
    rw [e]
    unfold Fz.wt1
    rw [if_neg h2]
    split
    · rename_i h1
      have : Wk.confed s.1 = false := by unfold Wk.confed; simp; omega
      have : n ≠ 0 := fun e => h ⟨e, this⟩
      omega
    · omega
theorem Fz.takn_sub {s : Seg} {n : Nat} : (Fz.takn s n).1 = s.1 ∧ (Fz.takn s n).2.length ≤ s.2.length ∧ ∀ x ∈ (Fz.takn s n).2, x ∈ s.2 := by
  unfold Fz.takn
  split
  · exact ⟨rfl, by simp; omega, fun x hx => List.mem_of_mem_take hx⟩
  · exact ⟨rfl, Nat.le_refl _, fun x hx => hx⟩

section
variable {P : Program} {a : Act} {w : World} {Q : Exit → Act → World → Prop}
theorem wp_scope_back {c rest : Code} (l : Nat) (J : Act → World → Prop) (μ : Act → World → Nat) (hf : findLabel c l = some (Code.skip.seq rest))
    (pass : ∀ (J' : Act → World → Prop) a w, J a w → (∀ a' w', J a' w' → μ a' w' < μ a w → J' a' w') → rest.wp P (Exit.jump l J' Q) a w)
    (first : (∀ a w, J a w → rest.wp P (Exit.jump l J Q) a w) → c.wp P (Exit.jump l J Q) a w) : (Code.scope c).wp P Q a w :=
  wp_scope_jumps l J μ hf (first (fun a w h => pass J a w h (fun _ _ h _ => h))) (fun a w h => wp_seq (wp_skip (pass _ a w h (fun _ _ h1 h2 => ⟨h1, h2⟩))))
end

set_option maxRecDepth 100000 in
set_option maxHeartbeats 3200000 in
theorem fuse_lead (v : Value) (l : List Seg) (n : Nat) (w : World) (h : Pts w v l) (hl : l.length ≤ 1000000) (hn : ∀ s ∈ l, s.2.length ≤ 1000000) (hr : n ≤ 100000000000000) :
    Calls Tryz.prog 66 #[v, .int .i64 (n : Int)] w fun e w' => ∃ v' xs, e = .returned v' ∧ w'.ownsRow w.heap.size 72 2 v' (Fz.lead l n).length xs ∧ Rws w' w.heap.size xs (Fz.lead l n) ∧ Dist xs ∧ Kept Nothing w w' := by
  obtain ⟨A, c, rfl, -, -⟩ := h.form
  obtain ⟨i0, hi, hz0, hz1, hz2⟩ := info_parts sg_info
  have HP := Lib.hid h
  have HN := Lib.hid hn
  have HL := Lib.hid hl
  clear h hn hl
  go_enter Tryz.func66, Tryz.ntmps66
  go_wp2_with fail
  refine wp_scope_back 0 (LeadAt w l n) (fun a _ => widthF (a.tmps.getD 0 undef)) rfl ?pass ?first
  case first =>
    intro key
    go_wp2_with fail
    go_step3
    simp only [Exit.then]
    apply_assumption
    refine key _ _ ?_
    exact ⟨_, _, l, n, [], [], rfl, rfl, rfl, rfl, rfl, HP.out, World.ownsRow_nil _ _ _ _, trivial, List.Pairwise.nil, Kept.refl _ _, rfl, by simp, Nat.le_refl _, HN.out⟩
  case pass =>
    clear HP HN
    rintro J' ⟨⟨tl⟩, df⟩ w1 ⟨pv, av, m, r, acc, xs, hdf, hsz, s0, s1, s5, hP, hO, hR, hD, hK, hE, hlen, hrn, hms⟩ hJ'
    obtain rfl : df = [] := hdf
    obtain ⟨x0, x1, x2, x3, x4, x5, x6, x7, x8, x9, x10, x11, x12, x13, x14, x15, x16, x17, x18, x19, x20, x21, x22, x23, x24, x25, x26, x27, x28, x29, x30, x31, x32, x33, x34, x35, x36, x37, x38, x39, x40, x41, x42, x43, x44, x45, x46, x47, rfl⟩ := list48 tl (by simpa using hsz)
    obtain rfl : x0 = pv := s0
    obtain rfl : x1 = _ := s1
    obtain rfl : x5 = av := s5
    clear hsz
    obtain ⟨Aa, ca, rfl, -, -⟩ := ow_form hO
    obtain ⟨Ap, cp, rfl, -, -⟩ := hP.form
    have O1 := Lib.hid hO
    have R1 := Lib.hid hR
    have D1 := Lib.hid hD
    have K1 := Lib.hid hK
    have E1 := Lib.hid hE
    have P1 := Lib.hid hP
    have J1 := Lib.hid hJ'
    have M1 := Lib.hid hms
    clear hO hR hD hK hE hP hJ' hms
    have hr14 : r ≤ 100000000000000 := Nat.le_trans hrn hr
    cases m with
    | nil =>
      have FIN : Hid (acc = Fz.lead l n) := Lib.hid (by rw [← E1.out, Fz.lead_nil, List.append_nil])
      clear E1 J1 P1
      go_wp2
      simp only [Exit.jump]
      go_ret
      exact ⟨_, xs, rfl, by rw [← FIN.out]; exact O1.out, by rw [← FIN.out]; exact R1.out, D1.out, K1.out⟩
    | cons s m =>
      obtain ⟨sk, sn⟩ := s
      obtain ⟨b, o, Au, cu, rfl, p0w, p1w, hp⟩ := P1.out.at2 (i := 0) (by simp)
      rw [Nat.zero_mul, Nat.add_zero] at p0w p1w
      replace p0w : w.cell? ⟨b, o, none⟩ = some (.int .u8 (sk.toNat : Int)) := p0w
      replace p1w : w.cell? ⟨b, o + 1, none⟩ = some (.slice Au sn.length cu) := p1w
      replace hp : As w (.slice Au sn.length cu) sn := hp
      have HS := Lib.hid hp
      clear hp
      have p0 := K1.out.cell_some p0w (fun x => x)
      have p1 := K1.out.cell_some p1w (fun x => x)
      have hsl : sn.length ≤ 1000000 := M1.out _ (List.mem_cons_self ..)
      have hml : (((sk, sn) :: m).length : Int) = (m.length : Int) + 1 := by simp
      have i2 : (0 : Int) < (m.length : Int) + 1 := by omega
      have hmz : (((m.length : Int) + 1) == 0) = false := by simp; omega
      rw [show ((sk, sn) :: m).length = m.length + 1 from rfl] at *
      clear hml
      have CF := Lib.hid (fun w => confedF_any sk w)
      by_cases hstop : r = 0 ∧ Wk.confed sk = false
      · obtain ⟨rfl, hcf⟩ := hstop
        have FIN : Hid (acc = Fz.lead l n) := Lib.hid (by rw [← E1.out, Fz.lead_stop hcf, List.append_nil])
        rw [hcf] at CF
        clear E1 J1 P1
        go_wp2_with (go_at_call 68; refine (CF.out _).mono ?_; rintro e w2 ⟨rfl, rfl⟩)
        simp only [Exit.jump]
        go_ret
        exact ⟨_, xs, rfl, by rw [← FIN.out]; exact O1.out, by rw [← FIN.out]; exact R1.out, D1.out, K1.out⟩
      · obtain ⟨t1, t2, t3⟩ := Fz.takn_sub (s := (sk, sn)) (n := r)
        have hwt := Fz.takn_le (s := (sk, sn)) hstop
        have TK := Lib.hid (fun u (k : Kept Nothing w u) => fuse_taken sk Au sn cu r u (HS.out.old k) hsl)
        have WT := Lib.hid (fun A c u => fuse_wt1 sk A (Fz.takn (sk, sn) r).2 c u)
        have HTE : Hid (Fz.takn (sk, sn) r = (sk, (Fz.takn (sk, sn) r).2)) := Lib.hid (Prod.ext t1 rfl)
        have HCUT := Lib.hid (fun h => Fz.lead_cut (s := (sk, sn)) (n := r) (l := m) hstop h)
        have HON := Lib.hid (fun h => Fz.lead_on (s := (sk, sn)) (n := r) (l := m) hstop h)
        have HFT : Hid (∀ x ∈ (Fz.takn (sk, sn) r).2, x < 4294967296) := Lib.hid (fun x hx => HS.out.1 x (t3 x hx))
        simp only at t2
        rw [HTE.out] at hwt HCUT HON
        generalize hq : (Fz.takn (sk, sn) r).2 = q at *
        clear t1 t3 hq HTE
        have hql : q.length ≤ 1000000 := Nat.le_trans t2 hsl
        have hall : acc.length + 1 ≤ 1000000 := by have := HL.out; omega
        have HL5 : Hid (acc.length + 1 ≤ maxLen ∧ (acc.length + 1) * 32 ≤ 140737488355328) := Lib.hid (by unfold maxLen; omega)
        obtain hrz | ⟨hrz, hcf⟩ : r ≠ 0 ∨ (r = 0 ∧ Wk.confed sk = true) := by
          by_cases h0 : r = 0
          · refine .inr ⟨h0, ?_⟩
            cases hcf : Wk.confed sk with
            | true => rfl
            | false => exact absurd ⟨h0, hcf⟩ hstop
          · exact .inl h0
        case' inl =>
          have hr0 : ((r : Int) == 0) = false := by simp; omega
          clear hstop CF hrz
          go_upto_region 4 with fail
        case' inr =>
          have hr0 : ((r : Int) == 0) = true := by simp; omega
          rw [hcf] at CF
          clear hstop hrz hcf
          go_upto_region 4 with (go_at_call 68; refine (CF.out _).mono ?_; rintro e w2 ⟨rfl, rfl⟩)
          clear CF
        all_goals
          clear hr0
          go_upto_region 5 with (go_at_call 87; refine (TK.out _ K1.out).mono ?_; rintro e w2 ⟨v2, rfl, o2, k2⟩; (obtain ⟨A2, c2, rfl, _, _⟩ := ow_form o2); (have O2 := Lib.hid o2); (have K2 := Lib.hid k2); clear o2 k2)
          have bs := Blk.fresh w2 72 #[.int .u8 (sk.toNat : Int), .slice A2 q.length c2]
          have kb := (Kept.refl Nothing w2).alloc (.cells #[.int .u8 (sk.toNat : Int), .slice A2 q.length c2] 72)
          obtain ⟨wB, hwB⟩ : ∃ wB, w2.alloc (.cells #[.int .u8 (sk.toNat : Int), .slice A2 q.length c2] 72) = wB := ⟨_, rfl⟩
          rw [hwB] at bs kb ⊢
          have BS := Lib.hid bs
          have KB := Lib.hid (K2.out.trans kb)
          have O3 := Lib.hid (own_weakA (ow_kept O2.out kb (fun _ _ x => x)) K1.out.size)
          have hbn := K2.out.size
          have hbn2 : w2.heap.size < wB.heap.size := bs.lt
          generalize w2.heap.size = bn at *
          have y0 := BS.out.cell 0
          have y1 := BS.out.cell 1
          clear bs kb hwB TK
          go_upto_region 6 with (at_builtin; refine wpList_app _ rfl _ _ 23 rfl w.heap.size 72 i0 (.agg #[.int .u8 0, .slice none 0 0]) 2 32 Tryz.underlying23 hi hz0 hz1 hz2 rfl (by decide) (.slice Aa acc.length ca) acc.length xs rfl (ow_kept O1.out (KB.out.alloc _) (fun _ _ x => x)) (some ⟨wB.heap.size, 0, none⟩) 1 1 [.int .u8 (sk.toNat : Int), .slice A2 q.length c2] rfl (src_new wB _ #[.int .u8 (sk.toNat : Int), .slice A2 q.length c2] 2 1 rfl (by simp [Value.oneCell'])) HL5.out.1 HL5.out.2 (by have := (K1.out.trans (KB.out.alloc (.cells #[.int .u8 (sk.toNat : Int), .slice A2 q.length c2] 72))).size; exact this) ?_; intro v7 w7 hown7 hg7 _)
          have ka := KB.out.alloc (.cells #[.int .u8 (sk.toNat : Int), .slice A2 q.length c2] 72)
          have oq := ow_kept O1.out ka (fun _ _ x => x)
          have kg : Kept (fun k => (Value.slice Aa acc.length ca).ownBlock = some k) _ w7 := (Kept.refl _ _).grown hg7 (fun _ hk _ => hk)
          have b7 := (BS.out.alloc (.cells #[.int .u8 (sk.toNat : Int), .slice A2 q.length c2] 72)).kept kg (fun e => by have := (ow_ge O1.out e).2; omega)
          have k7 := (K1.out.trans ka).own_grown oq (Nat.le_refl _) hg7
          have R7 := Lib.hid (Rws.push (c := (sk, q)) oq (R1.out.old ka) (ow_kept O3.out ((Kept.refl Nothing wB).alloc (.cells #[.int .u8 (sk.toNat : Int), .slice A2 q.length c2] 72)) (fun _ _ x => x)) HFT.out hg7)
          have D7 := Lib.hid (D1.out.push (k := by8 sk) (v := .slice A2 q.length c2) R1.out rfl (fun g hg => (ow_ge O2.out hg).1))
          have O7 := Lib.hid (show w7.ownsRow w.heap.size 72 2 v7 (acc ++ [(sk, q)]).length (xs ++ [.int .u8 (sk.toNat : Int), .slice A2 q.length c2]) by rw [List.length_append]; exact hown7)
          obtain ⟨A7, c7, rfl, _, _⟩ := ow_form hown7
          have K7 := Lib.hid k7
          have z0 := b7.cell 0
          have z1 := b7.cell 1
          have q0 := k7.cell_some p0w (fun x => x)
          have q1 := k7.cell_some p1w (fun x => x)
          clear ka oq kg b7 k7 hown7 hg7 y0 y1 p0 p1 KB BS O2 O3 K2
          have HW7 := Lib.hid (WT.out A2 c2)
          have HON2 := Lib.hid HON.out
          have HCUT2 := Lib.hid HCUT.out
          clear WT HON HCUT
          generalize Fz.wt1 (sk, q) = t at *
          have hrt : (r : Int) - (t : Int) = ((r - t : Nat) : Int) := by omega
          by_cases hcut : q.length < sn.length
          · have FIN : Hid (acc ++ [(sk, q)] = Fz.lead l n) := Lib.hid (by rw [← E1.out, HCUT2.out hcut])
            go_upto_region 7 with (go_at_call 69; refine (HW7.out _).mono ?_; rintro e w8 ⟨rfl, k8⟩; (have K8 := Lib.hid k8); clear k8)
            have g0 := K8.out.cell_some z0 (fun x => x)
            have g1 := K8.out.cell_some z1 (fun x => x)
            have f0 := K8.out.cell_some q0 (fun x => x)
            have f1 := K8.out.cell_some q1 (fun x => x)
            clear z0 z1 q0 q1
            go_quiet (fail)
            go_wp2
            simp only [Exit.jump]
            go_ret
            exact ⟨_, _, rfl, by rw [← FIN.out]; exact ow_kept O7.out (K8.out.drewN _) (fun _ _ x => x), by rw [← FIN.out]; exact R7.out.old (K8.out.drewN _), D7.out, K7.out.trans (K8.out.drewN _)⟩
          · obtain ⟨At, ct, hts, hpt⟩ := P1.out.tail1
            have HPT := Lib.hid hpt
            have NXT : Hid ((acc ++ [(sk, q)]) ++ Fz.lead m (r - t) = Fz.lead l n) := Lib.hid (by rw [← E1.out, HON2.out hcut, List.append_assoc]; rfl)
            clear hpt
            go_upto_region 7 with (go_at_call 69; refine (HW7.out _).mono ?_; rintro e w8 ⟨rfl, k8⟩; (have K8 := Lib.hid k8); clear k8)
            have g0 := K8.out.cell_some z0 (fun x => x)
            have g1 := K8.out.cell_some z1 (fun x => x)
            have f0 := K8.out.cell_some q0 (fun x => x)
            have f1 := K8.out.cell_some q1 (fun x => x)
            clear z0 z1 q0 q1
            go_quiet (fail)
            go_wp2
            go_step3
            exact ⟨rfl, J1.out _ _ ⟨_, _, m, r - t, acc ++ [(sk, q)], _, rfl, rfl, rfl, rfl, rfl, HPT.out, ow_kept O7.out (K8.out.drewN _) (fun _ _ x => x), R7.out.old (K8.out.drewN _), D7.out, K7.out.trans (K8.out.drewN _), NXT.out, by rw [List.length_append]; simp; omega, by omega, fun s hs => M1.out s (List.mem_cons_of_mem _ hs)⟩ (by show m.length < m.length + 1; omega)⟩
end Go.Proofs.YthjljamngpddmaaGreatDoor
namespace Go.Proofs.YthjljamngpddmaaGreatDoor
open Go.RowKit Go.Shelf

theorem slice_mA (g n c m : Nat) (hn : m ≤ n) (hc : m < c) (w : World) :
    (Instr.slice 70 (.slice (some ⟨g, 0, none⟩) n c) (some (.int .i64 (m : Int))) none none).run Tryz.prog w = .ok (.slice (some ⟨g, m, none⟩) (n - m) (c - m)) w := by
  have hz := Tryz.sizeOf54
  have he : Tryz.prog.elem 70 = 54 := by kernel_rfl
  rw [run_slice_l w 70 _ n c (by kernel_rfl) .i64 m (by omega) (by omega), he, hz]
  have hck : ¬ c = m := by omega
  simp [sliced, hck, add_none]
set_option maxHeartbeats 4000000 in
set_option maxRecDepth 100000 in
theorem ins_shiftN (b n c vb vo vc m : Nat) (xs cs : List Value) (w : World) (hm0 : 0 < m) (hxl : xs.length = m) (hi : 0 < n) (hroom : n + m ≤ c) (hc63 : c ≤ 9223372036854775807) (hvb : vb ≠ b)
    (hcl : cs.length = n)
    (hcs : ∀ j v, cs[j]? = some v → w.cell? ⟨b, 0 + j, none⟩ = some v) (hsp : ∀ j, j < n + m → (w.cell? ⟨b, 0 + j, none⟩).isSome = true) (hfz : ∀ j, j < n + m → w.frozen? ⟨b, 0 + j, none⟩ = false)
    (hvs : ∀ (j : Nat) v, xs[j]? = some v → w.cell? ⟨vb, vo + j, none⟩ = some v) (h1x : ∀ v ∈ xs, v.oneCell' = true) (h1c : ∀ v ∈ cs, v.oneCell' = true)
    (tA tB : TypeId) (kA kB : Nat) (hsa : w.shape? vb = some (tA, kA)) (hsb : w.shape? b = some (tB, kB)) (hkB : kB ≠ 0) (hfa : w.frozen? ⟨vb, vo, none⟩ = false) (hfe : w.frozen? ⟨vb, kA, none⟩ = false) :
    Calls Tryz.prog 86 #[.slice (some ⟨b, 0, none⟩) n c, .int .i64 0, .slice (some ⟨vb, vo, none⟩) m vc] w fun e w' =>
      e = .returned (.slice (some ⟨b, 0, none⟩) (n + m) c) ∧ w' = (w.drew.setCells b m cs).setCells b 0 xs := by
  have hz2 : ¬ ((0 : Int) = (n : Int)) := by omega
  have hz4 : ¬ ((m : Int) = 0) := by omega
  have hsz : (Tryz.prog.info? 54).map (·.size) = some 1 := by
    obtain ⟨i0, hi0, h0, h1, h2⟩ := info_parts as_info
    rw [hi0]; simp [h1]
  have hov : ∀ la ca lb cb, (callFunc 98 #[.slice (some ⟨vb, vo, none⟩) la ca, .slice (some ⟨b, m, none⟩) lb cb]).run Tryz.prog w = .ok (.value (.bool false)) w := fun la ca lb cb => by
    rw [run_callFunc_extern Tryz.func98 (by kernel_rfl) (by kernel_rfl) (by kernel_rfl) (e := Extern.SlicesOverlaps.overlaps #[70, 70] #[4]) (by kernel_rfl),
      Lib.run_overlaps_apart w 70 4 54 Tryz.underlying70 1 Tryz.sizeOf54 ⟨vb, vo, none⟩ ⟨b, m, none⟩ la ca lb cb hvb tA tB kA kB hsa hsb hkB hfa hfe]
    rfl
  have hb2 : ¬ (c = m) := by omega
  have hb3 : (0 : Int) ≤ (n : Int) + (m : Int) := by omega
  have hb4 : ¬ (c = 0) := by omega
  have hcp1 : ∀ ty dc sc, (Builtin.copy_ #[70, 70] ty #[.slice (some ⟨b, m, none⟩) n dc, .slice (some ⟨b, 0, none⟩) (n + m) sc]).run Tryz.prog w.drew = .ok (goInt cs.length) (w.drew.setCells b m cs) := fun ty dc sc =>
    run_copy_cells w.drew _ _ ty 54 b m n dc ⟨b, 0, none⟩ (n + m) sc cs Tryz.underlying70 hsz (by rw [hcl]; simp only [Nat.min_def]; split <;> omega)
      (fun j v hj => by rw [add_none]; exact hcs j v hj)
      (fun j hj => by have := hsp (m + j) (by omega); rwa [Nat.zero_add] at this) (fun j hj => by have := hfz (m + j) (by omega); rwa [Nat.zero_add] at this) h1c
  obtain ⟨W1, hW1⟩ : ∃ W1, W1 = w.drew.setCells b m cs := ⟨_, rfl⟩
  have hsp1 : ∀ k, k < n + m → (W1.cell? ⟨b, 0 + k, none⟩).isSome = true := fun k hk => by
    rw [hW1, Nat.zero_add]
    refine isSome_setCells b _ _ _ (fun j hj => ?_) _ ?_
    · have := hsp (m + j) (by omega); rwa [Nat.zero_add] at this
    · have := hsp k hk; rwa [Nat.zero_add] at this
  have hcp2 : ∀ (W : World), (∀ x, W.cell? x = W1.cell? x) → (∀ x, W.frozen? x = W1.frozen? x) → ∀ ty dc, (Builtin.copy_ #[70, 70] ty #[.slice (some ⟨b, 0, none⟩) (n + m) dc, .slice (some ⟨vb, vo, none⟩) m vc]).run Tryz.prog W = .ok (goInt m) (W.setCells b 0 xs) := fun W hWc hWf ty dc => by
    have h := run_copy_cells (P := Tryz.prog) W 70 70 ty 54 b 0 (n + m) dc ⟨vb, vo, none⟩ m vc xs Tryz.underlying70 hsz (by rw [hxl]; simp only [Nat.min_def]; split <;> omega)
      (fun j v hj => by
        rw [add_none, hWc, hW1, World.cell?_setCells_out b _ _ _ _ (fun h _ => absurd h hvb)]
        exact hvs j v hj)
      (fun j hj => by rw [hWc]; exact hsp1 _ (by omega)) (fun j hj => by rw [hWf, hW1, World.frozen?_setCells]; exact hfz _ (by omega)) h1x
    rwa [hxl] at h
  rw [← hW1] at hcp1
  have hw0 : IntKind.i64.wrap (m : Int) = m := by rw [IntKind.wrap_i64]; omega
  have hs1 := slice_mA b (n + m) c m (by omega) (by omega)
  rw [Nat.add_sub_cancel] at hs1
  have hw1 : ((n : Int) + (m : Int)).toNat = n + m := by omega
  have hr1 : ¬ ((c : Int) < (n : Int) + (m : Int)) := by omega
  clear hsp hfz hvs hsa hsb hsp1 hcs
  go_enter Tryz.func86, Tryz.ntmps86
  go_wp2_with (simp only [hov])
  go_region_law (refine step_copy_runI rfl _ _ 70 70 rfl _ _ (by simp [Act.eval, Act.put]) (by simp [Act.eval, Act.put]) (hcp1 _ _ _) ?_)
  go_wp2_with (at_builtin; refine wpList_copy_runI _ rfl _ _ 70 70 rfl _ _ rfl rfl (hcp2 _ (fun _ => rfl) (fun _ => rfl) _ _) ?_)
  go_ret
  first | exact ⟨rfl, rfl⟩ | exact ⟨rfl, by rw [hW1]⟩

set_option maxHeartbeats 4000000 in
set_option maxRecDepth 100000 in
theorem ins_growN (b n c vb vo vc m : Nat) (xs cs : List Value) (w : World) (hm0 : 0 < m) (hxl : xs.length = m) (hi : 0 < n) (hnc : n ≤ c) (hroom : c < n + m) (hbig : (n + m) * 4 ≤ 140737488355328)
    (hcl : cs.length = n)
    (hcs : ∀ j v, cs[j]? = some v → w.cell? ⟨b, 0 + j, none⟩ = some v)
    (hvs : ∀ (j : Nat) v, xs[j]? = some v → w.cell? ⟨vb, vo + j, none⟩ = some v) (h1x : ∀ v ∈ xs, v.oneCell' = true) (h1c : ∀ v ∈ cs, v.oneCell' = true) :
    Calls Tryz.prog 86 #[.slice (some ⟨b, 0, none⟩) n c, .int .i64 0, .slice (some ⟨vb, vo, none⟩) m vc] w fun e w' =>
      ∃ G ROW, e = .returned (.slice (some ⟨w.heap.size, 0, none⟩) (n + m) G) ∧ n + m ≤ G ∧ G ≤ maxLen ∧ ROW.size = G ∧
      w' = (((w.alloc (.cells ROW 54)).drew.setCells w.heap.size 0 xs).drew).setCells w.heap.size m cs := by
  obtain ⟨i0, hi0, hz0, hzs, hzb⟩ := info_parts as_info
  have hz2 : ¬ ((0 : Int) = (n : Int)) := by omega
  have hz4 : ¬ ((m : Int) = 0) := by omega
  have hz3 : (c : Int) < (n : Int) + (m : Int) := by omega
  have hsz : (Tryz.prog.info? 54).map (·.size) = some 1 := by rw [hi0]; simp [hzs]
  have hbw : b < w.heap.size := block_lt_of_cell (hcs 0 _ (List.getElem?_eq_getElem (by omega)))
  have hvw : vb < w.heap.size := block_lt_of_cell (hvs 0 _ (List.getElem?_eq_getElem (by omega)))
  have hold : (Builtin.firstCells i0.size 0 (.slice (some ⟨b, 0, none⟩) 0 c)).run Tryz.prog w.drew = .ok ([] : List Value).toArray w.drew := by
    rw [hzs]
    exact run_firstCells_some w.drew 1 0 ⟨b, 0, none⟩ 0 c [] (by simp) (fun j v hj => by simp at hj)
  have hrz : ∀ ty, (Builtin.append_ #[70, 3] ty #[.slice (some ⟨b, 0, none⟩) 0 c, .int .i64 ((n : Int) + (m : Int))]).run Tryz.prog w =
      .ok (.slice (some ⟨w.heap.size, 0, none⟩) (n + m) (grownCap w (n + m) c 54)) (w.drew.alloc (.cells (([] : List Value).toArray ++ Builtin.zeroCells (Value.int .u32 0).cells (n + m) ++ Builtin.zeroCells (Value.int .u32 0).cells (grownCap w (n + m) c 54 - (n + m))) 54)) := fun ty => by
    have h := Lib.run_append_grow_zeros w 70 3 ty 54 i0 _ .i64 .i64 Tryz.underlying70 Tryz.underlying3 hi0 hz0 (some ⟨b, 0, none⟩) 0 c [] hold (n + m) (by omega) (by omega) (by omega) (by omega) (by rw [hzb]; omega) (by rw [hzb, Nat.zero_add]; exact growslice_fits hroom hbig)
    rw [Nat.zero_add] at h
    rw [show (n : Int) + (m : Int) = ((n + m : Nat) : Int) by omega]
    exact h
  obtain ⟨G, hG⟩ : ∃ G, G = grownCap w (n + m) c 54 := ⟨_, rfl⟩
  obtain ⟨ROW, hROW⟩ : ∃ ROW : Array Value, ROW = ([] : List Value).toArray ++ Builtin.zeroCells (Value.int .u32 0).cells (n + m) ++ Builtin.zeroCells (Value.int .u32 0).cells (G - (n + m)) := ⟨_, rfl⟩
  rw [← hG] at hrz
  rw [← hROW] at hrz
  have hGn : n + m ≤ G := by rw [hG]; exact grownCap_ge w _ _ _
  have hRs : ROW.size = G := by
    rw [hROW]
    simp [Builtin.zeroCells, Value.cells]
    omega
  obtain ⟨W1, hW1⟩ : ∃ W1, W1 = w.drew.alloc (.cells ROW 54) := ⟨_, rfl⟩
  rw [← hW1] at hrz
  have hN : ∀ j, j < n + m → (W1.cell? ⟨w.heap.size, j, none⟩).isSome = true := fun j hj => by
    rw [hW1, World.cell?_alloc_at (w := w.drew) ROW _ w.heap.size j rfl, Array.getElem?_eq_getElem (by omega)]; rfl
  have hNf : ∀ j, W1.frozen? ⟨w.heap.size, j, none⟩ = false := fun j => by rw [hW1]; exact World.frozen?_alloc_at (w := w.drew) ROW _ w.heap.size j rfl
  have hOb : ∀ j v, w.cell? ⟨b, j, none⟩ = some v → W1.cell? ⟨b, j, none⟩ = some v := fun j v h => by rw [hW1, World.cell?_alloc_past (w := w.drew) _ b j hbw]; exact h
  have hOv : ∀ j v, w.cell? ⟨vb, j, none⟩ = some v → W1.cell? ⟨vb, j, none⟩ = some v := fun j v h => by rw [hW1, World.cell?_alloc_past (w := w.drew) _ vb j hvw]; exact h
  have hcpA : ∀ (W : World), (∀ x, W.cell? x = W1.cell? x) → (∀ x, W.frozen? x = W1.frozen? x) → ∀ ty dc, (Builtin.copy_ #[70, 70] ty #[.slice (some ⟨w.heap.size, 0, none⟩) (n + m) dc, .slice (some ⟨vb, vo, none⟩) m vc]).run Tryz.prog W = .ok (goInt m) (W.setCells w.heap.size 0 xs) := fun W hWc hWf ty dc => by
    have h := run_copy_cells (P := Tryz.prog) W 70 70 ty 54 w.heap.size 0 (n + m) dc ⟨vb, vo, none⟩ m vc xs Tryz.underlying70 hsz (by rw [hxl]; simp only [Nat.min_def]; split <;> omega)
      (fun j v hj => by rw [add_none, hWc]; exact hOv _ v (hvs j v hj))
      (fun j hj => by rw [hWc, Nat.zero_add]; exact hN _ (by omega)) (fun j hj => by rw [hWf]; exact hNf _) h1x
    rwa [hxl] at h
  have hG63 : G ≤ 9223372036854775807 := by
    have := grownCap_le_maxLen w (n + m) c 54 (by unfold maxLen; omega)
    rw [← hG] at this
    unfold maxLen at this
    omega
  have hGi : ¬ (G = 0) := by omega
  have hGim : ¬ (G = m) := by omega
  have hci : ¬ (c = 0) := by omega
  have hbN : b ≠ w.heap.size := by omega
  have hcpB : ∀ (W : World), (∀ y, W.cell? y = (W1.setCells w.heap.size 0 xs).cell? y) → (∀ y, W.frozen? y = (W1.setCells w.heap.size 0 xs).frozen? y) → ∀ ty dc sc, (Builtin.copy_ #[70, 70] ty #[.slice (some ⟨w.heap.size, m, none⟩) n dc, .slice (some ⟨b, 0, none⟩) n sc]).run Tryz.prog W = .ok (goInt cs.length) (W.setCells w.heap.size m cs) := fun W hWc hWf ty dc sc =>
    run_copy_cells W _ _ ty 54 w.heap.size m n dc ⟨b, 0, none⟩ n sc cs Tryz.underlying70 hsz (by rw [hcl]; simp only [Nat.min_def]; split <;> omega)
      (fun j v hj => by
        rw [add_none, hWc, World.cell?_setCells_out _ _ _ _ _ (fun h _ => absurd h hbN)]
        exact hOb _ v (hcs j v hj))
      (fun j hj => by rw [hWc]; exact isSome_setCells _ _ _ _ (fun t ht => by rw [Nat.zero_add]; exact hN _ (by omega)) _ (hN _ (by omega)))
      (fun j hj => by rw [hWf, World.frozen?_setCells]; exact hNf _) h1c
  subst hW1
  have hE1 : ∀ x, ((w.alloc (.cells ROW 54)).drew).cell? x = (w.drew.alloc (.cells ROW 54)).cell? x := fun x => rfl
  have hE2 : ∀ x, ((w.alloc (.cells ROW 54)).drew).frozen? x = (w.drew.alloc (.cells ROW 54)).frozen? x := fun x => rfl
  have hF1 : ∀ y, (((w.alloc (.cells ROW 54)).drew.setCells w.heap.size 0 xs).drew).cell? y = ((w.drew.alloc (.cells ROW 54)).setCells w.heap.size 0 xs).cell? y := fun y => rfl
  have hF2 : ∀ y, (((w.alloc (.cells ROW 54)).drew.setCells w.heap.size 0 xs).drew).frozen? y = ((w.drew.alloc (.cells ROW 54)).setCells w.heap.size 0 xs).frozen? y := fun y => rfl
  have hw0 : IntKind.i64.wrap (m : Int) = m := by rw [IntKind.wrap_i64]; omega
  have hs1 := slice_mA w.heap.size (n + m) G m (by omega) (by omega)
  rw [Nat.add_sub_cancel] at hs1
  clear hold hROW hG hcs hvs hN hNf hOb hOv
  go_enter Tryz.func86, Tryz.ntmps86
  go_wp2_with (first
    | (at_builtin; refine Lib.wpList_append_run _ rfl _ _ _ _ rfl _ _ rfl rfl _ _ (hrz _) ?_)
    | (at_builtin; refine wpList_copy_runI _ rfl _ _ 70 70 rfl _ _ rfl rfl (hcpA _ hE1 hE2 _ _) ?_)
    | (at_builtin; refine wpList_copy_runI _ rfl _ _ 70 70 rfl _ _ rfl rfl (hcpB _ (fun _ => rfl) (fun _ => rfl) _ _ _) ?_))
  go_region_law (refine step_copy_runI rfl _ _ 70 70 rfl (.slice (some ⟨w.heap.size, m, none⟩) n (G - m)) (.slice (some ⟨b, 0, none⟩) n c) (by simp [Act.eval, Act.put]) (by simp [Act.eval, Act.put]) (hcpB _ hF1 hF2 3 (G - m) c) ?_)
  go_wp2
  go_ret
  exact ⟨G, ROW, rfl, hGn, by unfold maxLen; omega, hRs, rfl⟩
end Go.Proofs.YthjljamngpddmaaGreatDoor
