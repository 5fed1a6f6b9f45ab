
/-
  The law ScrollBack: it returns true, whatever it is given, and leaves what was there as it was.
-/
import Derived.Test.YtmaebgpppedllaaBq
import Derived.Test.YtmaebgpppedllaaWk
namespace Go.Proofs.Ytmaebgpppedllaa
open Go.RowKit

theorem slice_tos (A : Option Addr) (n c k : Nat) (hk : k ≤ c) (w : World) :
    (Instr.slice 23 (.slice A n c) none (some (.int .i64 (k : Int))) none).run Try.prog w = .ok (.slice A k c) w := by
  have hz := Try.sizeOf5
  have he : Try.prog.elem 23 = 5 := by kernel_rfl
  rw [run_slice_h w 23 A n c (by kernel_rfl) .i64 k (by omega) (by omega), he, hz]
  cases A <;> simp [sliced, Addr.add]
/-- What comes of laying nodes: their bytes, or a block is too long. -/
theorem lays_all (l : List Nd) : (∃ B, Nd.row (Nd.told 3) (l.take 6) = some B ∧ (l.take 6).foldl (Nd.lay 3) ⟨[], [], 0⟩ = ⟨B, [], 0⟩ ∧ B.length ≤ 100000) ∨ ((l.take 6).foldl (Nd.lay 3) ⟨[], [], 0⟩).done = ([], 3) := by
  have h := fold_lays (Nd.lay_bad 3) (Nd.lays 3) (l.take 6) ⟨[], [], 0⟩ rfl
  have hg := fold_grows (Nd.grows 3) (l.take 6) ⟨[], [], 0⟩
  have h6 : (l.take 6).length * most 3 ≤ 6 * most 3 := Nat.mul_le_mul_right _ (by rw [List.length_take]; omega)
  have hm : most 3 ≤ 1000 := most_le (by decide)
  cases hr : Nd.row (Nd.told 3) (l.take 6) with
  | some B =>
    rw [hr] at h
    have h1 : (l.take 6).foldl (Nd.lay 3) ⟨[], [], 0⟩ = WS.lay ⟨[], [], 0⟩ B := h
    have h2 : WS.lay ⟨[], [], 0⟩ B = ⟨B, [], 0⟩ := by unfold WS.lay; rw [if_pos rfl]; simp
    rw [h2] at h1
    refine .inl ⟨B, rfl, h1, ?_⟩
    rw [h1] at hg
    have := hg.1
    simp only [List.length_nil] at this
    omega
  | none =>
    rw [hr] at h
    have h1 : ((l.take 6).foldl (Nd.lay 3) ⟨[], [], 0⟩).e = 3 := h
    refine .inr ?_
    unfold WS.done
    rw [if_neg (by rw [h1]; decide), h1]
theorem lies_all (B c : List UInt8) (h : B.length ≤ 100000) (hc : c.length ≤ 50) : Lies ⟨B ++ c, 0, [], 0⟩ B :=
  ⟨rfl, ⟨Nat.zero_le _, by rw [List.length_append]; omega⟩, by simp, by show 0 + B.length ≤ (B ++ c).length; rw [List.length_append]; omega⟩
theorem short_all (B : List UInt8) (k : Nat) (h : B.length ≤ 100000) (hk : k < B.length) : Short ⟨B.take k, 0, [], 0⟩ B :=
  ⟨rfl, ⟨Nat.zero_le _, by rw [List.length_take]; omega⟩, rfl, by rw [List.length_take]; omega, List.take_prefix k B⟩
theorem read_there {l : List Nd} {B c : List UInt8} (hr : Nd.row (Nd.told 3) (l.take 6) = some B) (h : B.length ≤ 100000) (hc : c.length ≤ 50) : Nd.rows (Nd.read 3) ⟨B ++ c, 0, [], 0⟩ (l.take 6) = (true, ⟨B ++ c, B.length, [], 0⟩) := by
  have := rows_there (Nd.there 3) (l.take 6) _ B hr (lies_all B c h hc)
  rw [this]
  simp
theorem read_short {l : List Nd} {B : List UInt8} {k : Nat} (hr : Nd.row (Nd.told 3) (l.take 6) = some B) (h : B.length ≤ 100000) (hk : k < B.length) : (Nd.rows (Nd.read 3) ⟨B.take k, 0, [], 0⟩ (l.take 6)).1 = false :=
  rows_short (Nd.read_bad 3) (Nd.there 3) (Nd.short 3) (l.take 6) _ B hr (short_all B k h hk)

theorem own_lenb {w : World} {base n m size : Nat} {e : TypeId} {v : Value} {xs : List Value} (h : w.ownsRow base e size v n xs) (e' : n = m) : w.ownsRow base e size v m xs := e' ▸ h
theorem Nds.old {w w' : World} (k : Kept Nothing w w') : ∀ {d : Nat} {v : Value} {l : List Nd}, Nds d w v l → Nds d w' v l
  | 0, _, _, h => h
  | d + 1, _, _, ⟨A, c, h1, h2, h3⟩ => ⟨A, c, h1, h2, fun h0 => by
    obtain ⟨b, o, hA, hi⟩ := h3 h0
    refine ⟨b, o, hA, fun i hl => ?_⟩
    obtain ⟨pv, c0, c1, c2, hw, hn, hp⟩ := hi i hl
    exact ⟨pv, k.cell_some c0 (fun x => x), k.cell_some c1 (fun x => x), k.cell_some c2 (fun x => x), hw, hn, Nds.old k hp⟩⟩
theorem bys_app (a b : List UInt8) : bys (a ++ b) = bys a ++ bys b := by unfold bys; rw [List.map_append]
theorem got_rest (B c : List UInt8) : RS.got ⟨B ++ c, B.length, [], 0⟩ ((RS.left ⟨B ++ c, B.length, [], 0⟩ : Nat) : Int) = c := by
  have hl : RS.left ⟨B ++ c, B.length, [], 0⟩ = c.length := by rw [RS.left_zero rfl]; unfold RS.top; simp
  rw [hl]
  unfold RS.got
  rw [RS.fits_pos (by omega) (by rw [hl]; omega), if_pos rfl, Int.toNat_natCast]
  simp

set_option maxRecDepth 20000 in
set_option maxHeartbeats 4000000 in
theorem back_law (v0 v1 : Value) (l : List Nd) (bh : List UInt8) (cut : Nat) (hcut : cut < 65536) (W : World) (h0 : Nds 4 W v0 l) (h1 : By W v1 bh) :
    Calls Try.prog 3 #[v0, v1, .int .u16 (cut : Int)] W fun e w' => e = .returned (.bool true) ∧ Kept Nothing W w' := by
  have H0 := Lib.hid h0
  obtain ⟨A1, c1, rfl, hc1, hm1⟩ := h1.form
  unfold maxLen at hm1
  have hmin : (if (50 : Int) < (bh.length : Int) then (50 : Int) else (bh.length : Int)) = ((min bh.length 50 : Nat) : Int) := by split <;> omega
  have hsl := slice_tos A1 bh.length c1 (min bh.length 50) (by omega)
  have hp := h1.pre (m := min bh.length 50) (by omega)
  have hlen : (bh.take (min bh.length 50)).length = min bh.length 50 := by rw [List.length_take]; omega
  have hml : min bh.length 50 ≤ 50 := by omega
  have hmc : min bh.length 50 ≤ c1 := by omega
  generalize bh.take (min bh.length 50) = bb at *
  generalize min bh.length 50 = m at *
  subst hlen
  have H1 := Lib.hid hp
  obtain ⟨i0, hi, hz0, hz1, hz2⟩ := info_parts u8_info
  clear h0 h1 hp
  go_enter Try.func3, Try.ntmps3
  go_wp2_with fail
  refine (wr_lay W).mono ?_
  rintro e w1 ⟨p, F, rfl, hw1, hk1, hs1⟩
  have N1 : Hid (NewW W w1 p ⟨[], [], 0⟩) := Lib.hid ⟨F, hw1, hs1, hk1⟩
  clear hw1 hk1 hs1
  go_wp2_with fail
  refine (nd_lay W 3 (by decide) w1 v0 p l ⟨[], [], 0⟩ H0.out N1.out (by have := most_le (d := 3) (by decide); simp only [List.length_nil]; omega) (by have := most_le (d := 3) (by decide); simp only [List.length_nil]; omega)).mono ?_
  rintro e w2 ⟨rfl, hn2⟩
  have HLA := Lib.hid (lays_all l)
  generalize (l.take 6).foldl (Nd.lay 3) ⟨[], [], 0⟩ = S at *
  have N2 := Lib.hid hn2
  clear hn2 N1
  go_wp2_with fail
  obtain ⟨F2, hw2, hs2, hk2⟩ := N2.out
  refine (wr_done p F2 S w2 hw2).mono ?_
  rintro e w3 ⟨bv, rfl, hb3, hk3⟩
  have K3 := Lib.hid (hk2.trans hk3)
  have HW3 := Lib.hid (hw2.kept hk3 (fun _ _ x => x))
  have B3 := Lib.hid hb3
  obtain ⟨Ab, cb, rfl, hcb, _⟩ := hb3.by.form
  clear hw2 hs2 hk2 hk3 hb3 N2
  rcases HLA.out with ⟨B, hrow, hS, hBl⟩ | hbad
  · subst hS
    have hdone : WS.done ⟨B, [], 0⟩ = (B, 0) := rfl
    rw [hdone] at B3 hcb ⊢
    have HROW := Lib.hid hrow
    simp only at B3 hcb
    clear hdone hrow HLA
    go_wp2_with (go_at_call 9; refine (wr_len p F2 _ _ HW3.out).mono ?_; rintro e w4 ⟨rfl, rfl⟩)
    refine (by_clone (.slice Ab B.length cb) B w3 B3.out.by (by omega)).mono ?_
    rintro e w4 ⟨v4, rfl, ho4, hk4⟩
    obtain ⟨A4, c4, rfl, _, _⟩ := own_form ho4
    have O4 := Lib.hid ho4
    have K4 := Lib.hid hk4
    have HS := Lib.hid ((H1.out.old (K3.out.trans hk4)).src)
    clear ho4 hk4
    go_wp2_with (at_builtin; refine wpList_app _ rfl _ _ 23 rfl w3.heap.size 5 i0 _ 1 1 Try.underlying23 hi hz0 hz1 hz2 rfl (by decide) (.slice A4 B.length c4) B.length (bys B) rfl O4.out A1 bb.length c1 (bys bb) rfl HS.out (by unfold maxLen; omega) (by omega) K4.out.size ?_; intro v5 w5 ho5 hg5 hat5; have B5 := Lib.hid ((Bs.of_own (l := B ++ bb) (own_lenb (by rw [bys_app]; exact ho5) (by simp))).by); have K5 := Lib.hid (K4.out.grown hg5 (fun k hk hlt => by have := (O4.out.lt k hk).1; omega)); obtain ⟨A5, c5, rfl, _, _⟩ := own_form ho5; clear ho5 hg5 hat5)
    refine (rd_new _ (B ++ bb) w5 B5.out (by rw [List.length_append]; omega)).mono ?_
    rintro e w6 ⟨q, rfl, hr6, hk6, hq6⟩
    have K35 := Lib.hid (K3.out.trans K5.out)
    have N6 : Hid (NewR w5 w6 q ⟨B ++ bb, 0, [], 0⟩) := Lib.hid ⟨hr6, hq6, hk6⟩
    have B5' := Lib.hid (B3.out.by.old K5.out)
    have H5 := Lib.hid (H0.out.old K35.out)
    have HBB := Lib.hid (H1.out.old K35.out)
    clear hr6 hk6 hq6 K5 B5 O4 K4 HS B3 K3 HW3 H0 H1
    go_wp2_with fail
    refine (nd_read w5 3 (by decide) w6 v0 q l _ H5.out N6.out (by simp)).mono ?_
    rw [read_there HROW.out hBl hml]
    rintro e w7 ⟨rfl, hn7⟩
    have N7 := Lib.hid hn7
    have HG := Lib.hid (got_rest B bb)
    clear hn7 N6
    have hbe : (bb == bb) = true := beq_self_eq_true _
    by_cases hB0 : B.length = 0
    · have hz : ((B.length : Int) == 0) = true := by rw [hB0]; rfl
      go_wp2_with (first
        | (go_at_call 13; refine (rd_at q _ _ N7.out.1).mono ?_; rintro e w8 ⟨rfl, rfl⟩)
        | (go_at_call 14; refine (rd_deep q _ _ N7.out.1).mono ?_; rintro e w9 ⟨rfl, rfl⟩)
        | (go_at_call 16; refine (rd_rest q _ _ N7.out.1).mono ?_; rintro e w10 ⟨v10, rfl, hb10, hr10, hk10⟩; rw [HG.out] at hb10; have B10 := Lib.hid hb10; have K10 := Lib.hid (N7.out.2.2.trans_new hk10 (fun i hi x => by have := N7.out.2.1; unfold Only at x; omega)); clear hb10 hr10 hk10)
        | (go_at_call 15; refine (by_equal _ _ bb bb _ B10.out.by (HBB.out.old K10.out)).mono ?_; rw [hbe]; rintro e w11 ⟨rfl, rfl⟩))
      refine (wakes_any _).mono ?_
      rintro e w12 ⟨rfl, hk12⟩
      go_wp2
      go_ret
      exact ⟨rfl, K35.out.trans (K10.out.trans hk12)⟩
    · have hz : ((B.length : Int) == 0) = false := by rw [beq_eq_false_iff_ne]; omega
      have hz1' : (B.length : Int) ≠ 0 := by omega
      have hkl : cut % B.length < B.length := Nat.mod_lt _ (by omega)
      have hmod : (cut : Int) % (B.length : Int) = ((cut % B.length : Nat) : Int) := by rw [Int.natCast_emod]
      have hsl2 := slice_tos Ab B.length cb (cut % B.length) (by omega)
      have HSH := Lib.hid (read_short HROW.out hBl hkl)
      have HPRE := Lib.hid (B5'.out.pre (m := cut % B.length) (by omega))
      have hkk : (B.take (cut % B.length)).length = cut % B.length := by rw [List.length_take]; omega
      generalize cut % B.length = ck at *
      go_wp2_with (first
        | (go_at_call 13; refine (rd_at q _ _ N7.out.1).mono ?_; rintro e w8 ⟨rfl, rfl⟩)
        | (go_at_call 14; refine (rd_deep q _ _ N7.out.1).mono ?_; rintro e w9 ⟨rfl, rfl⟩)
        | (go_at_call 16; refine (rd_rest q _ _ N7.out.1).mono ?_; rintro e w10 ⟨v10, rfl, hb10, hr10, hk10⟩; rw [HG.out] at hb10; have B10 := Lib.hid hb10; have K10 := Lib.hid (N7.out.2.2.trans_new hk10 (fun i hi x => by have := N7.out.2.1; unfold Only at x; omega)); clear hb10 hr10 hk10)
        | (go_at_call 15; refine (by_equal _ _ bb bb _ B10.out.by (HBB.out.old K10.out)).mono ?_; rw [hbe]; rintro e w11 ⟨rfl, rfl⟩))
      refine (rd_new _ (B.take ck) w10 (by
        have := HPRE.out.old K10.out
        exact this) (by omega)).mono ?_
      rintro e w12 ⟨q2, rfl, hr12, hk12, hq12⟩
      have N12 : Hid (NewR w10 w12 q2 ⟨B.take ck, 0, [], 0⟩) := Lib.hid ⟨hr12, hq12, hk12⟩
      have H10 := Lib.hid (H5.out.old K10.out)
      clear hr12 hq12 hk12
      go_wp2_with fail
      refine (nd_read w10 3 (by decide) w12 v0 q2 l _ H10.out N12.out (by simp)).mono ?_
      rw [HSH.out]
      rintro e w13 ⟨rfl, hn13⟩
      have K13 := Lib.hid hn13.2.2
      clear hn13
      go_wp2_with (go_at_call 8; refine (wakes_any _).mono ?_; rintro e w14 ⟨rfl, hk14⟩)
      go_ret
      exact ⟨rfl, K35.out.trans (K10.out.trans (K13.out.trans hk14))⟩
  · have K3' := K3
    rw [hbad]
    clear B3 HW3 HLA hcb
    go_wp2_with fail
    refine (wakes_any _).mono ?_
    rintro e w12 ⟨rfl, hk12⟩
    go_wp2
    go_ret
    exact ⟨rfl, K3.out.trans hk12⟩
end Go.Proofs.Ytmaebgpppedllaa
