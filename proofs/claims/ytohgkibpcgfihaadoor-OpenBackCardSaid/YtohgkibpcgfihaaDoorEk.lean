
/-
  The law OpenGets: it returns true, whatever it is given, and leaves what was there as it was.
-/
import Derived.Test.YtohgkibpcgfihaaDoorEi
import Derived.Test.YtohgkibpcgfihaaDoorEh
import Derived.Test.YtohgkibpcgfihaaDoorIw
import Derived.Test.YtohgkibpcgfihaaDoorLaw
import Derived.Deep.DeepCutAuto
import Derived.Deep.CutBlock
namespace Go.Proofs.YtohgkibpcgfihaaDoor
open Go.RowKit

theorem num_take {l : List UInt8} {n : Nat} : RS.num (l.take n) < 256 ^ n := Nat.lt_of_lt_of_le (num_lt _) (Nat.pow_le_pow_right (by decide) (by rw [List.length_take]; omega))
theorem get_fine (b : List UInt8) : (Opn.get b).1.fine ∧ (Opn.get b).1.caps.length ≤ b.length ∧ (Opn.get b).2.1 < 256 ∧ (Opn.get b).2.2.1 < 256 := by
  have hz : Opn.zero.fine := ⟨by decide, by decide, by decide, by decide⟩
  have hs := Cp.out_small (b.drop 10) []
  unfold Opn.get
  split
  · exact ⟨hz, Nat.zero_le _, by decide, by decide⟩
  · split
    · exact ⟨hz, Nat.zero_le _, by decide, by decide⟩
    · split
      · exact ⟨hz, Nat.zero_le _, by decide, by decide⟩
      · split
        · exact ⟨hz, Nat.zero_le _, by show (Cp.out [] (b.drop 10)).2.1 < 256; omega, by show (Cp.out [] (b.drop 10)).2.2 < 256; omega⟩
        · refine ⟨⟨num_take, num_take, num_take, num_take⟩, ?_, (by show 0 < 256; decide), (by show 0 < 256; decide)⟩
          show (Cp.out [] (b.drop 10)).1.length ≤ b.length
          have := hs.1
          rw [List.length_drop] at this
          simp at this
          omega

def gkl (o : Opn) (dd : List UInt8) (cc ss p2 : Nat) (A1 A2 A3 A4 : Option Addr) (c1 c2 c3 c4 : Nat) : List (Option Value) := [some (.agg #[.int .u8 (o.ver : Int), .int .u16 (o.asn : Int), .int .u16 (o.hold : Int), .int .u32 (o.id : Int), .slice A1 o.caps.length c1]), none, some (.agg #[.int .i64 (o.ver : Int), .int .i64 (o.asn : Int), .int .i64 (o.hold : Int), .int .u32 (o.id : Int), .slice A3 o.caps.length c3]), some (.bool true), some (.bool true), some (.pointer (some ⟨p2, 0, none⟩)), some (.int .u8 (cc : Int)), some (.int .i64 (cc : Int)), some (.int .i64 (cc : Int)), some (.bool true), some (.bool true), some (.bool true), some (.pointer (some ⟨p2, 1, none⟩)), some (.int .u8 (ss : Int)), some (.int .i64 (ss : Int)), some (.int .i64 (ss : Int)), some (.bool true), some (.bool true), some (.bool true), some (.slice A2 dd.length c2), some (.string ⟨dd.toArray⟩), some (.slice A4 dd.length c4), some (.string ⟨dd.toArray⟩), some (.bool true), some (.bool true), some (.bool true), some (.bool true), some (.bool true), some (.bool true)]
def gks (o : Opn) : Nat → Value → World → Prop
  | 1, v, w => ∃ rv, v = .agg #[.int .i64 (o.ver : Int), .int .i64 (o.asn : Int), .int .i64 (o.hold : Int), .int .u32 (o.id : Int), rv] ∧ Cps w rv o.caps
  | _, _, _ => True
theorem gks_stab (o : Opn) (k : Nat) (v : Value) (w w' : World) (kk : Kept Nothing w w') (h : gks o k v w) : gks o k v w' := by
  unfold gks at h ⊢
  split at h
  all_goals first
    | (obtain ⟨rv, h1, h2⟩ := h; exact ⟨rv, h1, h2.old kk⟩)
    | trivial

set_option maxRecDepth 20000 in
set_option maxHeartbeats 8000000 in
theorem gets_law (v : Value) (b : List UInt8) (W : World) (hv : By W v b) (hr : RdC W) :
    Calls Tryd.prog 3 #[v] W fun e w' => e = .returned (.bool true) ∧ Kept Nothing W w' := by
  obtain ⟨A, c, rfl, hc, hm⟩ := hv.form
  unfold maxLen at hm
  have hmin : (if (300 : Int) < (b.length : Int) then (300 : Int) else (b.length : Int)) = ((min b.length 300 : Nat) : Int) := by split <;> omega
  have hsl := slice_to A b.length c (min b.length 300) (by omega)
  have hp := hv.pre (m := min b.length 300) (by omega)
  have hlen : (b.take (min b.length 300)).length = min b.length 300 := by rw [List.length_take]; omega
  have hml : min b.length 300 ≤ 300 := by omega
  have hmc : min b.length 300 ≤ c := by omega
  generalize b.take (min b.length 300) = d at *
  generalize min b.length 300 = m at *
  subst hlen
  have HD := Lib.hid hp
  have RD0 := Lib.hid hr
  obtain ⟨hf, hcl, hcc, hss⟩ := get_fine d
  have HC1 := Lib.hid (op_get _ d W hp (by omega))
  have HC2 := Lib.hid (fun w (k : Kept Nothing W w) => rop_get _ d w (hp.old k) (by omega))
  generalize Opn.get d = R at *
  obtain ⟨o, cc, ss, dd⟩ := R
  simp only at HC1 HC2 hf hcl hcc hss
  have HF := Lib.hid hf
  have HL : Hid (o.caps.length ≤ 1000000) := Lib.hid (by omega)
  clear hv hp hr hf hcl
  go_enter Tryd.func3, Tryd.ntmps3
  go_wp2_with fail
  refine HC1.out.mono ?_
  rintro e w1 ⟨rv1, dv1, rfl, hc1, hb1, hk1⟩
  obtain ⟨A1, c1, rfl, _, _⟩ := hc1.form
  obtain ⟨A2, c2, rfl, _, _⟩ := hb1.form
  have k2 := ((Kept.refl Nothing w1).alloc (.cells #[.int .u8 (o.ver : Int), .int .u16 (o.asn : Int), .int .u16 (o.hold : Int), .int .u32 (o.id : Int), .slice A1 o.caps.length c1] 28)).alloc (.cells #[.int .u8 (cc : Int), .int .u8 (ss : Int)] 30)
  have K2 := Lib.hid (hk1.trans k2)
  have C1' := Lib.hid (hc1.old k2)
  have B2' := Lib.hid (hb1.by.old k2)
  have X1' := Lib.hid ((Blk.fresh w1 28 #[.int .u8 (o.ver : Int), .int .u16 (o.asn : Int), .int .u16 (o.hold : Int), .int .u32 (o.id : Int), .slice A1 o.caps.length c1]).alloc (.cells #[.int .u8 (cc : Int), .int .u8 (ss : Int)] 30))
  have X2' := Lib.hid (Blk.fresh (w1.alloc (.cells #[.int .u8 (o.ver : Int), .int .u16 (o.asn : Int), .int .u16 (o.hold : Int), .int .u32 (o.id : Int), .slice A1 o.caps.length c1] 28)) 30 #[.int .u8 (cc : Int), .int .u8 (ss : Int)])
  rw [World.size_alloc] at X2'
  obtain ⟨p2, hp2⟩ : ∃ p2, w1.heap.size + 1 = p2 := ⟨_, rfl⟩
  rw [hp2] at X2'
  have HP2 := Lib.hid hp2
  clear hp2
  clear hc1 hb1 hk1 k2 HC1
  have HC3 := Lib.hid (HC2.out _ K2.out)
  go_wp2_with fail
  refine HC3.out.mono ?_
  rintro e w3 ⟨rv3, dv3, rfl, hc3, hb3, hk3⟩
  obtain ⟨A3, c3, rfl, _, _⟩ := hc3.form
  obtain ⟨A4, c4, rfl, _, _⟩ := hb3.form
  have k4 := (Kept.refl Nothing w3).alloc (.cells #[.int .i64 (o.ver : Int), .int .i64 (o.asn : Int), .int .i64 (o.hold : Int), .int .u32 (o.id : Int), .slice A3 o.caps.length c3] 35)
  have TW := Lib.hid ((K2.out.trans hk3).trans k4)
  have C1 := Lib.hid ((C1'.out.old hk3).old k4)
  have B2 := Lib.hid ((B2'.out.old hk3).old k4)
  have X1 := Lib.hid ((X1'.out.kept hk3 (fun x => x)).kept k4 (fun x => x))
  have X2 := Lib.hid ((X2'.out.kept hk3 (fun x => x)).kept k4 (fun x => x))
  have C3 := Lib.hid (hc3.old k4)
  have B4 := Lib.hid (hb3.old k4)
  have X3 := Lib.hid (Blk.fresh w3 35 #[.int .i64 (o.ver : Int), .int .i64 (o.asn : Int), .int .i64 (o.hold : Int), .int .u32 (o.id : Int), .slice A3 o.caps.length c3])
  have RD := Lib.hid (RD0.out.kept TW.out)
  clear hc3 hb3 hk3 k4 HC2 HC3 C1' B2' X1' X2' K2 RD0 HD
  go_upto_region 4 with fail
  generalize w3.alloc (.cells #[.int .i64 (o.ver : Int), .int .i64 (o.asn : Int), .int .i64 (o.hold : Int), .int .u32 (o.id : Int), .slice A3 o.caps.length c3] 35) = w4 at *
  generalize w3.heap.size = p3 at *
  rw [HP2.out]
  clear HP2
  generalize w1.heap.size = p1 at *
  refine wp_region_grow1 w4 (Facts (gkl o dd cc ss p2 A1 A2 A3 A4 c1 c2 c3 c4) (gks o)) 28 2 (by rfl) (by kernel_rfl) (by decide +kernel) (by intro d hd; simp [dsts] at hd ⊢; omega) (ready_nil (by kernel_rfl)) (by kernel_rfl) (Facts.guards (E := [(4, true), (11, true), (18, true), (25, true)]) (by kernel_rfl) ?_) (Facts.stab (gks_stab o)) (Kept.refl Nothing w4).drew ?_ ?_
  · repeat (first | refine List.forall_mem_cons.2 ⟨by rfl, ?_⟩ | exact List.forall_mem_nil _)
  · refine OweAll.cons ?_ ?_
    · intro u a hk hf hfar
      have v3 : a.tmps.getD 3 undef = .pointer (some ⟨p1, 0, none⟩) := hfar 3 (by decide)
      have w3 := v3
      rw [Array.getD_eq_getD_getElem?] at w3
      obtain ⟨⟨q0, q1, q2, q3, q4⟩, -⟩ := full5 (X1.out.kept hk (fun x => x))
      clear hf hfar
      go_simp
      exact ⟨_, rfl, Kept.refl _ _, rfl⟩
    refine OweAll.cons ?_ ?_
    · intro u a hk hf hfar
      have v28 : a.tmps.getD 28 undef = .agg #[.int .u8 (o.ver : Int), .int .u16 (o.asn : Int), .int .u16 (o.hold : Int), .int .u32 (o.id : Int), .slice A1 o.caps.length c1] := hf 0 _ 28 rfl rfl ⟨⟨0, .data⟩, Array.mem_of_getElem? (i := 0) rfl, rfl, rfl⟩
      have w28 := v28
      rw [Array.getD_eq_getD_getElem?] at w28
      clear hf hfar
      go_simp
      refine (law_of o HF.out _ _ (C1.out.old hk) HL.out).mono ?_
      rintro e u' ⟨rv, rfl, hc, hk'⟩
      have hz : ∃ r, (.agg #[.int .i64 (o.ver : Int), .int .i64 (o.asn : Int), .int .i64 (o.hold : Int), .int .u32 (o.id : Int), rv] : Value) = .agg #[.int .i64 (o.ver : Int), .int .i64 (o.asn : Int), .int .i64 (o.hold : Int), .int .u32 (o.id : Int), r] ∧ Cps u' r o.caps := ⟨_, rfl, hc⟩
      exact ⟨_, rfl, hk', hz⟩
    refine OweAll.cons ?_ ?_
    · intro u a hk hf hfar
      have v6 : a.tmps.getD 6 undef = .pointer (some ⟨p3, 0, none⟩) := hfar 6 (by decide)
      have w6 := v6
      rw [Array.getD_eq_getD_getElem?] at w6
      obtain ⟨⟨q0, q1, q2, q3, q4⟩, -⟩ := full5 (X3.out.kept hk (fun x => x))
      clear hf hfar
      go_simp
      exact ⟨_, rfl, Kept.refl _ _, rfl⟩
    refine OweAll.cons ?_ ?_
    · intro u a hk hf hfar
      have z29 : ∃ rv, (a.tmps.getD 29 undef) = .agg #[.int .i64 (o.ver : Int), .int .i64 (o.asn : Int), .int .i64 (o.hold : Int), .int .u32 (o.id : Int), rv] ∧ Cps u rv o.caps := hf 1 _ 29 rfl rfl ⟨⟨1, .data⟩, Array.mem_of_getElem? (i := 0) rfl, rfl, rfl⟩
      obtain ⟨rv, v29, hrv⟩ := z29
      obtain ⟨Av, cv, rfl, _, _⟩ := hrv.form
      have w29 := v29
      rw [Array.getD_eq_getD_getElem?] at w29
      have v30 : a.tmps.getD 30 undef = .agg #[.int .i64 (o.ver : Int), .int .i64 (o.asn : Int), .int .i64 (o.hold : Int), .int .u32 (o.id : Int), .slice A3 o.caps.length c3] := hf 2 _ 30 rfl rfl ⟨⟨2, .data⟩, Array.mem_of_getElem? (i := 1) rfl, rfl, rfl⟩
      have w30 := v30
      rw [Array.getD_eq_getD_getElem?] at w30
      clear hf hfar
      go_simp
      refine (law_like o _ _ _ hrv (C3.out.old hk) HL.out).mono ?_
      rintro e u' ⟨rfl, hk'⟩
      exact ⟨_, rfl, hk', rfl⟩
    refine OweAll.cons ?_ ?_
    · intro u a hk hf hfar
      have v31 : a.tmps.getD 31 undef = .bool true := hf 3 _ 31 rfl rfl ⟨⟨3, .data⟩, Array.mem_of_getElem? (i := 0) rfl, rfl, rfl⟩
      have w31 := v31
      rw [Array.getD_eq_getD_getElem?] at w31
      clear hf hfar
      go_simp
      exact ⟨_, rfl, Kept.refl _ _, rfl⟩
    refine OweAll.cons ?_ ?_
    · intro u a hk hf hfar
      have v4 : a.tmps.getD 4 undef = .pointer (some ⟨p2, 0, none⟩) := hfar 4 (by decide)
      have w4 := v4
      rw [Array.getD_eq_getD_getElem?] at w4
      clear hf hfar
      go_simp
      exact ⟨_, rfl, Kept.refl _ _, rfl⟩
    refine OweAll.cons ?_ ?_
    · intro u a hk hf hfar
      have v33 : a.tmps.getD 33 undef = .pointer (some ⟨p2, 0, none⟩) := hf 5 _ 33 rfl rfl ⟨⟨5, .data⟩, Array.mem_of_getElem? (i := 0) rfl, rfl, rfl⟩
      have w33 := v33
      rw [Array.getD_eq_getD_getElem?] at w33
      obtain ⟨⟨q0, q1⟩, -⟩ := full2 (X2.out.kept hk (fun x => x))
      clear hf hfar
      go_simp
      exact ⟨_, rfl, Kept.refl _ _, rfl⟩
    refine OweAll.cons ?_ ?_
    · intro u a hk hf hfar
      have v34 : a.tmps.getD 34 undef = .int .u8 (cc : Int) := hf 6 _ 34 rfl rfl ⟨⟨6, .data⟩, Array.mem_of_getElem? (i := 0) rfl, rfl, rfl⟩
      have w34 := v34
      rw [Array.getD_eq_getD_getElem?] at w34
      clear hf hfar
      go_simp
      first | exact ⟨_, rfl, Kept.refl _ _, rfl⟩ | exact ⟨_, rfl, Kept.refl _ _, congrArg (Value.int .i64) (IntWalk.i64_in _ (by omega))⟩
    refine OweAll.cons ?_ ?_
    · intro u a hk hf hfar
      have v7 : a.tmps.getD 7 undef = .int .i64 (cc : Int) := hfar 7 (by decide)
      have w7 := v7
      rw [Array.getD_eq_getD_getElem?] at w7
      clear hf hfar
      go_simp
      exact ⟨_, rfl, Kept.refl _ _, rfl⟩
    refine OweAll.cons ?_ ?_
    · intro u a hk hf hfar
      have v35 : a.tmps.getD 35 undef = .int .i64 (cc : Int) := hf 7 _ 35 rfl rfl ⟨⟨7, .data⟩, Array.mem_of_getElem? (i := 0) rfl, rfl, rfl⟩
      have w35 := v35
      rw [Array.getD_eq_getD_getElem?] at w35
      have v36 : a.tmps.getD 36 undef = .int .i64 (cc : Int) := hf 8 _ 36 rfl rfl ⟨⟨8, .data⟩, Array.mem_of_getElem? (i := 1) rfl, rfl, rfl⟩
      have w36 := v36
      rw [Array.getD_eq_getD_getElem?] at w36
      clear hf hfar
      go_simp
      exact ⟨_, rfl, Kept.refl _ _, rfl⟩
    refine OweAll.cons ?_ ?_
    · intro u a hk hf hfar
      have v32 : a.tmps.getD 32 undef = .bool true := hf 4 _ 32 rfl rfl ⟨⟨4, .data⟩, Array.mem_of_getElem? (i := 0) rfl, rfl, rfl⟩
      have w32 := v32
      rw [Array.getD_eq_getD_getElem?] at w32
      have v37 : a.tmps.getD 37 undef = .bool true := hf 9 _ 37 rfl rfl ⟨⟨9, .data⟩, Array.mem_of_getElem? (i := 1) rfl, rfl, rfl⟩
      have w37 := v37
      rw [Array.getD_eq_getD_getElem?] at w37
      clear hf hfar
      go_simp
      exact ⟨_, rfl, Kept.refl _ _, rfl⟩
    refine OweAll.cons ?_ ?_
    · intro u a hk hf hfar
      have v38 : a.tmps.getD 38 undef = .bool true := hf 10 _ 38 rfl rfl ⟨⟨10, .data⟩, Array.mem_of_getElem? (i := 0) rfl, rfl, rfl⟩
      have w38 := v38
      rw [Array.getD_eq_getD_getElem?] at w38
      clear hf hfar
      go_simp
      exact ⟨_, rfl, Kept.refl _ _, rfl⟩
    refine OweAll.cons ?_ ?_
    · intro u a hk hf hfar
      have v4 : a.tmps.getD 4 undef = .pointer (some ⟨p2, 0, none⟩) := hfar 4 (by decide)
      have w4 := v4
      rw [Array.getD_eq_getD_getElem?] at w4
      clear hf hfar
      go_simp
      exact ⟨_, rfl, Kept.refl _ _, rfl⟩
    refine OweAll.cons ?_ ?_
    · intro u a hk hf hfar
      have v40 : a.tmps.getD 40 undef = .pointer (some ⟨p2, 1, none⟩) := hf 12 _ 40 rfl rfl ⟨⟨12, .data⟩, Array.mem_of_getElem? (i := 0) rfl, rfl, rfl⟩
      have w40 := v40
      rw [Array.getD_eq_getD_getElem?] at w40
      obtain ⟨⟨q0, q1⟩, -⟩ := full2 (X2.out.kept hk (fun x => x))
      clear hf hfar
      go_simp
      exact ⟨_, rfl, Kept.refl _ _, rfl⟩
    refine OweAll.cons ?_ ?_
    · intro u a hk hf hfar
      have v41 : a.tmps.getD 41 undef = .int .u8 (ss : Int) := hf 13 _ 41 rfl rfl ⟨⟨13, .data⟩, Array.mem_of_getElem? (i := 0) rfl, rfl, rfl⟩
      have w41 := v41
      rw [Array.getD_eq_getD_getElem?] at w41
      clear hf hfar
      go_simp
      first | exact ⟨_, rfl, Kept.refl _ _, rfl⟩ | exact ⟨_, rfl, Kept.refl _ _, congrArg (Value.int .i64) (IntWalk.i64_in _ (by omega))⟩
    refine OweAll.cons ?_ ?_
    · intro u a hk hf hfar
      have v8 : a.tmps.getD 8 undef = .int .i64 (ss : Int) := hfar 8 (by decide)
      have w8 := v8
      rw [Array.getD_eq_getD_getElem?] at w8
      clear hf hfar
      go_simp
      exact ⟨_, rfl, Kept.refl _ _, rfl⟩
    refine OweAll.cons ?_ ?_
    · intro u a hk hf hfar
      have v42 : a.tmps.getD 42 undef = .int .i64 (ss : Int) := hf 14 _ 42 rfl rfl ⟨⟨14, .data⟩, Array.mem_of_getElem? (i := 0) rfl, rfl, rfl⟩
      have w42 := v42
      rw [Array.getD_eq_getD_getElem?] at w42
      have v43 : a.tmps.getD 43 undef = .int .i64 (ss : Int) := hf 15 _ 43 rfl rfl ⟨⟨15, .data⟩, Array.mem_of_getElem? (i := 1) rfl, rfl, rfl⟩
      have w43 := v43
      rw [Array.getD_eq_getD_getElem?] at w43
      clear hf hfar
      go_simp
      exact ⟨_, rfl, Kept.refl _ _, rfl⟩
    refine OweAll.cons ?_ ?_
    · intro u a hk hf hfar
      have v39 : a.tmps.getD 39 undef = .bool true := hf 11 _ 39 rfl rfl ⟨⟨11, .data⟩, Array.mem_of_getElem? (i := 0) rfl, rfl, rfl⟩
      have w39 := v39
      rw [Array.getD_eq_getD_getElem?] at w39
      have v44 : a.tmps.getD 44 undef = .bool true := hf 16 _ 44 rfl rfl ⟨⟨16, .data⟩, Array.mem_of_getElem? (i := 1) rfl, rfl, rfl⟩
      have w44 := v44
      rw [Array.getD_eq_getD_getElem?] at w44
      clear hf hfar
      go_simp
      exact ⟨_, rfl, Kept.refl _ _, rfl⟩
    refine OweAll.cons ?_ ?_
    · intro u a hk hf hfar
      have v45 : a.tmps.getD 45 undef = .bool true := hf 17 _ 45 rfl rfl ⟨⟨17, .data⟩, Array.mem_of_getElem? (i := 0) rfl, rfl, rfl⟩
      have w45 := v45
      rw [Array.getD_eq_getD_getElem?] at w45
      clear hf hfar
      go_simp
      exact ⟨_, rfl, Kept.refl _ _, rfl⟩
    refine OweAll.cons ?_ ?_
    · intro u a hk hf hfar
      have v5 : a.tmps.getD 5 undef = .slice A2 dd.length c2 := hfar 5 (by decide)
      have w5 := v5
      rw [Array.getD_eq_getD_getElem?] at w5
      clear hf hfar
      go_simp
      exact ⟨_, rfl, Kept.refl _ _, rfl⟩
    refine OweAll.cons ?_ ?_
    · intro u a hk hf hfar
      have v47 : a.tmps.getD 47 undef = .slice A2 dd.length c2 := hf 19 _ 47 rfl rfl ⟨⟨19, .data⟩, Array.mem_of_getElem? (i := 0) rfl, rfl, rfl⟩
      have w47 := v47
      rw [Array.getD_eq_getD_getElem?] at w47
      have hcv := run_conv (B2.out.old hk)
      clear hf hfar
      go_simp
      exact ⟨_, rfl, Kept.refl _ _, rfl⟩
    refine OweAll.cons ?_ ?_
    · intro u a hk hf hfar
      have v9 : a.tmps.getD 9 undef = .slice A4 dd.length c4 := hfar 9 (by decide)
      have w9 := v9
      rw [Array.getD_eq_getD_getElem?] at w9
      clear hf hfar
      go_simp
      exact ⟨_, rfl, Kept.refl _ _, rfl⟩
    refine OweAll.cons ?_ ?_
    · intro u a hk hf hfar
      have v49 : a.tmps.getD 49 undef = .slice A4 dd.length c4 := hf 21 _ 49 rfl rfl ⟨⟨21, .data⟩, Array.mem_of_getElem? (i := 0) rfl, rfl, rfl⟩
      have w49 := v49
      rw [Array.getD_eq_getD_getElem?] at w49
      have hcv := run_conv (B4.out.old hk)
      clear hf hfar
      go_simp
      exact ⟨_, rfl, Kept.refl _ _, rfl⟩
    refine OweAll.cons ?_ ?_
    · intro u a hk hf hfar
      have v48 : a.tmps.getD 48 undef = .string ⟨dd.toArray⟩ := hf 20 _ 48 rfl rfl ⟨⟨20, .data⟩, Array.mem_of_getElem? (i := 0) rfl, rfl, rfl⟩
      have w48 := v48
      rw [Array.getD_eq_getD_getElem?] at w48
      have v50 : a.tmps.getD 50 undef = .string ⟨dd.toArray⟩ := hf 22 _ 50 rfl rfl ⟨⟨22, .data⟩, Array.mem_of_getElem? (i := 1) rfl, rfl, rfl⟩
      have w50 := v50
      rw [Array.getD_eq_getD_getElem?] at w50
      clear hf hfar
      go_simp
      exact ⟨_, rfl, Kept.refl _ _, rfl⟩
    refine OweAll.cons ?_ ?_
    · intro u a hk hf hfar
      have v46 : a.tmps.getD 46 undef = .bool true := hf 18 _ 46 rfl rfl ⟨⟨18, .data⟩, Array.mem_of_getElem? (i := 0) rfl, rfl, rfl⟩
      have w46 := v46
      rw [Array.getD_eq_getD_getElem?] at w46
      have v51 : a.tmps.getD 51 undef = .bool true := hf 23 _ 51 rfl rfl ⟨⟨23, .data⟩, Array.mem_of_getElem? (i := 1) rfl, rfl, rfl⟩
      have w51 := v51
      rw [Array.getD_eq_getD_getElem?] at w51
      clear hf hfar
      go_simp
      exact ⟨_, rfl, Kept.refl _ _, rfl⟩
    refine OweAll.cons ?_ ?_
    · intro u a hk hf hfar
      have v52 : a.tmps.getD 52 undef = .bool true := hf 24 _ 52 rfl rfl ⟨⟨24, .data⟩, Array.mem_of_getElem? (i := 0) rfl, rfl, rfl⟩
      have w52 := v52
      rw [Array.getD_eq_getD_getElem?] at w52
      clear hf hfar
      go_simp
      exact ⟨_, rfl, Kept.refl _ _, rfl⟩
    refine OweAll.cons ?_ ?_
    · intro u a hk hf hfar
      clear hf hfar
      go_simp
      refine (op_tells _ (RD.out.kept hk)).mono ?_
      rintro e u' ⟨rfl, hk'⟩
      exact ⟨_, rfl, hk', rfl⟩
    refine OweAll.cons ?_ ?_
    · intro u a hk hf hfar
      have v53 : a.tmps.getD 53 undef = .bool true := hf 25 _ 53 rfl rfl ⟨⟨25, .data⟩, Array.mem_of_getElem? (i := 0) rfl, rfl, rfl⟩
      have w53 := v53
      rw [Array.getD_eq_getD_getElem?] at w53
      have v54 : a.tmps.getD 54 undef = .bool true := hf 26 _ 54 rfl rfl ⟨⟨26, .data⟩, Array.mem_of_getElem? (i := 1) rfl, rfl, rfl⟩
      have w54 := v54
      rw [Array.getD_eq_getD_getElem?] at w54
      clear hf hfar
      go_simp
      exact ⟨_, rfl, Kept.refl _ _, rfl⟩
    refine OweAll.cons ?_ ?_
    · intro u a hk hf hfar
      have v55 : a.tmps.getD 55 undef = .bool true := hf 27 _ 55 rfl rfl ⟨⟨27, .data⟩, Array.mem_of_getElem? (i := 0) rfl, rfl, rfl⟩
      have w55 := v55
      rw [Array.getD_eq_getD_getElem?] at w55
      clear hf hfar
      go_simp
      exact ⟨_, rfl, Kept.refl _ _, rfl⟩
    exact OweAll.nil
  · intro A u hku hA hdef
    have hA' : A.tmps.getD 2 undef = .bool true := hA
    have hr := results_tmp (fn := Tryd.f3) (t := 2) (by rfl) A.tmps Tryd.prog u
    rw [hA'] at hr
    go_wp2
    exact bodyPost_ret hr (hdef.trans rfl) ⟨rfl, TW.out.trans hku⟩
end Go.Proofs.YtohgkibpcgfihaaDoor
