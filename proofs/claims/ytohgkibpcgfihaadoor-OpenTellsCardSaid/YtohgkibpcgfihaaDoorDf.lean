
/-
  What the document's Bytes of chapter 5 does: the call itself.
-/
import Derived.Test.YtohgkibpcgfihaaDoorDe
namespace Go.Proofs.YtohgkibpcgfihaaDoor
open Go.RowKit

theorem own_len {w : World} {base n m size : Nat} {e : TypeId} {v : Value} {xs : List Value} (h : w.ownsRow base e size v n xs) (e' : n = m) : w.ownsRow base e size v m xs := e' ▸ h

set_option maxRecDepth 20000 in
set_option maxHeartbeats 4000000 in
theorem rcp_bytes (v : Value) (l : List Cp) (w : World) (hv : Cps w v l) (hl : l.length ≤ 100000) :
    Calls Tryd.prog 50 #[v] w fun e w' => ∃ rv, e = .returned (.tuple #[rv, .int .i64 ((Cp.bytes l).2 : Nat)]) ∧ By w' rv (Cp.bytes l).1 ∧ Kept Nothing w w' := by
  obtain ⟨A, c, rfl, hc, hm⟩ := hv.form
  have HV := Lib.hid hv
  obtain ⟨i0, hi, hz0, hz1, hz2⟩ := info_parts u8_info
  clear hv
  go_enter Tryd.func50, Tryd.ntmps50
  go_wp2
  go_loopw [4] (fun i wr => ∃ k : Nat, k ≤ l.length ∧ i = .int .i64 (k : Int) ∧ w = wr ∧ Hid ((l.drop k).any longC = l.any longC)) (fun i _ => l.length - (intOf i).toNat)
  case atStart => exact ⟨0, Nat.zero_le _, rfl, rfl, Lib.hid rfl⟩
  case round =>
    obtain ⟨k, hk, rfl, rfl, HR⟩ := hrel
    by_cases hlt : k < l.length
    · obtain ⟨b, o, rfl, hcell⟩ := HV.out.at (by omega)
      obtain ⟨c0, u, c1, q2⟩ := hcell k hlt
      obtain ⟨A1, cc1, rfl, _, _⟩ := q2.form
      have HD := Lib.hid (Cp.drop_next hlt)
      have hR := HR.out
      rw [HD.out, List.any_cons] at hR
      generalize hP : l[k] = P at *
      obtain ⟨kd, val⟩ := P
      simp only at c0 c1
      have hL : longC (kd, val) = decide (253 < val.length) := rfl
      rw [hL] at hR
      unfold by8 at c0
      clear hcell q2 hP HD hL
      by_cases hlong : 253 < val.length
      · rw [decide_eq_true hlong, Bool.true_or] at hR
        have HB : Hid (Cp.bytes l = ([], 1)) := Lib.hid (if_pos hR.symm)
        have hi1 : (253 : Int) < (val.length : Int) := by omega
        clear hlong HR hR
        go_wp2
        go_ret2
        exact ⟨_, by rw [HB.out]; rfl, by rw [HB.out]; exact (Bs.nil _).by, Kept.refl _ _⟩
      · rw [decide_eq_false hlong, Bool.false_or] at hR
        have HR2 := Lib.hid hR
        have hi1 : ¬ ((253 : Int) < (val.length : Int)) := by omega
        clear hlong HR hR
        go_wp2
        go_roundw
        case rel => exact ⟨k + 1, by omega, by go_num, trivial, HR2⟩
        case measure => simp [intOf]; omega
    · have hR := HR.out
      rw [List.drop_eq_nil_of_le (by omega)] at hR
      have HNL : Hid (l.any longC = false) := Lib.hid hR.symm
      have HL := Lib.hid (Cp.long_none HNL.out)
      clear HR hR
      go_wp2
      go_loopw [5, 6, 7] (fun ov cv i wr => ∃ (k : Nat) (o c : List UInt8), k ≤ l.length ∧ i = .int .i64 (k : Int) ∧ Two w wr ov cv o c ∧ c.length ≤ 255 ∧ o.length + c.length ≤ 600 * k ∧ Hid (Cp.Inv l k o c)) (fun _ _ i _ => l.length - (intOf i).toNat)
      case atStart => exact ⟨0, [], [], Nat.zero_le _, rfl, ⟨World.ownsRow_nil _ _ _ _, World.ownsRow_nil _ _ _ _, fun g h => by simp [Value.ownBlock] at h, Kept.refl _ _⟩, by simp, by simp, Lib.hid (.inl ⟨rfl, rfl⟩)⟩
      case round =>
        obtain ⟨k, o, cc, hk, rfl, htwo, hcl, hol, HI⟩ := hrel
        have HT := Lib.hid htwo
        obtain ⟨A5, c5, rfl, _, _⟩ := ow_form htwo.out
        obtain ⟨A6, c6, rfl, _, _⟩ := ow_form htwo.one
        have hkw := htwo.kept
        clear htwo
        by_cases hlt : k < l.length
        · obtain ⟨b, of, rfl, hcell⟩ := HV.out.at (by omega)
          obtain ⟨q0, u, q1, q2⟩ := hcell k hlt
          have c0 := hkw.cell_some q0 (fun x => x)
          have c1 := hkw.cell_some q1 (fun x => x)
          obtain ⟨A1, cc1, rfl, _, _⟩ := q2.form
          have HB := Lib.hid q2
          have hval := HL.out (l[k]) (List.getElem_mem _)
          have hsz := hkw.size
          have HOV := Lib.hid (fun h => Cp.Inv.over HI.out hlt h)
          have HFT := Lib.hid (Cp.Inv.fits HI.out hlt)
          generalize hP : l[k] = P at *
          obtain ⟨kd, val⟩ := P
          simp only at c0 c1 HB hval HOV HFT q0 q1
          unfold by8 at c0 q0
          have Q0 := Lib.hid q0
          have Q1 := Lib.hid q1
          have HBY := Lib.hid (bys_two val.length (by omega) kd)
          have HFM : Hid (Cp.form (kd, val) = [kd, UInt8.ofNat val.length] ++ val) := Lib.hid rfl
          clear hcell q0 q1 q2 hP HI hkw
          by_cases hov : 255 < cc.length + 2 + val.length
          · have hI2 := HOV.out hov
            have HI2 := Lib.hid hI2
            have hovi : (255 : Int) < (cc.length : Int) + 2 + (val.length : Int) := by omega
            have HBC := Lib.hid (bys_two cc.length (by omega) 2)
            clear HOV HFT hov hI2
            go_wp2_with (first
              | (at_builtin; refine wpList_app _ rfl (.tmp 40) (.tmp 44) 22 rfl w.heap.size 5 i0 _ 1 1 Tryd.underlying22 hi hz0 hz1 hz2 rfl (by decide) (.slice A5 o.length c5) (o.length) (bys o) rfl (HT.out.alloc _).out (some ⟨wr.heap.size, 0, none⟩) (2) 2 ([.int .u8 2, .int .u8 (cc.length : Nat)]) rfl (src_new wr _ #[.int .u8 2, .int .u8 (cc.length : Nat)] 1 2 rfl (by simp [Value.oneCell'])) (by unfold maxLen; omega) (by omega) (by simp; omega) ?_; intro v1 w1 ho1 hg1 hat1; have T1 := Lib.hid ((HT.out.alloc _).out_app (d := [2, UInt8.ofNat cc.length]) (by rw [HBC.out]; exact ho1) hg1 hat1); obtain ⟨A1o, c1o, rfl, _, _⟩ := ow_form ho1; clear ho1 hg1 hat1)
              | (at_builtin; refine wpList_app _ rfl (.tmp 46) (.tmp 47) 22 rfl w.heap.size 5 i0 _ 1 1 Tryd.underlying22 hi hz0 hz1 hz2 rfl (by decide) (.slice A1o (o.length + 2) c1o) (o.length + 2) (bys (o ++ [2, UInt8.ofNat cc.length])) rfl (own_len T1.out.out (by simp)) A6 (cc.length) c6 (bys cc) rfl (T1.out.src rfl) (by unfold maxLen; omega) (by omega) (T1.out.kept.size) ?_; intro v2 w2 ho2 hg2 hat2; have T2 := Lib.hid (T1.out.out_app (d := cc) (own_len ho2 (by simp)) hg2 hat2); have e0 := T2.out.kept.cell_some Q0.out (fun x => x); obtain ⟨A2, c2, rfl, _, _⟩ := ow_form ho2; clear ho2 hg2 hat2)
              | (at_builtin; refine wpList_app _ rfl (.tmp 49) (.tmp 57) 22 rfl w.heap.size 5 i0 _ 1 1 Tryd.underlying22 hi hz0 hz1 hz2 rfl (by decide) (.slice none 0 0) (0) ([]) rfl (World.ownsRow_nil _ _ _ _) (some ⟨w2.heap.size, 0, none⟩) (2) 2 ([.int .u8 (kd.toNat : Int), .int .u8 (val.length : Nat)]) rfl (src_new w2 _ #[.int .u8 (kd.toNat : Int), .int .u8 (val.length : Nat)] 1 2 rfl (by simp [Value.oneCell'])) (by unfold maxLen; omega) (by omega) (Nat.le_trans T2.out.kept.size (by simp)) ?_; intro v3 w3 ho3 hg3 hat3; have T3 := Lib.hid ((T2.out.one_nil.alloc _).one_app (d := [kd, UInt8.ofNat val.length]) (by rw [HBY.out]; exact ho3) hg3 hat3); have d1 := T3.out.kept.cell_some Q1.out (fun x => x); obtain ⟨A3, c3, rfl, _, _⟩ := ow_form ho3; clear ho3 hg3 hat3)
              | (at_builtin; refine wpList_app _ rfl (.tmp 59) (.tmp 64) 22 rfl w.heap.size 5 i0 _ 1 1 Tryd.underlying22 hi hz0 hz1 hz2 rfl (by decide) (.slice A3 (0 + 2) c3) (0 + 2) (bys ([] ++ [kd, UInt8.ofNat val.length])) rfl (own_len T3.out.one (by simp)) A1 (val.length) cc1 (bys val) rfl (HB.out.old T3.out.kept).src (by unfold maxLen; omega) (by omega) (T3.out.kept.size) ?_; intro v4 w4 ho4 hg4 hat4; have T4 := Lib.hid (T3.out.one_app (d := val) (own_len ho4 (by simp)) hg4 hat4); obtain ⟨A4, c4, rfl, _, _⟩ := ow_form ho4; clear ho4 hg4 hat4))
            go_roundw
            case rel => exact ⟨k + 1, o ++ [2, UInt8.ofNat cc.length] ++ cc, Cp.form (kd, val), by omega, by go_num, by rw [HFM.out]; exact T4.out, by rw [Cp.form_len]; show val.length + 2 ≤ 255; omega, by rw [Cp.form_len]; simp only [List.length_append, List.length_cons, List.length_nil]; omega, HI2⟩
            case measure => simp [intOf]; omega
          · have HI2 := Lib.hid HFT.out
            have hovi : ¬ ((255 : Int) < (cc.length : Int) + 2 + (val.length : Int)) := by omega
            clear HOV HFT
            go_wp2_with (first
              | (at_builtin; refine wpList_app _ rfl (.tmp 49) (.tmp 57) 22 rfl w.heap.size 5 i0 _ 1 1 Tryd.underlying22 hi hz0 hz1 hz2 rfl (by decide) (.slice A6 cc.length c6) (cc.length) (bys cc) rfl (HT.out.alloc _).one (some ⟨wr.heap.size, 0, none⟩) (2) 2 ([.int .u8 (kd.toNat : Int), .int .u8 (val.length : Nat)]) rfl (src_new wr _ #[.int .u8 (kd.toNat : Int), .int .u8 (val.length : Nat)] 1 2 rfl (by simp [Value.oneCell'])) (by unfold maxLen; omega) (by omega) (by simp; omega) ?_; intro v7 w7 ho7 hg7 hat7; have T7 := Lib.hid ((HT.out.alloc _).one_app (d := [kd, UInt8.ofNat val.length]) (by rw [HBY.out]; exact ho7) hg7 hat7); have d1 := T7.out.kept.cell_some Q1.out (fun x => x); obtain ⟨A7, c7, rfl, _, _⟩ := ow_form ho7; clear ho7 hg7 hat7)
              | (at_builtin; refine wpList_app _ rfl (.tmp 59) (.tmp 64) 22 rfl w.heap.size 5 i0 _ 1 1 Tryd.underlying22 hi hz0 hz1 hz2 rfl (by decide) (.slice A7 (cc.length + 2) c7) (cc.length + 2) (bys (cc ++ [kd, UInt8.ofNat val.length])) rfl (own_len T7.out.one (by simp)) A1 (val.length) cc1 (bys val) rfl (HB.out.old T7.out.kept).src (by unfold maxLen; omega) (by omega) (T7.out.kept.size) ?_; intro v8 w8 ho8 hg8 hat8; have T8 := Lib.hid (T7.out.one_app (d := val) (own_len ho8 (by simp <;> omega)) hg8 hat8); obtain ⟨A8, c8, rfl, _, _⟩ := ow_form ho8; clear ho8 hg8 hat8))
            go_roundw
            case rel => exact ⟨k + 1, o, cc ++ Cp.form (kd, val), by omega, by go_num, by rw [HFM.out, ← List.append_assoc]; exact T8.out, by rw [List.length_append, Cp.form_len]; show cc.length + (val.length + 2) ≤ 255; omega, by rw [List.length_append, Cp.form_len]; simp only; omega, HI2⟩
            case measure => simp [intOf]; omega
        · obtain rfl : k = l.length := by omega
          have hsz := HT.out.kept.size
          by_cases hc0 : cc = []
          · subst hc0
            obtain ⟨rfl, hb⟩ := Cp.Inv.none HI.out HNL.out
            have HBB := Lib.hid hb
            clear HI hb
            go_wp2
            go_ret2
            exact ⟨_, by rw [HBB.out]; rfl, by rw [HBB.out]; exact (Bs.of_own HT.out.out).by, HT.out.kept⟩
          · have hpos : (0 : Int) < (cc.length : Int) := by have := List.length_pos_iff.2 hc0; omega
            have HBC := Lib.hid (bys_two cc.length (by omega) 2)
            have hol' : o.length + cc.length ≤ 60000000 := by omega
            rcases Cp.Inv.some HI.out hc0 HNL.out with ⟨hx, hb⟩ | ⟨hx, hb⟩
            · have HBB := Lib.hid hb
              have hxi : (255 : Int) < (o.length : Int) + 2 + (cc.length : Int) := by simp only [List.length_append, List.length_cons, List.length_nil] at hx; omega
              clear HI hb hx
              go_wp2_with (first
                | (at_builtin; refine wpList_app _ rfl (.tmp 69) (.tmp 73) 22 rfl w.heap.size 5 i0 _ 1 1 Tryd.underlying22 hi hz0 hz1 hz2 rfl (by decide) (.slice A5 o.length c5) (o.length) (bys o) rfl (HT.out.alloc _).out (some ⟨wr.heap.size, 0, none⟩) (2) 2 ([.int .u8 2, .int .u8 (cc.length : Nat)]) rfl (src_new wr _ #[.int .u8 2, .int .u8 (cc.length : Nat)] 1 2 rfl (by simp [Value.oneCell'])) (by unfold maxLen; omega) (by omega) (by simp; omega) ?_; intro v1 w1 ho1 hg1 hat1; have T1 := Lib.hid ((HT.out.alloc _).out_app (d := [2, UInt8.ofNat cc.length]) (by rw [HBC.out]; exact ho1) hg1 hat1); obtain ⟨A1o, c1o, rfl, _, _⟩ := ow_form ho1; clear ho1 hg1 hat1)
                | (at_builtin; refine wpList_app _ rfl (.tmp 75) (.tmp 76) 22 rfl w.heap.size 5 i0 _ 1 1 Tryd.underlying22 hi hz0 hz1 hz2 rfl (by decide) (.slice A1o (o.length + 2) c1o) (o.length + 2) (bys (o ++ [2, UInt8.ofNat cc.length])) rfl (own_len T1.out.out (by simp)) A6 (cc.length) c6 (bys cc) rfl (T1.out.src rfl) (by unfold maxLen; omega) (by omega) (T1.out.kept.size) ?_; intro v2 w2 ho2 hg2 hat2; have T2 := Lib.hid (T1.out.out_app (d := cc) (own_len ho2 (by simp)) hg2 hat2); obtain ⟨A2, c2, rfl, _, _⟩ := ow_form ho2; clear ho2 hg2 hat2))
              go_ret2
              exact ⟨_, by rw [HBB.out]; rfl, by rw [HBB.out]; exact (Bs.nil _).by, T2.out.kept⟩
            · have HBB := Lib.hid hb
              have hxi : ¬ ((255 : Int) < (o.length : Int) + 2 + (cc.length : Int)) := by simp only [List.length_append, List.length_cons, List.length_nil] at hx; omega
              clear HI hb hx
              go_wp2_with (first
                | (at_builtin; refine wpList_app _ rfl (.tmp 69) (.tmp 73) 22 rfl w.heap.size 5 i0 _ 1 1 Tryd.underlying22 hi hz0 hz1 hz2 rfl (by decide) (.slice A5 o.length c5) (o.length) (bys o) rfl (HT.out.alloc _).out (some ⟨wr.heap.size, 0, none⟩) (2) 2 ([.int .u8 2, .int .u8 (cc.length : Nat)]) rfl (src_new wr _ #[.int .u8 2, .int .u8 (cc.length : Nat)] 1 2 rfl (by simp [Value.oneCell'])) (by unfold maxLen; omega) (by omega) (by simp; omega) ?_; intro v1 w1 ho1 hg1 hat1; have T1 := Lib.hid ((HT.out.alloc _).out_app (d := [2, UInt8.ofNat cc.length]) (by rw [HBC.out]; exact ho1) hg1 hat1); obtain ⟨A1o, c1o, rfl, _, _⟩ := ow_form ho1; clear ho1 hg1 hat1)
                | (at_builtin; refine wpList_app _ rfl (.tmp 75) (.tmp 76) 22 rfl w.heap.size 5 i0 _ 1 1 Tryd.underlying22 hi hz0 hz1 hz2 rfl (by decide) (.slice A1o (o.length + 2) c1o) (o.length + 2) (bys (o ++ [2, UInt8.ofNat cc.length])) rfl (own_len T1.out.out (by simp)) A6 (cc.length) c6 (bys cc) rfl (T1.out.src rfl) (by unfold maxLen; omega) (by omega) (T1.out.kept.size) ?_; intro v2 w2 ho2 hg2 hat2; have T2 := Lib.hid (T1.out.out_app (d := cc) (own_len ho2 (by simp)) hg2 hat2); obtain ⟨A2, c2, rfl, _, _⟩ := ow_form ho2; clear ho2 hg2 hat2))
              go_ret2
              exact ⟨_, by rw [HBB.out]; rfl, by rw [HBB.out]; exact (Bs.of_own T2.out.out).by, T2.out.kept⟩
end Go.Proofs.YtohgkibpcgfihaaDoor
