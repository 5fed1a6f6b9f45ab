
/-
  What the program's Bytes of chapter 5 does: the call itself.
-/
import Derived.Test.YtohgkibpcgfihaaDoorCi
namespace Go.Proofs.YtohgkibpcgfihaaDoor
open Go.RowKit

theorem Cp.forms_le : ∀ (m : List Cp), (∀ c ∈ m, c.2.length ≤ 253) → (Cp.forms m).length ≤ 255 * m.length
  | [], _ => Nat.le_refl _
  | c :: m, h => by
    have h1 := h c (List.mem_cons_self ..)
    have h2 := Cp.forms_le m (fun d hd => h d (List.mem_cons_of_mem _ hd))
    rw [Cp.forms_cons, List.length_append, Cp.form_len, List.length_cons]
    omega
theorem Cp.forms_snoc (m : List Cp) (c : Cp) : Cp.forms (m ++ [c]) = Cp.forms m ++ Cp.form c := by
  rw [Cp.forms_append]
  show _ ++ (Cp.form c ++ []) = _
  rw [List.append_nil]
theorem Cp.long_none {l : List Cp} (h : l.any longC = false) : ∀ c ∈ l, c.2.length ≤ 253 := fun c hc => by
  by_cases hx : c.2.length ≤ 253
  · exact hx
  · have : l.any longC = true := List.any_eq_true.2 ⟨c, hc, by unfold longC; simpa using hx⟩
    rw [h] at this
    cases this
theorem WS.fill_last {F : List UInt8} (hF : F.length < 256) : (WS.mk ([2, 0] ++ F) [(1, 2)] 0).fill = WS.mk (2 :: UInt8.ofNat F.length :: F) [] 0 := by
  unfold WS.fill
  rw [if_pos rfl]
  simp only [List.getLast?_singleton, List.dropLast_singleton]
  rw [if_neg (by simp; omega)]
  simp [WS.tell]

set_option maxRecDepth 20000 in
set_option maxHeartbeats 4000000 in
/-- One round of the loop: one capability laid. -/
theorem cp_bytes (v : Value) (l : List Cp) (w : World) (hv : Cps w v l) (hl : l.length ≤ 1000000) :
    Calls Tryd.prog 42 #[v] w fun e w' => ∃ rv, e = .returned (.tuple #[rv, .int .i64 ((Cp.bytes l).2 : Nat)]) ∧ Bs w' rv (Cp.bytes l).1 ∧ Kept Nothing w w' := by
  obtain ⟨A, c, rfl, hc, hm⟩ := hv.form
  unfold maxLen at hm
  have HV := Lib.hid hv
  have HC := Lib.hid (sl_contains_long _ l w hv)
  clear hv
  cases hlong : l.any longC with
  | true =>
    rw [hlong] at HC
    have HR : Hid (Cp.bytes l = ([], 1)) := Lib.hid (if_pos hlong)
    rw [HR.out]
    clear HR hlong
    go_enter Tryd.func42, Tryd.ntmps42
    go_wp2_with fail
    refine HC.out.mono ?_
    rintro e w1 ⟨rfl, hk⟩
    go_wp2
    go_ret2
    exact ⟨_, rfl, Bs.nil _, hk⟩
  | false =>
    rw [hlong] at HC
    have HL := Lib.hid (Cp.long_none hlong)
    by_cases h0 : l = []
    · subst h0
      clear hlong
      go_enter Tryd.func42, Tryd.ntmps42
      go_wp2_with fail
      refine HC.out.mono ?_
      rintro e w1 ⟨rfl, hk⟩
      go_wp2
      go_ret2
      exact ⟨_, rfl, Bs.nil _, hk⟩
    · have hR : Cp.bytes l = if 255 < (Cp.forms l).length + 2 then ([], 3) else (2 :: UInt8.ofNat (Cp.forms l).length :: Cp.forms l, 0) := by
        unfold Cp.bytes
        rw [if_neg (by show ¬ l.any longC = true; rw [hlong]; simp), if_neg h0]
      have HR := Lib.hid hR
      have h0i : ((l.length : Int) == 0) = false := by
        have : l.length ≠ 0 := fun e => h0 (List.eq_nil_of_length_eq_zero e)
        simpa using h0
      clear hlong h0 hR
      go_enter Tryd.func42, Tryd.ntmps42
      go_wp2_with fail
      refine HC.out.mono ?_
      rintro e w1 ⟨rfl, hk1⟩
      have K1 := Lib.hid hk1
      clear hk1 HC
      go_wp2_with fail
      refine (wr_lay w1).mono ?_
      rintro e w2 ⟨p, F, rfl, hw, hk, hs⟩
      have N2 : Hid (Nw w w2 p ⟨[], [], 0⟩) := Lib.hid ⟨F, hw, Sub.less K1.out hs, K1.out.trans hk⟩
      clear hw hk hs K1
      go_wp2_with fail
      refine (Nw.call (N2.out.old ((Kept.refl Nothing w2).alloc _)) (fun F hF => wr_byte p F _ _ [2] _ hF (made_by rfl rfl (by decide)) (by simp))).mono ?_
      rintro e w3 ⟨rfl, hn⟩
      have N3 := Lib.hid hn
      clear hn N2
      go_wp2_with fail
      refine (Nw.call N3.out (fun F hF => wr_hold p F _ 1 _ hF (by simp [WS.lay]) (by simp [WS.lay]))).mono ?_
      rintro e w4 ⟨rfl, hn⟩
      have N4 : Hid (Nw w w4 p ⟨[2, 0] ++ Cp.forms (l.take 0), [(1, 2)], 0⟩) := Lib.hid hn
      clear hn N3
      go_wp2
      go_loopw [18] (fun i wr => ∃ k : Nat, k ≤ l.length ∧ i = .int .i64 k ∧ Nw w wr p ⟨[2, 0] ++ Cp.forms (l.take k), [(1, 2)], 0⟩) (fun i _ => l.length - (intOf i).toNat)
      case atStart => exact ⟨0, Nat.zero_le _, rfl, N4.out⟩
      case round =>
        clear N4
        obtain ⟨k, hk, rfl, hn⟩ := hrel
        have hkw := hn.kept
        by_cases hlt : k < l.length
        · obtain ⟨b, o, rfl, hcell⟩ := HV.out.at (by omega)
          obtain ⟨q0, u, q1, q2⟩ := hcell k hlt
          have c0 := hkw.cell_some q0 (fun x => x)
          have c1 := hkw.cell_some q1 (fun x => x)
          obtain ⟨A1, cc1, rfl, _, _⟩ := q2.form
          have HB := Lib.hid q2
          have hT := List.take_succ_eq_append_getElem hlt
          have hval := HL.out (l[k]) (List.getElem_mem _)
          have hfl := Cp.forms_le (l.take k) (fun c hc => HL.out c (List.mem_of_mem_take hc))
          rw [List.length_take] at hfl
          generalize hP : l[k] = P at *
          obtain ⟨kd, val⟩ := P
          simp only at c0 c1 HB hval
          unfold by8 at c0
          have hcap := WS.cap_ok (l := [2, 0] ++ Cp.forms (l.take k)) (hs := [(1, 2)]) (c := (kd, val)) (by show val.length < 256; omega)
          have hT2 : [2, 0] ++ Cp.forms (l.take (k + 1)) = [2, 0] ++ Cp.forms (l.take k) ++ Cp.form (kd, val) := by rw [hT, Cp.forms_snoc, List.append_assoc]
          rw [← hT2] at hcap
          have HCAP := Lib.hid hcap
          have hLn : ([2, 0] ++ Cp.forms (l.take k)).length ≤ 300000000 := by simp; omega
          have HN := Lib.hid hn
          clear hcell q0 q1 q2 hkw hP hT hT2 hcap hfl hn
          unfold WS.cap at HCAP
          generalize [2, 0] ++ Cp.forms (l.take k) = L at *
          have HBY : By (((wr.alloc (.cells #[.int .u8 (kd.toNat : Int), .slice A1 val.length cc1] 66)).alloc (.cells #[.int .u8 (kd.toNat : Int)] 5)).drew) (.slice (some ⟨wr.heap.size + 1, 0, none⟩) 1 1) [kd] := (made_by (l := [kd]) (by simp) rfl (by simp [maxLen])).old ((Kept.refl Nothing _).drew)
          have HC1 := Lib.hid (Nw.call_blk (HN.out.old ((((Kept.refl Nothing wr).alloc (.cells #[.int .u8 (kd.toNat : Int), .slice A1 val.length cc1] 66)).alloc (.cells #[.int .u8 (kd.toNat : Int)] 5)).drew)) (((Blk.fresh wr 66 #[.int .u8 (kd.toNat : Int), .slice A1 val.length cc1]).alloc _).drew) (by decide) (fun F hF => wr_byte p F _ _ [kd] _ hF HBY (by simp; omega)))
          clear HBY
          have tok : Hid True := Lib.hid trivial
          go_wp2_with fail
          go_region_law (first
            | ((have _t := tok); go_simp; go_at_call 44; refine HC1.out.mono ?_; rintro e w2 ⟨rfl, hn2, hb2⟩; clear _t tok; (have N2 := Lib.hid hn2); (have d2 : w2.cell? ⟨wr.heap.size, 1, none⟩ = some (.slice A1 val.length cc1) := hb2.cell 1); (have B2 := Lib.hid hb2); clear hn2 hb2)
            | ((have _t := N2); go_simp; go_at_call 47; refine (Nw.call_blk N2.out B2.out (by decide) (fun F hF => wr_hold p F _ 1 _ hF (by simp [WS.lay]; omega) (by simp [WS.lay]))).mono ?_; rintro e w3 ⟨rfl, hn3, hb3⟩; (have N3 := Lib.hid hn3); (have d3 : w3.cell? ⟨wr.heap.size, 1, none⟩ = some (.slice A1 val.length cc1) := hb3.cell 1); clear hn3 hb3)
            | ((have _t := N3); go_simp; go_at_call 44; refine (Nw.call N3.out (fun F hF => wr_byte p F _ _ val _ hF (HB.out.old N3.out.kept) (by simp [WS.lay, WS.hold]; omega))).mono ?_; rintro e w4 ⟨rfl, hn4⟩; (have N4 := Lib.hid hn4); clear hn4)
            | ((have _t := N4); go_simp; go_at_call 48; refine (Nw.call N4.out (fun F hF => wr_fill p F _ _ hF)).mono ?_; rintro e w5 ⟨rfl, hn5⟩; (have N5 := Lib.hid hn5); clear hn5))
          all_goals
            go_wp2
            go_roundw
            case rel => exact ⟨k + 1, by omega, by go_num, by rw [← HCAP.out]; exact N5.out⟩
            case measure => simp [intOf]; omega
        · obtain rfl : k = l.length := by omega
          rw [List.take_length] at hn
          have HN := Lib.hid hn
          obtain ⟨F, hw, hs, _⟩ := hn
          have HLEN := Lib.hid (wr_len p F _ wr hw)
          clear hw hs hkw
          have hln : ([2, 0] ++ Cp.forms l).length = (Cp.forms l).length + 2 := by simp
          rw [hln] at HLEN
          by_cases h255 : 255 < (Cp.forms l).length + 2
          · have hR := HR.out
            rw [if_pos h255] at hR
            have HR2 := Lib.hid hR
            have h255i : (255 : Int) < (((Cp.forms l).length + 2 : Nat) : Int) := by omega
            generalize (Cp.forms l).length + 2 = n at *
            clear HR hR hln
            go_wp2_with fail
            refine HLEN.out.mono ?_
            rintro e w5 ⟨rfl, rfl⟩
            go_wp2
            go_ret2
            exact ⟨_, by rw [HR2.out]; rfl, by rw [HR2.out]; exact Bs.nil _, HN.out.kept⟩
          · have hR := HR.out
            rw [if_neg h255] at hR
            have HR2 := Lib.hid hR
            have h255i : ¬ ((255 : Int) < (((Cp.forms l).length + 2 : Nat) : Int)) := by omega
            have HF := Lib.hid (WS.fill_last (F := Cp.forms l) (by omega))
            generalize (Cp.forms l).length + 2 = n at *
            clear HR hR hln
            go_wp2_with fail
            refine HLEN.out.mono ?_
            rintro e w5 ⟨rfl, rfl⟩
            go_wp2_with fail
            refine (Nw.call HN.out (fun F hF => wr_fill p F _ _ hF)).mono ?_
            rintro e w6 ⟨rfl, hn6⟩
            rw [HF.out] at hn6
            have N6 := Lib.hid hn6
            obtain ⟨F6, hw6, _, _⟩ := hn6
            have D6 := Lib.hid (wr_done p F6 _ w6 hw6)
            clear hw6
            go_wp2_with fail
            refine D6.out.mono ?_
            rintro e w7 ⟨rv, rfl, hb7, hk7⟩
            have HB7 := Lib.hid hb7
            clear hb7 D6
            go_wp2
            go_ret2
            exact ⟨_, by rw [HR2.out]; rfl, by rw [HR2.out]; exact HB7.out, N6.out.kept.trans hk7⟩
end Go.Proofs.YtohgkibpcgfihaaDoor
