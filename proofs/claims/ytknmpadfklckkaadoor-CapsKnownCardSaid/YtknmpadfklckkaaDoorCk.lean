
/-
  The law's own word few of chapter 5: the first capabilities, cut.
-/
import Derived.Test.YtknmpadfklckkaaDoorCf
namespace Go.Proofs.YtknmpadfklckkaaDoor
open Go.RowKit

set_option maxRecDepth 20000 in
set_option maxHeartbeats 2000000 in
theorem cp_few_own (v : Value) (l : List Cp) (w : World) (hv : Cps w v l) :
    Calls Tryd.prog 6 #[v] w fun e w' => ∃ rv, e = .returned rv ∧ (∃ xs, w'.ownsRow w.heap.size 54 2 rv (fewL l).length xs ∧ Cells (Bs w') xs (fewL l)) ∧ Kept Nothing w w' := by
  obtain ⟨A, c, rfl, hc, hm⟩ := hv.form
  have HV := Lib.hid hv
  obtain ⟨i0, hi, hz0, hz1, hz2⟩ := info_parts cap_info
  unfold maxLen at hm
  clear hv
  go_enter Tryd.func6, Tryd.ntmps6
  go_wp2
  go_loopw [3, 8] (fun lv i wr => ∃ (k n : Nat) (xs : List Value), k ≤ l.length ∧ n = min k 20 ∧ i = .int .i64 k ∧ wr.ownsRow w.heap.size 54 2 lv n xs ∧ Cells (Bs wr) xs ((l.take n).map cutC) ∧ Kept Nothing w wr) (fun _ i _ => l.length - (intOf i).toNat)
  case atStart => exact ⟨0, 0, [], by omega, by omega, rfl, World.ownsRow_nil _ _ _ _, trivial, Kept.refl _ w⟩
  case round =>
    obtain ⟨k, n, xs, hk, hn, rfl, ho, hcs, hkw⟩ := hrel
    by_cases hlt : k < l.length
    · obtain ⟨b, o, rfl, hcell⟩ := HV.out.at (by omega)
      obtain ⟨q0, u, q1, q2⟩ := hcell k hlt
      have c0 := hkw.cell_some q0 (fun x => x)
      have c1 := hkw.cell_some q1 (fun x => x)
      obtain ⟨A1, cc1, rfl, hc1, hm1⟩ := q2.form
      have hB := q2.old hkw
      have HO := Lib.hid ho
      have HC := Lib.hid hcs
      have HK := Lib.hid hkw
      have hsz := hkw.size
      by_cases h20 : k < 20
      · obtain rfl : n = k := by omega
        have HT := Lib.hid (List.take_succ_eq_append_getElem hlt)
        generalize hP : l[n] = P at *
        obtain ⟨kd, val⟩ := P
        simp only at c0 c1 hB hc1
        unfold by8 at c0
        have hmin : (if (260 : Int) < (val.length : Int) then (260 : Int) else (val.length : Int)) = ((min val.length 260 : Nat) : Int) := by split <;> omega
        have hsl := slice_to A1 val.length cc1 (min val.length 260) (by omega)
        have HB := Lib.hid (hB.pre (m := min val.length 260) (by omega))
        have hlen : (val.take 260).length = min val.length 260 := by rw [List.length_take]; omega
        have htk : val.take (min val.length 260) = val.take 260 := by
          by_cases h : val.length ≤ 260
          · rw [List.take_of_length_le (by omega), List.take_of_length_le (by omega)]
          · rw [show min val.length 260 = 260 by omega]
        rw [htk] at HB
        obtain ⟨A5, c5, rfl, _, _⟩ := ow_form HO.out
        have HLn : Hid (n + 1 ≤ maxLen ∧ (n + 1) * 32 ≤ 140737488355328) := ⟨by unfold maxLen; omega, by omega⟩
        have HCL := Lib.hid (by_clone _ (val.take 260) _ (HB.out.old (((Kept.refl Nothing wr).alloc (.cells #[.int .u8 (kd.toNat : Int), .slice A1 val.length cc1] 54)).drew)) (by omega))
        have HTA : Hid ((l.take (n + 1)).map cutC = (l.take n).map cutC ++ [(kd, val.take 260)]) := Lib.hid (by rw [HT.out, List.map_append]; rfl)
        have HLEN := Lib.hid hlen
        have hml : min val.length 260 ≤ 260 := by omega
        generalize min val.length 260 = ml at *
        generalize val.take 260 = vt at *
        clear hcell q0 q1 q2 hkw hP ho hcs hB HT hlen htk
        have k20 : (n : Int) < 20 := by omega
        clear h20 hn
        go_wp2_with fail
        go_region_law (first
          | (go_simp; go_at_call 22; refine (HCL.out).mono ?_; rintro e w2 ⟨v2, rfl, ho2, hk2⟩; (have B2 := Lib.hid (Bs.of_own ho2)); (have K2 := Lib.hid ((((Kept.refl Nothing wr).alloc (.cells #[.int .u8 (kd.toNat : Int), .slice A1 val.length cc1] 54)).drew).trans hk2)); (have hBl := ((Blk.fresh wr 54 #[.int .u8 (kd.toNat : Int), .slice A1 val.length cc1]).drew).kept hk2 (fun x => x)); (have d0 : w2.cell? ⟨wr.heap.size, 0, none⟩ = some (.int .u8 (kd.toNat : Int)) := hBl.cell 0); (obtain ⟨A2, c2, rfl, _, _⟩ := ow_form ho2); clear ho2 hk2 hBl)
          | (refine step_app _ (by rfl) _ _ 22 (by rfl) w.heap.size 54 i0 _ 2 32 Tryd.underlying22 hi hz0 hz1 hz2 rfl (by decide) (.slice A5 n c5) n xs (by rfl) (ow_kept HO.out (K2.out.alloc _) (fun _ _ x => x)) (some ⟨w2.heap.size, 0, none⟩) 1 1 [.int .u8 (kd.toNat : Int), .slice A2 vt.length c2] (by rfl) (src_new w2 _ #[.int .u8 (kd.toNat : Int), .slice A2 vt.length c2] 2 1 rfl (by simp [Value.oneCell'])) HLn.out.1 HLn.out.2 (Nat.le_trans hsz (Nat.le_trans K2.out.size (by simp))) ?_; intro v' w7 ho7 hg7 hat7; (have HO7 := Lib.hid ho7); (have HG7 := Lib.hid hg7); clear ho7 hg7 hat7))
        all_goals
          go_wp2
          go_roundw
          case rel =>
            have k1 := K2.out.alloc (.cells #[.int .u8 (kd.toNat : Int), .slice A2 vt.length c2] 54)
            have o1 := ow_kept HO.out k1 (fun _ _ x => x)
            have k2 := grown_kept HG7.out
            refine ⟨n + 1, n + 1, _, by omega, by omega, by go_num, HO7.out, ?_, (HK.out.trans k1).grown HG7.out (fun k hk hlt => by have := (HO.out.lt k hk).1; omega)⟩
            rw [HTA.out]
            exact Cells.snoc (c := (kd, vt)) ((B2.out.kept ((Kept.refl Nothing w2).alloc _) (NoBytes.nothing _)).kept k2 (NoBytes.own o1 (by decide))) ((HC.out.bs k1 (NoBytes.nothing _)).bs k2 (NoBytes.own o1 (by decide)))
          case measure => simp [intOf]; omega
      · obtain rfl : n = 20 := by omega
        generalize hP : l[k] = P at *
        obtain ⟨kd, val⟩ := P
        simp only at c0 c1 hB
        unfold by8 at c0
        clear hcell q0 q1 q2 hkw hP hB ho hcs
        go_wp2
        go_roundw
        case rel => exact ⟨k + 1, 20, xs, by omega, by omega, by go_num, ow_kept HO.out ((Kept.refl Nothing wr).alloc _) (fun _ _ x => x), HC.out.bs ((Kept.refl Nothing wr).alloc _) (NoBytes.nothing _), HK.out.alloc _⟩
        case measure => simp [intOf]; omega
    · obtain rfl : k = l.length := by omega
      obtain ⟨A4, c4, rfl, _, _⟩ := ow_form ho
      have hl : ((l.take n).map cutC) = fewL l := by
        unfold fewL
        rw [hn]
        by_cases h : l.length ≤ 20
        · rw [List.take_of_length_le (by omega), List.take_of_length_le (by omega)]
        · rw [show min l.length 20 = 20 by omega]
      rw [hl] at hcs
      have hll : (fewL l).length = n := by rw [← hl, List.length_map, List.length_take]; omega
      have HP : Hid (∃ xs, wr.ownsRow w.heap.size 54 2 (.slice A4 n c4) (fewL l).length xs ∧ Cells (Bs wr) xs (fewL l)) := Lib.hid ⟨xs, by rw [hll]; exact ho, hcs⟩
      clear ho hcs hl hll hn
      go_wp2
      go_ret
      exact ⟨_, rfl, HP.out, hkw⟩

theorem cp_few (v : Value) (l : List Cp) (w : World) (hv : Cps w v l) :
    Calls Tryd.prog 6 #[v] w fun e w' => ∃ rv, e = .returned rv ∧ Cps w' rv (fewL l) ∧ Kept Nothing w w' :=
  (cp_few_own v l w hv).mono fun _ _ ⟨rv, he, ⟨_, ho, hc⟩, hk⟩ => ⟨rv, he, Cps.of_own ho (hc.mono (fun _ _ h => h.by)), hk⟩
end Go.Proofs.YtknmpadfklckkaaDoor
