
/-
  The document's Bytes.
-/
import Derived.Test.YtfjhpeijlhlaeaaDoorRc
namespace Go.Proofs.YtfjhpeijlhlaeaaDoor
open Go.RowKit

theorem oc4_next (x j : Nat) (h : j < 4) : (oc4 x).take (j + 1) = (oc4 x).take j ++ [.int .u8 (oct x j : Nat)] := by
  obtain rfl | rfl | rfl | rfl : j = 0 ∨ j = 1 ∨ j = 2 ∨ j = 3 := by omega
  all_goals rfl
theorem oc4_len (x j : Nat) (h : j ≤ 4) : ((oc4 x).take j).length = j := by rw [List.length_take]; simp [oc4]; omega

set_option maxRecDepth 100000 in
set_option maxHeartbeats 2000000 in
theorem rbytes_any (v : Value) (l : List (Nat × Int)) (hl : l.length ≤ 10000) (w : World) (hv : Pfs w v l) :
    Calls Tryd.prog 37 #[v] w fun e w' => ∃ bv, e = .returned (.tuple #[bv, .int .i64 (bytesP l).2]) ∧ w'.ownsRow w.heap.size 5 1 bv (bytesP l).1.length (bys (bytesP l).1) ∧ Kept Nothing w w' := by
  obtain ⟨A, c, rfl, hc, hm, hx, hcells⟩ := hv
  obtain ⟨i0, hi, hz0, hz1, hz2⟩ := info_parts u8_info
  go_enter Tryd.func37, Tryd.ntmps37
  go_wp2
  go_loopw [4, 5] (fun bv i wr => ∃ k : Nat, k ≤ l.length ∧ i = .int .i64 k ∧ wr.ownsRow w.heap.size 5 1 bv (bytesL (l.take k)).length (bys (bytesL (l.take k))) ∧ Kept Nothing w wr ∧ Hid (mayL (l.take k) = true)) (fun _ i _ => l.length - (intOf i).toNat)
  case atStart => exact ⟨0, by omega, rfl, World.ownsRow_nil _ _ _ _, Kept.refl _ w, Lib.hid rfl⟩
  case round =>
    obtain ⟨k, hk, rfl, ho, hkw, HA⟩ := hrel
    by_cases hlt : k < l.length
    · obtain ⟨b, o, rfl, hcell⟩ := hcells (by omega)
      have hck := hcell k hlt
      have hxk := hx l[k] (List.getElem_mem _)
      have HTK := Lib.hid (List.take_succ_eq_append_getElem hlt)
      have hbl := bytesL_len (l.take k)
      rw [List.length_take] at hbl
      generalize hP : l[k] = P at hck hxk HTK
      obtain ⟨x, bb⟩ := P
      simp only at hck hxk
      have c0 := hkw.cell_some hck.1 (fun x => x)
      have c1 := hkw.cell_some hck.2 (fun x => x)
      clear hcell hcells hx
      have HMY := rmay_any x bb hxk
      cases hmay : may x bb with
      | false =>
        rw [hmay] at HMY
        have HMY := Lib.hid HMY
        have HB := Lib.hid (show bytesP l = ([], 1) by
          unfold bytesP
          rw [if_neg]
          intro hall
          have := List.all_eq_true.1 hall l[k] (List.getElem_mem _)
          rw [hP] at this
          simp only at this
          rw [hmay] at this
          cases this)
        clear hmay hP
        go_wp2_with (go_at_call 12; refine (HMY.out _).mono ?_; rintro e w1 ⟨rfl, hk1⟩)
        go_ret2
        exact ⟨_, by rw [HB.out]; rfl, by rw [HB.out]; exact World.ownsRow_nil _ _ _ _, hkw.trans hk1⟩
      | true =>
        rw [hmay] at HMY
        have HMY := Lib.hid HMY
        obtain ⟨n, rfl, hn, hlow⟩ := may_spec hmay
        have HA1 := Lib.hid (show mayL (l.take (k + 1)) = true by
          rw [HTK.out]
          unfold mayL
          rw [List.all_append]
          have := HA.out
          unfold mayL at this
          rw [this]
          simp [hmay])
        have HS := Lib.hid (show bytesL (l.take (k + 1)) = bytesL (l.take k) ++ pby x n by rw [HTK.out, bytesL_snoc]; rfl)
        have hsz : szB n ≤ 4 := by unfold szB; omega
        have HO := Lib.hid ho
        have HCK := Lib.hid hck
        clear hmay hP hlow ho HTK hck
        obtain ⟨wo, rfl⟩ : ∃ wo : World, wo = wr := ⟨_, rfl⟩
        go_wp2_with (first
          | (go_at_call 12; refine (HMY.out _).mono ?_; rintro e w1 ⟨rfl, hk1⟩; have d1 : w1.cell? ⟨b, o + k * 2 + 1, none⟩ = some (.int .i64 (n : Nat)) := hk1.cell_some c1 (fun x => x))
          | (at_builtin; refine wpList_app _ rfl (.tmp 19) (.tmp 26) 48 rfl w.heap.size 5 i0 _ 1 1 Tryd.underlying48 hi hz0 hz1 hz2 rfl (by decide) u4 _ _ rfl ((ow_kept HO.out hk1 (fun _ _ x => x)).alloc _) (some ⟨w1.heap.size, 0, none⟩) 1 1 [.int .u8 (n : Nat)] rfl (src_new w1 5 #[.int .u8 (n : Nat)] 1 1 rfl (by simp [Value.oneCell'])) (by simp [maxLen]; omega) (by omega) (by have := (hkw.trans hk1).size; simp; omega) ?_; intro v5 w5 ho5 hg5 hat5; have k5 := ((hkw.trans hk1).alloc (.cells #[.int .u8 (n : Nat)] 5)).grown hg5 (fun k hk' hlt => by have := (HO.out.lt k hk').1; omega); have HO5 := Lib.hid ho5; clear ho5 hg5))
        go_loopw [4, 6] (fun bv i wr => ∃ j : Nat, j ≤ szB n ∧ i = .int .i64 j ∧ wr.ownsRow w.heap.size 5 1 bv ((bytesL (l.take k)).length + 1 + j) (bys (bytesL (l.take k)) ++ [.int .u8 (n : Nat)] ++ (oc4 x).take j) ∧ Kept Nothing w wr) (fun _ i _ => szB n - (intOf i).toNat)
        case atStart => exact ⟨0, by omega, rfl, by simpa using HO5.out, k5⟩
        case round =>
          obtain ⟨j, hj, rfl, hoj, hkj⟩ := hrel
          have e0 := hkj.cell_some HCK.out.1 (fun x => x)
          have e1 := hkj.cell_some HCK.out.2 (fun x => x)
          by_cases hjn : 8 * j < n
          · have hj4 : j < szB n := by unfold szB; omega
            have hj3 : j ≤ 3 := by omega
            have HN := Lib.hid (oc4_next x j (by omega))
            have HOJ := Lib.hid hoj
            have hq := oct_lt x j
            clear hoj
            go_wp2_with (first
              | (go_at_call 46; refine (octet_any x j hxk hj3 _).mono ?_; rintro e w' ⟨rfl, rfl⟩)
              | (at_builtin; refine wpList_app _ rfl (.tmp 38) (.tmp 47) 48 rfl w.heap.size 5 i0 _ 1 1 Tryd.underlying48 hi hz0 hz1 hz2 rfl (by decide) u4 _ _ rfl (HOJ.out.alloc _) (some ⟨wr.heap.size, 0, none⟩) 1 1 [.int .u8 (oct x j : Nat)] rfl (src_new wr 5 #[.int .u8 (oct x j : Nat)] 1 1 rfl (by simp [Value.oneCell'])) (by simp [maxLen]; omega) (by omega) (by have := hkj.size; simp; omega) ?_; intro v6 w6 ho6 hg6 hat6))
            go_roundw
            case rel =>
              refine ⟨j + 1, by omega, by go_num, ?_, (hkj.alloc _).grown hg6 (fun k hk' hlt => by have := (HOJ.out.lt k hk').1; omega)⟩
              rw [HN.out, ← List.append_assoc]
              exact ho6
            case measure => simp [intOf]; omega
          · have hjz : j = szB n := by unfold szB at hj ⊢; omega
            have HOJ := Lib.hid hoj
            have HJZ := Lib.hid hjz
            clear hoj hjz
            go_wp2
            go_roundw
            case rel =>
              refine ⟨k + 1, by omega, by go_num, ?_, hkj, HA1⟩
              have e2 : bys (bytesL (l.take (k + 1))) = bys (bytesL (l.take k)) ++ [.int .u8 (n : Nat)] ++ (oc4 x).take j := by
                rw [HS.out, bys_append, bys_pby x n (by omega), HJZ.out]
                simp
              have e3 : (bytesL (l.take (k + 1))).length = (bytesL (l.take k)).length + 1 + j := by
                have := congrArg List.length e2
                rw [length_bys] at this
                simp only [List.length_append, length_bys, List.length_singleton, oc4_len x j (by omega)] at this
                exact this
              rw [e2, e3]
              exact HOJ.out
            case measure => simp [intOf]; omega
    · have hall : l.take k = l := List.take_of_length_le (by omega)
      rw [hall] at ho HA
      have HB := Lib.hid (show bytesP l = (bytesL l, 0) by unfold bytesP; rw [if_pos HA.out])
      have HO := Lib.hid ho
      clear hall ho
      go_wp2
      go_ret2
      exact ⟨_, by rw [HB.out]; rfl, by rw [HB.out]; exact HO.out, hkw⟩
end Go.Proofs.YtfjhpeijlhlaeaaDoor
