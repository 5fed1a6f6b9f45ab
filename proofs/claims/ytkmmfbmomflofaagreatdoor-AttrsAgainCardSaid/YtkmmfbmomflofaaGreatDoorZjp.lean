
/-
  The law's arguments, brought in bounds.
-/
import Derived.Test.YtkmmfbmomflofaaGreatDoorZh
import Derived.Deep.RegionHeld3
namespace Go.Proofs.YtkmmfbmomflofaaGreatDoor
open Go.RowKit

def brS (s : Seg) : Seg := (1 + s.1 % 4, s.2.take 40)
/-- What the law makes of a path. -/
def brF (l : List Seg) : List Seg := ((l.take 8).filter (fun s => !s.2.isEmpty)).map brS
theorem brF_nil : brF [] = [] := rfl
theorem brF_lo {l : List Seg} {k : Nat} (hk : k < l.length) (h8 : k < 8) (he : ¬ (l.getD k (0, [])).2 = []) : brF (l.take (k + 1)) = brF (l.take k) ++ [brS (l.getD k (0, []))] := by
  unfold brF
  rw [List.take_take, List.take_take, show min 8 (k + 1) = k + 1 by omega, show min 8 k = k by omega, List.take_succ_eq_append_getElem hk, List.filter_append, List.map_append]
  rw [getD_get hk] at he ⊢
  rw [List.filter_cons_of_pos (by simpa using he)]
  rfl
theorem brF_no {l : List Seg} {k : Nat} (hk : k < l.length) (h : ¬ k < 8 ∨ (l.getD k (0, [])).2 = []) : brF (l.take (k + 1)) = brF (l.take k) := by
  unfold brF
  by_cases h8 : k < 8
  · have he := h.resolve_left (fun x => x h8)
    rw [List.take_take, List.take_take, show min 8 (k + 1) = k + 1 by omega, show min 8 k = k by omega, List.take_succ_eq_append_getElem hk, List.filter_append]
    rw [getD_get hk] at he
    rw [List.filter_cons_of_neg (by simpa using he)]
    simp
  · rw [List.take_take, List.take_take, show min 8 (k + 1) = 8 by omega, show min 8 k = 8 by omega]
theorem brF_len (l : List Seg) : (brF l).length ≤ 8 := by
  unfold brF
  rw [List.length_map]
  exact Nat.le_trans (List.length_filter_le _ _) (by rw [List.length_take]; omega)
theorem brF_num {l : List Seg} {s : Seg} (h : s ∈ brF l) : s.2.length ≤ 40 ∧ s.2 ≠ [] ∧ 1 ≤ s.1.toNat ∧ s.1.toNat ≤ 4 := by
  unfold brF at h
  obtain ⟨t, ht, rfl⟩ := List.mem_map.1 h
  have he := (List.mem_filter.1 ht).2
  refine ⟨by simp [brS]; omega, ?_, ?_, ?_⟩
  · intro e
    have : t.2.take 40 = [] := e
    rw [List.take_eq_nil_iff] at this
    simp at this
    rw [this] at he
    simp at he
  · show 1 ≤ (1 + t.1 % 4).toNat
    have := t.1.toNat_lt
    simp [UInt8.toNat_add, UInt8.toNat_mod]
    omega
  · show (1 + t.1 % 4).toNat ≤ 4
    have := t.1.toNat_lt
    simp [UInt8.toNat_add, UInt8.toNat_mod]
    omega
theorem kd_mod (k : UInt8) : IntKind.u8.wrap (1 + (k.toNat : Int).tmod 4) = ((1 + k % 4 : UInt8).toNat : Int) := by
  have := k.toNat_lt
  have h : ((1 + k % 4 : UInt8).toNat : Int) = 1 + (k.toNat : Int) % 4 := by
    simp [UInt8.toNat_add, UInt8.toNat_mod]
    omega
  rw [h, Int.tmod_eq_emod_of_nonneg (by omega)]
  simp [IntKind.wrap, IntKind.bits, IntKind.signed]
  omega

theorem slice_toA (A : Option Addr) (n c k : Nat) (hk : k ≤ c) (w : World) :
    (Instr.slice 69 (.slice A n c) none (some (.int .i64 (k : Int))) none).run Tryz.prog w = .ok (.slice A k c) w := by
  have hz := Tryz.sizeOf27
  have he : Tryz.prog.elem 69 = 27 := by kernel_rfl
  rw [run_slice_h w 69 A n c (by kernel_rfl) .i64 k (by omega) (by omega), he, hz]
  cases A <;> simp [sliced, Addr.add]

set_option maxRecDepth 20000 in
set_option maxHeartbeats 2000000 in
theorem brought (v : Value) (l : List Seg) (w : World) (h : Pts w v l) :
    Calls Tryz.prog 113 #[v, .int .i64 8] w fun e w' => ∃ v', e = .returned v' ∧ Pown w' w.heap.size v' (brF l) ∧ Kept Nothing w w' := by
  obtain ⟨A, c, rfl, hc, hm⟩ := h.form
  obtain ⟨i0, hi, hz0, hz1, hz2⟩ := info_parts sg_info
  have HV := Lib.hid h
  have hL : l.length ≤ 9223372036854775807 := by unfold maxLen at hm; omega
  clear h
  go_enter Tryz.func113, Tryz.ntmps113
  go_wp2
  go_loopw [5, 10] (fun q i wr => ∃ k : Nat, i = .int .i64 (k : Int) ∧ k ≤ l.length ∧ Hid (Pown wr w.heap.size q (brF (l.take k))) ∧ Kept Nothing w wr) (fun _ i _ => l.length - (intOf i).toNat)
  case atStart => exact ⟨0, rfl, Nat.zero_le _, Lib.hid (Pown.nil _ _), Kept.refl _ _⟩
  case round =>
    obtain ⟨k, rfl, hk, HP, hkk⟩ := hrel
    have KK := Lib.hid hkk
    clear hkk
    by_cases hlt : k < l.length
    · obtain ⟨b, o, Au, cu, rfl, p0, p1, hp⟩ := (HV.out.old KK.out).at2 hlt
      have i1 : (0 : Int) ≤ (k : Int) := by omega
      have i2 : (k : Int) < (l.length : Int) := by omega
      have hls : b < wr.heap.size := World.block_lt_of_cell? _ _ p0
      have HB := Lib.hid (@brF_lo l k hlt)
      have HN := Lib.hid (@brF_no l k hlt)
      have HAS := Lib.hid hp
      have HQ := Lib.hid (brF_len (l.take k))
      clear hp
      generalize hsg : l.getD k (0, []) = sg at *
      obtain ⟨sk, sn⟩ := sg
      clear hsg
      simp only at p0 p1
      replace HAS : Hid (As wr (.slice Au sn.length cu) sn) := HAS
      have HP2 := HP
      obtain ⟨xs, oq, hr⟩ := HP2.out
      have OQ := Lib.hid oq
      have HR := Lib.hid hr
      obtain ⟨Aq, cq, rfl, _, _⟩ := ow_form oq
      clear oq hr HP2
      by_cases h8 : k < 8
      · have h8' : (k : Int) < 8 := by omega
        by_cases he : sn = []
        · subst he
          have EN := Lib.hid (HN.out (.inr rfl))
          clear HB HN
          go_wp2
          go_roundw
          case rel => exact ⟨k + 1, by go_num, by omega, Lib.hid (by rw [EN.out]; exact HP.out.old ((Kept.refl Nothing wr).alloc _)), KK.out.alloc _⟩
          case measure => simp [intOf]; omega
        · have hpos : 0 < sn.length := List.length_pos_iff.2 he
          have hpos' : (0 : Int) < (sn.length : Int) := by omega
          have EB := Lib.hid (HB.out h8 he)
          clear HB HN HP
          have hmin : (if (40 : Int) < (sn.length : Int) then (40 : Int) else (sn.length : Int)) = ((min sn.length 40 : Nat) : Int) := by split <;> omega
          have hcu : sn.length ≤ cu ∧ cu ≤ maxLen := by obtain ⟨_, _, e, h1, h2⟩ := HAS.out.form; cases e; exact ⟨h1, h2⟩
          have hsl := slice_toA Au sn.length cu (min sn.length 40) (by omega)
          have HA2 := Lib.hid (HAS.out.pre (m := min sn.length 40) (by omega))
          have hlen : (sn.take 40).length = min sn.length 40 := by rw [List.length_take]; omega
          have htk : sn.take (min sn.length 40) = sn.take 40 := by
            by_cases h : sn.length ≤ 40
            · rw [List.take_of_length_le (by omega), List.take_of_length_le (by omega)]
            · rw [show min sn.length 40 = 40 by omega]
          rw [htk] at HA2
          have KA := Lib.hid (((Kept.refl Nothing wr).alloc (.cells #[.int .u8 (sk.toNat : Int), .slice Au sn.length cu] 71)).drew)
          have HCL := Lib.hid (as_clone _ (sn.take 40) _ (HA2.out.old KA.out) (by omega))
          have hml : min sn.length 40 ≤ 40 := by omega
          have HLEN := Lib.hid hlen
          have HSZ := Lib.hid KK.out.size
          have HL5 : Hid ((brF (l.take k)).length + 1 ≤ maxLen ∧ ((brF (l.take k)).length + 1) * 32 ≤ 140737488355328) := Lib.hid (by have := HQ.out; unfold maxLen; omega)
          have HF := Lib.hid (fun n hn => HAS.out.1 n (List.mem_of_mem_take (i := 40) hn))
          rw [show brS (sk, sn) = (1 + sk % 4, sn.take 40) from rfl] at EB
          have hkm := kd_mod sk
          have hk4 := sk.toNat_lt
          generalize (1 + sk % 4 : UInt8) = sk2 at *
          generalize min sn.length 40 = ml at *
          generalize sn.take 40 = vt at *
          clear hlen htk he HAS HA2
          go_wp2_with fail
          have hBLK := (Blk.fresh wr 71 #[.int .u8 (sk.toNat : Int), .slice Au sn.length cu]).drew
          have HBL : Hid (((wr.alloc (.cells #[.int .u8 (sk.toNat : Int), .slice Au sn.length cu] 71)).drew).cell? ⟨wr.heap.size, 0, none⟩ = some (.int .u8 (sk.toNat : Int)) ∧ ((wr.alloc (.cells #[.int .u8 (sk.toNat : Int), .slice Au sn.length cu] 71)).drew).cell? ⟨wr.heap.size, 1, none⟩ = some (.slice Au sn.length cu)) := Lib.hid ⟨hBLK.cell 0, hBLK.cell 1⟩
          clear hBLK
          go_region_held3 (fun w' => w'.cell? ⟨wr.heap.size, 0, none⟩ = some (.int .u8 (sk.toNat : Int)) ∧ w'.cell? ⟨wr.heap.size, 1, none⟩ = some (.slice Au sn.length cu)) (first | exact HBL.out | exact ⟨d0, d1⟩ | exact ⟨(BL2.out.alloc _).cell 0, (BL2.out.alloc _).cell 1⟩ | exact ⟨B7.out.cell 0, B7.out.cell 1⟩) (first
            | (go_simp; go_at_call 92; refine (HCL.out).mono ?_; rintro e w2 ⟨v2, rfl, ho2, hk2⟩; (have O2 := Lib.hid ho2); (have K2 := Lib.hid (KA.out.trans hk2)); (have hBl := ((Blk.fresh wr 71 #[.int .u8 (sk.toNat : Int), .slice Au sn.length cu]).drew).kept hk2 (fun x => x)); (have d0 : w2.cell? ⟨wr.heap.size, 0, none⟩ = some (.int .u8 (sk.toNat : Int)) := hBl.cell 0); (have d1 : w2.cell? ⟨wr.heap.size, 1, none⟩ = some (.slice Au sn.length cu) := hBl.cell 1); (obtain ⟨A2, c2, rfl, _, _⟩ := ow_form ho2); (have BL2 := Lib.hid hBl); clear ho2 hk2 hBl)
            | (refine step_app _ (by rfl) _ _ 25 (by rfl) w.heap.size 71 i0 _ 2 32 Tryz.underlying25 hi hz0 hz1 hz2 rfl (by decide) (.slice Aq (brF (l.take k)).length cq) (brF (l.take k)).length xs (by rfl) (ow_kept OQ.out (K2.out.alloc _) (fun _ _ x => x)) (some ⟨w2.heap.size, 0, none⟩) 1 1 [.int .u8 (sk2.toNat : Int), .slice A2 vt.length c2] (by rfl) (src_new w2 _ #[.int .u8 (sk2.toNat : Int), .slice A2 vt.length c2] 2 1 rfl (by simp [Value.oneCell'])) HL5.out.1 HL5.out.2 (Nat.le_trans HSZ.out (Nat.le_trans K2.out.size (by simp))) ?_; intro v' w7 ho7 hg7 hat7; (have B7 := Lib.hid ((BL2.out.alloc (.cells #[.int .u8 (sk2.toNat : Int), .slice A2 vt.length c2] 71)).kept ((Kept.refl (fun g => (Value.slice Aq (brF (l.take k)).length cq).ownBlock = some g) _).grown hg7 (fun _ hk _ => hk)) (fun e => Nat.lt_irrefl _ (ow_ge OQ.out e).2))); (have HO7 := Lib.hid ho7); (have HG7 := Lib.hid hg7); clear ho7 hg7 hat7))
          all_goals
            go_wp2
            go_roundw
            case rel =>
              have k1 := K2.out.alloc (.cells #[.int .u8 (sk2.toNat : Int), .slice A2 vt.length c2] 71)
              have oq2 := ow_kept OQ.out k1 (fun _ _ x => x)
              have hP : Pown w7 w.heap.size v' (brF (l.take (k + 1))) := by
                rw [EB.out]
                refine ⟨xs ++ [by8 sk2, .slice A2 vt.length c2], ?_, ?_⟩
                · rw [List.length_append]; exact HO7.out
                · exact Rws.push (c := (sk2, vt)) oq2 (HR.out.old k1) (ow_kept (own_weakA O2.out (by have := (KK.out.trans KA.out).size; exact this)) ((Kept.refl Nothing w2).alloc _) (fun _ _ x => x)) HF.out HG7.out
              exact ⟨k + 1, by go_num, by omega, Lib.hid hP, (KK.out.trans k1).own_grown oq2 (Nat.le_refl _) HG7.out⟩
            case measure => simp [intOf]; omega
      · have h8' : ¬ (k : Int) < 8 := by omega
        have EN := Lib.hid (HN.out (.inl h8))
        clear HB HN
        go_wp2
        go_roundw
        case rel => exact ⟨k + 1, by go_num, by omega, Lib.hid (by rw [EN.out]; exact HP.out.old ((Kept.refl Nothing wr).alloc _)), KK.out.alloc _⟩
        case measure => simp [intOf]; omega
    · obtain rfl : k = l.length := by omega
      rw [List.take_of_length_le (Nat.le_refl _)] at HP
      go_wp2
      go_ret
      exact ⟨_, rfl, HP.out, KK.out⟩
end Go.Proofs.YtkmmfbmomflofaaGreatDoor
