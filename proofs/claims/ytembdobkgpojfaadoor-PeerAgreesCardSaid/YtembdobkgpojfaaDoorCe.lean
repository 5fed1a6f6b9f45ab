
/-
  What Number and Refreshes of chapter 5 do.
-/
import Derived.Test.YtembdobkgpojfaaDoorCd
import Derived.Laws.Cover3
namespace Go.Proofs.YtembdobkgpojfaaDoor
open Go.RowKit

namespace Cp
def number : List Cp → Nat × Bool
  | [] => (0, false)
  | c :: l => if c.2.length = 4 ∧ c.1.toNat = 65 then (RS.num c.2, true) else number l
def refreshes : List Cp → Bool
  | [] => false
  | c :: l => if c.1.toNat = 2 ∧ c.2.length = 0 then true else refreshes l
theorem number_hit {c : Cp} {l : List Cp} (h1 : c.2.length = 4) (h2 : c.1.toNat = 65) : number (c :: l) = (RS.num c.2, true) := if_pos ⟨h1, h2⟩
theorem number_miss {c : Cp} {l : List Cp} (h : ¬ (c.2.length = 4 ∧ c.1.toNat = 65)) : number (c :: l) = number l := if_neg h
theorem refreshes_hit {c : Cp} {l : List Cp} (h1 : c.1.toNat = 2) (h2 : c.2.length = 0) : refreshes (c :: l) = true := if_pos ⟨h1, h2⟩
theorem refreshes_miss {c : Cp} {l : List Cp} (h : ¬ (c.1.toNat = 2 ∧ c.2.length = 0)) : refreshes (c :: l) = refreshes l := if_neg h
theorem drop_next {α : Type} {l : List α} {k : Nat} (h : k < l.length) : l.drop k = l[k] :: l.drop (k + 1) := List.drop_eq_getElem_cons h
end Cp

theorem four_of {l : List UInt8} (h : l.length = 4) : ∃ a b c d, l = [a, b, c, d] := by
  rcases l with _ | ⟨a, _ | ⟨b, _ | ⟨c, _ | ⟨d, _ | ⟨e, l⟩⟩⟩⟩⟩ <;> simp at h
  exact ⟨a, b, c, d, rfl⟩

/-- The value that a capability tells, if it has four bytes. -/
def wd (l : List UInt8) : List UInt8 := if l.length = 4 then l else [0, 0, 0, 0]

set_option maxHeartbeats 1000000 in
theorem cp_word (k : UInt8) (v : Value) (l : List UInt8) (w : World) (hv : By w v l) :
    Calls Tryd.prog 89 #[.agg #[by8 k, v]] w fun e w' => e = .returned (.tuple #[.agg (bys (wd l)).toArray, .bool (decide (l.length = 4))]) ∧ Kept Nothing w w' := by
  obtain ⟨A, c, rfl, hc, hm⟩ := hv.form
  by_cases h4 : l.length = 4
  · have hd : decide (l.length = 4) = true := by simpa using h4
    rw [hd]
    obtain ⟨b, o, rfl, hcell⟩ := hv.at (by omega)
    obtain ⟨x0, x1, x2, x3, rfl⟩ := four_of h4
    have c0 := hcell 0 (by simp)
    have c1 := hcell 1 (by simp)
    have c2 := hcell 2 (by simp)
    have c3 := hcell 3 (by simp)
    have e : bys (wd [x0, x1, x2, x3]) = [.int .u8 (x0.toNat : Int), .int .u8 (x1.toNat : Int), .int .u8 (x2.toNat : Int), .int .u8 (x3.toNat : Int)] := rfl
    rw [e]
    replace c0 : w.cell? ⟨b, o, none⟩ = some (.int .u8 (x0.toNat : Int)) := c0
    replace c1 : w.cell? ⟨b, o + 1, none⟩ = some (.int .u8 (x1.toNat : Int)) := c1
    replace c2 : w.cell? ⟨b, o + 2, none⟩ = some (.int .u8 (x2.toNat : Int)) := c2
    replace c3 : w.cell? ⟨b, o + 3, none⟩ = some (.int .u8 (x3.toNat : Int)) := c3
    have hblt := World.block_lt_of_cell? w _ c0
    simp only at hblt
    unfold by8
    clear hv hcell hm hd h4
    have hc' : 4 ≤ c := hc
    have hat : ∀ w, (Instr.arrayAt 134 (.slice (some ⟨b, o, none⟩) 4 c)).run Tryd.prog w = .ok (.pointer (some ⟨b, o, none⟩)) w := fun w => run_arrayAt w _ 5 4 _ _ _ (by kernel_rfl) (Nat.le_refl _)
    clear hc
    go_enter Tryd.func89, Tryd.ntmps89
    go_wp2
    exact bodyPost_ret (v := .tuple #[.agg #[.int .u8 (x0.toNat : Int), .int .u8 (x1.toNat : Int), .int .u8 (x2.toNat : Int), .int .u8 (x3.toNat : Int)], .bool true]) (by simp [results, Tryd.results89, go_sem]) rfl ⟨rfl, ((Kept.refl _ w).alloc _).alloc _⟩
  · have hd : decide (l.length = 4) = false := by simpa using h4
    rw [hd]
    have e : bys (wd l) = [.int .u8 0, .int .u8 0, .int .u8 0, .int .u8 0] := by unfold wd; rw [if_neg h4]; rfl
    rw [e]
    unfold by8
    have h4i : (l.length : Int) ≠ 4 := by omega
    clear hv hm hd
    go_enter Tryd.func89, Tryd.ntmps89
    go_wp2
    exact bodyPost_ret (v := .tuple #[.agg #[.int .u8 0, .int .u8 0, .int .u8 0, .int .u8 0], .bool false]) (by simp [results, Tryd.results89, go_sem]) rfl ⟨rfl, ((Kept.refl _ w).alloc _).alloc _⟩

theorem RS.four_all {l : List UInt8} (h : l.length = 4) : (RS.mk l 0 [] 0).got 4 = l := by
  have hf : RS.fits (RS.mk l 0 [] 0) 4 = RS.mk l 0 [] 0 := RS.fits_pos (by omega) (by rw [RS.left_zero rfl]; show (4 : Int) ≤ ((l.length - 0 : Nat) : Int); omega)
  unfold RS.got
  rw [hf, if_pos rfl]
  exact List.take_of_length_le (by show (l.drop 0).length ≤ 4; rw [List.drop_zero]; omega)

set_option maxHeartbeats 1000000 in
theorem cp_num (l : List UInt8) (h4 : l.length = 4) (w : World) :
    Calls Tryd.prog 90 #[.agg (bys l).toArray] w fun e w' => e = .returned (.int .u32 (RS.num l : Nat)) ∧ Kept Nothing w w' := by
  have HF := Lib.hid (RS.four_all h4)
  obtain ⟨x0, x1, x2, x3, rfl⟩ := four_of h4
  have e : (bys [x0, x1, x2, x3]).toArray = #[.int .u8 (x0.toNat : Int), .int .u8 (x1.toNat : Int), .int .u8 (x2.toNat : Int), .int .u8 (x3.toNat : Int)] := rfl
  have HB : Hid (By (w.alloc (.cells #[.int .u8 (x0.toNat : Int), .int .u8 (x1.toNat : Int), .int .u8 (x2.toNat : Int), .int .u8 (x3.toNat : Int)] 134)) (.slice (some ⟨w.heap.size, 0, none⟩) 4 4) [x0, x1, x2, x3]) := Lib.hid (by
    refine ⟨some ⟨w.heap.size, 0, none⟩, 4, rfl, Nat.le_refl _, by simp [maxLen], ?_⟩
    exact src_new w 134 #[.int .u8 (x0.toNat : Int), .int .u8 (x1.toNat : Int), .int .u8 (x2.toNat : Int), .int .u8 (x3.toNat : Int)] 1 4 rfl (by simp [Value.oneCell']))
  rw [e]
  have HL := Lib.hid (show [x0, x1, x2, x3].length ≤ 1099511627776 by simp)
  clear e h4
  go_enter Tryd.func90, Tryd.ntmps90
  go_wp2_with fail
  refine (rd_new _ [x0, x1, x2, x3] _ HB.out HL.out).mono ?_
  rintro e w1 ⟨p, rfl, hr, hk, hp⟩
  have HR := Lib.hid hr
  have HK := Lib.hid (((Kept.refl Nothing w).alloc _).trans hk)
  have HP := Lib.hid hp
  clear hr hk hp
  go_wp2_with fail
  refine (rd_four p _ _ HR.out).mono ?_
  rintro e w2 ⟨rfl, hr, hk⟩
  have HK2 := Lib.hid (HK.out.rd hk (by have := HP.out; rw [World.size_alloc] at this; omega))
  rw [HF.out]
  clear hr hk
  go_wp2
  go_ret
  exact ⟨rfl, HK2.out⟩

theorem wd_len (l : List UInt8) : (wd l).length = 4 := by unfold wd; split; assumption; rfl

set_option maxHeartbeats 2000000 in
theorem cp_number (v : Value) (l : List Cp) (w : World) (hv : Cps w v l) (hl : l.length ≤ 1000000) :
    Calls Tryd.prog 69 #[v] w fun e w' => e = .returned (.tuple #[.int .u32 ((Cp.number l).1 : Nat), .bool (Cp.number l).2]) ∧ Kept Nothing w w' := by
  obtain ⟨A, c, rfl, hc, hm⟩ := hv.form
  have HV := Lib.hid hv
  have HS : Hid (Cp.number (l.drop 0) = Cp.number l) := Lib.hid rfl
  generalize Cp.number l = R at *
  clear hv
  go_enter Tryd.func69, Tryd.ntmps69
  go_wp2
  go_loopw [10] (fun i wr => ∃ k : Nat, k ≤ l.length ∧ i = .int .i64 k ∧ Kept Nothing w wr ∧ Hid (Cp.number (l.drop k) = R)) (fun i _ => l.length - (intOf i).toNat)
  case atStart => exact ⟨0, by omega, rfl, Kept.refl _ w, HS⟩
  case round =>
    clear HS
    obtain ⟨k, hk, rfl, hkw, HR⟩ := hrel
    by_cases hlt : k < l.length
    · obtain ⟨b, o, rfl, hcell⟩ := HV.out.at (by omega)
      obtain ⟨q0, u, q1, q2⟩ := hcell k hlt
      have c0 := hkw.cell_some q0 (fun x => x)
      have c1 := hkw.cell_some q1 (fun x => x)
      obtain ⟨A1, cc1, rfl, _, _⟩ := q2.form
      have HB := Lib.hid (q2.old hkw)
      have HD := Lib.hid (Cp.drop_next hlt)
      have HK := Lib.hid hkw
      have hR := HR.out
      rw [HD.out] at hR
      generalize hP : l[k] = P at *
      obtain ⟨kd, val⟩ := P
      simp only at c0 c1 HB
      have HW := Lib.hid (cp_word kd (.slice A1 val.length cc1) val _ ((HB.out.old ((Kept.refl Nothing wr).alloc (.cells #[by8 kd, .slice A1 val.length cc1] 62)))))
      have HBL := Lib.hid (Blk.fresh wr 62 #[by8 kd, .slice A1 val.length cc1])
      unfold by8 at c0 HW HBL
      have hwl := wd_len val
      obtain ⟨y0, y1, y2, y3, hy⟩ := four_of hwl
      have hyc : (bys (wd val)).toArray = #[.int .u8 (y0.toNat : Int), .int .u8 (y1.toNat : Int), .int .u8 (y2.toNat : Int), .int .u8 (y3.toNat : Int)] := by rw [hy]; rfl
      rw [hyc] at HW
      have HYC := Lib.hid hyc
      clear hcell q0 q1 q2 hkw hyc hP HD HB
      by_cases h4 : val.length = 4
      · have hd : decide (val.length = 4) = true := by simpa using h4
        rw [hd] at HW
        by_cases h65 : kd.toNat = 65
        · rw [Cp.number_hit (c := (kd, val)) h4 h65] at hR
          subst hR
          have h65i : ((kd.toNat : Int) == 65) = true := by simp; omega
          have HE : Hid (wd val = val) := Lib.hid (if_pos h4)
          have hn := cp_num (wd val) hwl
          rw [HYC.out, HE.out] at hn
          have HN := Lib.hid hn
          clear hd hwl hy h4 h65 hn HR
          go_wp2_with (first
            | (go_at_call 89; with_reducible refine (HW.out).mono ?_; rintro e w1 ⟨rfl, hk1⟩; have hB1 := HBL.out.kept hk1 (fun x => x); have d0 := (hB1.alloc (.cells #[.int .u8 (y0.toNat : Int), .int .u8 (y1.toNat : Int), .int .u8 (y2.toNat : Int), .int .u8 (y3.toNat : Int)] 134)).cell 0; have HK1 := Lib.hid (((Kept.refl Nothing wr).alloc _).trans hk1); clear hk1 hB1)
            | (go_at_call 90; refine (HN.out _).mono ?_; rintro e w2 ⟨rfl, hk2⟩; have HK2 := Lib.hid hk2; clear hk2))
          go_ret2
          exact ⟨rfl, ((HK.out.trans HK1.out).alloc _).trans HK2.out⟩
        · rw [Cp.number_miss (c := (kd, val)) (fun h => h65 h.2)] at hR
          have HR2 := Lib.hid hR
          have h65i : ((kd.toNat : Int) == 65) = false := by simp; omega
          clear hd hwl hy h4 h65 HR hR
          go_wp2_with (go_at_call 89; with_reducible refine (HW.out).mono ?_; rintro e w1 ⟨rfl, hk1⟩; have hB1 := HBL.out.kept hk1 (fun x => x); have d0 := (hB1.alloc (.cells #[.int .u8 (y0.toNat : Int), .int .u8 (y1.toNat : Int), .int .u8 (y2.toNat : Int), .int .u8 (y3.toNat : Int)] 134)).cell 0; have HK1 := Lib.hid (((Kept.refl Nothing wr).alloc _).trans hk1); clear hk1 hB1)
          go_roundw
          case rel => exact ⟨k + 1, by omega, by go_num, (HK.out.trans HK1.out).alloc _, HR2⟩
          case measure => simp [intOf]; omega
      · have hd : decide (val.length = 4) = false := by simpa using h4
        rw [hd] at HW
        rw [Cp.number_miss (c := (kd, val)) (fun h => h4 h.1)] at hR
        have HR2 := Lib.hid hR
        clear hd hwl hy h4 HR hR
        go_wp2_with (go_at_call 89; with_reducible refine (HW.out).mono ?_; rintro e w1 ⟨rfl, hk1⟩; have HK1 := Lib.hid (((Kept.refl Nothing wr).alloc _).trans hk1); clear hk1)
        go_roundw
        case rel => exact ⟨k + 1, by omega, by go_num, (HK.out.trans HK1.out).alloc _, HR2⟩
        case measure => simp [intOf]; omega
    · have e : l.drop k = [] := List.drop_eq_nil_of_le (by omega)
      have hR := HR.out
      rw [e] at hR
      have hR' : R = (0, false) := hR.symm
      subst hR'
      clear HR hR e
      go_wp2
      go_ret2
      exact ⟨rfl, hkw⟩

set_option maxHeartbeats 2000000 in
theorem cp_refreshes (v : Value) (l : List Cp) (w : World) (hv : Cps w v l) (hl : l.length ≤ 1000000) :
    Calls Tryd.prog 70 #[v] w fun e w' => e = .returned (.bool (Cp.refreshes l)) ∧ Kept Nothing w w' := by
  obtain ⟨A, c, rfl, hc, hm⟩ := hv.form
  have HV := Lib.hid hv
  have HS : Hid (Cp.refreshes (l.drop 0) = Cp.refreshes l) := Lib.hid rfl
  generalize Cp.refreshes l = R at *
  clear hv
  go_enter Tryd.func70, Tryd.ntmps70
  go_wp2
  go_loopw [7] (fun i wr => ∃ k : Nat, k ≤ l.length ∧ i = .int .i64 k ∧ Kept Nothing w wr ∧ Hid (Cp.refreshes (l.drop k) = R)) (fun i _ => l.length - (intOf i).toNat)
  case atStart => exact ⟨0, by omega, rfl, Kept.refl _ w, HS⟩
  case round =>
    clear HS
    obtain ⟨k, hk, rfl, hkw, HR⟩ := hrel
    by_cases hlt : k < l.length
    · obtain ⟨b, o, rfl, hcell⟩ := HV.out.at (by omega)
      obtain ⟨q0, u, q1, q2⟩ := hcell k hlt
      have c0 := hkw.cell_some q0 (fun x => x)
      have c1 := hkw.cell_some q1 (fun x => x)
      obtain ⟨A1, cc1, rfl, _, _⟩ := q2.form
      have HD := Lib.hid (Cp.drop_next hlt)
      have HK := Lib.hid hkw
      have hR := HR.out
      rw [HD.out] at hR
      generalize hP : l[k] = P at *
      obtain ⟨kd, val⟩ := P
      simp only at c0 c1
      unfold by8 at c0
      clear hcell q0 q1 q2 hkw hP HD
      by_cases h2 : kd.toNat = 2
      · have h2i : ((kd.toNat : Int) == 2) = true := by simp; omega
        by_cases h0 : val.length = 0
        · rw [Cp.refreshes_hit (c := (kd, val)) h2 h0] at hR
          subst hR
          have h0i : ((val.length : Int) == 0) = true := by simp; exact List.eq_nil_of_length_eq_zero h0
          clear h2 h0 HR
          go_wp2
          go_ret
          exact ⟨rfl, HK.out.alloc _⟩
        · rw [Cp.refreshes_miss (c := (kd, val)) (fun h => h0 h.2)] at hR
          have HR2 := Lib.hid hR
          have h0i : ((val.length : Int) == 0) = false := by simp; exact fun h => h0 (by rw [h]; rfl)
          clear h2 h0 HR hR
          go_wp2
          go_roundw
          case rel => exact ⟨k + 1, by omega, by go_num, HK.out.alloc _, HR2⟩
          case measure => simp [intOf]; omega
      · rw [Cp.refreshes_miss (c := (kd, val)) (fun h => h2 h.1)] at hR
        have HR2 := Lib.hid hR
        have h2i : ((kd.toNat : Int) == 2) = false := by simp; omega
        clear h2 HR hR
        go_wp2
        go_roundw
        case rel => exact ⟨k + 1, by omega, by go_num, HK.out.alloc _, HR2⟩
        case measure => simp [intOf]; omega
    · have e : l.drop k = [] := List.drop_eq_nil_of_le (by omega)
      have hR := HR.out
      rw [e] at hR
      have hR' : R = false := hR.symm
      subst hR'
      clear HR hR e
      go_wp2
      go_ret
      exact ⟨rfl, hkw⟩
end Go.Proofs.YtembdobkgpojfaaDoor
