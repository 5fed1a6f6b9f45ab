
/-
  What IPv4 of chapter 5 does.
-/
import Derived.Test.YtohgkibpcgfihaaDoorDa
import Derived.Stop.BytesEq
namespace Go.Proofs.YtohgkibpcgfihaaDoor
open Go.RowKit

theorem guard_word : Tryd.prog.eqGuardType Tryd.prog.depth 130 = false := by kernel_rfl
theorem eq_word (y0 y1 y2 y3 : UInt8) (w : World) :
    (Op.equalIn 10000 130 (.agg #[.int .u8 (y0.toNat : Int), .int .u8 (y1.toNat : Int), .int .u8 (y2.toNat : Int), .int .u8 (y3.toNat : Int)]) (.agg #[.int .u8 0, .int .u8 1, .int .u8 0, .int .u8 1])).run Tryd.prog w = .ok ([y0, y1, y2, y3] == [0, 1, 0, 1]) w :=
  run_equalIn_bytes w 9998 130 5 4 Tryd.underlying130 Tryd.underlying5 Tryd.sizeOf5 [y0, y1, y2, y3] [0, 1, 0, 1] rfl rfl

set_option maxRecDepth 20000 in
set_option maxHeartbeats 4000000 in
theorem cp_ipv4 (v : Value) (l : List Cp) (w : World) (hr : RdC w) (hv : Cps w v l) (hl : l.length ≤ 1000000) :
    Calls Tryd.prog 58 #[v] w fun e w' => e = .returned (.bool (Cp.ipv4 false l)) ∧ Kept Nothing w w' := by
  obtain ⟨A, c, rfl, hc, hm⟩ := hv.form
  have HV := Lib.hid hv
  have HRD := Lib.hid hr
  have HS : Hid (Cp.ipv4 false (l.drop 0) = Cp.ipv4 false l) := Lib.hid rfl
  generalize Cp.ipv4 false l = R at *
  clear hv hr
  go_enter Tryd.func58, Tryd.ntmps58
  go_wp2
  go_loopw [3, 10] (fun t i wr => ∃ (tl : Bool) (k : Nat), t = .bool tl ∧ k ≤ l.length ∧ i = .int .i64 k ∧ Kept Nothing w wr ∧ Hid (Cp.ipv4 tl (l.drop k) = R)) (fun _ i _ => l.length - (intOf i).toNat)
  case atStart => exact ⟨false, 0, rfl, by omega, rfl, Kept.refl _ w, HS⟩
  case round =>
    clear HS
    obtain ⟨tl, k, rfl, hk, rfl, hkw, HR⟩ := hrel
    by_cases hlt : k < l.length
    · obtain ⟨b, o, rfl, hcell⟩ := HV.out.at (by omega)
      obtain ⟨q0, u, q1, q2⟩ := hcell k hlt
      have c0 := hkw.cell_some q0 (fun x => x)
      have c1 := hkw.cell_some q1 (fun x => x)
      obtain ⟨A1, cc1, rfl, _, _⟩ := q2.form
      have HB := Lib.hid (q2.old hkw)
      have HD := Lib.hid (Cp.drop_next hlt)
      have HK := Lib.hid hkw
      have hR := HR.out
      rw [HD.out] at hR
      generalize hP : l[k] = P at *
      obtain ⟨kd, val⟩ := P
      simp only at c0 c1 HB
      have HW := Lib.hid (cp_word kd (.slice A1 val.length cc1) val _ ((HB.out.old ((Kept.refl Nothing wr).alloc (.cells #[by8 kd, .slice A1 val.length cc1] 66)))))
      unfold by8 at c0 HW
      have hwl := wd_len val
      obtain ⟨y0, y1, y2, y3, hy⟩ := four_of hwl
      have hyc : (bys (wd val)).toArray = #[.int .u8 (y0.toNat : Int), .int .u8 (y1.toNat : Int), .int .u8 (y2.toNat : Int), .int .u8 (y3.toNat : Int)] := by rw [hy]; rfl
      rw [hyc] at HW
      clear hcell q0 q1 q2 hkw hyc hP HD HB
      by_cases h1 : kd.toNat = 1
      · have h1i : ((kd.toNat : Int) != 1) = false := by simp; omega
        by_cases h4 : val.length = 4
        · have hd : decide (val.length = 4) = true := by simpa using h4
          rw [hd] at HW
          have hve : val = [y0, y1, y2, y3] := by rw [← hy]; exact (if_pos h4).symm
          have heq := eq_word y0 y1 y2 y3
          have hg := guard_word
          by_cases hhit : [y0, y1, y2, y3] = [0, 1, 0, 1]
          · have hb : ([y0, y1, y2, y3] == [0, 1, 0, 1]) = true := by simpa using hhit
            rw [hb] at heq
            rw [Cp.ipv4_hit (c := (kd, val)) h1 (by show val = _; rw [hve, hhit])] at hR
            subst hR
            clear hd hwl hy h4 h1 HR hve hhit hb
            go_wp2_with (go_at_call 79; refine (HW.out).mono ?_; rintro e w1 ⟨rfl, hk1⟩; have kk := ((Kept.refl Nothing wr).alloc (.cells #[.int .u8 (kd.toNat : Int), .slice A1 val.length cc1] 66)).trans hk1; have HK1 := Lib.hid (HK.out.trans kk); obtain ⟨z0, z1, z2, z3⟩ := HRD.out.kept HK1.out; have hgl := World.block_lt_of_cell? _ _ z0; clear hk1 kk)
            go_ret
            exact ⟨rfl, HK1.out.alloc _⟩
          · have hb : ([y0, y1, y2, y3] == [0, 1, 0, 1]) = false := by simpa using hhit
            rw [hb] at heq
            rw [Cp.ipv4_miss (c := (kd, val)) h1 (by show val ≠ _; rw [hve]; exact hhit)] at hR
            have HR2 := Lib.hid hR
            clear hd hwl hy h4 h1 HR hve hR hhit hb
            go_wp2_with (go_at_call 79; refine (HW.out).mono ?_; rintro e w1 ⟨rfl, hk1⟩; have kk := ((Kept.refl Nothing wr).alloc (.cells #[.int .u8 (kd.toNat : Int), .slice A1 val.length cc1] 66)).trans hk1; have HK1 := Lib.hid (HK.out.trans kk); obtain ⟨z0, z1, z2, z3⟩ := HRD.out.kept HK1.out; have hgl := World.block_lt_of_cell? _ _ z0; clear hk1 kk)
            go_roundw
            case rel => exact ⟨true, k + 1, rfl, by omega, by go_num, HK1.out.alloc _, HR2⟩
            case measure => simp [intOf]; omega
        · have hd : decide (val.length = 4) = false := by simpa using h4
          rw [hd] at HW
          rw [Cp.ipv4_miss (c := (kd, val)) h1 (fun e => h4 (by show val.length = 4; rw [show val = [0, 1, 0, 1] from e]; rfl))] at hR
          have HR2 := Lib.hid hR
          clear hd hwl hy h4 h1 HR hR
          go_wp2_with (go_at_call 79; refine (HW.out).mono ?_; rintro e w1 ⟨rfl, hk1⟩; have HK1 := Lib.hid (((Kept.refl Nothing wr).alloc (.cells #[.int .u8 (kd.toNat : Int), .slice A1 val.length cc1] 66)).trans hk1); clear hk1)
          go_roundw
          case rel => exact ⟨true, k + 1, rfl, by omega, by go_num, (HK.out.trans HK1.out).alloc _, HR2⟩
          case measure => simp [intOf]; omega
      · have h1i : ((kd.toNat : Int) != 1) = true := by simp; omega
        rw [Cp.ipv4_skip (c := (kd, val)) h1] at hR
        have HR2 := Lib.hid hR
        clear hwl hy h1 HR hR HW
        go_wp2
        go_roundw
        case rel => exact ⟨tl, k + 1, rfl, by omega, by go_num, HK.out.alloc _, HR2⟩
        case measure => simp [intOf]; omega
    · have e : l.drop k = [] := List.drop_eq_nil_of_le (by omega)
      have hR := HR.out
      rw [e] at hR
      have hR' : R = !tl := hR.symm
      subst hR'
      clear HR hR e
      go_wp2
      go_ret
      exact ⟨rfl, hkw⟩
end Go.Proofs.YtohgkibpcgfihaaDoor
