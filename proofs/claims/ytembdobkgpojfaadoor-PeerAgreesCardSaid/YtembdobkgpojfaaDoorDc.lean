
/-
  What the document's Number, Refreshes, IPv4 and Ours of chapter 5 do.
-/
import Derived.Test.YtembdobkgpojfaaDoorDb
namespace Go.Proofs.YtembdobkgpojfaaDoor
open Go.RowKit

set_option maxRecDepth 20000 in
set_option maxHeartbeats 2000000 in
theorem rcp_refreshes (v : Value) (l : List Cp) (w : World) (hv : Cps w v l) (hl : l.length ≤ 1000000) :
    Calls Tryd.prog 72 #[v] w fun e w' => e = .returned (.bool (Cp.refreshes l)) ∧ Kept Nothing w w' := by
  obtain ⟨A, c, rfl, hc, hm⟩ := hv.form
  have HV := Lib.hid hv
  have HS : Hid (Cp.refreshes (l.drop 0) = Cp.refreshes l) := Lib.hid rfl
  generalize Cp.refreshes l = R at *
  clear hv
  go_enter Tryd.func72, Tryd.ntmps72
  go_wp2
  go_loopw [3] (fun i wr => ∃ k : Nat, k ≤ l.length ∧ i = .int .i64 k ∧ Kept Nothing w wr ∧ Hid (Cp.refreshes (l.drop k) = R)) (fun i _ => l.length - (intOf i).toNat)
  case atStart => exact ⟨0, by omega, rfl, Kept.refl _ w, HS⟩
  case round =>
    clear HS
    obtain ⟨k, hk, rfl, hkw, HR⟩ := hrel
    by_cases hlt : k < l.length
    · obtain ⟨b, o, rfl, hcell⟩ := HV.out.at (by omega)
      obtain ⟨q0, u, q1, q2⟩ := hcell k hlt
      have c0 := hkw.cell_some q0 (fun x => x)
      have c1 := hkw.cell_some q1 (fun x => x)
      obtain ⟨A1, cc1, rfl, _, _⟩ := q2.form
      have HD := Lib.hid (Cp.drop_next hlt)
      have HK := Lib.hid hkw
      have hR := HR.out
      rw [HD.out] at hR
      generalize hP : l[k] = P at *
      obtain ⟨kd, val⟩ := P
      simp only at c0 c1
      unfold by8 at c0
      clear hcell q0 q1 q2 hkw hP HD
      by_cases h2 : kd.toNat = 2
      · have h2i : ((kd.toNat : Int) == 2) = true := by simp; omega
        by_cases h0 : val.length = 0
        · rw [Cp.refreshes_hit (c := (kd, val)) h2 h0] at hR
          subst hR
          have h0i : ((val.length : Int) == 0) = true := by simp; exact List.eq_nil_of_length_eq_zero h0
          clear h2 h0 HR
          go_wp2
          go_ret
          exact ⟨rfl, HK.out⟩
        · rw [Cp.refreshes_miss (c := (kd, val)) (fun h => h0 h.2)] at hR
          have HR2 := Lib.hid hR
          have h0i : ((val.length : Int) == 0) = false := by simp; exact fun h => h0 (by rw [h]; rfl)
          clear h2 h0 HR hR
          go_wp2
          go_roundw
          case rel => exact ⟨k + 1, by omega, by go_num, HK.out, HR2⟩
          case measure => simp [intOf]; omega
      · rw [Cp.refreshes_miss (c := (kd, val)) (fun h => h2 h.1)] at hR
        have HR2 := Lib.hid hR
        have h2i : ((kd.toNat : Int) == 2) = false := by simp; omega
        clear h2 HR hR
        go_wp2
        go_roundw
        case rel => exact ⟨k + 1, by omega, by go_num, HK.out, HR2⟩
        case measure => simp [intOf]; omega
    · have e : l.drop k = [] := List.drop_eq_nil_of_le (by omega)
      have hR := HR.out
      rw [e] at hR
      have hR' : R = false := hR.symm
      subst hR'
      clear HR hR e
      go_wp2
      go_ret
      exact ⟨rfl, hkw⟩

theorem num_four (y0 y1 y2 y3 : UInt8) : (RS.num [y0, y1, y2, y3] : Int) = (y0.toNat : Int) * 16777216 + (y1.toNat : Int) * 65536 + (y2.toNat : Int) * 256 + (y3.toNat : Int) := by
  unfold RS.num
  simp only [List.foldl_cons, List.foldl_nil]
  omega
theorem u32_in (z : Int) (h : 0 ≤ z ∧ z < 4294967296) : IntKind.u32.wrap z = z := by
  simp only [IntKind.wrap, IntKind.bits, IntKind.signed]
  simp
  omega
/-- Four bytes in memory. -/
theorem By.four {w : World} {A : Option Addr} {c : Nat} {l : List UInt8} (h : By w (.slice A l.length c) l) (h4 : l.length = 4) :
    ∃ b o y0 y1 y2 y3, A = some ⟨b, o, none⟩ ∧ l = [y0, y1, y2, y3] ∧ w.cell? ⟨b, o, none⟩ = some (.int .u8 (y0.toNat : Int)) ∧ w.cell? ⟨b, o + 1, none⟩ = some (.int .u8 (y1.toNat : Int)) ∧ w.cell? ⟨b, o + 2, none⟩ = some (.int .u8 (y2.toNat : Int)) ∧ w.cell? ⟨b, o + 3, none⟩ = some (.int .u8 (y3.toNat : Int)) := by
  obtain ⟨b, o, rfl, hc⟩ := h.at (by omega)
  obtain ⟨y0, y1, y2, y3, rfl⟩ := four_of h4
  exact ⟨b, o, y0, y1, y2, y3, rfl, rfl, hc 0 (by simp), hc 1 (by simp), hc 2 (by simp), hc 3 (by simp)⟩

set_option maxRecDepth 20000 in
set_option maxHeartbeats 2000000 in
theorem rcp_number (v : Value) (l : List Cp) (w : World) (hv : Cps w v l) (hl : l.length ≤ 1000000) :
    Calls Tryd.prog 73 #[v] w fun e w' => e = .returned (.tuple #[.int .u32 ((Cp.number l).1 : Nat), .bool (Cp.number l).2]) ∧ Kept Nothing w w' := by
  obtain ⟨A, c, rfl, hc, hm⟩ := hv.form
  have HV := Lib.hid hv
  have HS : Hid (Cp.number (l.drop 0) = Cp.number l) := Lib.hid rfl
  generalize Cp.number l = R at *
  clear hv
  go_enter Tryd.func73, Tryd.ntmps73
  go_wp2
  go_loopw [4] (fun i wr => ∃ k : Nat, k ≤ l.length ∧ i = .int .i64 k ∧ Kept Nothing w wr ∧ Hid (Cp.number (l.drop k) = R)) (fun i _ => l.length - (intOf i).toNat)
  case atStart => exact ⟨0, by omega, rfl, Kept.refl _ w, HS⟩
  case round =>
    clear HS
    obtain ⟨k, hk, rfl, hkw, HR⟩ := hrel
    by_cases hlt : k < l.length
    · obtain ⟨b, o, rfl, hcell⟩ := HV.out.at (by omega)
      obtain ⟨q0, u, q1, q2⟩ := hcell k hlt
      have c0 := hkw.cell_some q0 (fun x => x)
      have c1 := hkw.cell_some q1 (fun x => x)
      obtain ⟨A1, cc1, rfl, _, _⟩ := q2.form
      have HB := Lib.hid (q2.old hkw)
      have HD := Lib.hid (Cp.drop_next hlt)
      have HK := Lib.hid hkw
      have hR := HR.out
      rw [HD.out] at hR
      generalize hP : l[k] = P at *
      obtain ⟨kd, val⟩ := P
      simp only at c0 c1 HB
      unfold by8 at c0
      clear hcell q0 q1 q2 hkw hP HD
      by_cases h65 : kd.toNat = 65
      · have h65i : ((kd.toNat : Int) == 65) = true := by simp; omega
        by_cases h4 : val.length = 4
        · rw [Cp.number_hit (c := (kd, val)) h4 h65] at hR
          subst hR
          obtain ⟨b1, o1, y0, y1, y2, y3, rfl, hval, d0, d1, d2, d3⟩ := HB.out.four h4
          have HN := Lib.hid (num_four y0 y1 y2 y3)
          have HVAL := Lib.hid hval
          have h4i : ((val.length : Int) == 4) = true := by rw [h4]; rfl
          have g0 : (0 : Int) < (val.length : Int) := by omega
          have g1 : (1 : Int) < (val.length : Int) := by omega
          have g2 : (2 : Int) < (val.length : Int) := by omega
          have g3 : (3 : Int) < (val.length : Int) := by omega
          have y0l := y0.toNat_lt
          have y1l := y1.toNat_lt
          have y2l := y2.toNat_lt
          have y3l := y3.toNat_lt
          generalize y0.toNat = n0 at *
          generalize y1.toNat = n1 at *
          generalize y2.toNat = n2 at *
          generalize y3.toNat = n3 at *
          have e0 : IntKind.u32.wrap (n0 : Int) = (n0 : Int) := u32_in _ (by omega)
          have e1 : IntKind.u32.wrap (n1 : Int) = (n1 : Int) := u32_in _ (by omega)
          have e2 : IntKind.u32.wrap (n2 : Int) = (n2 : Int) := u32_in _ (by omega)
          have e3 : IntKind.u32.wrap (n3 : Int) = (n3 : Int) := u32_in _ (by omega)
          have f0 : IntKind.u32.wrap ((n0 : Int) * 16777216) = (n0 : Int) * 16777216 := u32_in _ (by omega)
          have f1 : IntKind.u32.wrap ((n1 : Int) * 65536) = (n1 : Int) * 65536 := u32_in _ (by omega)
          have f2 : IntKind.u32.wrap ((n2 : Int) * 256) = (n2 : Int) * 256 := u32_in _ (by omega)
          have f3 : IntKind.u32.wrap ((n0 : Int) * 16777216 + (n1 : Int) * 65536) = (n0 : Int) * 16777216 + (n1 : Int) * 65536 := u32_in _ (by omega)
          have f4 : IntKind.u32.wrap ((n0 : Int) * 16777216 + (n1 : Int) * 65536 + (n2 : Int) * 256) = (n0 : Int) * 16777216 + (n1 : Int) * 65536 + (n2 : Int) * 256 := u32_in _ (by omega)
          have f5 : IntKind.u32.wrap ((n0 : Int) * 16777216 + (n1 : Int) * 65536 + (n2 : Int) * 256 + (n3 : Int)) = (n0 : Int) * 16777216 + (n1 : Int) * 65536 + (n2 : Int) * 256 + (n3 : Int) := u32_in _ (by omega)
          clear h4 h65 hval HR HB y0l y1l y2l y3l
          go_wp2
          go_quiet (fail)
          go_wp2
          go_ret2
          refine ⟨?_, HK.out.drewN _⟩
          have hE : ((RS.num val : Nat) : Int) = (n0 : Int) * 16777216 + (n1 : Int) * 65536 + (n2 : Int) * 256 + (n3 : Int) := by rw [HVAL.out]; exact HN.out
          show Ending.returned (.tuple #[.int .u32 ((n0 : Int) * 16777216 + (n1 : Int) * 65536 + (n2 : Int) * 256 + (n3 : Int)), .bool true]) = Ending.returned (.tuple #[.int .u32 ((RS.num val : Nat) : Int), .bool true])
          rw [hE]
        · rw [Cp.number_miss (c := (kd, val)) (fun h => h4 h.1)] at hR
          have HR2 := Lib.hid hR
          have h4i : ((val.length : Int) == 4) = false := by simp; omega
          clear h4 h65 HR hR HB
          go_wp2
          go_roundw
          case rel => exact ⟨k + 1, by omega, by go_num, HK.out, HR2⟩
          case measure => simp [intOf]; omega
      · rw [Cp.number_miss (c := (kd, val)) (fun h => h65 h.2)] at hR
        have HR2 := Lib.hid hR
        have h65i : ((kd.toNat : Int) == 65) = false := by simp; omega
        clear h65 HR hR HB
        go_wp2
        go_roundw
        case rel => exact ⟨k + 1, by omega, by go_num, HK.out, HR2⟩
        case measure => simp [intOf]; omega
    · have e : l.drop k = [] := List.drop_eq_nil_of_le (by omega)
      have hR := HR.out
      rw [e] at hR
      have hR' : R = (0, false) := hR.symm
      subst hR'
      clear HR hR e
      go_wp2
      go_ret2
      exact ⟨rfl, hkw⟩

set_option maxRecDepth 20000 in
set_option maxHeartbeats 2000000 in
theorem rcp_ours (n : Nat) (h : n < 4294967296) (w : World) :
    Calls Tryd.prog 18 #[.int .u32 (n : Int)] w fun e w' => ∃ rv, e = .returned rv ∧ Cps w' rv (oursL n) ∧ Kept Nothing w w' := by
  go_enter Tryd.func18, Tryd.ntmps18
  go_wp2
  go_ret
  have kA := (Kept.refl Nothing w).alloc (.cells #[.int .u8 ((n : Int) / 16777216), .int .u8 ((n : Int) / 65536 % 256), .int .u8 ((n : Int) / 256 % 256), .int .u8 ((n : Int) % 256)] 5)
  have bA : By (w.alloc (.cells #[.int .u8 ((n : Int) / 16777216), .int .u8 ((n : Int) / 65536 % 256), .int .u8 ((n : Int) / 256 % 256), .int .u8 ((n : Int) % 256)] 5)) (.slice (some ⟨w.heap.size, 0, none⟩) 4 4) (be4 n) := made_by (l := be4 n) rfl (by
    unfold be4 bys
    simp only [List.map_cons, List.map_nil, by8_mod]
    have h24 : (((n / 16777216 : Nat) : Int)) % 256 = (n : Int) / 16777216 := by omega
    rw [h24]
    rfl) (by simp [be4, maxLen])
  have hz : (w.alloc (.cells #[.int .u8 ((n : Int) / 16777216), .int .u8 ((n : Int) / 65536 % 256), .int .u8 ((n : Int) / 256 % 256), .int .u8 ((n : Int) % 256)] 5)).heap.size = w.heap.size + 1 := World.size_alloc _ _
  generalize w.alloc (.cells #[.int .u8 ((n : Int) / 16777216), .int .u8 ((n : Int) / 65536 % 256), .int .u8 ((n : Int) / 256 % 256), .int .u8 ((n : Int) % 256)] 5) = w1 at *
  have kB := (Kept.refl Nothing w1).alloc (.cells #[.int .u8 0, .int .u8 1, .int .u8 0, .int .u8 1] 5)
  have bB : By (w1.alloc (.cells #[.int .u8 0, .int .u8 1, .int .u8 0, .int .u8 1] 5)) (.slice (some ⟨w.heap.size + 1, 0, none⟩) 4 4) [0, 1, 0, 1] := made_by (l := [0, 1, 0, 1]) hz rfl (by simp [maxLen])
  have hz2 : (w1.alloc (.cells #[.int .u8 0, .int .u8 1, .int .u8 0, .int .u8 1] 5)).heap.size = w.heap.size + 1 + 1 := by rw [World.size_alloc, hz]
  generalize w1.alloc (.cells #[.int .u8 0, .int .u8 1, .int .u8 0, .int .u8 1] 5) = w2 at *
  have kC := (Kept.refl Nothing w2).alloc (.cells #[.int .u8 1, .slice (some ⟨w.heap.size + 1, 0, none⟩) 4 4, .int .u8 2, .slice none 0 0, .int .u8 65, .slice (some ⟨w.heap.size, 0, none⟩) 4 4] 63)
  exact ⟨_, rfl, Cps.of_blk (l := oursL n) (made_blk hz2) ⟨rfl, bB.old kC, rfl, (Bs.nil _).by, rfl, (bA.old kB).old kC, trivial⟩ (by simp [oursL, maxLen]), (kA.trans kB).trans kC⟩
end Go.Proofs.YtembdobkgpojfaaDoor
