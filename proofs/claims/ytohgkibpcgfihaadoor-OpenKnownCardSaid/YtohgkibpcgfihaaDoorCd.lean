
/-
  What the document's Read of chapter 5 does.
-/
import Derived.Test.YtohgkibpcgfihaaDoorCc
namespace Go.Proofs.YtohgkibpcgfihaaDoor
open Go.RowKit

theorem slice_mid (A : Option Addr) (n c : Nat) (lo hi : Int) (i m : Nat) (hlo : lo = (i : Int)) (hhi : hi = (i : Int) + (m : Int)) (hj : i + m ≤ c) (w : World) :
    (Instr.slice 22 (.slice A n c) (some (.int .i64 lo)) (some (.int .i64 hi)) none).run Tryd.prog w = .ok (.slice (if c = i then A else A.map (·.add i)) m (c - i)) w := by
  subst hlo hhi
  have hz := Tryd.sizeOf5
  have he : Tryd.prog.elem 22 = 5 := by kernel_rfl
  rw [run_slice_lh w 22 A n c (by kernel_rfl) .i64 .i64 (i : Int) ((i : Int) + (m : Int)) (by omega) (by omega) (by omega), he, hz]
  simp [sliced]
  omega
theorem By.at {w : World} {A : Option Addr} {n c : Nat} {l : List UInt8} (h : By w (.slice A n c) l) (h0 : 0 < n) : ∃ b o, A = some ⟨b, o, none⟩ ∧ ∀ i, i < n → w.cell? ⟨b, o + i, none⟩ = some (by8 (l.getD i 0)) := by
  obtain ⟨A', c', hv, _, _, hr⟩ := h
  injection hv with h1 h2 h3
  subst h1 h2
  obtain ⟨s1, s2, s3, s4⟩ := hr
  cases A with
  | none => have := s2 rfl; omega
  | some a =>
    have h00 := s3 a rfl 0 _ (getD_bys l 0 h0)
    obtain ⟨b, o, sp⟩ := a
    have hsp : sp = none := by simpa [Addr.add] using World.cell?_spot h00
    subst hsp
    exact ⟨b, o, rfl, fun i hi => by have := s3 _ rfl i _ (getD_bys l i hi); rwa [add_none] at this⟩
theorem rcap_info : (Tryd.prog.info? 83).map (fun i => (i.zero, i.size, i.bytes)) = some (some (.agg #[.int .u8 0, .slice none 0 0]), 2, 32) := by kernel_rfl

/-- What lies in memory between two steps of the document's Read. -/
structure RMid (w0 w : World) (a : Nat) (acc : List Cp) (lv : Value) (wr : World) : Prop where
  own : ∃ xs, wr.ownsRow w.heap.size 83 2 lv acc.length xs ∧ Cells (By w0) xs acc
  kept : Kept Nothing w wr
  less : acc.length ≤ a

set_option maxRecDepth 20000 in
set_option maxHeartbeats 4000000 in
theorem rcp_read_own (v : Value) (b : List UInt8) (w0 w : World) (hv0 : By w0 v b) (hk0 : Kept Nothing w0 w) (hb : b.length ≤ 100000) :
    Calls Tryd.prog 41 #[v] w fun e w' => ∃ rv, e = .returned (.tuple #[rv, .int .i64 ((Cp.out [] b).2.1 : Nat), .int .i64 ((Cp.out [] b).2.2 : Nat)]) ∧ (∃ xs, w'.ownsRow w.heap.size 83 2 rv (Cp.out [] b).1.length xs ∧ Cells (By w0) xs (Cp.out [] b).1) ∧ Kept Nothing w w' := by
  obtain ⟨A, c, rfl, hc, hm⟩ := hv0.form
  have HV0 := Lib.hid hv0
  have HV := Lib.hid (hv0.old hk0)
  obtain ⟨i0, hi, hz0, hz1, hz2⟩ := info_parts rcap_info
  have HS : Hid (Cp.out [] (b.drop 0) = Cp.out [] b) := Lib.hid rfl
  generalize Cp.out [] b = R at *
  unfold maxLen at hm
  clear hv0
  go_enter Tryd.func41, Tryd.ntmps41
  go_wp2
  go_loopw [5, 6] (fun lv i wr => ∃ a acc, i = .int .i64 (a : Nat) ∧ a ≤ b.length ∧ RMid w0 w a acc lv wr ∧ Hid (Cp.out acc (b.drop a) = R)) (fun _ i _ => b.length - (intOf i).toNat)
  case atStart => exact ⟨0, [], rfl, Nat.zero_le _, ⟨⟨[], World.ownsRow_nil _ _ _ _, trivial⟩, Kept.refl _ _, Nat.le_refl _⟩, HS⟩
  case round =>
    clear HS
    obtain ⟨a, acc, rfl, ha, hmid, HR⟩ := hrel
    have HM := Lib.hid hmid
    clear hmid
    by_cases h0 : a < b.length
    · obtain ⟨bk, o, rfl, hcell⟩ := HV.out.at (by omega)
      have hcell0 := hcell
      have cell : ∀ i, i < b.length → wr.cell? ⟨bk, o + i, none⟩ = some (by8 (b.getD i 0)) := fun i hi => HM.out.kept.cell_some (hcell i hi) (fun x => x)
      have h0i : (a : Int) < (b.length : Int) := by omega
      by_cases h1 : a + 1 < b.length
      · have c0 := cell a h0
        have c1 := cell (a + 1) h1
        have h1i : ¬ ((b.length : Int) < (a : Int) + 2) := by omega
        have HD := Lib.hid (Cp.drop_two h1)
        have HDL := Lib.hid (show (b.drop (a + 2)).length = b.length - (a + 2) from List.length_drop)
        clear hcell cell
        generalize b.getD a 0 = x0 at c0 HD
        generalize b.getD (a + 1) 0 = x1 at c1 HD
        unfold by8 at c0 c1
        have hx1 := x1.toNat_lt
        have hx0 := x0.toNat_lt
        by_cases h2 : b.length < a + 2 + x1.toNat
        · have h2i : (b.length : Int) < (a : Int) + 2 + (x1.toNat : Int) := by omega
          have hR := HR.out
          rw [HD.out, Cp.out_short (by rw [HDL.out]; omega)] at hR
          subst hR
          clear HD HDL HR h1 hcell0
          go_wp2
          exact bodyPost_ret (v := .tuple #[.slice none 0 0, .int .i64 2, .int .i64 0]) (by simp [results, Tryd.results41, go_sem]) rfl ⟨_, rfl, ⟨[], World.ownsRow_nil _ _ _ _, trivial⟩, HM.out.kept⟩
        · have h2i : ¬ ((b.length : Int) < (a : Int) + 2 + (x1.toNat : Int)) := by omega
          by_cases h3 : x0.toNat = 2
          · have h3i : (x0.toNat : Int) = 2 := by omega
            have hR := HR.out
            rw [HD.out, Cp.out_step (by rw [HDL.out]; omega) h3] at hR
            have HR1 : Hid (Cp.mid acc ((b.take (a + 2 + x1.toNat)).drop (a + 2)) (b.drop (a + 2 + x1.toNat)) = R) := Lib.hid (by
              rw [← hR, List.drop_take, List.drop_drop, show a + 2 + x1.toNat - (a + 2) = x1.toNat by omega])
            have hq : a + 2 + x1.toNat ≤ b.length := by omega
            have HC : Hid (∀ i, i < b.length → w.cell? ⟨bk, o + i, none⟩ = some (by8 (b.getD i 0))) := Lib.hid hcell0
            clear HD HDL HR h1 h2 hR hcell0
            go_wp2
            go_loopw [5, 6] (fun lv i wr => ∃ a' acc, i = .int .i64 (a' : Nat) ∧ a < a' ∧ a' ≤ a + 2 + x1.toNat ∧ RMid w0 w a' acc lv wr ∧ Hid (Cp.mid acc ((b.take (a + 2 + x1.toNat)).drop a') (b.drop (a + 2 + x1.toNat)) = R)) (fun _ i _ => b.length - (intOf i).toNat)
            case atStart => exact ⟨a + 2, acc, by go_num, by omega, by omega, ⟨HM.out.own, HM.out.kept, by have := HM.out.less; omega⟩, HR1⟩
            case round =>
              clear HR1 HM c0 c1 h1i h2i h0i h3i h3 ha
              obtain ⟨a', acc', rfl, haa, haq, hmid, HR⟩ := hrel
              have HM := Lib.hid hmid
              clear hmid
              have cell : ∀ i, i < b.length → wr.cell? ⟨bk, o + i, none⟩ = some (by8 (b.getD i 0)) := fun i hi => HM.out.kept.cell_some (HC.out i hi) (fun x => x)
              have hgd : ∀ j, j < a + 2 + x1.toNat → (b.take (a + 2 + x1.toNat)).getD j 0 = b.getD j 0 := fun j hj => by rw [List.getD_eq_getElem?_getD, List.getElem?_take_of_lt hj, List.getD_eq_getElem?_getD]
              have hlen : (b.take (a + 2 + x1.toNat)).length = a + 2 + x1.toNat := by rw [List.length_take]; omega
              by_cases k0 : a' < a + 2 + x1.toNat
              · have k0i : (a' : Int) < (a : Int) + 2 + (x1.toNat : Int) := by omega
                by_cases k1 : a' + 1 < a + 2 + x1.toNat
                · have c0 := cell a' (by omega)
                  have c1 := cell (a' + 1) (by omega)
                  have k1i : ¬ ((a : Int) + 2 + (x1.toNat : Int) < (a' : Int) + 2) := by omega
                  have hD := Cp.drop_two (l := b.take (a + 2 + x1.toNat)) (k := a') (by omega)
                  rw [hgd a' k0, hgd (a' + 1) k1] at hD
                  have HD := Lib.hid hD
                  have hDL : ((b.take (a + 2 + x1.toNat)).drop (a' + 2)).length = a + 2 + x1.toNat - (a' + 2) := by rw [List.length_drop, hlen]
                  have HDL := Lib.hid hDL
                  clear hD hDL hgd hlen cell
                  generalize b.getD a' 0 = y0 at c0 HD
                  generalize b.getD (a' + 1) 0 = y1 at c1 HD
                  unfold by8 at c0 c1
                  have hy1 := y1.toNat_lt
                  have hy0 := y0.toNat_lt
                  by_cases k2 : a + 2 + x1.toNat < a' + 2 + y1.toNat
                  · have k2i : (a : Int) + 2 + (x1.toNat : Int) < (a' : Int) + 2 + (y1.toNat : Int) := by omega
                    have hR := HR.out
                    rw [HD.out, Cp.mid_short (by rw [HDL.out]; omega)] at hR
                    subst hR
                    clear HD HDL HR k0 k1 k2
                    go_wp2
                    exact bodyPost_ret (v := .tuple #[.slice none 0 0, .int .i64 2, .int .i64 0]) (by simp [results, Tryd.results41, go_sem]) rfl ⟨_, rfl, ⟨[], World.ownsRow_nil _ _ _ _, trivial⟩, HM.out.kept⟩
                  · have k2i : ¬ ((a : Int) + 2 + (x1.toNat : Int) < (a' : Int) + 2 + (y1.toNat : Int)) := by omega
                    have hR := HR.out
                    rw [HD.out, Cp.mid_step (by rw [HDL.out]; omega), List.drop_drop, show ((b.take (a + 2 + x1.toNat)).drop (a' + 2)).take y1.toNat = (b.drop (a' + 2)).take y1.toNat by rw [List.drop_take, List.take_take, Nat.min_eq_left (by omega)]] at hR
                    have HR2 := Lib.hid hR
                    have hpc := HV0.out.piece (k := a' + 2) (m := y1.toNat) (by omega)
                    have hsl := slice_mid (some ⟨bk, o, none⟩) b.length c ((a' : Int) + 2) ((a' : Int) + 2 + (y1.toNat : Int)) (a' + 2) y1.toNat (by omega) (by omega) (by omega)
                    obtain ⟨xs, ho, hcs⟩ := HM.out.own
                    obtain ⟨A5, c5, rfl, _, _⟩ := ow_form ho
                    have HO := Lib.hid ho
                    have HCS := Lib.hid hcs
                    have HP := Lib.hid hpc
                    have hal := HM.out.less
                    have hsz := HM.out.kept.size
                    have HLn : Hid (acc'.length + 1 ≤ maxLen ∧ (acc'.length + 1) * 32 ≤ 140737488355328) := ⟨by unfold maxLen; omega, by omega⟩
                    have hlx : ((b.drop (a' + 2)).take y1.toNat).length = y1.toNat := by rw [List.length_take, List.length_drop]; omega
                    clear HD HDL HR hR ho hcs hpc
                    generalize (if c = a' + 2 then some (⟨bk, o, none⟩ : Addr) else Option.map (fun x : Addr => x.add (a' + 2)) (some ⟨bk, o, none⟩)) = A9 at *
                    generalize c - (a' + 2) = c9 at *
                    have k0j : (a' : Int) < (b.length : Int) := by omega
                    have k1j : (a' : Int) + 1 < (b.length : Int) := by omega
                    have w1e : IntKind.i64.wrap ((a' : Int) + 2) = (a' : Int) + 2 := IntWalk.i64_in _ (by omega)
                    have w2e : IntKind.i64.wrap ((a' : Int) + 2 + (y1.toNat : Int)) = (a' : Int) + 2 + (y1.toNat : Int) := IntWalk.i64_in _ (by omega)
                    go_wp2_with fail
                    go_region_law (first | (refine step_app _ (by rfl) _ _ 33 (by rfl) w.heap.size 83 i0 _ 2 32 Tryd.underlying33 hi hz0 hz1 hz2 rfl (by decide) (.slice A5 acc'.length c5) acc'.length xs (by rfl) (ow_kept HO.out (((Kept.refl Nothing wr).alloc _).drew) (fun _ _ x => x)) (some ⟨wr.heap.size, 0, none⟩) 1 1 [.int .u8 (y0.toNat : Int), .slice A9 y1.toNat c9] (by rfl) ((src_new wr _ #[.int .u8 (y0.toNat : Int), .slice A9 y1.toNat c9] 2 1 rfl (by simp [Value.oneCell'])).kept ((Kept.refl Nothing _).drew)) HLn.out.1 HLn.out.2 (Nat.le_trans hsz (by simp)) ?_; intro v' w2 ho hg hat; (have HO2 := Lib.hid ho); (have HG := Lib.hid hg); clear ho hg hat))
                    all_goals
                      go_wp2
                      go_roundw
                      case rel =>
                        refine ⟨a' + 2 + y1.toNat, acc' ++ [(y0, (b.drop (a' + 2)).take y1.toNat)], by go_num, by omega, by omega, ⟨⟨_, by rw [List.length_append]; exact HO2.out, Cells.snoc (by simpa [hlx] using HP.out) HCS.out⟩, ?_, by rw [List.length_append]; simp; omega⟩, HR2⟩
                        exact ((HM.out.kept.alloc _).drew).grown HG.out (fun k hk hlt => by have := (HO.out.lt k hk).1; omega)
                      case measure => simp [intOf]; omega
                · have k1i : (a : Int) + 2 + (x1.toNat : Int) < (a' : Int) + 2 := by omega
                  have hR := HR.out
                  rw [Cp.drop_one (by omega), Cp.mid_one] at hR
                  subst hR
                  clear HR k0 k1 cell hgd hlen
                  go_wp2
                  exact bodyPost_ret (v := .tuple #[.slice none 0 0, .int .i64 2, .int .i64 0]) (by simp [results, Tryd.results41, go_sem]) rfl ⟨_, rfl, ⟨[], World.ownsRow_nil _ _ _ _, trivial⟩, HM.out.kept⟩
              · have k0i : ¬ ((a' : Int) < (a : Int) + 2 + (x1.toNat : Int)) := by omega
                have hR := HR.out
                rw [List.drop_eq_nil_of_le (by omega), Cp.mid_nil] at hR
                obtain rfl : a' = a + 2 + x1.toNat := by omega
                have HR2 := Lib.hid hR
                clear HR hR cell hgd hlen k0
                go_wp2
                go_roundw
                case rel => exact ⟨_, acc', by go_num, hq, HM.out, HR2⟩
                case measure => simp [intOf]; omega
          · have h3i : (x0.toNat : Int) ≠ 2 := by omega
            have hR := HR.out
            rw [HD.out, Cp.out_kind (by rw [HDL.out]; omega) h3] at hR
            subst hR
            clear HD HDL HR h1 hcell0
            go_wp2
            exact bodyPost_ret (v := .tuple #[.slice none 0 0, .int .i64 2, .int .i64 4]) (by simp [results, Tryd.results41, go_sem]) rfl ⟨_, rfl, ⟨[], World.ownsRow_nil _ _ _ _, trivial⟩, HM.out.kept⟩
      · have h1i : (b.length : Int) < (a : Int) + 2 := by omega
        have hR := HR.out
        rw [Cp.drop_one (by omega), Cp.out_one] at hR
        subst hR
        clear HR h1 hcell cell hcell0
        go_wp2
        exact bodyPost_ret (v := .tuple #[.slice none 0 0, .int .i64 2, .int .i64 0]) (by simp [results, Tryd.results41, go_sem]) rfl ⟨_, rfl, ⟨[], World.ownsRow_nil _ _ _ _, trivial⟩, HM.out.kept⟩
    · have hR := HR.out
      rw [List.drop_eq_nil_of_le (by omega), Cp.out_nil] at hR
      subst hR
      obtain ⟨xs, ho, hcs⟩ := HM.out.own
      obtain ⟨A4, c4, rfl, _, _⟩ := ow_form ho
      have HP := Lib.hid (show ∃ xs, wr.ownsRow w.heap.size 83 2 (.slice A4 acc.length c4) acc.length xs ∧ Cells (By w0) xs acc from ⟨xs, ho, hcs⟩)
      have h0i : ¬ ((a : Int) < (b.length : Int)) := by omega
      clear HR h0 ho hcs
      go_wp2
      exact bodyPost_ret (v := .tuple #[.slice A4 acc.length c4, .int .i64 0, .int .i64 0]) (by simp [results, Tryd.results41, go_sem]) rfl ⟨_, rfl, HP.out, HM.out.kept⟩
theorem rcp_read (v : Value) (b : List UInt8) (w : World) (hv : By w v b) (hb : b.length ≤ 100000) :
    Calls Tryd.prog 41 #[v] w fun e w' => ∃ rv, e = .returned (.tuple #[rv, .int .i64 ((Cp.out [] b).2.1 : Nat), .int .i64 ((Cp.out [] b).2.2 : Nat)]) ∧ Cps w' rv (Cp.out [] b).1 ∧ Kept Nothing w w' :=
  (rcp_read_own v b w w hv (Kept.refl _ w) hb).mono fun _ _ ⟨rv, he, ⟨_, ho, hc⟩, hk⟩ => ⟨rv, he, Cps.of_own ho (hc.mono (fun _ _ h => h.old hk)), hk⟩
end Go.Proofs.YtohgkibpcgfihaaDoor
