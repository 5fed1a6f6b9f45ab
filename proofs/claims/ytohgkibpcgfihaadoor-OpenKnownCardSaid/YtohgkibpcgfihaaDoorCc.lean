
/-
  What the program's Read of chapter 5 does: one capability, then all.
-/
import Derived.Test.YtohgkibpcgfihaaDoorCb
import Derived.Test.YtohgkibpcgfihaaDoorRn
namespace Go.Proofs.YtohgkibpcgfihaaDoor
open Go.RowKit

theorem Rd.rem_eq {w : World} {p : Nat} {s : RS} (h : Rd w p s) : rdm w p = s.rem := by
  obtain ⟨bs, inn, hb, hs, _, _⟩ := h
  obtain ⟨⟨-, h1, h2, -, h4⟩, -⟩ := cells5 hb
  obtain ⟨A, c, rfl, _, _⟩ := hs.form
  unfold rdm RS.rem
  rw [h1, h2, h4]
  simp only [intOf, Option.getD_some, Int.toNat_natCast]
  rfl
theorem num_got1 (s : RS) : RS.num (s.got 1) < 256 := by
  have h1 := RS.num_lt (s.got 1)
  have h2 := RS.got_len (s := s) (n := 1)
  have : 256 ^ (s.got 1).length ≤ 256 ^ 1 := Nat.pow_le_pow_right (by decide) h2
  omega

theorem rd_cap (p : Nat) (s : RS) (w : World) (h : Rd w p s) :
    Calls Tryd.prog 71 #[.pointer (some ⟨p, 0, none⟩)] w fun e w' => ∃ v, e = .returned (.agg #[.int .u8 (RS.num (s.got 1) : Nat), v]) ∧ Bs w' v (((s.pass 1).pass 1).got (RS.num ((s.pass 1).got 1) : Nat)) ∧ Rd w' p (((s.pass 1).pass 1).pass (RS.num ((s.pass 1).got 1) : Nat)) ∧ Kept (Only p) w w' := by
  have HR := Lib.hid h
  have hlt := h.lt
  have h256 := num_got1 (s.pass 1)
  clear h
  go_enter Tryd.func71, Tryd.ntmps71
  go_wp2_with fail
  refine (rd_byte p s _ (HR.out.kept ((Kept.refl Nothing w).alloc _) (NoRd.nothing _))).mono ?_
  rintro e w1 ⟨rfl, hr, hk⟩
  have HR1 := Lib.hid hr
  have HB1 := Lib.hid ((Blk.fresh w 66 #[.int .u8 0, .slice none 0 0]).kept hk (fun e => by have : w.heap.size = p := e; omega))
  have HK1 := Lib.hid (((Kept.refl (Only p) w).alloc _).trans hk)
  clear hr hk
  go_wp2_with fail
  refine (rd_byte p _ _ HR1.out).mono ?_
  rintro e w2 ⟨rfl, hr, hk⟩
  have HR2 := Lib.hid hr
  have HB2 := Lib.hid (HB1.out.kept hk (fun e => by have : w.heap.size = p := e; omega))
  have HK2 := Lib.hid (HK1.out.trans hk)
  clear hr hk HR1 HB1 HK1
  generalize hn : RS.num ((s.pass 1).got 1) = n at *
  generalize hk : RS.num (s.got 1) = k at *
  generalize hs : (s.pass 1).pass 1 = s2 at *
  have HE := Lib.hid (And.intro hn (And.intro hk hs))
  clear hn hk hs
  go_wp2_with fail
  refine (rd_take p _ _ _ HR2.out).mono ?_
  rintro e w3 ⟨v, rfl, hb, hr, hk⟩
  have HR3 := Lib.hid hr
  have hB3 := HB2.out.kept hk (fun e => by have : w.heap.size = p := e; omega)
  have HK3 := Lib.hid (HK2.out.trans hk)
  have HV := Lib.hid hb
  obtain ⟨A, c, rfl, _, _⟩ := hb.form
  have f0 := hB3.free 0
  have f1 := hB3.free 1
  have c0 := hB3.cell 0
  have c1 := hB3.cell 1
  have HB3 := Lib.hid hB3
  clear hr hk hb hB3 HR2 HB2 HK2
  go_wp2
  have hB4 := (HB3.out.put 0 (.int .u8 (k : Nat))).put 1 (.slice A (s2.got (n : Nat)).length c)
  have k4 := (HK3.out.setCell (p := ⟨w.heap.size, 0, none⟩) (fun h => absurd h (Nat.lt_irrefl _)) (.int .u8 (k : Nat))).setCell (p := ⟨w.heap.size, 1, none⟩) (fun h => absurd h (Nat.lt_irrefl _)) (.slice A (s2.got (n : Nat)).length c)
  have V4 := (HV.out.kept (Kept.own w3 w.heap.size 0 (.int .u8 (k : Nat))) (NoBytes.of_blk HB3.out (by decide))).kept (Kept.own _ w.heap.size 1 (.slice A (s2.got (n : Nat)).length c)) (NoBytes.of_blk (HB3.out.put 0 (.int .u8 (k : Nat))) (by decide))
  have R4 := (HR3.out.kept (Kept.own w3 w.heap.size 0 (.int .u8 (k : Nat))) (NoRd.of_blk HB3.out (by decide))).kept (Kept.own _ w.heap.size 1 (.slice A (s2.got (n : Nat)).length c)) (NoRd.of_blk (HB3.out.put 0 (.int .u8 (k : Nat))) (by decide))
  have d0 := hB4.cell 0
  have d1 := hB4.cell 1
  generalize (w3.setCell ⟨w.heap.size, 0, none⟩ (.int .u8 (k : Nat))).setCell ⟨w.heap.size, 1, none⟩ (.slice A (s2.got (n : Nat)).length c) = w4 at *
  replace d0 : w4.cell? ⟨w.heap.size, 0, none⟩ = some (.int .u8 (k : Nat)) := d0
  replace d1 : w4.cell? ⟨w.heap.size, 1, none⟩ = some (.slice A (s2.got (n : Nat)).length c) := d1
  refine bodyPost_ret (v := .agg #[.int .u8 (k : Nat), .slice A (s2.got (n : Nat)).length c]) (by simp [results, Tryd.results71, go_sem, d0, d1]) rfl ?_
  obtain ⟨rfl, rfl, rfl⟩ := HE.out
  exact ⟨_, rfl, V4, R4, k4⟩

theorem cap_info : (Tryd.prog.info? 66).map (fun i => (i.zero, i.size, i.bytes)) = some (some (.agg #[.int .u8 0, .slice none 0 0]), 2, 32) := by kernel_rfl
theorem grown_kept {w w' : World} {v : Value} (hg : w.grownBy w' v.ownBlock) : Kept (fun k => v.ownBlock = some k) w w' := (Kept.refl _ w).grown hg (fun _ hk _ => hk)
theorem NoRd.own {w : World} {base : Nat} {e : TypeId} {size n : Nat} {v : Value} {xs : List Value} (h : w.ownsRow base e size v n xs) (ht : e ≠ 5 ∧ e ≠ 112 ∧ e ≠ 109) : NoRd w (fun k => v.ownBlock = some k) := by
  intro k hk cs t f hb
  obtain ⟨cs', hh⟩ := ow_lt h hk
  rw [hh] at hb
  injection hb with hb
  injection hb with _ h2
  subst h2
  exact ht
theorem NoBytes.own {w : World} {base : Nat} {e : TypeId} {size n : Nat} {v : Value} {xs : List Value} (h : w.ownsRow base e size v n xs) (ht : e ≠ 5) : NoBytes w (fun k => v.ownBlock = some k) := by
  intro k hk cs f hb
  obtain ⟨cs', hh⟩ := ow_lt h hk
  rw [hh] at hb
  injection hb with hb
  injection hb with _ h2
  exact ht h2
theorem NoBytes.rd {w : World} {p : Nat} {s : RS} (h : Rd w p s) : NoBytes w (Only p) := by
  obtain ⟨_, _, hb, _⟩ := h
  exact NoBytes.of_blk hb (by decide)
theorem ow_rd {w w' : World} {p : Nat} {s : RS} {base : Nat} {e : TypeId} {size n : Nat} {v : Value} {xs : List Value} (h : w.ownsRow base e size v n xs) (hr : Rd w p s) (he : e ≠ 109) (k : Kept (Only p) w w') : w'.ownsRow base e size v n xs := by
  obtain ⟨_, _, hb, _⟩ := hr
  exact ow_kept h k (ow_far h hb he)
theorem Blk.rd {w w' : World} {p g : Nat} {s : RS} {t : TypeId} {cs : Array Value} (h : Blk w g t cs) (hr : Rd w p s) (ht : t ≠ 109) (k : Kept (Only p) w w') : Blk w' g t cs := by
  obtain ⟨_, _, hb, _⟩ := hr
  exact h.kept k (fun e => h.apart hb ht e)
theorem Cells.bs {w w' : World} {S : Nat → Prop} {xs : List Value} {l : List Cp} (h : Cells (Bs w) xs l) (k : Kept S w w') (hs : NoBytes w S) : Cells (Bs w') xs l := h.mono (fun _ _ hb => hb.kept k hs)
theorem Kept.rd {w w1 w2 : World} {p : Nat} (h : Kept Nothing w w1) (k : Kept (Only p) w1 w2) (hp : w.heap.size ≤ p) : Kept Nothing w w2 :=
  h.trans_new k (fun i hi e => by have : i = p := e; omega)

theorem pass_es (s : RS) (n : Int) : (s.pass n).es = s.es := by
  unfold RS.pass
  split
  · rfl
  · exact (RS.fits_l s n).2.2

/-- What lies in memory between two steps of Read. -/
structure Mid (w : World) (p : Nat) (b : List UInt8) (s : RS) (acc : List Cp) (lv : Value) (wr : World) : Prop where
  rd : Rd wr p s
  own : ∃ xs, wr.ownsRow w.heap.size 66 2 lv acc.length xs ∧ Cells (Bs wr) xs acc
  kept : Kept Nothing w wr
  cell : Blk wr w.heap.size 30 #[.int .u8 0, .int .u8 0]
  at_ : w.heap.size ≤ p
  less : acc.length + s.rem ≤ 2 * b.length + 1
theorem Mid.step {w wr w' : World} {p : Nat} {b : List UInt8} {s s' : RS} {acc : List Cp} {lv : Value} (h : Mid w p b s acc lv wr) (hr : Rd w' p s') (k : Kept (Only p) wr w') (hs : s'.rem ≤ s.rem) : Mid w p b s' acc lv w' := by
  obtain ⟨xs, ho, hc⟩ := h.own
  exact ⟨hr, ⟨xs, ow_rd ho h.rd (by decide) k, hc.bs k (NoBytes.rd h.rd)⟩, h.kept.rd k h.at_, h.cell.rd h.rd (by decide) k, h.at_, by have := h.less; omega⟩
theorem Mid.draw {w wr : World} {p : Nat} {b : List UInt8} {s : RS} {acc : List Cp} {lv : Value} (h : Mid w p b s acc lv wr) (n : Nat) : Mid w p b s acc lv (wr.drewN n) :=
  h.step (h.rd.drewN n) ((Kept.refl _ wr).drewN n) (Nat.le_refl _)

theorem Mid.told {w wr : World} {p : Nat} {b : List UInt8} {s : RS} {acc : List Cp} {lv : Value} (h : Mid w p b s acc lv wr) (x y : Value) :
    (∃ ys, ((wr.setCell ⟨w.heap.size, 0, none⟩ x).setCell ⟨w.heap.size, 1, none⟩ y).ownsRow w.heap.size 66 2 lv acc.length ys ∧ Cells (Bs ((wr.setCell ⟨w.heap.size, 0, none⟩ x).setCell ⟨w.heap.size, 1, none⟩ y)) ys acc) ∧ Kept Nothing w ((wr.setCell ⟨w.heap.size, 0, none⟩ x).setCell ⟨w.heap.size, 1, none⟩ y) ∧
      ((wr.setCell ⟨w.heap.size, 0, none⟩ x).setCell ⟨w.heap.size, 1, none⟩ y).cell? ⟨w.heap.size, 0, none⟩ = some x ∧ ((wr.setCell ⟨w.heap.size, 0, none⟩ x).setCell ⟨w.heap.size, 1, none⟩ y).cell? ⟨w.heap.size, 1, none⟩ = some y := by
  obtain ⟨xs, ho, hc⟩ := h.own
  have b1 := h.cell.put 0 x
  have b2 := b1.put 1 y
  have k1 := Kept.own wr w.heap.size 0 x
  have k2 := Kept.own (wr.setCell ⟨w.heap.size, 0, none⟩ x) w.heap.size 1 y
  have o1 := ow_kept ho k1 (ow_far ho h.cell (by decide))
  have o2 := ow_kept o1 k2 (ow_far o1 b1 (by decide))
  have c2 := (hc.bs k1 (NoBytes.of_blk h.cell (by decide))).bs k2 (NoBytes.of_blk b1 (by decide))
  exact ⟨⟨xs, o2, c2⟩, (h.kept.setCell (p := ⟨w.heap.size, 0, none⟩) (fun h => absurd h (Nat.lt_irrefl _)) x).setCell (p := ⟨w.heap.size, 1, none⟩) (fun h => absurd h (Nat.lt_irrefl _)) y, b2.cell 0, b2.cell 1⟩
theorem Mid.push {w wr w7 : World} {p : Nat} {b : List UInt8} {s : RS} {acc : List Cp} {lv v' : Value} {xs : List Value} (h : Mid w p b s acc lv wr) (ho : wr.ownsRow w.heap.size 66 2 lv acc.length xs) (hc : Cells (Bs wr) xs acc)
    (c : Cp) (u : Value) (hu : Bs wr u c.2) (o : Obj) (hg : (wr.alloc o).grownBy w7 lv.ownBlock) (ho7 : w7.ownsRow w.heap.size 66 2 v' (acc.length + 1) (xs ++ [by8 c.1, u])) (hl : acc.length + 1 + s.rem ≤ 2 * b.length + 1) : Mid w p b s (acc ++ [c]) v' w7 := by
  have k1 := (Kept.refl Nothing wr).alloc o
  have k2 := grown_kept hg
  have ho1 := ow_kept ho k1 (fun _ _ x => x)
  have hb1 := h.cell.kept k1 (fun x => x)
  refine ⟨(h.rd.kept k1 (NoRd.nothing _)).kept k2 (NoRd.own ho1 (by decide)), ⟨_, by rw [List.length_append]; exact ho7, Cells.snoc ((hu.kept k1 (NoBytes.nothing _)).kept k2 (NoBytes.own ho1 (by decide))) ((hc.bs k1 (NoBytes.nothing _)).bs k2 (NoBytes.own ho1 (by decide)))⟩, (h.kept.trans k1).grown hg (fun k hk hlt => by have := (ho.lt k hk).1; omega), hb1.kept k2 (fun e => ?_), h.at_, by rw [List.length_append]; exact hl⟩
  obtain ⟨cs', hh⟩ := ow_lt ho1 e
  exact hb1.apart (t' := 66) hh (by decide) rfl

set_option maxRecDepth 20000 in
set_option maxHeartbeats 4000000 in
theorem cp_read_own (v : Value) (b : List UInt8) (w : World) (hv : By w v b) (hb : b.length ≤ 100000) :
    Calls Tryd.prog 39 #[v] w fun e w' => ∃ rv, e = .returned (.tuple #[rv, .agg #[.int .u8 ((Cp.out [] b).2.1 : Nat), .int .u8 ((Cp.out [] b).2.2 : Nat)]]) ∧ (∃ xs, w'.ownsRow w.heap.size 66 2 rv (Cp.out [] b).1.length xs ∧ Cells (Bs w') xs (Cp.out [] b).1) ∧ Kept Nothing w w' := by
  have HV := Lib.hid hv
  obtain ⟨i0, hi, hz0, hz1, hz2⟩ := info_parts cap_info
  have HST := Lib.hid (Cp.On.start b)
  generalize Cp.out [] b = R at *
  clear hv
  go_enter Tryd.func39, Tryd.ntmps39
  go_wp2_with fail
  refine (rd_new v b _ (HV.out.old ((Kept.refl _ w).alloc _)) (by omega)).mono ?_
  rintro e w1 ⟨p, rfl, hr, hk, hp⟩
  have hM : Mid w p b ⟨b, 0, [], 0⟩ [] (.slice none 0 0) w1 := ⟨hr, ⟨[], World.ownsRow_nil _ _ _ _, trivial⟩, ((Kept.refl _ w).alloc _).trans hk, (Blk.fresh w 30 #[.int .u8 0, .int .u8 0]).kept hk (fun x => x), by rw [World.size_alloc] at hp; omega, by simp [RS.rem]⟩
  have HM := Lib.hid hM
  clear hr hk hp hM
  go_wp2
  go_loopw [4] (fun lv wr => ∃ s acc, Mid w p b s acc lv wr ∧ Cp.On b R s acc) (fun _ wr => rdm wr p)
  case atStart => exact ⟨_, _, HM.out, HST.out⟩
  case round =>
    clear HM HST
    obtain ⟨s, acc, hm, hon⟩ := hrel
    have hrem := hm.rd.rem_eq
    have HM := Lib.hid hm
    have HON := Lib.hid hon
    by_cases h0 : 0 < s.left
    · have hli : (0 : Int) < (s.left : Int) := by omega
      have hless := RS.pass_less hm.rd.ok h0 (n := 1) (by omega)
      have he := RS.left_err h0
      have hes : s.es.length ≤ 1 := by
        obtain ⟨_, ⟨_, h, _⟩ | ⟨h, _⟩⟩ := hon
        · rw [h]; simp
        · exact absurd he h
      have hes2 : ((s.pass 1).pass 1).es.length ≤ 1 := by
        have h1 : (s.pass 1).es = s.es := pass_es s 1
        rw [pass_es, h1]; exact hes
      have HSTEP := Lib.hid (Cp.On.step hon h0)
      have hk256 := num_got1 s
      have hn256 := num_got1 (s.pass 1)
      clear hm hon h0
      go_wp2_with fail
      refine (rd_left p s wr HM.out.rd).mono ?_
      rintro e w2 ⟨rfl, m, rfl⟩
      have HM1 := Lib.hid (HM.out.draw m)
      go_wp2_with fail
      refine (rd_byte p s _ HM1.out.rd).mono ?_
      rintro e w2 ⟨rfl, hr, hk⟩
      have HM2 := Lib.hid (HM1.out.step hr hk (by omega))
      clear hr hk HM1 HM
      go_wp2_with fail
      refine (rd_byte p _ _ HM2.out.rd).mono ?_
      rintro e w3 ⟨rfl, hr, hk⟩
      have hle2 := RS.pass_rem (s.pass 1) 1
      have HM3 := Lib.hid (HM2.out.step hr hk hle2)
      clear hr hk HM2
      generalize RS.num ((s.pass 1).got 1) = n at *
      generalize RS.num (s.got 1) = kd at *
      generalize (s.pass 1).pass 1 = s2 at *
      go_wp2_with fail
      refine (rd_open p _ _ _ HM3.out.rd (by omega)).mono ?_
      rintro e w4 ⟨rfl, hr, hk⟩
      have hle3 := RS.opened_rem s2 (n : Nat)
      have HM4 := Lib.hid (HM3.out.step hr hk hle3)
      clear hr hk HM3
      generalize s2.opened (n : Nat) = s3 at *
      go_wp2_with fail
      refine (rd_err p _ _ HM4.out.rd).mono ?_
      rintro e w5 ⟨rfl, rfl⟩
      by_cases hcase : s3.e = 0 ∧ kd ≠ 2
      · obtain ⟨hz, hkd⟩ := hcase
        have hR : R = Cp.bad 4 := by
          rcases HSTEP.out with ⟨_, _, h⟩ | ⟨_, h, _⟩ | ⟨h, _⟩
          · exact h
          · exact absurd h hkd
          · exact absurd hz h
        subst hR
        have hzb : (s3.e == 0) = true := by simpa using hz
        have hkb : ((kd : Int) == 2) = false := by simp; omega
        have f0 := HM4.out.cell.free 0
        have f1 := HM4.out.cell.free 1
        have c0 := HM4.out.cell.cell 0
        have c1 := HM4.out.cell.cell 1
        clear hz hkd HSTEP hle2 hle3 hless hrem HON hes hes2 he hli
        go_wp2
        have hB := (HM4.out.cell.put 0 (.int .u8 2)).put 1 (.int .u8 4)
        have k4 := (HM4.out.kept.setCell (p := ⟨w.heap.size, 0, none⟩) (fun h => absurd h (Nat.lt_irrefl _)) (.int .u8 2)).setCell (p := ⟨w.heap.size, 1, none⟩) (fun h => absurd h (Nat.lt_irrefl _)) (.int .u8 4)
        have d0 := hB.cell 0
        have d1 := hB.cell 1
        generalize (w4.setCell ⟨w.heap.size, 0, none⟩ (.int .u8 2)).setCell ⟨w.heap.size, 1, none⟩ (.int .u8 4) = w5 at *
        replace d0 : w5.cell? ⟨w.heap.size, 0, none⟩ = some (.int .u8 2) := d0
        replace d1 : w5.cell? ⟨w.heap.size, 1, none⟩ = some (.int .u8 4) := d1
        exact bodyPost_ret (v := .tuple #[.slice none 0 0, .agg #[.int .u8 2, .int .u8 4]]) (by simp [results, Tryd.results39, go_sem, d0, d1]) rfl ⟨_, rfl, ⟨[], World.ownsRow_nil _ _ _ _, trivial⟩, k4⟩
      · have hin : Cp.In b R s3 acc := by
          rcases HSTEP.out with ⟨h1, h2, _⟩ | ⟨_, _, h⟩ | ⟨_, h⟩
          · exact absurd ⟨h1, h2⟩ hcase
          · exact h
          · exact h
        have HIN := Lib.hid hin
        have hcond : (s3.e == 0) = false ∨ ((s3.e == 0) = true ∧ ((kd : Int) != 2) = false) := by
          by_cases hz : s3.e = 0
          · right
            refine ⟨by simpa using hz, ?_⟩
            by_cases hk2 : kd = 2
            · simp [hk2]
            · exact absurd ⟨hz, hk2⟩ hcase
          · left; simpa using hz
        have hrm : s3.rem < s.rem := by omega
        clear hin hcase HSTEP hle2 hle3 hless HON hes hes2 he hli
        have HRM := Lib.hid (And.intro hrem hrm)
        clear hrem hrm
        rcases hcond with hz | ⟨hz, hkb⟩
        all_goals
          go_wp2
          go_loopw [4] (fun lv wr => ∃ s acc, Mid w p b s acc lv wr ∧ Cp.In b R s acc ∧ s.rem ≤ s3.rem) (fun _ wr => rdm wr p)
          case atStart => exact ⟨_, _, HM4.out, HIN.out, Nat.le_refl _⟩
          case round =>
            clear HM4 HIN hz
            try clear hkb
            obtain ⟨t, ac, hm, hin, hle⟩ := hrel
            have hrem := hm.rd.rem_eq
            have HM := Lib.hid hm
            have HIN := Lib.hid hin
            by_cases h0 : 0 < t.left
            · have hli : (0 : Int) < (t.left : Int) := by omega
              have hless := RS.pass_less hm.rd.ok h0 (n := 1) (by omega)
              have hl2 := RS.pass_rem (t.pass 1) 1
              have hl3 := RS.pass_rem ((t.pass 1).pass 1) (RS.num ((t.pass 1).got 1) : Nat)
              have HSTEP := Lib.hid (Cp.In.step hin h0)
              have hk256 := num_got1 t
              clear hm hin h0
              go_wp2_with fail
              refine (rd_left p t wr HM.out.rd).mono ?_
              rintro e w2 ⟨rfl, m, rfl⟩
              have HM1 := Lib.hid (HM.out.draw m)
              go_wp2_with fail
              refine (rd_cap p t _ HM1.out.rd).mono ?_
              rintro e w6 ⟨v6, rfl, hb6, hr, hk⟩
              have hM6 := HM1.out.step hr hk (by omega)
              obtain ⟨A6, c6, rfl, _, _⟩ := hb6.form
              obtain ⟨xs, ho, hc⟩ := hM6.own
              have HM6 := Lib.hid hM6
              have HO := Lib.hid ho
              have HC := Lib.hid hc
              have HB := Lib.hid hb6
              have hacc := HM.out.less
              have hsz := hM6.kept.size
              clear hr hk hb6 hM6 ho hc HM HM1
              generalize RS.num (t.got 1) = kd at *
              generalize ((t.pass 1).pass 1).got (RS.num ((t.pass 1).got 1) : Nat) = val at *
              generalize ((t.pass 1).pass 1).pass (RS.num ((t.pass 1).got 1) : Nat) = t3 at *
              go_wp2_with (at_builtin; refine wpList_app _ rfl _ _ 26 rfl w.heap.size 66 i0 _ 2 32 Tryd.underlying26 hi hz0 hz1 hz2 rfl (by decide) u4 ac.length xs rfl (ow_kept HO.out ((Kept.refl Nothing w6).alloc _) (fun _ _ x => x)) (some ⟨w6.heap.size, 0, none⟩) 1 1 [.int .u8 (kd : Nat), .slice A6 val.length c6] rfl (src_new w6 _ #[.int .u8 (kd : Nat), .slice A6 val.length c6] 2 1 rfl (by simp [Value.oneCell'])) (by simp [maxLen]; omega) (by omega) (by simp; omega) ?_; intro v' w7 ho7 hg7 hat7)
              have HM7 := HM6.out.push HO.out HC.out (UInt8.ofNat kd, val) _ HB.out _ hg7 (by rw [byNat kd hk256]; exact ho7) (by omega)
              go_roundw
              case rel =>
                exact ⟨t3, _, HM7, HSTEP.out, by omega⟩
              case measure => rw [HM7.rd.rem_eq, hrem]; omega
            · have hl0 : t.left = 0 := by omega
              have hli : (t.left : Int) = 0 := by omega
              have HON := Lib.hid (Cp.In.close hin hl0)
              have hcr := RS.close_rem hm.rd.ok
              clear hm hin h0 HIN
              go_wp2_with fail
              refine (rd_left p t wr HM.out.rd).mono ?_
              rintro e w2 ⟨rfl, m, rfl⟩
              have HM1 := Lib.hid (HM.out.draw m)
              go_wp2_with fail
              refine (rd_close p t _ HM1.out.rd).mono ?_
              rintro e w6 ⟨rfl, hr, hk⟩
              have HM6 := Lib.hid (HM1.out.step hr hk hcr)
              have hre := hr.rem_eq
              clear hr hk HM HM1
              go_wp2
              go_roundw
              case rel => exact ⟨_, _, HM6.out, HON.out⟩
              case measure => rw [hre, HRM.out.1]; have := HRM.out.2; omega
    · have hl0 : s.left = 0 := by omega
      have hli : (s.left : Int) = 0 := by omega
      have HD := Lib.hid (Cp.On.done hon hl0)
      clear hm hon h0 HON
      go_wp2_with fail
      refine (rd_left p s wr HM.out.rd).mono ?_
      rintro e w2 ⟨rfl, m, rfl⟩
      have HM1 := Lib.hid (HM.out.draw m)
      clear HM hrem
      go_wp2_with fail
      refine (rd_err p _ _ HM1.out.rd).mono ?_
      rintro e w5 ⟨rfl, rfl⟩
      have f0 := HM1.out.cell.free 0
      have f1 := HM1.out.cell.free 1
      have c0 := HM1.out.cell.cell 0
      have c1 := HM1.out.cell.cell 1
      have HW := Lib.hid HM1.out.kept
      rcases HD.out with ⟨hz, hR⟩ | ⟨hz, hR⟩
      · have hzb : (s.e == 0) = true := by simpa using hz
        subst hR
        obtain ⟨xs, ho, hc⟩ := HM1.out.own
        obtain ⟨A4, c4, rfl, _, _⟩ := ow_form ho
        have HT := Lib.hid (HM1.out.told (.int .u8 0) (.int .u8 0))
        clear hz HD ho hc
        generalize wr.drewN m = w4 at *
        go_wp2
        obtain ⟨q1, q2, q3, q4⟩ := HT.out
        generalize (w4.setCell ⟨w.heap.size, 0, none⟩ (.int .u8 0)).setCell ⟨w.heap.size, 1, none⟩ (.int .u8 0) = w5 at *
        exact bodyPost_ret (v := .tuple #[.slice A4 acc.length c4, .agg #[.int .u8 0, .int .u8 0]]) (by simp [results, Tryd.results39, go_sem, q3, q4]) rfl ⟨_, rfl, q1, q2⟩
      · have hzb : (s.e == 0) = false := by simpa using hz
        subst hR
        have hBl := HM1.out.cell
        clear hz HD
        generalize wr.drewN m = w4 at *
        go_wp2
        have hB := (hBl.put 0 (.int .u8 2)).put 1 (.int .u8 0)
        have k4 := (HW.out.setCell (p := ⟨w.heap.size, 0, none⟩) (fun h => absurd h (Nat.lt_irrefl _)) (.int .u8 2)).setCell (p := ⟨w.heap.size, 1, none⟩) (fun h => absurd h (Nat.lt_irrefl _)) (.int .u8 0)
        have d0 := hB.cell 0
        have d1 := hB.cell 1
        generalize (w4.setCell ⟨w.heap.size, 0, none⟩ (.int .u8 2)).setCell ⟨w.heap.size, 1, none⟩ (.int .u8 0) = w5 at *
        replace d0 : w5.cell? ⟨w.heap.size, 0, none⟩ = some (.int .u8 2) := d0
        replace d1 : w5.cell? ⟨w.heap.size, 1, none⟩ = some (.int .u8 0) := d1
        exact bodyPost_ret (v := .tuple #[.slice none 0 0, .agg #[.int .u8 2, .int .u8 0]]) (by simp [results, Tryd.results39, go_sem, d0, d1]) rfl ⟨_, rfl, ⟨[], World.ownsRow_nil _ _ _ _, trivial⟩, k4⟩
theorem cp_read (v : Value) (b : List UInt8) (w : World) (hv : By w v b) (hb : b.length ≤ 100000) :
    Calls Tryd.prog 39 #[v] w fun e w' => ∃ rv, e = .returned (.tuple #[rv, .agg #[.int .u8 ((Cp.out [] b).2.1 : Nat), .int .u8 ((Cp.out [] b).2.2 : Nat)]]) ∧ Cps w' rv (Cp.out [] b).1 ∧ Kept Nothing w w' :=
  (cp_read_own v b w hv hb).mono fun _ _ ⟨rv, he, ⟨_, ho, hc⟩, hk⟩ => ⟨rv, he, Cps.of_own ho (hc.mono (fun _ _ h => h.by)), hk⟩
end Go.Proofs.YtohgkibpcgfihaaDoor
