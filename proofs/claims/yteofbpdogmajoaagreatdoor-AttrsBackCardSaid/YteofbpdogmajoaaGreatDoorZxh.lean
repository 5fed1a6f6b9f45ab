
/-
  The law's Made (a path that may be, of any), its rows apart.
-/
import Derived.Test.YteofbpdogmajoaaGreatDoorZxn
namespace Go.Proofs.YteofbpdogmajoaaGreatDoor
open Go.RowKit

/-- A path of the call's own whose rows lie apart. -/
def PownD (w : World) (B : Nat) (v : Value) (l : List Seg) : Prop := ∃ xs, w.ownsRow B 71 2 v l.length xs ∧ Rws w B xs l ∧ Dist xs
theorem PownD.pown {w : World} {B : Nat} {v : Value} {l : List Seg} (h : PownD w B v l) : Pown w B v l := by
  obtain ⟨xs, h1, h2, _⟩ := h; exact ⟨xs, h1, h2⟩
theorem PownD.nil (w : World) (B : Nat) : PownD w B (.slice none 0 0) [] := ⟨[], World.ownsRow_nil _ _ _ _, trivial, List.Pairwise.nil⟩
theorem PownD.old {w w' : World} {B : Nat} {v : Value} {l : List Seg} (h : PownD w B v l) (k : Kept Nothing w w') : PownD w' B v l := by
  obtain ⟨xs, h1, h2, h3⟩ := h; exact ⟨xs, ow_kept h1 k (fun _ _ x => x), h2.old k, h3⟩
set_option maxRecDepth 20000 in
set_option maxHeartbeats 2000000 in
theorem made_anyD (v : Value) (l : List Seg) (w : World) (h : Pts w v l) :
    Calls Tryz.prog 41 #[v] w fun e w' => ∃ v', e = .returned v' ∧ PownD w' w.heap.size v' (madeF l) ∧ Kept Nothing w w' := by
  obtain ⟨A, c, rfl, hc, hm⟩ := h.form
  obtain ⟨i0, hi, hz0, hz1, hz2⟩ := info_parts sg_info
  obtain ⟨j0, hj, hy0, hy1, hy2⟩ := info_parts as_info
  have HV := Lib.hid h
  have hL : l.length ≤ 9223372036854775807 := by unfold maxLen at hm; omega
  clear h
  go_enter Tryz.func41, Tryz.ntmps41
  go_upto_region 3 with fail
  go_loopw [3, 9] (fun q i wr => ∃ k : Nat, i = .int .i64 (k : Int) ∧ k ≤ l.length ∧ k ≤ 12 ∧ Hid (PownD wr w.heap.size q ((l.take k).mapIdx mkS)) ∧ Hid (Kept Nothing w wr)) (fun _ i _ => l.length - (intOf i).toNat)
  case atStart => exact ⟨0, rfl, Nat.zero_le _, Nat.zero_le _, Lib.hid (PownD.nil _ _), Lib.hid (Kept.refl _ _)⟩
  case round =>
    obtain ⟨k, rfl, hk, hk12, HP, KK⟩ := hrel
    by_cases hlt : k < l.length
    · obtain ⟨b, o, Au, cu, rfl, p0w, p1w, hpw⟩ := HV.out.at2 hlt
      have p0 := KK.out.cell_some p0w (fun x => x)
      have p1 := KK.out.cell_some p1w (fun x => x)
      have i1 : (0 : Int) ≤ (k : Int) := by omega
      have i2 : (k : Int) < (l.length : Int) := by omega
      have HN := Lib.hid (madeF_next hlt)
      have HAS := Lib.hid hpw
      have HPL : Hid (((l.take k).mapIdx mkS).length = k) := Lib.hid (by rw [List.length_mapIdx, List.length_take]; omega)
      clear p0w p1w hpw
      generalize hsg : l.getD k (0, []) = sg at *
      obtain ⟨sk, sn⟩ := sg
      clear hsg
      simp only at p0 p1
      replace HAS : Hid (As w (.slice Au sn.length cu) sn) := HAS
      by_cases h12 : k = 12
      · have h12b : ((k : Int) == 12) = true := by simp; omega
        have HF : Hid (PownD wr w.heap.size _ (madeF l)) := Lib.hid (by have := HP.out; rw [h12] at this; exact this)
        clear HN h12
        go_wp2
        go_ret
        exact ⟨_, rfl, HF.out.old ((Kept.refl Nothing wr).alloc _), KK.out.alloc _⟩
      · have h12b : ((k : Int) == 12) = false := by simp; omega
        have hk11 : k ≤ 11 := by omega
        obtain ⟨xs, oq, hr, hdi⟩ := HP.out
        have HDI := Lib.hid hdi
        clear hdi
        rw [HPL.out] at oq
        have OQ := Lib.hid oq
        have HR := Lib.hid hr
        obtain ⟨Aq, cq, rfl, _, _⟩ := ow_form oq
        clear oq hr
        have hcu : sn.length ≤ cu ∧ cu ≤ maxLen := by obtain ⟨_, _, e, h1, h2⟩ := HAS.out.form; cases e; exact ⟨h1, h2⟩
        have hmin : (if (60 : Int) < (sn.length : Int) then (60 : Int) else (sn.length : Int)) = ((min sn.length 60 : Nat) : Int) := by split <;> omega
        have hmin2 : min (sn.length : Int) (60 : Int) = ((min sn.length 60 : Nat) : Int) := by omega
        have hsl := slice_toA Au sn.length cu (min sn.length 60) (by omega)
        have HA2 := Lib.hid ((HAS.out.pre (m := min sn.length 60) (by omega)))
        have htk : sn.take (min sn.length 60) = sn.take 60 := by
          by_cases h : sn.length ≤ 60
          · rw [List.take_of_length_le (by omega), List.take_of_length_le (by omega)]
          · rw [show min sn.length 60 = 60 by omega]
        have hlen : (sn.take 60).length = min sn.length 60 := by rw [List.length_take]; omega
        rw [htk] at HA2
        have HLEN := Lib.hid hlen
        have hml : min sn.length 60 ≤ 60 := by omega
        have KA := Lib.hid ((Kept.refl Nothing wr).alloc (.cells #[.int .u8 (sk.toNat : Int), .slice Au sn.length cu] 71))
        have BX := Lib.hid (Blk.fresh wr 71 #[.int .u8 (sk.toNat : Int), .slice Au sn.length cu])
        have HSRC := Lib.hid (HA2.out.old (KK.out.trans KA.out)).src
        rw [hlen] at HSRC
        have HF := Lib.hid (fun n hn => HAS.out.1 n (List.mem_of_mem_take (i := 60) hn))
        have HL5 : Hid (0 + min sn.length 60 ≤ maxLen ∧ (0 + min sn.length 60) * 4 ≤ 140737488355328) := Lib.hid (by unfold maxLen; omega)
        have HL6 : Hid (k + 1 ≤ maxLen ∧ (k + 1) * 32 ≤ 140737488355328) := Lib.hid (by unfold maxLen; omega)
        have hkm := kd_mod sk
        have hkm2 : 1 + (sk.toNat : Int) % 4 = ((1 + sk % 4 : UInt8).toNat : Int) := by
          have : (1 + sk % 4 : UInt8).toNat = 1 + sk.toNat % 4 := by rw [UInt8.toNat_add, UInt8.toNat_mod]; simp; omega
          omega
        have hk4 := sk.toNat_lt
        have hkz := KK.out.size
        rw [show mkS k (sk, sn) = (1 + sk % 4, if sn = [] then [k] else sn.take 60) from rfl] at HN
        generalize (1 + sk % 4 : UInt8) = sk2 at *
        by_cases he : sn = []
        · rw [if_pos he] at HN
          subst he
          simp only [List.length_nil, Nat.zero_min, List.take_nil, Int.ofNat_zero, Nat.add_zero] at *
          have hcv : IntKind.u32.wrap (k : Int) = (k : Int) := by simp [IntKind.wrap, IntKind.bits, IntKind.signed]; omega
          have hk32 : k < 4294967296 := by omega
          clear HP h12
          go_wp2_with (first
            | (at_builtin; refine wpList_app _ rfl _ _ 25 rfl w.heap.size 71 i0 _ 2 32 Tryz.underlying25 hi hz0 hz1 hz2 rfl (by decide) (.slice Aq k cq) k xs rfl (ow_kept OQ.out ((K7.out.alloc _).alloc _) (fun _ _ x => x)) (some ⟨w7.heap.size + 1, 0, none⟩) 1 1 [.int .u8 (sk2.toNat : Int), .slice (some ⟨w7.heap.size, 0, none⟩) 1 1] rfl (by have hsr := src_new (w7.alloc (.cells #[.int .u32 (k : Int)] 27)) 71 #[.int .u8 (sk2.toNat : Int), .slice (some ⟨w7.heap.size, 0, none⟩) 1 1] 2 1 rfl (by simp [Value.oneCell']); rw [World.size_alloc] at hsr; exact hsr) HL6.out.1 HL6.out.2 (Nat.le_trans hkz ((K7.out.alloc (.cells #[.int .u32 (k : Int)] 27)).alloc (.cells #[.int .u8 (sk2.toNat : Int), .slice (some ⟨w7.heap.size, 0, none⟩) 1 1] 71)).size) ?_; intro v8 w8 ho8 hg8 _)
            | (at_builtin; refine wpList_app _ rfl _ _ 69 rfl w.heap.size 27 j0 _ 1 4 Tryz.underlying69 hj hy0 hy1 hy2 rfl (by decide) (.slice none 0 0) 0 [] rfl (World.ownsRow_nil _ _ _ _) Au 0 cu (ass []) rfl HSRC.out HL5.out.1 HL5.out.2 (Nat.le_trans hkz KA.out.size) ?_; intro v7 w7 ho7 hg7 _; (rw [Nat.zero_add, List.nil_append] at ho7); (obtain ⟨A7, c7, rfl, _, _⟩ := ow_form ho7); (have K7 := Lib.hid (KA.out.grown hg7 (fun _ hk _ => by cases hk))); (have y0 := (BX.out.kept ((Kept.refl Nothing _).grown hg7 (fun _ hk _ => by cases hk)) (fun x => x)).cell 0); (have y1 := ((BX.out.kept ((Kept.refl Nothing _).grown hg7 (fun _ hk _ => by cases hk)) (fun x => x)).alloc (.cells #[.int .u32 (k : Int)] 27)).cell 0); clear ho7 hg7))
          go_roundw
          case rel =>
            refine ⟨k + 1, by go_num, by omega, by omega, Lib.hid ?_, Lib.hid ((KK.out.trans ((K7.out.alloc _).alloc _)).own_grown (ow_kept OQ.out ((K7.out.alloc _).alloc _) (fun _ _ x => x)) (Nat.le_refl _) hg8)⟩
            rw [HN.out]
            refine ⟨xs ++ [by8 sk2, .slice (some ⟨w7.heap.size, 0, none⟩) 1 1], ?_, ?_, HDI.out.push (HR.out.old K7.out) rfl (fun g hg => by simp only [Value.ownBlock, Option.some.injEq] at hg; omega)⟩
            · rw [List.length_append, HPL.out]; exact ho8
            · exact Rws.push (c := (sk2, [k])) (ow_kept OQ.out ((K7.out.alloc _).alloc _) (fun _ _ x => x)) (HR.out.old ((K7.out.alloc _).alloc _)) (ow_kept (own_weakA (own_oneA w7 (.int .u32 (k : Int))) (Nat.le_trans hkz K7.out.size)) ((Kept.refl Nothing _).alloc _) (fun _ _ x => x)) (fun m hm => by obtain rfl := List.mem_singleton.1 hm; exact hk32) hg8
          case measure => simp [intOf]; omega
        · rw [if_neg he] at HN
          have hpos : 0 < min sn.length 60 := by have := List.length_pos_iff.2 he; omega
          have hnz : ((min sn.length 60 : Nat) : Int) ≠ 0 := by omega
          have hnb : (((min sn.length 60 : Nat) : Int) == 0) = false := by simp; omega
          generalize min sn.length 60 = ml at *
          generalize sn.take 60 = vt at *
          clear he htk hlen HA2 HP h12
          go_wp2_with (first
            | (at_builtin; refine wpList_app _ rfl _ _ 25 rfl w.heap.size 71 i0 _ 2 32 Tryz.underlying25 hi hz0 hz1 hz2 rfl (by decide) (.slice Aq k cq) k xs rfl (ow_kept OQ.out (K7.out.alloc _) (fun _ _ x => x)) (some ⟨w7.heap.size, 0, none⟩) 1 1 [.int .u8 (sk2.toNat : Int), .slice A7 ml c7] rfl (src_new w7 _ #[.int .u8 (sk2.toNat : Int), .slice A7 ml c7] 2 1 rfl (by simp [Value.oneCell'])) HL6.out.1 HL6.out.2 (Nat.le_trans hkz (K7.out.alloc (.cells #[.int .u8 (sk2.toNat : Int), .slice A7 ml c7] 71)).size) ?_; intro v8 w8 ho8 hg8 _)
            | (at_builtin; refine wpList_app _ rfl _ _ 69 rfl w.heap.size 27 j0 _ 1 4 Tryz.underlying69 hj hy0 hy1 hy2 rfl (by decide) (.slice none 0 0) 0 [] rfl (World.ownsRow_nil _ _ _ _) Au ml cu (ass vt) rfl HSRC.out HL5.out.1 HL5.out.2 (Nat.le_trans hkz KA.out.size) ?_; intro v7 w7 ho7 hg7 hat7; (rw [Nat.zero_add, List.nil_append] at ho7); (obtain ⟨A7, c7, rfl, _, _⟩ := ow_form ho7); (have O7 := Lib.hid ho7); (have HW7 : Hid (∀ g, (Value.slice A7 ml c7).ownBlock = some g → wr.heap.size ≤ g) := Lib.hid (fun g hg => hat7.elim (fun e => by rw [e] at hg; simp [Value.ownBlock] at hg) (fun e => by rw [e] at hg; injection hg with hg; subst hg; exact KA.out.size))); (have K7 := Lib.hid (KA.out.grown hg7 (fun _ hk _ => by cases hk))); (have y0 := (BX.out.kept ((Kept.refl Nothing _).grown hg7 (fun _ hk _ => by cases hk)) (fun x => x)).cell 0); clear ho7 hg7 hat7))
          go_roundw
          case rel =>
            refine ⟨k + 1, by go_num, by omega, by omega, Lib.hid ?_, Lib.hid ((KK.out.trans (K7.out.alloc _)).own_grown (ow_kept OQ.out (K7.out.alloc _) (fun _ _ x => x)) (Nat.le_refl _) hg8)⟩
            rw [HN.out]
            refine ⟨xs ++ [by8 sk2, .slice A7 ml c7], ?_, ?_, HDI.out.push HR.out rfl (fun g hg => HW7.out g hg)⟩
            · rw [List.length_append, HPL.out]; exact ho8
            · exact Rws.push (c := (sk2, vt)) (ow_kept OQ.out (K7.out.alloc _) (fun _ _ x => x)) (HR.out.old (K7.out.alloc _)) (by rw [show (sk2, vt).2.length = ml from HLEN.out]; exact ow_kept O7.out ((Kept.refl Nothing w7).alloc _) (fun _ _ x => x)) HF.out hg8
          case measure => simp [intOf]; omega
    · obtain rfl : k = l.length := by omega
      have HF : Hid (PownD wr w.heap.size _ (madeF l)) := Lib.hid (by
        have := HP.out
        rw [List.take_of_length_le (Nat.le_refl _)] at this
        unfold madeF
        rw [List.take_of_length_le hk12]
        exact this)
      go_wp2
      go_ret
      exact ⟨_, rfl, HF.out, KK.out⟩
end Go.Proofs.YteofbpdogmajoaaGreatDoor
