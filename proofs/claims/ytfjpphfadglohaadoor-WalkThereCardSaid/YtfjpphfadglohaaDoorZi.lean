/-
  The law WalkThere, pure.
-/
import Derived.Test.YtfjpphfadglohaaDoorJp
import Derived.Test.YtfjpphfadglohaaDoorZa
import Derived.Test.YtfjpphfadglohaaDoorZd
import Derived.Test.YtfjpphfadglohaaDoorZb
namespace Go.Proofs.YtfjpphfadglohaaDoor
open Go.RowKit

def mkS (i : Nat) (s : Seg) : Seg := (1 + s.1 % 4, if s.2 = [] then [i] else s.2.take 60)
def madeF (l : List Seg) : List Seg := (l.take 12).mapIdx mkS
theorem madeF_next {l : List Seg} {k : Nat} (hk : k < l.length) : (l.take (k + 1)).mapIdx mkS = (l.take k).mapIdx mkS ++ [mkS k (l.getD k (0, []))] := by
  rw [List.take_succ_eq_append_getElem hk, List.mapIdx_concat, getD_get hk, List.length_take]
  congr 3
  omega
theorem madeF_len (l : List Seg) : (madeF l).length ≤ 12 := by unfold madeF; rw [List.length_mapIdx, List.length_take]; omega

theorem own_oneA (w : World) (x : Value) : (w.alloc (.cells #[x] 37)).ownsRow w.heap.size 37 1 (.slice (some ⟨w.heap.size, 0, none⟩) 1 1) 1 [x] :=
  ⟨rfl, .inr ⟨w.heap.size, 1, #[x], rfl, Nat.le_refl _, heap_alloc_new w _, Nat.le_refl _, by simp [maxLen], rfl, rfl⟩⟩
set_option maxRecDepth 20000 in
set_option maxHeartbeats 2000000 in
theorem made_any (v : Value) (l : List Seg) (w : World) (h : Pts w v l) :
    Calls Tryd.prog 45 #[v] w fun e w' => ∃ v', e = .returned v' ∧ Pown w' w.heap.size v' (madeF l) ∧ Kept Nothing w w' := by
  obtain ⟨A, c, rfl, hc, hm⟩ := h.form
  obtain ⟨i0, hi, hz0, hz1, hz2⟩ := info_parts sg_info
  obtain ⟨j0, hj, hy0, hy1, hy2⟩ := info_parts as_info
  have HV := Lib.hid h
  have hL : l.length ≤ 9223372036854775807 := by unfold maxLen at hm; omega
  clear h
  go_enter Tryd.func45, Tryd.ntmps45
  go_upto_region 3 with fail
  go_loopw [3, 9] (fun q i wr => ∃ k : Nat, i = .int .i64 (k : Int) ∧ k ≤ l.length ∧ k ≤ 12 ∧ Hid (Pown wr w.heap.size q ((l.take k).mapIdx mkS)) ∧ Hid (Kept Nothing w wr)) (fun _ i _ => l.length - (intOf i).toNat)
  case atStart => exact ⟨0, rfl, Nat.zero_le _, Nat.zero_le _, Lib.hid (Pown.nil _ _), Lib.hid (Kept.refl _ _)⟩
  case round =>
    obtain ⟨k, rfl, hk, hk12, HP, KK⟩ := hrel
    by_cases hlt : k < l.length
    · obtain ⟨b, o, Au, cu, rfl, p0w, p1w, hpw⟩ := HV.out.at2 hlt
      have p0 := KK.out.cell_some p0w (fun x => x)
      have p1 := KK.out.cell_some p1w (fun x => x)
      have i1 : (0 : Int) ≤ (k : Int) := by omega
      have i2 : (k : Int) < (l.length : Int) := by omega
      have HN := Lib.hid (madeF_next hlt)
      have HAS := Lib.hid hpw
      have HPL : Hid (((l.take k).mapIdx mkS).length = k) := Lib.hid (by rw [List.length_mapIdx, List.length_take]; omega)
      clear p0w p1w hpw
      generalize hsg : l.getD k (0, []) = sg at *
      obtain ⟨sk, sn⟩ := sg
      clear hsg
      simp only at p0 p1
      replace HAS : Hid (As w (.slice Au sn.length cu) sn) := HAS
      by_cases h12 : k = 12
      · have h12b : ((k : Int) == 12) = true := by simp; omega
        have HF : Hid (Pown wr w.heap.size _ (madeF l)) := Lib.hid (by have := HP.out; rw [h12] at this; exact this)
        clear HN h12
        go_wp2
        go_ret
        exact ⟨_, rfl, HF.out.old ((Kept.refl Nothing wr).alloc _), KK.out.alloc _⟩
      · have h12b : ((k : Int) == 12) = false := by simp; omega
        have hk11 : k ≤ 11 := by omega
        obtain ⟨xs, oq, hr⟩ := HP.out
        rw [HPL.out] at oq
        have OQ := Lib.hid oq
        have HR := Lib.hid hr
        obtain ⟨Aq, cq, rfl, _, _⟩ := ow_form oq
        clear oq hr
        have hcu : sn.length ≤ cu ∧ cu ≤ maxLen := by obtain ⟨_, _, e, h1, h2⟩ := HAS.out.form; cases e; exact ⟨h1, h2⟩
        have hmin : (if (60 : Int) < (sn.length : Int) then (60 : Int) else (sn.length : Int)) = ((min sn.length 60 : Nat) : Int) := by split <;> omega
        have hmin2 : min (sn.length : Int) (60 : Int) = ((min sn.length 60 : Nat) : Int) := by omega
        have hsl := slice_toA Au sn.length cu (min sn.length 60) (by omega)
        have HA2 := Lib.hid ((HAS.out.pre (m := min sn.length 60) (by omega)))
        have htk : sn.take (min sn.length 60) = sn.take 60 := by
          by_cases h : sn.length ≤ 60
          · rw [List.take_of_length_le (by omega), List.take_of_length_le (by omega)]
          · rw [show min sn.length 60 = 60 by omega]
        have hlen : (sn.take 60).length = min sn.length 60 := by rw [List.length_take]; omega
        rw [htk] at HA2
        have HLEN := Lib.hid hlen
        have hml : min sn.length 60 ≤ 60 := by omega
        have KA := Lib.hid ((Kept.refl Nothing wr).alloc (.cells #[.int .u8 (sk.toNat : Int), .slice Au sn.length cu] 34))
        have BX := Lib.hid (Blk.fresh wr 34 #[.int .u8 (sk.toNat : Int), .slice Au sn.length cu])
        have HSRC := Lib.hid (HA2.out.old (KK.out.trans KA.out)).src
        rw [hlen] at HSRC
        have HF := Lib.hid (fun n hn => HAS.out.1 n (List.mem_of_mem_take (i := 60) hn))
        have HL5 : Hid (0 + min sn.length 60 ≤ maxLen ∧ (0 + min sn.length 60) * 4 ≤ 140737488355328) := Lib.hid (by unfold maxLen; omega)
        have HL6 : Hid (k + 1 ≤ maxLen ∧ (k + 1) * 32 ≤ 140737488355328) := Lib.hid (by unfold maxLen; omega)
        have hkm := kd_mod sk
        have hkm2 : 1 + (sk.toNat : Int) % 4 = ((1 + sk % 4 : UInt8).toNat : Int) := by
          have : (1 + sk % 4 : UInt8).toNat = 1 + sk.toNat % 4 := by rw [UInt8.toNat_add, UInt8.toNat_mod]; simp; omega
          omega
        have hk4 := sk.toNat_lt
        have hkz := KK.out.size
        rw [show mkS k (sk, sn) = (1 + sk % 4, if sn = [] then [k] else sn.take 60) from rfl] at HN
        generalize (1 + sk % 4 : UInt8) = sk2 at *
        by_cases he : sn = []
        · rw [if_pos he] at HN
          subst he
          simp only [List.length_nil, Nat.zero_min, List.take_nil, Int.ofNat_zero, Nat.add_zero] at *
          have hcv : IntKind.u32.wrap (k : Int) = (k : Int) := by simp [IntKind.wrap, IntKind.bits, IntKind.signed]; omega
          have hk32 : k < 4294967296 := by omega
          clear HP h12
          go_wp2_with (first
            | (at_builtin; refine wpList_app _ rfl _ _ 23 rfl w.heap.size 34 i0 _ 2 32 Tryd.underlying23 hi hz0 hz1 hz2 rfl (by decide) (.slice Aq k cq) k xs rfl (ow_kept OQ.out ((K7.out.alloc _).alloc _) (fun _ _ x => x)) (some ⟨w7.heap.size + 1, 0, none⟩) 1 1 [.int .u8 (sk2.toNat : Int), .slice (some ⟨w7.heap.size, 0, none⟩) 1 1] rfl (by have hsr := src_new (w7.alloc (.cells #[.int .u32 (k : Int)] 37)) 34 #[.int .u8 (sk2.toNat : Int), .slice (some ⟨w7.heap.size, 0, none⟩) 1 1] 2 1 rfl (by simp [Value.oneCell']); rw [World.size_alloc] at hsr; exact hsr) HL6.out.1 HL6.out.2 (Nat.le_trans hkz ((K7.out.alloc (.cells #[.int .u32 (k : Int)] 37)).alloc (.cells #[.int .u8 (sk2.toNat : Int), .slice (some ⟨w7.heap.size, 0, none⟩) 1 1] 34)).size) ?_; intro v8 w8 ho8 hg8 _)
            | (at_builtin; refine wpList_app _ rfl _ _ 32 rfl w.heap.size 37 j0 _ 1 4 Tryd.underlying32 hj hy0 hy1 hy2 rfl (by decide) (.slice none 0 0) 0 [] rfl (World.ownsRow_nil _ _ _ _) Au 0 cu (ass []) rfl HSRC.out HL5.out.1 HL5.out.2 (Nat.le_trans hkz KA.out.size) ?_; intro v7 w7 ho7 hg7 _; (rw [Nat.zero_add, List.nil_append] at ho7); (obtain ⟨A7, c7, rfl, _, _⟩ := ow_form ho7); (have K7 := Lib.hid (KA.out.grown hg7 (fun _ hk _ => by cases hk))); (have y0 := (BX.out.kept ((Kept.refl Nothing _).grown hg7 (fun _ hk _ => by cases hk)) (fun x => x)).cell 0); (have y1 := ((BX.out.kept ((Kept.refl Nothing _).grown hg7 (fun _ hk _ => by cases hk)) (fun x => x)).alloc (.cells #[.int .u32 (k : Int)] 37)).cell 0); clear ho7 hg7))
          go_roundw
          case rel =>
            refine ⟨k + 1, by go_num, by omega, by omega, Lib.hid ?_, Lib.hid ((KK.out.trans ((K7.out.alloc _).alloc _)).own_grown (ow_kept OQ.out ((K7.out.alloc _).alloc _) (fun _ _ x => x)) (Nat.le_refl _) hg8)⟩
            rw [HN.out]
            refine ⟨xs ++ [by8 sk2, .slice (some ⟨w7.heap.size, 0, none⟩) 1 1], ?_, ?_⟩
            · rw [List.length_append, HPL.out]; exact ho8
            · exact Rws.push (c := (sk2, [k])) (ow_kept OQ.out ((K7.out.alloc _).alloc _) (fun _ _ x => x)) (HR.out.old ((K7.out.alloc _).alloc _)) (ow_kept (own_weakA (own_oneA w7 (.int .u32 (k : Int))) (Nat.le_trans hkz K7.out.size)) ((Kept.refl Nothing _).alloc _) (fun _ _ x => x)) (fun m hm => by obtain rfl := List.mem_singleton.1 hm; exact hk32) hg8
          case measure => simp [intOf]; omega
        · rw [if_neg he] at HN
          have hpos : 0 < min sn.length 60 := by have := List.length_pos_iff.2 he; omega
          have hnz : ((min sn.length 60 : Nat) : Int) ≠ 0 := by omega
          have hnb : (((min sn.length 60 : Nat) : Int) == 0) = false := by simp; omega
          generalize min sn.length 60 = ml at *
          generalize sn.take 60 = vt at *
          clear he htk hlen HA2 HP h12
          go_wp2_with (first
            | (at_builtin; refine wpList_app _ rfl _ _ 23 rfl w.heap.size 34 i0 _ 2 32 Tryd.underlying23 hi hz0 hz1 hz2 rfl (by decide) (.slice Aq k cq) k xs rfl (ow_kept OQ.out (K7.out.alloc _) (fun _ _ x => x)) (some ⟨w7.heap.size, 0, none⟩) 1 1 [.int .u8 (sk2.toNat : Int), .slice A7 ml c7] rfl (src_new w7 _ #[.int .u8 (sk2.toNat : Int), .slice A7 ml c7] 2 1 rfl (by simp [Value.oneCell'])) HL6.out.1 HL6.out.2 (Nat.le_trans hkz (K7.out.alloc (.cells #[.int .u8 (sk2.toNat : Int), .slice A7 ml c7] 34)).size) ?_; intro v8 w8 ho8 hg8 _)
            | (at_builtin; refine wpList_app _ rfl _ _ 32 rfl w.heap.size 37 j0 _ 1 4 Tryd.underlying32 hj hy0 hy1 hy2 rfl (by decide) (.slice none 0 0) 0 [] rfl (World.ownsRow_nil _ _ _ _) Au ml cu (ass vt) rfl HSRC.out HL5.out.1 HL5.out.2 (Nat.le_trans hkz KA.out.size) ?_; intro v7 w7 ho7 hg7 _; (rw [Nat.zero_add, List.nil_append] at ho7); (obtain ⟨A7, c7, rfl, _, _⟩ := ow_form ho7); (have O7 := Lib.hid ho7); (have K7 := Lib.hid (KA.out.grown hg7 (fun _ hk _ => by cases hk))); (have y0 := (BX.out.kept ((Kept.refl Nothing _).grown hg7 (fun _ hk _ => by cases hk)) (fun x => x)).cell 0); clear ho7 hg7))
          go_roundw
          case rel =>
            refine ⟨k + 1, by go_num, by omega, by omega, Lib.hid ?_, Lib.hid ((KK.out.trans (K7.out.alloc _)).own_grown (ow_kept OQ.out (K7.out.alloc _) (fun _ _ x => x)) (Nat.le_refl _) hg8)⟩
            rw [HN.out]
            refine ⟨xs ++ [by8 sk2, .slice A7 ml c7], ?_, ?_⟩
            · rw [List.length_append, HPL.out]; exact ho8
            · exact Rws.push (c := (sk2, vt)) (ow_kept OQ.out (K7.out.alloc _) (fun _ _ x => x)) (HR.out.old (K7.out.alloc _)) (by rw [show (sk2, vt).2.length = ml from HLEN.out]; exact ow_kept O7.out ((Kept.refl Nothing w7).alloc _) (fun _ _ x => x)) HF.out hg8
          case measure => simp [intOf]; omega
    · obtain rfl : k = l.length := by omega
      have HF : Hid (Pown wr w.heap.size _ (madeF l)) := Lib.hid (by
        have := HP.out
        rw [List.take_of_length_le (Nat.le_refl _)] at this
        unfold madeF
        rw [List.take_of_length_le hk12]
        exact this)
      go_wp2
      go_ret
      exact ⟨_, rfl, HF.out, KK.out⟩
end Go.Proofs.YtfjpphfadglohaaDoor
namespace Go.Proofs.YtfjpphfadglohaaDoor
open Go.RowKit Go.Shelf

def tP : List Seg := [(3, [65001, 65002]), (2, [10]), (1, [20, 30])]
def tQ : List Seg := [(3, [65003, 65001, 65002]), (2, [10]), (1, [20, 30])]
def tR : List Seg := [(1, [5]), (2, [6])]
theorem t_pre : Wk.prepend tP 3 65003 = (tQ, 0) := by rfl
theorem t_len : Wk.length tP = 2 ∧ Wk.length tR = 2 := ⟨by rfl, by rfl⟩
theorem t_nb : Wk.neighbour tP = 10 ∧ Wk.neighbour tR = 0 := ⟨by rfl, by rfl⟩
theorem t_or : Wk.origin tR = 6 := by rfl
theorem t_ord : Wk.ordered tP = true := by rfl
theorem t_strip : Wk.strip tP = [(2, [10]), (1, [20, 30])] := by rfl
theorem d10 : Lib.decDigits 10 = [49, 48] := by rw [dec_step (by decide), dec_small (by decide)]; rfl
theorem d20 : Lib.decDigits 20 = [50, 48] := by rw [dec_step (by decide), dec_small (by decide)]; rfl
theorem d30 : Lib.decDigits 30 = [51, 48] := by rw [dec_step (by decide), dec_small (by decide)]; rfl
theorem d65 (k : Nat) (hk : k < 10) : Lib.decDigits (65000 + k) = [54, 53, 48, 48, UInt8.ofNat (48 + k)] := by
  rw [dec_step (by omega), show (65000 + k) / 10 = 6500 by omega, show (65000 + k) % 10 = k by omega, dec_step (by decide), dec_step (by decide), dec_step (by decide), dec_small (by decide)]
  rfl
theorem t_text1 : Pt.text [(2, [10]), (1, [20, 30])] = [49, 48, 32, 123, 50, 48, 44, 51, 48, 125] := by
  show Pt.tx [(2, [10]), (1, [20, 30])] 2 = _
  simp [Pt.tx, Pt.ahead, Pt.gap, Pt.segT, Pt.opens, Pt.betw, Pt.ends, d10, d20, d30, Lib.join, List.intercalate, List.intersperse]
theorem t_text2 : Pt.text tQ = [40, 54, 53, 48, 48, 51, 32, 54, 53, 48, 48, 49, 32, 54, 53, 48, 48, 50, 41, 32, 49, 48, 32, 123, 50, 48, 44, 51, 48, 125] := by
  have e1 : Lib.decDigits 65001 = [54, 53, 48, 48, 49] := d65 1 (by decide)
  have e2 : Lib.decDigits 65002 = [54, 53, 48, 48, 50] := d65 2 (by decide)
  have e3 : Lib.decDigits 65003 = [54, 53, 48, 48, 51] := d65 3 (by decide)
  show Pt.tx tQ 3 = _
  simp [tQ, Pt.tx, Pt.ahead, Pt.gap, Pt.segT, Pt.opens, Pt.betw, Pt.ends, d10, d20, d30, e1, e2, e3, Lib.join, List.intercalate, List.intersperse]

theorem as_made (w : World) (cs : Array Value) (l : List Nat) (h : cs.toList = ass l) (hm : l.length ≤ 100) (hl : ∀ n ∈ l, n < 4294967296) (hp : 0 < l.length) : As (w.alloc (.cells cs 37)) (.slice (some ⟨w.heap.size, 0, none⟩) l.length l.length) l := by
  have hs : cs.size = l.length := by rw [← Array.length_toList, h, length_ass]
  refine As.of_own (base := 0) (e := 37) ⟨by rw [length_ass, Nat.mul_one], .inr ⟨w.heap.size, l.length, cs, rfl, Nat.zero_le _, heap_alloc_new w _, Nat.le_refl _, by unfold maxLen; omega, by rw [hs, Nat.mul_one], ?_⟩⟩ hl
  rw [List.take_of_length_le (by simp [hs]), h]
theorem pts_made (w : World) (cs : Array Value) (l : List Seg) (hm : l.length ≤ 100) (hs : cs.size = l.length * 2) (h : PCells (As (w.alloc (.cells cs 34))) cs.toList l) : Pts (w.alloc (.cells cs 34)) (.slice (some ⟨w.heap.size, 0, none⟩) l.length l.length) l :=
  Pts.of_own (base := 0) (e := 34) ⟨by simp [hs], .inr ⟨w.heap.size, l.length, cs, rfl, Nat.zero_le _, heap_alloc_new w _, Nat.le_refl _, by unfold maxLen; omega, hs, by rw [List.take_of_length_le (by simp [hs])]⟩⟩ h

set_option maxRecDepth 20000 in
set_option maxHeartbeats 2000000 in
theorem tells_true (w : World) (hr : Rdy w) (hs : Bkt w) :
    Calls Tryd.prog 38 #[] w fun e w' => e = .returned (.bool true) ∧ Kept Nothing w w' := by
  have HR := Lib.hid hr
  have HS := Lib.hid hs
  clear hr hs
  have hB : ∀ s ∈ tP, s.2.length ≤ 1000000 := by unfold tP; simp
  have hBR : ∀ s ∈ tR, s.2.length ≤ 1000000 := by unfold tR; simp
  go_enter Tryd.func38, Tryd.ntmps38
  go_upto_region 2 with fail
  obtain ⟨wA, hwA⟩ : ∃ wA, w.alloc (.cells #[.int .u32 65001, .int .u32 65002] 37) = wA := ⟨_, rfl⟩
  have zA : wA.heap.size = w.heap.size + 1 := by rw [← hwA]; exact World.size_alloc _ _
  have aA : As wA (.slice (some ⟨w.heap.size, 0, none⟩) 2 2) [65001, 65002] := by rw [← hwA]; exact as_made w _ [65001, 65002] rfl (by simp) (by simp) (by simp)
  have kA : Kept Nothing w wA := by rw [← hwA]; exact (Kept.refl _ w).alloc _
  rw [hwA]
  obtain ⟨wB, hwB⟩ : ∃ wB, wA.alloc (.cells #[.int .u32 10] 37) = wB := ⟨_, rfl⟩
  have zB : wB.heap.size = w.heap.size + 1 + 1 := by rw [← hwB, World.size_alloc, zA]
  have aB : As wB (.slice (some ⟨w.heap.size + 1, 0, none⟩) 1 1) [10] := by rw [← hwB, ← zA]; exact as_made wA _ [10] rfl (by simp) (by simp) (by simp)
  have kB : Kept Nothing wA wB := by rw [← hwB]; exact (Kept.refl _ wA).alloc _
  rw [hwB]
  obtain ⟨wC, hwC⟩ : ∃ wC, wB.alloc (.cells #[.int .u32 20, .int .u32 30] 37) = wC := ⟨_, rfl⟩
  have zC : wC.heap.size = w.heap.size + 1 + 1 + 1 := by rw [← hwC, World.size_alloc, zB]
  have aC : As wC (.slice (some ⟨w.heap.size + 1 + 1, 0, none⟩) 2 2) [20, 30] := by rw [← hwC, ← zB]; exact as_made wB _ [20, 30] rfl (by simp) (by simp) (by simp)
  have kC : Kept Nothing wB wC := by rw [← hwC]; exact (Kept.refl _ wB).alloc _
  rw [hwC]
  have kD := (Kept.refl Nothing wC).alloc (.cells #[.int .u8 3, .slice (some ⟨w.heap.size, 0, none⟩) 2 2, .int .u8 2, .slice (some ⟨w.heap.size + 1, 0, none⟩) 1 1, .int .u8 1, .slice (some ⟨w.heap.size + 1 + 1, 0, none⟩) 2 2] 34)
  have PD := Lib.hid (pts_made wC #[.int .u8 3, .slice (some ⟨w.heap.size, 0, none⟩) 2 2, .int .u8 2, .slice (some ⟨w.heap.size + 1, 0, none⟩) 1 1, .int .u8 1, .slice (some ⟨w.heap.size + 1 + 1, 0, none⟩) 2 2] tP (by decide) rfl ⟨rfl, aA.old (kB.trans (kC.trans kD)), rfl, aB.old (kC.trans kD), rfl, aC.old kD, trivial⟩)
  rw [zC] at PD
  have KD := Lib.hid (kA.trans (kB.trans (kC.trans kD)))
  clear aA aB aC kA kB kC kD zA zB
  generalize wC.alloc (.cells #[.int .u8 3, .slice (some ⟨w.heap.size, 0, none⟩) 2 2, .int .u8 2, .slice (some ⟨w.heap.size + 1, 0, none⟩) 1 1, .int .u8 1, .slice (some ⟨w.heap.size + 1 + 1, 0, none⟩) 2 2] 34) = wD at *
  generalize w.heap.size + 1 + 1 + 1 = gP at *
  have HPP := Lib.hid (walk_prepend (.slice (some ⟨gP, 0, none⟩) 3 3) tP 3 65003 (by decide) wD PD.out (by decide) hB)
  rw [t_pre] at HPP
  replace HPP : Hid (Calls Tryd.prog 39 #[.slice (some ⟨gP, 0, none⟩) 3 3, .int .u8 3, .int .u32 65003] wD fun e w' => ∃ v', e = .returned (.tuple #[v', .int .i64 0]) ∧ Pown w' wD.heap.size v' tQ ∧ Kept Nothing wD w') := HPP
  go_upto_region 3 with (go_at_call 39; refine (HPP.out).mono ?_; rintro e w5 ⟨v5, rfl, p5, k5⟩; (have P5 := Lib.hid p5); (have K5 := Lib.hid k5); clear p5 k5)
  go_upto_region 4 with fail
  obtain ⟨wE, hwE⟩ : ∃ wE, w5.alloc (.cells #[.int .u32 5] 37) = wE := ⟨_, rfl⟩
  have zE : wE.heap.size = w5.heap.size + 1 := by rw [← hwE]; exact World.size_alloc _ _
  have aE : As wE (.slice (some ⟨w5.heap.size, 0, none⟩) 1 1) [5] := by rw [← hwE]; exact as_made w5 _ [5] rfl (by simp) (by simp) (by simp)
  have kE : Kept Nothing w5 wE := by rw [← hwE]; exact (Kept.refl _ w5).alloc _
  rw [hwE]
  obtain ⟨wF, hwF⟩ : ∃ wF, wE.alloc (.cells #[.int .u32 6] 37) = wF := ⟨_, rfl⟩
  have zF : wF.heap.size = w5.heap.size + 1 + 1 := by rw [← hwF, World.size_alloc, zE]
  have aF : As wF (.slice (some ⟨w5.heap.size + 1, 0, none⟩) 1 1) [6] := by rw [← hwF, ← zE]; exact as_made wE _ [6] rfl (by simp) (by simp) (by simp)
  have kF : Kept Nothing wE wF := by rw [← hwF]; exact (Kept.refl _ wE).alloc _
  rw [hwF]
  have kG := (Kept.refl Nothing wF).alloc (.cells #[.int .u8 1, .slice (some ⟨w5.heap.size, 0, none⟩) 1 1, .int .u8 2, .slice (some ⟨w5.heap.size + 1, 0, none⟩) 1 1] 34)
  have RG := Lib.hid (pts_made wF #[.int .u8 1, .slice (some ⟨w5.heap.size, 0, none⟩) 1 1, .int .u8 2, .slice (some ⟨w5.heap.size + 1, 0, none⟩) 1 1] tR (by decide) rfl ⟨rfl, aE.old (kF.trans kG), rfl, aF.old kG, trivial⟩)
  rw [zF] at RG
  have K6 := Lib.hid (kE.trans (kF.trans kG))
  have KZ := Lib.hid (KD.out.trans (K5.out.trans K6.out))
  have PG := Lib.hid (PD.out.old (K5.out.trans K6.out))
  have QG := Lib.hid (P5.out.old K6.out).pts
  clear aE aF kE kF kG zE zF
  generalize wF.alloc (.cells #[.int .u8 1, .slice (some ⟨w5.heap.size, 0, none⟩) 1 1, .int .u8 2, .slice (some ⟨w5.heap.size + 1, 0, none⟩) 1 1] 34) = w6 at *
  generalize w5.heap.size + 1 + 1 = gR at *
  have C1 := Lib.hid (fun u (k : Kept Nothing w6 u) => walk_length (.slice (some ⟨gP, 0, none⟩) 3 3) tP u (PG.out.old k) (by decide) hB)
  have C2 := Lib.hid (fun u (k : Kept Nothing w6 u) => walk_neighbour (.slice (some ⟨gP, 0, none⟩) 3 3) tP u (PG.out.old k) (by decide) hB)
  have C3 := Lib.hid (fun u (k : Kept Nothing w6 u) => walk_ordered (.slice (some ⟨gP, 0, none⟩) 3 3) tP u (PG.out.old k) (by decide) hB)
  have C4 := Lib.hid (fun u (k : Kept Nothing w6 u) => walk_strip (.slice (some ⟨gP, 0, none⟩) 3 3) tP u (PG.out.old k) (by decide) hB)
  have C5 := Lib.hid (fun v u (k : Kept Nothing w6 u) (h : Pts u v [(2, [10]), (1, [20, 30])]) => path_text v [(2, [10]), (1, [20, 30])] u h (by decide) (HR.out.kept (KZ.out.trans k)) (HS.out.kept (KZ.out.trans k)))
  have C6 := Lib.hid (fun u (k : Kept Nothing w6 u) => path_text v5 tQ u (QG.out.old k) (by decide) (HR.out.kept (KZ.out.trans k)) (HS.out.kept (KZ.out.trans k)))
  have C7 := Lib.hid (fun u (k : Kept Nothing w6 u) => walk_neighbour (.slice (some ⟨gR, 0, none⟩) 2 2) tR u (RG.out.old k) (by decide) hBR)
  have C8 := Lib.hid (fun u (k : Kept Nothing w6 u) => walk_origin (.slice (some ⟨gR, 0, none⟩) 2 2) tR u (RG.out.old k) (by decide) hBR)
  have C9 := Lib.hid (fun u (k : Kept Nothing w6 u) => walk_length (.slice (some ⟨gR, 0, none⟩) 2 2) tR u (RG.out.old k) (by decide) hBR)
  rw [t_len.1] at C1
  rw [t_nb.1] at C2
  rw [t_ord] at C3
  rw [t_strip] at C4
  rw [t_text1] at C5
  rw [t_text2] at C6
  rw [t_nb.2] at C7
  rw [t_or] at C8
  rw [t_len.2] at C9
  clear hB hBR PD HPP P5 K5 K6
  go_wp2_with (first
    | (go_at_call 35; refine (C9.out _ (m7.trans q8)).mono ?_; rintro e u9 ⟨rfl, q9⟩)
    | (go_at_call 33; refine (C8.out _ m7).mono ?_; rintro e u8 ⟨rfl, q8⟩)
    | (go_at_call 31; refine (C7.out _ m6).mono ?_; rintro e u7 ⟨rfl, q7⟩; have m7 := m6.trans q7)
    | (go_at_call 47; refine (C6.out _ m5).mono ?_; rintro e u6 ⟨rfl, q6⟩; have m6 := m5.trans q6)
    | (go_at_call 47; refine (C5.out _ _ m4 p4.pts).mono ?_; rintro e u5 ⟨rfl, q5⟩; have m5 := m4.trans q5)
    | (go_at_call 41; refine (C4.out _ m3).mono ?_; rintro e u4 ⟨v4, rfl, p4, q4⟩; have m4 := m3.trans q4)
    | (go_at_call 27; refine (C3.out _ m2).mono ?_; rintro e u3 ⟨rfl, q3⟩; have m3 := m2.trans q3)
    | (go_at_call 31; refine (C2.out _ m1).mono ?_; rintro e u2 ⟨rfl, q2⟩; have m2 := m1.trans q2)
    | (go_at_call 35; refine (C1.out _ (Kept.refl _ _)).mono ?_; rintro e u1 ⟨rfl, m1⟩))
  go_ret
  exact ⟨rfl, KZ.out.trans ((m7.trans q8).trans q9)⟩
end Go.Proofs.YtfjpphfadglohaaDoor
namespace Go.Proofs.YtfjpphfadglohaaDoor
open Go.RowKit

theorem madeF_seg {l : List Seg} {s : Seg} (h : s ∈ madeF l) : s.2 ≠ [] ∧ s.2.length ≤ 60 ∧ 1 ≤ s.1.toNat ∧ s.1.toNat ≤ 4 := by
  unfold madeF at h
  obtain ⟨i, hi, rfl⟩ := List.mem_iff_getElem.1 h
  rw [List.getElem_mapIdx]
  generalize (l.take 12)[i]'(by simpa using hi) = t
  unfold mkS
  have : (1 + t.1 % 4 : UInt8).toNat = 1 + t.1.toNat % 4 := by rw [UInt8.toNat_add, UInt8.toNat_mod]; simp; omega
  refine ⟨?_, ?_, by rw [this]; omega, by rw [this]; omega⟩
  · simp only
    split
    · simp
    · next h => intro e; apply h; simpa using e
  · simp only
    split
    · simp
    · rw [List.length_take]; omega
theorem madeF_may (l : List Seg) : Pt.may (madeF l) = true := by
  unfold Pt.may
  rw [Bool.and_eq_true, List.all_eq_true]
  refine ⟨fun s hs => ?_, by have := madeF_len l; simp; omega⟩
  obtain ⟨h1, h2, h3, h4⟩ := madeF_seg hs
  have := List.length_pos_iff.2 h1
  unfold Pt.may1
  simp only [Bool.and_eq_true, decide_eq_true_eq]
  omega
namespace Wk
theorem may_of {l : List Seg} (h1 : l.length ≤ 32) (h2 : ∀ s ∈ l, s.2 ≠ [] ∧ s.2.length ≤ 255 ∧ 1 ≤ s.1.toNat ∧ s.1.toNat ≤ 4) : Pt.may l = true := by
  unfold Pt.may
  rw [Bool.and_eq_true, List.all_eq_true]
  refine ⟨fun s hs => ?_, by simpa using h1⟩
  obtain ⟨g1, g2, g3, g4⟩ := h2 s hs
  have := List.length_pos_iff.2 g1
  unfold Pt.may1
  simp only [Bool.and_eq_true, decide_eq_true_eq]
  omega
/-- What is put ahead stands first. -/
theorem prepend_ok {l : List Seg} {k : UInt8} {n : Nat} (hl : l.length ≤ 31) (h2 : ∀ s ∈ l, s.2 ≠ [] ∧ s.2.length ≤ 255 ∧ 1 ≤ s.1.toNat ∧ s.1.toNat ≤ 4) (hk : k.toNat = 2 ∨ k.toNat = 3) :
    (prepend l k n).2 = 0 ∧ Pt.may (prepend l k n).1 = true ∧ Pt.all (prepend l k n).1 = (k, n) :: Pt.all l ∧ ∃ m r, (prepend l k n).1 = (k, n :: m) :: r := by
  have hm : Pt.may l = true := may_of (by omega) h2
  have e : prepend l k n = if room l k.toNat then (ahead l n, 0) else if l.length = 32 then ([], 7) else ((k, [n]) :: l, 0) := by
    unfold prepend
    rw [if_neg]
    simp only [hm, Bool.not_true, Bool.false_or, Bool.and_eq_true, decide_eq_true_eq]
    omega
  rw [e]
  cases hr : room l k.toNat with
  | true =>
    rw [if_pos rfl]
    cases l with
    | nil => simp [room] at hr
    | cons s r =>
      obtain ⟨sk, sn⟩ := s
      have hr2 : sk.toNat = k.toNat ∧ sn.length < 255 := by simpa [room] using hr
      have hsk : sk = k := UInt8.toNat_inj.1 hr2.1
      subst hsk
      have g := h2 (sk, sn) (List.mem_cons_self ..)
      refine ⟨rfl, ?_, ?_, sn, r, rfl⟩
      · refine may_of (by simpa [ahead] using (by simp at hl; omega : r.length + 1 ≤ 32)) (fun s hs => ?_)
        rcases List.mem_cons.1 hs with rfl | hs
        · exact ⟨by simp, by simp; omega, g.2.2⟩
        · exact h2 s (List.mem_cons_of_mem _ hs)
      · simp [ahead, Pt.all]
  | false =>
    rw [if_neg (by decide), if_neg (by omega)]
    refine ⟨rfl, ?_, ?_, [], l, rfl⟩
    · refine may_of (by simp; omega) (fun s hs => ?_)
      rcases List.mem_cons.1 hs with rfl | hs
      · exact ⟨by simp, by simp, by simp; omega⟩
      · exact h2 s hs
    · simp [Pt.all]
theorem has_cons {l m : List Seg} {k : UInt8} {n x : Nat} (h1 : Pt.may l = true) (h2 : Pt.may m = true) (h : Pt.all m = (k, n) :: Pt.all l) : has m x = (n == x || has l x) := by
  unfold has
  rw [h1, h2, h, List.any_cons]
  simp
theorem ordered_conf {l m : List Seg} {k : UInt8} {n : Nat} (h1 : Pt.may l = true) (h2 : Pt.may m = true) (hk : confed k = true) (h : Pt.all m = (k, n) :: Pt.all l) : ordered m = ordered l := by
  unfold ordered sts
  rw [h1, h2, h, List.foldl_cons]
  have : st (false, false) (k, n) = (false, false) := by unfold st; rw [hk]; rfl
  rw [this]
theorem sts_plain (a : List (UInt8 × Nat)) (h : ∀ x ∈ a, confed x.1 = false) : ∀ s : Bool × Bool, (a.foldl st s).2 = s.2 := by
  induction a with
  | nil => exact fun s => rfl
  | cons x a ih =>
    intro s
    rw [List.foldl_cons, ih (fun y hy => h y (List.mem_cons_of_mem _ hy))]
    unfold st
    rw [h x (List.mem_cons_self ..)]
    rfl
theorem ordered_plain {m : List Seg} (h2 : Pt.may m = true) (h : ∀ x ∈ Pt.all m, confed x.1 = false) : ordered m = true := by
  unfold ordered sts
  rw [h2, sts_plain _ h]
  rfl
theorem first_of {m r : List Seg} {k : UInt8} {n : Nat} {q : List Nat} (h2 : Pt.may m = true) (h : m = (k, n :: q) :: r) : first m = (k.toNat, n, true) := by
  unfold first
  rw [h2, h]
  rfl
theorem plains_all {l : List Seg} {x : UInt8 × Nat} (h : x ∈ Pt.all (plains l)) : confed x.1 = false ∧ x ∈ Pt.all l := by
  unfold Pt.all at h ⊢
  obtain ⟨s, hs, hx⟩ := List.mem_flatMap.1 h
  obtain ⟨n, hn, rfl⟩ := List.mem_map.1 hx
  have hs2 := List.mem_filter.1 hs
  exact ⟨by simpa using hs2.2, List.mem_flatMap.2 ⟨s, hs2.1, List.mem_map.2 ⟨n, hn, rfl⟩⟩⟩

/-- A path that may be, of few segments. -/
def Fewer (l : List Seg) : Prop := l.length ≤ 31 ∧ ∀ s ∈ l, s.2 ≠ [] ∧ s.2.length ≤ 255 ∧ 1 ≤ s.1.toNat ∧ s.1.toNat ≤ 4
theorem Fewer.strip {l : List Seg} (h : Fewer l) : Fewer (strip l) := by
  unfold Wk.strip
  rw [may_of (by have := h.1; omega) h.2, if_pos rfl]
  exact ⟨Nat.le_trans (plains_len l) h.1, fun s hs => h.2 s (List.mem_filter.1 hs).1⟩
theorem next_a {l : List Seg} {N : Nat} (hl : Fewer l) (ho : ordered l = true) (h0 : has l 0 = false) (hN : N ≠ 0) :
    right (prepend l 3 N).1 2 N = true ∧ right (prepend l 3 N).1 1 0 = true ∧ right (prepend l 3 N).1 3 N = false := by
  obtain ⟨_, h2, h3, m, r, h4⟩ := prepend_ok (k := 3) (n := N) hl.1 hl.2 (.inr rfl)
  have hm := may_of (by have := hl.1; omega) hl.2
  have e1 := ordered_conf hm h2 (by rfl) h3
  have e2 := has_cons (x := 0) hm h2 h3
  have e3 := first_of h2 h4
  have e4 : has (prepend l 3 N).1 0 = false := by rw [e2, h0]; simp [hN]
  unfold right begins
  rw [e1, ho, e4, e3]
  simp
theorem next_b {l : List Seg} {M : Nat} (hl : Fewer l) (h0 : has l 0 = false) (hM : M ≠ 0) :
    right (prepend (strip l) 2 M).1 3 M = true ∧ right (prepend (strip l) 2 M).1 2 M = false := by
  have hs := hl.strip
  obtain ⟨_, h2, h3, m, r, h4⟩ := prepend_ok (k := 2) (n := M) hs.1 hs.2 (.inl rfl)
  have hm := may_of (by have := hl.1; omega) hl.2
  have hms := may_of (by have := hs.1; omega) hs.2
  have est : strip l = plains l := by unfold Wk.strip; rw [hm]; rfl
  have e2 := has_cons (x := 0) hms h2 h3
  have e3 := first_of h2 h4
  have hpl : ∀ x ∈ Pt.all (strip l), confed x.1 = false ∧ x ∈ Pt.all l := fun x hx => by rw [est] at hx; exact plains_all hx
  have e1 : ordered (prepend (strip l) 2 M).1 = true := ordered_plain h2 (fun x hx => by
    rw [h3] at hx
    rcases List.mem_cons.1 hx with rfl | hx
    · rfl
    · exact (hpl x hx).1)
  have e5 : has (strip l) 0 = false := by
    unfold has at h0 ⊢
    rw [hm, Bool.true_and, List.any_eq_false] at h0
    rw [hms, Bool.true_and, List.any_eq_false]
    exact fun x hx => h0 x (hpl x hx).2
  have e4 : has (prepend (strip l) 2 M).1 0 = false := by rw [e2, e5]; simp [hM]
  unfold right begins
  rw [e1, e4, e3]
  simp
theorem right_inv {l : List Seg} {c : Int} {p : Nat} (h : right l c p = true) : ordered l = true ∧ has l 0 = false := by
  unfold right at h
  simp only [Bool.and_eq_true, Bool.not_eq_true'] at h
  exact ⟨h.1.1, h.1.2⟩
theorem right_one {l : List Seg} {p : Nat} (h1 : ordered l = true) (h2 : has l 0 = false) : right l 1 p = true := by
  unfold right; rw [h1, h2]; rfl
theorem right_none {l : List Seg} {p : Nat} : right l 0 p = false ∧ right l 4 p = false := by
  unfold right
  simp
theorem made_few (l : List Seg) : Fewer (madeF l) := ⟨by have := madeF_len l; omega, fun s hs => by
  obtain ⟨h1, h2, h3, h4⟩ := madeF_seg hs
  exact ⟨h1, by omega, h3, h4⟩⟩
theorem Fewer.bound {l : List Seg} (h : Fewer l) : l.length ≤ 1000000 ∧ ∀ s ∈ l, s.2.length ≤ 1000000 := ⟨by have := h.1; omega, fun s hs => by have := (h.2 s hs).2.1; omega⟩
theorem may_bound {l : List Seg} (h : Pt.may l = true) : l.length ≤ 1000000 ∧ ∀ s ∈ l, s.2.length ≤ 1000000 := ⟨by have := Pt.may_le h; omega, fun s hs => by have := (Pt.may_seg h hs).2.2.2; omega⟩
end Wk
end Go.Proofs.YtfjpphfadglohaaDoor
namespace Go.Proofs.YtfjpphfadglohaaDoor
open Go.RowKit

namespace Wk
theorem lens_cons (s : Seg) (l : List Seg) : lens (s :: l) = len1 s + lens l := by unfold lens; rw [List.map_cons, List.sum_cons]
theorem prepend_lens {l : List Seg} {k : UInt8} {n : Nat} (hl : l.length ≤ 31) (h2 : ∀ s ∈ l, s.2 ≠ [] ∧ s.2.length ≤ 255 ∧ 1 ≤ s.1.toNat ∧ s.1.toNat ≤ 4) (hk : k.toNat = 2 ∨ k.toNat = 3) :
    lens (prepend l k n).1 = lens l + (if k.toNat = 2 then 1 else 0) := by
  have hm : Pt.may l = true := may_of (by omega) h2
  have e : prepend l k n = if room l k.toNat then (ahead l n, 0) else if l.length = 32 then ([], 7) else ((k, [n]) :: l, 0) := by
    unfold prepend
    rw [if_neg]
    simp only [hm, Bool.not_true, Bool.false_or, Bool.and_eq_true, decide_eq_true_eq]
    omega
  rw [e]
  cases hr : room l k.toNat with
  | true =>
    rw [if_pos rfl]
    cases l with
    | nil => simp [room] at hr
    | cons s r =>
      obtain ⟨sk, sn⟩ := s
      have hr2 : sk.toNat = k.toNat ∧ sn.length < 255 := by simpa [room] using hr
      show lens ((sk, n :: sn) :: r) = _
      rw [lens_cons, lens_cons]
      unfold len1
      simp only [hr2.1, List.length_cons]
      rcases hk with h | h <;> simp [h] <;> omega
  | false =>
    rw [if_neg (by decide), if_neg (by omega)]
    show lens ((k, [n]) :: l) = _
    rw [lens_cons]
    unfold len1
    rcases hk with h | h <;> simp [h] <;> omega
theorem lens_plains (l : List Seg) : lens (plains l) = lens l := by
  induction l with
  | nil => rfl
  | cons s l ih =>
    unfold plains at ih ⊢
    rw [lens_cons]
    cases hc : confed s.1 with
    | true =>
      rw [List.filter_cons_of_neg (by simp [hc]), ih]
      have h0 : len1 s = 0 := by
        unfold confed at hc
        unfold len1
        have : s.1.toNat = 3 ∨ s.1.toNat = 4 := by simpa using hc
        rw [if_neg (by omega), if_neg (by omega)]
      omega
    | false => rw [List.filter_cons_of_pos (by simp [hc]), lens_cons, ih]
theorem lens_cnt (l : List Seg) (h : ∀ s ∈ l, s.2 ≠ []) : lens l ≤ Pt.cnt l := by
  induction l with
  | nil => exact Nat.le_refl _
  | cons s l ih =>
    have h1 := ih (fun x hx => h x (List.mem_cons_of_mem _ hx))
    have h2 := List.length_pos_iff.2 (h s (List.mem_cons_self ..))
    rw [lens_cons]
    unfold Pt.cnt at h1 ⊢
    rw [List.map_cons, List.sum_cons]
    have : len1 s ≤ s.2.length := by unfold len1; split; exact Nat.le_refl _; split <;> omega
    omega
theorem all_plains (l : List Seg) : Pt.all (plains l) = (Pt.all l).filter (fun x => !confed x.1) := by
  induction l with
  | nil => rfl
  | cons s l ih =>
    unfold plains at ih ⊢
    have e : Pt.all (s :: l) = s.2.map (fun n => (s.1, n)) ++ Pt.all l := by simp [Pt.all]
    rw [e, List.filter_append, ← ih]
    cases hc : confed s.1 with
    | true =>
      rw [List.filter_cons_of_neg (by simp [hc])]
      have : (s.2.map (fun n => (s.1, n))).filter (fun x => !confed x.1) = [] := by
        rw [List.filter_eq_nil_iff]
        intro x hx
        obtain ⟨n, _, rfl⟩ := List.mem_map.1 hx
        simp [hc]
      rw [this, List.nil_append]
    | false =>
      rw [List.filter_cons_of_pos (by simp [hc])]
      have : (s.2.map (fun n => (s.1, n))).filter (fun x => !confed x.1) = s.2.map (fun n => (s.1, n)) := by
        rw [List.filter_eq_self]
        intro x hx
        obtain ⟨n, _, rfl⟩ := List.mem_map.1 hx
        simp [hc]
      rw [this]
      simp [Pt.all]
theorem find_filter (a : List (UInt8 × Nat)) (p : UInt8 × Nat → Bool) : (a.filter p).find? p = a.find? p := by
  induction a with
  | nil => rfl
  | cons x a ih =>
    cases hx : p x with
    | true => rw [List.filter_cons_of_pos hx, List.find?_cons_of_pos hx, List.find?_cons_of_pos hx]
    | false => rw [List.filter_cons_of_neg (by simp [hx]), List.find?_cons_of_neg (by simp [hx]), ih]
theorem plains_twice (l : List Seg) : plains (plains l) = plains l := by
  unfold plains
  rw [List.filter_filter]
  simp
/-- What the law asks. -/
theorem lengths {l : List Seg} (n : Nat) (hl : Fewer l) :
    length (prepend l 2 n).1 = length l + 1 ∧ length (prepend l 3 n).1 = length l ∧ length (strip l) = length l ∧ neighbour (strip l) = neighbour l ∧ neighbour (prepend l 2 n).1 = n ∧ neighbour (prepend l 3 n).1 = neighbour l ∧
    (∀ s ∈ strip l, s.1.toNat ≤ 2) ∧ ordered (strip l) = true ∧ strip (strip l) = strip l ∧ ordered (prepend l 3 n).1 = ordered l ∧ length l ≤ Pt.cnt l := by
  obtain ⟨_, a2, a3, _⟩ := prepend_ok (k := 2) (n := n) hl.1 hl.2 (.inl rfl)
  obtain ⟨_, b2, b3, _⟩ := prepend_ok (k := 3) (n := n) hl.1 hl.2 (.inr rfl)
  have hm := may_of (by have := hl.1; omega) hl.2
  have hs := hl.strip
  have hms := may_of (by have := hs.1; omega) hs.2
  have est : strip l = plains l := by unfold Wk.strip; rw [hm]; rfl
  have ea := prepend_lens (k := 2) (n := n) hl.1 hl.2 (.inl rfl)
  have eb := prepend_lens (k := 3) (n := n) hl.1 hl.2 (.inr rfl)
  refine ⟨?_, ?_, ?_, ?_, ?_, ?_, ?_, ?_, ?_, ?_, ?_⟩
  · unfold length; rw [a2, hm, if_pos rfl, if_pos rfl, ea]; rfl
  · unfold length; rw [b2, hm, if_pos rfl, if_pos rfl, eb]; rfl
  · unfold length; rw [hms, hm, est, lens_plains]
  · unfold neighbour; rw [hms, hm, est, all_plains, find_filter]
  · unfold neighbour; rw [a2, if_pos rfl, a3, List.find?_cons_of_pos (by rfl)]; rfl
  · unfold neighbour; rw [b2, hm, b3, List.find?_cons_of_neg (by show ¬ (!confed 3) = true; decide)]
  · intro s h
    rw [est] at h
    have h2 := List.mem_filter.1 h
    have h3 := hl.2 s h2.1
    have h4 : confed s.1 = false := by simpa using h2.2
    unfold confed at h4
    have : ¬ s.1.toNat = 3 ∧ ¬ s.1.toNat = 4 := by simpa using h4
    omega
  · exact ordered_plain hms (fun x hx => by rw [est] at hx; exact (plains_all hx).1)
  · have e2 : strip (strip l) = plains (strip l) := by
      have : ∀ m, Pt.may m = true → strip m = plains m := fun m h => by unfold Wk.strip; rw [h]; rfl
      exact this _ hms
    rw [e2, est, plains_twice]
  · exact ordered_conf hm b2 (by rfl) b3
  · unfold length; rw [hm, if_pos rfl]; exact lens_cnt l (fun s hs => (hl.2 s hs).1)
end Wk
end Go.Proofs.YtfjpphfadglohaaDoor
namespace Go.Proofs.YtfjpphfadglohaaDoor
open Go.RowKit

namespace Wk
theorem cnt_all (l : List Seg) : (Pt.all l).length = Pt.cnt l := by
  unfold Pt.all Pt.cnt
  rw [List.length_flatMap]
  simp
theorem cnt_cons {l m : List Seg} {k : UInt8} {n : Nat} (h : Pt.all m = (k, n) :: Pt.all l) : Pt.cnt m = Pt.cnt l + 1 := by
  rw [← cnt_all, ← cnt_all, h, List.length_cons]
theorem loops_cons {l m : List Seg} {k : UInt8} {n a b : Nat} (h1 : Pt.may l = true) (h2 : Pt.may m = true) (h : Pt.all m = (k, n) :: Pt.all l) : loops m a b = ((if confed k then n == a else n == b) || loops l a b) := by
  unfold loops
  rw [h1, h2, h, List.any_cons]
  simp
theorem mem_all {l : List Seg} {s : Seg} {x : Nat} (hs : s ∈ l) (hx : x ∈ s.2) : (s.1, x) ∈ Pt.all l := by
  unfold Pt.all
  exact List.mem_flatMap.2 ⟨s, hs, List.mem_map.2 ⟨x, hx, rfl⟩⟩
theorem confed_le {k : UInt8} (h4 : k.toNat ≤ 4) : confed k = !decide (k.toNat ≤ 2) := by
  unfold confed
  rw [Bool.eq_iff_iff]
  simp
  omega
theorem loops_same (l : List Seg) (n : Nat) : has l n = loops l n n := by
  unfold has loops
  simp
/-- What the law asks. -/
theorem there {l : List Seg} (n m : Nat) (hl : Fewer l) :
    Pt.cnt (prepend l 3 n).1 = Pt.cnt l + 1 ∧ Pt.cnt (prepend l 2 m).1 = Pt.cnt l + 1 ∧ first (prepend l 3 n).1 = (3, n, true) ∧ first (prepend l 2 m).1 = (2, m, true) ∧
    loops (prepend l 3 n).1 n m = true ∧ loops (prepend l 2 m).1 n m = true ∧ has (prepend l 3 n).1 n = true ∧
    (∀ s ∈ l, ∀ x ∈ s.2, has (prepend l 3 n).1 x = true ∧ has (prepend l 2 m).1 x = true ∧ has l x = true ∧ (s.1.toNat ≤ 2 → loops l 0 x = true) ∧ (¬ s.1.toNat ≤ 2 → loops l x 0 = true)) ∧
    loops (strip l) n m = has (strip l) m ∧ (has (strip l) m = true → loops l n m = true) := by
  obtain ⟨_, a2, a3, ma, ra, a4⟩ := prepend_ok (k := 3) (n := n) hl.1 hl.2 (.inr rfl)
  obtain ⟨_, b2, b3, mb, rb, b4⟩ := prepend_ok (k := 2) (n := m) hl.1 hl.2 (.inl rfl)
  have hm := may_of (by have := hl.1; omega) hl.2
  have hs := hl.strip
  have hms := may_of (by have := hs.1; omega) hs.2
  have est : strip l = plains l := by unfold Wk.strip; rw [hm]; rfl
  have hpl : ∀ x ∈ Pt.all (strip l), confed x.1 = false ∧ x ∈ Pt.all l := fun x hx => by rw [est] at hx; exact plains_all hx
  refine ⟨cnt_cons a3, cnt_cons b3, first_of a2 a4, first_of b2 b4, ?_, ?_, ?_, ?_, ?_, ?_⟩
  · rw [loops_cons hm a2 a3, if_pos (by rfl)]; simp
  · rw [loops_cons hm b2 b3, if_neg (by decide)]; simp
  · rw [has_cons hm a2 a3]; simp
  · intro s hs x hx
    have hin := mem_all hs hx
    have hh : has l x = true := by
      unfold has
      rw [hm, Bool.true_and, List.any_eq_true]
      exact ⟨_, hin, by simp⟩
    have hc := confed_le (hl.2 s hs).2.2.2
    refine ⟨by rw [has_cons hm a2 a3, hh]; simp, by rw [has_cons hm b2 b3, hh]; simp, hh, fun h => ?_, fun h => ?_⟩
    · unfold loops
      rw [hm, Bool.true_and, List.any_eq_true]
      refine ⟨_, hin, ?_⟩
      have : confed s.1 = false := by rw [hc]; simp [h]
      simp [this]
    · unfold loops
      rw [hm, Bool.true_and, List.any_eq_true]
      refine ⟨_, hin, ?_⟩
      have : confed s.1 = true := by rw [hc]; simp [h]
      simp [this]
  · unfold loops has
    rw [hms, Bool.true_and, Bool.true_and]
    rw [Bool.eq_iff_iff, List.any_eq_true, List.any_eq_true]
    constructor
    · rintro ⟨x, hx, h⟩
      rw [(hpl x hx).1] at h
      exact ⟨x, hx, by simpa using h⟩
    · rintro ⟨x, hx, h⟩
      refine ⟨x, hx, ?_⟩
      rw [(hpl x hx).1]
      simpa using h
  · intro h
    unfold has at h
    rw [hms, Bool.true_and, List.any_eq_true] at h
    obtain ⟨x, hx, h⟩ := h
    unfold loops
    rw [hm, Bool.true_and, List.any_eq_true]
    refine ⟨x, (hpl x hx).2, ?_⟩
    rw [(hpl x hx).1]
    simpa using h
end Wk
end Go.Proofs.YtfjpphfadglohaaDoor
