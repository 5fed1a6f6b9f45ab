/-
  The law WalkReplaced.
-/
import Derived.Test.YtfjpphfadglohaaDoorJp
import Derived.Test.YtfjpphfadglohaaDoorZa
import Derived.Test.YtfjpphfadglohaaDoorZd
import Derived.Test.YtfjpphfadglohaaDoorZb
import Derived.Test.YtfjpphfadglohaaDoorJt
namespace Go.Proofs.YtfjpphfadglohaaDoor
open Go.RowKit

def mkS (i : Nat) (s : Seg) : Seg := (1 + s.1 % 4, if s.2 = [] then [i] else s.2.take 60)
def madeF (l : List Seg) : List Seg := (l.take 12).mapIdx mkS
theorem madeF_next {l : List Seg} {k : Nat} (hk : k < l.length) : (l.take (k + 1)).mapIdx mkS = (l.take k).mapIdx mkS ++ [mkS k (l.getD k (0, []))] := by
  rw [List.take_succ_eq_append_getElem hk, List.mapIdx_concat, getD_get hk, List.length_take]
  congr 3
  omega
theorem madeF_len (l : List Seg) : (madeF l).length ≤ 12 := by unfold madeF; rw [List.length_mapIdx, List.length_take]; omega

theorem own_oneA (w : World) (x : Value) : (w.alloc (.cells #[x] 37)).ownsRow w.heap.size 37 1 (.slice (some ⟨w.heap.size, 0, none⟩) 1 1) 1 [x] :=
  ⟨rfl, .inr ⟨w.heap.size, 1, #[x], rfl, Nat.le_refl _, heap_alloc_new w _, Nat.le_refl _, by simp [maxLen], rfl, rfl⟩⟩
set_option maxRecDepth 20000 in
set_option maxHeartbeats 2000000 in
theorem made_any (v : Value) (l : List Seg) (w : World) (h : Pts w v l) :
    Calls Tryd.prog 45 #[v] w fun e w' => ∃ v', e = .returned v' ∧ Pown w' w.heap.size v' (madeF l) ∧ Kept Nothing w w' := by
  obtain ⟨A, c, rfl, hc, hm⟩ := h.form
  obtain ⟨i0, hi, hz0, hz1, hz2⟩ := info_parts sg_info
  obtain ⟨j0, hj, hy0, hy1, hy2⟩ := info_parts as_info
  have HV := Lib.hid h
  have hL : l.length ≤ 9223372036854775807 := by unfold maxLen at hm; omega
  clear h
  go_enter Tryd.func45, Tryd.ntmps45
  go_upto_region 3 with fail
  go_loopw [3, 9] (fun q i wr => ∃ k : Nat, i = .int .i64 (k : Int) ∧ k ≤ l.length ∧ k ≤ 12 ∧ Hid (Pown wr w.heap.size q ((l.take k).mapIdx mkS)) ∧ Hid (Kept Nothing w wr)) (fun _ i _ => l.length - (intOf i).toNat)
  case atStart => exact ⟨0, rfl, Nat.zero_le _, Nat.zero_le _, Lib.hid (Pown.nil _ _), Lib.hid (Kept.refl _ _)⟩
  case round =>
    obtain ⟨k, rfl, hk, hk12, HP, KK⟩ := hrel
    by_cases hlt : k < l.length
    · obtain ⟨b, o, Au, cu, rfl, p0w, p1w, hpw⟩ := HV.out.at2 hlt
      have p0 := KK.out.cell_some p0w (fun x => x)
      have p1 := KK.out.cell_some p1w (fun x => x)
      have i1 : (0 : Int) ≤ (k : Int) := by omega
      have i2 : (k : Int) < (l.length : Int) := by omega
      have HN := Lib.hid (madeF_next hlt)
      have HAS := Lib.hid hpw
      have HPL : Hid (((l.take k).mapIdx mkS).length = k) := Lib.hid (by rw [List.length_mapIdx, List.length_take]; omega)
      clear p0w p1w hpw
      generalize hsg : l.getD k (0, []) = sg at *
      obtain ⟨sk, sn⟩ := sg
      clear hsg
      simp only at p0 p1
      replace HAS : Hid (As w (.slice Au sn.length cu) sn) := HAS
      by_cases h12 : k = 12
      · have h12b : ((k : Int) == 12) = true := by simp; omega
        have HF : Hid (Pown wr w.heap.size _ (madeF l)) := Lib.hid (by have := HP.out; rw [h12] at this; exact this)
        clear HN h12
        go_wp2
        go_ret
        exact ⟨_, rfl, HF.out.old ((Kept.refl Nothing wr).alloc _), KK.out.alloc _⟩
      · have h12b : ((k : Int) == 12) = false := by simp; omega
        have hk11 : k ≤ 11 := by omega
        obtain ⟨xs, oq, hr⟩ := HP.out
        rw [HPL.out] at oq
        have OQ := Lib.hid oq
        have HR := Lib.hid hr
        obtain ⟨Aq, cq, rfl, _, _⟩ := ow_form oq
        clear oq hr
        have hcu : sn.length ≤ cu ∧ cu ≤ maxLen := by obtain ⟨_, _, e, h1, h2⟩ := HAS.out.form; cases e; exact ⟨h1, h2⟩
        have hmin : (if (60 : Int) < (sn.length : Int) then (60 : Int) else (sn.length : Int)) = ((min sn.length 60 : Nat) : Int) := by split <;> omega
        have hmin2 : min (sn.length : Int) (60 : Int) = ((min sn.length 60 : Nat) : Int) := by omega
        have hsl := slice_toA Au sn.length cu (min sn.length 60) (by omega)
        have HA2 := Lib.hid ((HAS.out.pre (m := min sn.length 60) (by omega)))
        have htk : sn.take (min sn.length 60) = sn.take 60 := by
          by_cases h : sn.length ≤ 60
          · rw [List.take_of_length_le (by omega), List.take_of_length_le (by omega)]
          · rw [show min sn.length 60 = 60 by omega]
        have hlen : (sn.take 60).length = min sn.length 60 := by rw [List.length_take]; omega
        rw [htk] at HA2
        have HLEN := Lib.hid hlen
        have hml : min sn.length 60 ≤ 60 := by omega
        have KA := Lib.hid ((Kept.refl Nothing wr).alloc (.cells #[.int .u8 (sk.toNat : Int), .slice Au sn.length cu] 34))
        have BX := Lib.hid (Blk.fresh wr 34 #[.int .u8 (sk.toNat : Int), .slice Au sn.length cu])
        have HSRC := Lib.hid (HA2.out.old (KK.out.trans KA.out)).src
        rw [hlen] at HSRC
        have HF := Lib.hid (fun n hn => HAS.out.1 n (List.mem_of_mem_take (i := 60) hn))
        have HL5 : Hid (0 + min sn.length 60 ≤ maxLen ∧ (0 + min sn.length 60) * 4 ≤ 140737488355328) := Lib.hid (by unfold maxLen; omega)
        have HL6 : Hid (k + 1 ≤ maxLen ∧ (k + 1) * 32 ≤ 140737488355328) := Lib.hid (by unfold maxLen; omega)
        have hkm := kd_mod sk
        have hkm2 : 1 + (sk.toNat : Int) % 4 = ((1 + sk % 4 : UInt8).toNat : Int) := by
          have : (1 + sk % 4 : UInt8).toNat = 1 + sk.toNat % 4 := by rw [UInt8.toNat_add, UInt8.toNat_mod]; simp; omega
          omega
        have hk4 := sk.toNat_lt
        have hkz := KK.out.size
        rw [show mkS k (sk, sn) = (1 + sk % 4, if sn = [] then [k] else sn.take 60) from rfl] at HN
        generalize (1 + sk % 4 : UInt8) = sk2 at *
        by_cases he : sn = []
        · rw [if_pos he] at HN
          subst he
          simp only [List.length_nil, Nat.zero_min, List.take_nil, Int.ofNat_zero, Nat.add_zero] at *
          have hcv : IntKind.u32.wrap (k : Int) = (k : Int) := by simp [IntKind.wrap, IntKind.bits, IntKind.signed]; omega
          have hk32 : k < 4294967296 := by omega
          clear HP h12
          go_wp2_with (first
            | (at_builtin; refine wpList_app _ rfl _ _ 23 rfl w.heap.size 34 i0 _ 2 32 Tryd.underlying23 hi hz0 hz1 hz2 rfl (by decide) (.slice Aq k cq) k xs rfl (ow_kept OQ.out ((K7.out.alloc _).alloc _) (fun _ _ x => x)) (some ⟨w7.heap.size + 1, 0, none⟩) 1 1 [.int .u8 (sk2.toNat : Int), .slice (some ⟨w7.heap.size, 0, none⟩) 1 1] rfl (by have hsr := src_new (w7.alloc (.cells #[.int .u32 (k : Int)] 37)) 34 #[.int .u8 (sk2.toNat : Int), .slice (some ⟨w7.heap.size, 0, none⟩) 1 1] 2 1 rfl (by simp [Value.oneCell']); rw [World.size_alloc] at hsr; exact hsr) HL6.out.1 HL6.out.2 (Nat.le_trans hkz ((K7.out.alloc (.cells #[.int .u32 (k : Int)] 37)).alloc (.cells #[.int .u8 (sk2.toNat : Int), .slice (some ⟨w7.heap.size, 0, none⟩) 1 1] 34)).size) ?_; intro v8 w8 ho8 hg8 _)
            | (at_builtin; refine wpList_app _ rfl _ _ 32 rfl w.heap.size 37 j0 _ 1 4 Tryd.underlying32 hj hy0 hy1 hy2 rfl (by decide) (.slice none 0 0) 0 [] rfl (World.ownsRow_nil _ _ _ _) Au 0 cu (ass []) rfl HSRC.out HL5.out.1 HL5.out.2 (Nat.le_trans hkz KA.out.size) ?_; intro v7 w7 ho7 hg7 _; (rw [Nat.zero_add, List.nil_append] at ho7); (obtain ⟨A7, c7, rfl, _, _⟩ := ow_form ho7); (have K7 := Lib.hid (KA.out.grown hg7 (fun _ hk _ => by cases hk))); (have y0 := (BX.out.kept ((Kept.refl Nothing _).grown hg7 (fun _ hk _ => by cases hk)) (fun x => x)).cell 0); (have y1 := ((BX.out.kept ((Kept.refl Nothing _).grown hg7 (fun _ hk _ => by cases hk)) (fun x => x)).alloc (.cells #[.int .u32 (k : Int)] 37)).cell 0); clear ho7 hg7))
          go_roundw
          case rel =>
            refine ⟨k + 1, by go_num, by omega, by omega, Lib.hid ?_, Lib.hid ((KK.out.trans ((K7.out.alloc _).alloc _)).own_grown (ow_kept OQ.out ((K7.out.alloc _).alloc _) (fun _ _ x => x)) (Nat.le_refl _) hg8)⟩
            rw [HN.out]
            refine ⟨xs ++ [by8 sk2, .slice (some ⟨w7.heap.size, 0, none⟩) 1 1], ?_, ?_⟩
            · rw [List.length_append, HPL.out]; exact ho8
            · exact Rws.push (c := (sk2, [k])) (ow_kept OQ.out ((K7.out.alloc _).alloc _) (fun _ _ x => x)) (HR.out.old ((K7.out.alloc _).alloc _)) (ow_kept (own_weakA (own_oneA w7 (.int .u32 (k : Int))) (Nat.le_trans hkz K7.out.size)) ((Kept.refl Nothing _).alloc _) (fun _ _ x => x)) (fun m hm => by obtain rfl := List.mem_singleton.1 hm; exact hk32) hg8
          case measure => simp [intOf]; omega
        · rw [if_neg he] at HN
          have hpos : 0 < min sn.length 60 := by have := List.length_pos_iff.2 he; omega
          have hnz : ((min sn.length 60 : Nat) : Int) ≠ 0 := by omega
          have hnb : (((min sn.length 60 : Nat) : Int) == 0) = false := by simp; omega
          generalize min sn.length 60 = ml at *
          generalize sn.take 60 = vt at *
          clear he htk hlen HA2 HP h12
          go_wp2_with (first
            | (at_builtin; refine wpList_app _ rfl _ _ 23 rfl w.heap.size 34 i0 _ 2 32 Tryd.underlying23 hi hz0 hz1 hz2 rfl (by decide) (.slice Aq k cq) k xs rfl (ow_kept OQ.out (K7.out.alloc _) (fun _ _ x => x)) (some ⟨w7.heap.size, 0, none⟩) 1 1 [.int .u8 (sk2.toNat : Int), .slice A7 ml c7] rfl (src_new w7 _ #[.int .u8 (sk2.toNat : Int), .slice A7 ml c7] 2 1 rfl (by simp [Value.oneCell'])) HL6.out.1 HL6.out.2 (Nat.le_trans hkz (K7.out.alloc (.cells #[.int .u8 (sk2.toNat : Int), .slice A7 ml c7] 34)).size) ?_; intro v8 w8 ho8 hg8 _)
            | (at_builtin; refine wpList_app _ rfl _ _ 32 rfl w.heap.size 37 j0 _ 1 4 Tryd.underlying32 hj hy0 hy1 hy2 rfl (by decide) (.slice none 0 0) 0 [] rfl (World.ownsRow_nil _ _ _ _) Au ml cu (ass vt) rfl HSRC.out HL5.out.1 HL5.out.2 (Nat.le_trans hkz KA.out.size) ?_; intro v7 w7 ho7 hg7 _; (rw [Nat.zero_add, List.nil_append] at ho7); (obtain ⟨A7, c7, rfl, _, _⟩ := ow_form ho7); (have O7 := Lib.hid ho7); (have K7 := Lib.hid (KA.out.grown hg7 (fun _ hk _ => by cases hk))); (have y0 := (BX.out.kept ((Kept.refl Nothing _).grown hg7 (fun _ hk _ => by cases hk)) (fun x => x)).cell 0); clear ho7 hg7))
          go_roundw
          case rel =>
            refine ⟨k + 1, by go_num, by omega, by omega, Lib.hid ?_, Lib.hid ((KK.out.trans (K7.out.alloc _)).own_grown (ow_kept OQ.out (K7.out.alloc _) (fun _ _ x => x)) (Nat.le_refl _) hg8)⟩
            rw [HN.out]
            refine ⟨xs ++ [by8 sk2, .slice A7 ml c7], ?_, ?_⟩
            · rw [List.length_append, HPL.out]; exact ho8
            · exact Rws.push (c := (sk2, vt)) (ow_kept OQ.out (K7.out.alloc _) (fun _ _ x => x)) (HR.out.old (K7.out.alloc _)) (by rw [show (sk2, vt).2.length = ml from HLEN.out]; exact ow_kept O7.out ((Kept.refl Nothing w7).alloc _) (fun _ _ x => x)) HF.out hg8
          case measure => simp [intOf]; omega
    · obtain rfl : k = l.length := by omega
      have HF : Hid (Pown wr w.heap.size _ (madeF l)) := Lib.hid (by
        have := HP.out
        rw [List.take_of_length_le (Nat.le_refl _)] at this
        unfold madeF
        rw [List.take_of_length_le hk12]
        exact this)
      go_wp2
      go_ret
      exact ⟨_, rfl, HF.out, KK.out⟩
end Go.Proofs.YtfjpphfadglohaaDoor
namespace Go.Proofs.YtfjpphfadglohaaDoor
open Go.RowKit Go.Shelf

def tP : List Seg := [(3, [65001, 65002]), (2, [10]), (1, [20, 30])]
def tQ : List Seg := [(3, [65003, 65001, 65002]), (2, [10]), (1, [20, 30])]
def tR : List Seg := [(1, [5]), (2, [6])]
theorem t_pre : Wk.prepend tP 3 65003 = (tQ, 0) := by rfl
theorem t_len : Wk.length tP = 2 ∧ Wk.length tR = 2 := ⟨by rfl, by rfl⟩
theorem t_nb : Wk.neighbour tP = 10 ∧ Wk.neighbour tR = 0 := ⟨by rfl, by rfl⟩
theorem t_or : Wk.origin tR = 6 := by rfl
theorem t_ord : Wk.ordered tP = true := by rfl
theorem t_strip : Wk.strip tP = [(2, [10]), (1, [20, 30])] := by rfl
theorem d10 : Lib.decDigits 10 = [49, 48] := by rw [dec_step (by decide), dec_small (by decide)]; rfl
theorem d20 : Lib.decDigits 20 = [50, 48] := by rw [dec_step (by decide), dec_small (by decide)]; rfl
theorem d30 : Lib.decDigits 30 = [51, 48] := by rw [dec_step (by decide), dec_small (by decide)]; rfl
theorem d65 (k : Nat) (hk : k < 10) : Lib.decDigits (65000 + k) = [54, 53, 48, 48, UInt8.ofNat (48 + k)] := by
  rw [dec_step (by omega), show (65000 + k) / 10 = 6500 by omega, show (65000 + k) % 10 = k by omega, dec_step (by decide), dec_step (by decide), dec_step (by decide), dec_small (by decide)]
  rfl
theorem t_text1 : Pt.text [(2, [10]), (1, [20, 30])] = [49, 48, 32, 123, 50, 48, 44, 51, 48, 125] := by
  show Pt.tx [(2, [10]), (1, [20, 30])] 2 = _
  simp [Pt.tx, Pt.ahead, Pt.gap, Pt.segT, Pt.opens, Pt.betw, Pt.ends, d10, d20, d30, Lib.join, List.intercalate, List.intersperse]
theorem t_text2 : Pt.text tQ = [40, 54, 53, 48, 48, 51, 32, 54, 53, 48, 48, 49, 32, 54, 53, 48, 48, 50, 41, 32, 49, 48, 32, 123, 50, 48, 44, 51, 48, 125] := by
  have e1 : Lib.decDigits 65001 = [54, 53, 48, 48, 49] := d65 1 (by decide)
  have e2 : Lib.decDigits 65002 = [54, 53, 48, 48, 50] := d65 2 (by decide)
  have e3 : Lib.decDigits 65003 = [54, 53, 48, 48, 51] := d65 3 (by decide)
  show Pt.tx tQ 3 = _
  simp [tQ, Pt.tx, Pt.ahead, Pt.gap, Pt.segT, Pt.opens, Pt.betw, Pt.ends, d10, d20, d30, e1, e2, e3, Lib.join, List.intercalate, List.intersperse]

theorem as_made (w : World) (cs : Array Value) (l : List Nat) (h : cs.toList = ass l) (hm : l.length ≤ 100) (hl : ∀ n ∈ l, n < 4294967296) (hp : 0 < l.length) : As (w.alloc (.cells cs 37)) (.slice (some ⟨w.heap.size, 0, none⟩) l.length l.length) l := by
  have hs : cs.size = l.length := by rw [← Array.length_toList, h, length_ass]
  refine As.of_own (base := 0) (e := 37) ⟨by rw [length_ass, Nat.mul_one], .inr ⟨w.heap.size, l.length, cs, rfl, Nat.zero_le _, heap_alloc_new w _, Nat.le_refl _, by unfold maxLen; omega, by rw [hs, Nat.mul_one], ?_⟩⟩ hl
  rw [List.take_of_length_le (by simp [hs]), h]
theorem pts_made (w : World) (cs : Array Value) (l : List Seg) (hm : l.length ≤ 100) (hs : cs.size = l.length * 2) (h : PCells (As (w.alloc (.cells cs 34))) cs.toList l) : Pts (w.alloc (.cells cs 34)) (.slice (some ⟨w.heap.size, 0, none⟩) l.length l.length) l :=
  Pts.of_own (base := 0) (e := 34) ⟨by simp [hs], .inr ⟨w.heap.size, l.length, cs, rfl, Nat.zero_le _, heap_alloc_new w _, Nat.le_refl _, by unfold maxLen; omega, hs, by rw [List.take_of_length_le (by simp [hs])]⟩⟩ h

set_option maxRecDepth 20000 in
set_option maxHeartbeats 2000000 in
theorem tells_true (w : World) (hr : Rdy w) (hs : Bkt w) :
    Calls Tryd.prog 38 #[] w fun e w' => e = .returned (.bool true) ∧ Kept Nothing w w' := by
  have HR := Lib.hid hr
  have HS := Lib.hid hs
  clear hr hs
  have hB : ∀ s ∈ tP, s.2.length ≤ 1000000 := by unfold tP; simp
  have hBR : ∀ s ∈ tR, s.2.length ≤ 1000000 := by unfold tR; simp
  go_enter Tryd.func38, Tryd.ntmps38
  go_upto_region 2 with fail
  obtain ⟨wA, hwA⟩ : ∃ wA, w.alloc (.cells #[.int .u32 65001, .int .u32 65002] 37) = wA := ⟨_, rfl⟩
  have zA : wA.heap.size = w.heap.size + 1 := by rw [← hwA]; exact World.size_alloc _ _
  have aA : As wA (.slice (some ⟨w.heap.size, 0, none⟩) 2 2) [65001, 65002] := by rw [← hwA]; exact as_made w _ [65001, 65002] rfl (by simp) (by simp) (by simp)
  have kA : Kept Nothing w wA := by rw [← hwA]; exact (Kept.refl _ w).alloc _
  rw [hwA]
  obtain ⟨wB, hwB⟩ : ∃ wB, wA.alloc (.cells #[.int .u32 10] 37) = wB := ⟨_, rfl⟩
  have zB : wB.heap.size = w.heap.size + 1 + 1 := by rw [← hwB, World.size_alloc, zA]
  have aB : As wB (.slice (some ⟨w.heap.size + 1, 0, none⟩) 1 1) [10] := by rw [← hwB, ← zA]; exact as_made wA _ [10] rfl (by simp) (by simp) (by simp)
  have kB : Kept Nothing wA wB := by rw [← hwB]; exact (Kept.refl _ wA).alloc _
  rw [hwB]
  obtain ⟨wC, hwC⟩ : ∃ wC, wB.alloc (.cells #[.int .u32 20, .int .u32 30] 37) = wC := ⟨_, rfl⟩
  have zC : wC.heap.size = w.heap.size + 1 + 1 + 1 := by rw [← hwC, World.size_alloc, zB]
  have aC : As wC (.slice (some ⟨w.heap.size + 1 + 1, 0, none⟩) 2 2) [20, 30] := by rw [← hwC, ← zB]; exact as_made wB _ [20, 30] rfl (by simp) (by simp) (by simp)
  have kC : Kept Nothing wB wC := by rw [← hwC]; exact (Kept.refl _ wB).alloc _
  rw [hwC]
  have kD := (Kept.refl Nothing wC).alloc (.cells #[.int .u8 3, .slice (some ⟨w.heap.size, 0, none⟩) 2 2, .int .u8 2, .slice (some ⟨w.heap.size + 1, 0, none⟩) 1 1, .int .u8 1, .slice (some ⟨w.heap.size + 1 + 1, 0, none⟩) 2 2] 34)
  have PD := Lib.hid (pts_made wC #[.int .u8 3, .slice (some ⟨w.heap.size, 0, none⟩) 2 2, .int .u8 2, .slice (some ⟨w.heap.size + 1, 0, none⟩) 1 1, .int .u8 1, .slice (some ⟨w.heap.size + 1 + 1, 0, none⟩) 2 2] tP (by decide) rfl ⟨rfl, aA.old (kB.trans (kC.trans kD)), rfl, aB.old (kC.trans kD), rfl, aC.old kD, trivial⟩)
  rw [zC] at PD
  have KD := Lib.hid (kA.trans (kB.trans (kC.trans kD)))
  clear aA aB aC kA kB kC kD zA zB
  generalize wC.alloc (.cells #[.int .u8 3, .slice (some ⟨w.heap.size, 0, none⟩) 2 2, .int .u8 2, .slice (some ⟨w.heap.size + 1, 0, none⟩) 1 1, .int .u8 1, .slice (some ⟨w.heap.size + 1 + 1, 0, none⟩) 2 2] 34) = wD at *
  generalize w.heap.size + 1 + 1 + 1 = gP at *
  have HPP := Lib.hid (walk_prepend (.slice (some ⟨gP, 0, none⟩) 3 3) tP 3 65003 (by decide) wD PD.out (by decide) hB)
  rw [t_pre] at HPP
  replace HPP : Hid (Calls Tryd.prog 39 #[.slice (some ⟨gP, 0, none⟩) 3 3, .int .u8 3, .int .u32 65003] wD fun e w' => ∃ v', e = .returned (.tuple #[v', .int .i64 0]) ∧ Pown w' wD.heap.size v' tQ ∧ Kept Nothing wD w') := HPP
  go_upto_region 3 with (go_at_call 39; refine (HPP.out).mono ?_; rintro e w5 ⟨v5, rfl, p5, k5⟩; (have P5 := Lib.hid p5); (have K5 := Lib.hid k5); clear p5 k5)
  go_upto_region 4 with fail
  obtain ⟨wE, hwE⟩ : ∃ wE, w5.alloc (.cells #[.int .u32 5] 37) = wE := ⟨_, rfl⟩
  have zE : wE.heap.size = w5.heap.size + 1 := by rw [← hwE]; exact World.size_alloc _ _
  have aE : As wE (.slice (some ⟨w5.heap.size, 0, none⟩) 1 1) [5] := by rw [← hwE]; exact as_made w5 _ [5] rfl (by simp) (by simp) (by simp)
  have kE : Kept Nothing w5 wE := by rw [← hwE]; exact (Kept.refl _ w5).alloc _
  rw [hwE]
  obtain ⟨wF, hwF⟩ : ∃ wF, wE.alloc (.cells #[.int .u32 6] 37) = wF := ⟨_, rfl⟩
  have zF : wF.heap.size = w5.heap.size + 1 + 1 := by rw [← hwF, World.size_alloc, zE]
  have aF : As wF (.slice (some ⟨w5.heap.size + 1, 0, none⟩) 1 1) [6] := by rw [← hwF, ← zE]; exact as_made wE _ [6] rfl (by simp) (by simp) (by simp)
  have kF : Kept Nothing wE wF := by rw [← hwF]; exact (Kept.refl _ wE).alloc _
  rw [hwF]
  have kG := (Kept.refl Nothing wF).alloc (.cells #[.int .u8 1, .slice (some ⟨w5.heap.size, 0, none⟩) 1 1, .int .u8 2, .slice (some ⟨w5.heap.size + 1, 0, none⟩) 1 1] 34)
  have RG := Lib.hid (pts_made wF #[.int .u8 1, .slice (some ⟨w5.heap.size, 0, none⟩) 1 1, .int .u8 2, .slice (some ⟨w5.heap.size + 1, 0, none⟩) 1 1] tR (by decide) rfl ⟨rfl, aE.old (kF.trans kG), rfl, aF.old kG, trivial⟩)
  rw [zF] at RG
  have K6 := Lib.hid (kE.trans (kF.trans kG))
  have KZ := Lib.hid (KD.out.trans (K5.out.trans K6.out))
  have PG := Lib.hid (PD.out.old (K5.out.trans K6.out))
  have QG := Lib.hid (P5.out.old K6.out).pts
  clear aE aF kE kF kG zE zF
  generalize wF.alloc (.cells #[.int .u8 1, .slice (some ⟨w5.heap.size, 0, none⟩) 1 1, .int .u8 2, .slice (some ⟨w5.heap.size + 1, 0, none⟩) 1 1] 34) = w6 at *
  generalize w5.heap.size + 1 + 1 = gR at *
  have C1 := Lib.hid (fun u (k : Kept Nothing w6 u) => walk_length (.slice (some ⟨gP, 0, none⟩) 3 3) tP u (PG.out.old k) (by decide) hB)
  have C2 := Lib.hid (fun u (k : Kept Nothing w6 u) => walk_neighbour (.slice (some ⟨gP, 0, none⟩) 3 3) tP u (PG.out.old k) (by decide) hB)
  have C3 := Lib.hid (fun u (k : Kept Nothing w6 u) => walk_ordered (.slice (some ⟨gP, 0, none⟩) 3 3) tP u (PG.out.old k) (by decide) hB)
  have C4 := Lib.hid (fun u (k : Kept Nothing w6 u) => walk_strip (.slice (some ⟨gP, 0, none⟩) 3 3) tP u (PG.out.old k) (by decide) hB)
  have C5 := Lib.hid (fun v u (k : Kept Nothing w6 u) (h : Pts u v [(2, [10]), (1, [20, 30])]) => path_text v [(2, [10]), (1, [20, 30])] u h (by decide) (HR.out.kept (KZ.out.trans k)) (HS.out.kept (KZ.out.trans k)))
  have C6 := Lib.hid (fun u (k : Kept Nothing w6 u) => path_text v5 tQ u (QG.out.old k) (by decide) (HR.out.kept (KZ.out.trans k)) (HS.out.kept (KZ.out.trans k)))
  have C7 := Lib.hid (fun u (k : Kept Nothing w6 u) => walk_neighbour (.slice (some ⟨gR, 0, none⟩) 2 2) tR u (RG.out.old k) (by decide) hBR)
  have C8 := Lib.hid (fun u (k : Kept Nothing w6 u) => walk_origin (.slice (some ⟨gR, 0, none⟩) 2 2) tR u (RG.out.old k) (by decide) hBR)
  have C9 := Lib.hid (fun u (k : Kept Nothing w6 u) => walk_length (.slice (some ⟨gR, 0, none⟩) 2 2) tR u (RG.out.old k) (by decide) hBR)
  rw [t_len.1] at C1
  rw [t_nb.1] at C2
  rw [t_ord] at C3
  rw [t_strip] at C4
  rw [t_text1] at C5
  rw [t_text2] at C6
  rw [t_nb.2] at C7
  rw [t_or] at C8
  rw [t_len.2] at C9
  clear hB hBR PD HPP P5 K5 K6
  go_wp2_with (first
    | (go_at_call 35; refine (C9.out _ (m7.trans q8)).mono ?_; rintro e u9 ⟨rfl, q9⟩)
    | (go_at_call 33; refine (C8.out _ m7).mono ?_; rintro e u8 ⟨rfl, q8⟩)
    | (go_at_call 31; refine (C7.out _ m6).mono ?_; rintro e u7 ⟨rfl, q7⟩; have m7 := m6.trans q7)
    | (go_at_call 47; refine (C6.out _ m5).mono ?_; rintro e u6 ⟨rfl, q6⟩; have m6 := m5.trans q6)
    | (go_at_call 47; refine (C5.out _ _ m4 p4.pts).mono ?_; rintro e u5 ⟨rfl, q5⟩; have m5 := m4.trans q5)
    | (go_at_call 41; refine (C4.out _ m3).mono ?_; rintro e u4 ⟨v4, rfl, p4, q4⟩; have m4 := m3.trans q4)
    | (go_at_call 27; refine (C3.out _ m2).mono ?_; rintro e u3 ⟨rfl, q3⟩; have m3 := m2.trans q3)
    | (go_at_call 31; refine (C2.out _ m1).mono ?_; rintro e u2 ⟨rfl, q2⟩; have m2 := m1.trans q2)
    | (go_at_call 35; refine (C1.out _ (Kept.refl _ _)).mono ?_; rintro e u1 ⟨rfl, m1⟩))
  go_ret
  exact ⟨rfl, KZ.out.trans ((m7.trans q8).trans q9)⟩
end Go.Proofs.YtfjpphfadglohaaDoor
namespace Go.Proofs.YtfjpphfadglohaaDoor
open Go.RowKit

theorem madeF_seg {l : List Seg} {s : Seg} (h : s ∈ madeF l) : s.2 ≠ [] ∧ s.2.length ≤ 60 ∧ 1 ≤ s.1.toNat ∧ s.1.toNat ≤ 4 := by
  unfold madeF at h
  obtain ⟨i, hi, rfl⟩ := List.mem_iff_getElem.1 h
  rw [List.getElem_mapIdx]
  generalize (l.take 12)[i]'(by simpa using hi) = t
  unfold mkS
  have : (1 + t.1 % 4 : UInt8).toNat = 1 + t.1.toNat % 4 := by rw [UInt8.toNat_add, UInt8.toNat_mod]; simp; omega
  refine ⟨?_, ?_, by rw [this]; omega, by rw [this]; omega⟩
  · simp only
    split
    · simp
    · next h => intro e; apply h; simpa using e
  · simp only
    split
    · simp
    · rw [List.length_take]; omega
theorem madeF_may (l : List Seg) : Pt.may (madeF l) = true := by
  unfold Pt.may
  rw [Bool.and_eq_true, List.all_eq_true]
  refine ⟨fun s hs => ?_, by have := madeF_len l; simp; omega⟩
  obtain ⟨h1, h2, h3, h4⟩ := madeF_seg hs
  have := List.length_pos_iff.2 h1
  unfold Pt.may1
  simp only [Bool.and_eq_true, decide_eq_true_eq]
  omega
namespace Wk
theorem may_of {l : List Seg} (h1 : l.length ≤ 32) (h2 : ∀ s ∈ l, s.2 ≠ [] ∧ s.2.length ≤ 255 ∧ 1 ≤ s.1.toNat ∧ s.1.toNat ≤ 4) : Pt.may l = true := by
  unfold Pt.may
  rw [Bool.and_eq_true, List.all_eq_true]
  refine ⟨fun s hs => ?_, by simpa using h1⟩
  obtain ⟨g1, g2, g3, g4⟩ := h2 s hs
  have := List.length_pos_iff.2 g1
  unfold Pt.may1
  simp only [Bool.and_eq_true, decide_eq_true_eq]
  omega
/-- What is put ahead stands first. -/
theorem prepend_ok {l : List Seg} {k : UInt8} {n : Nat} (hl : l.length ≤ 31) (h2 : ∀ s ∈ l, s.2 ≠ [] ∧ s.2.length ≤ 255 ∧ 1 ≤ s.1.toNat ∧ s.1.toNat ≤ 4) (hk : k.toNat = 2 ∨ k.toNat = 3) :
    (prepend l k n).2 = 0 ∧ Pt.may (prepend l k n).1 = true ∧ Pt.all (prepend l k n).1 = (k, n) :: Pt.all l ∧ ∃ m r, (prepend l k n).1 = (k, n :: m) :: r := by
  have hm : Pt.may l = true := may_of (by omega) h2
  have e : prepend l k n = if room l k.toNat then (ahead l n, 0) else if l.length = 32 then ([], 7) else ((k, [n]) :: l, 0) := by
    unfold prepend
    rw [if_neg]
    simp only [hm, Bool.not_true, Bool.false_or, Bool.and_eq_true, decide_eq_true_eq]
    omega
  rw [e]
  cases hr : room l k.toNat with
  | true =>
    rw [if_pos rfl]
    cases l with
    | nil => simp [room] at hr
    | cons s r =>
      obtain ⟨sk, sn⟩ := s
      have hr2 : sk.toNat = k.toNat ∧ sn.length < 255 := by simpa [room] using hr
      have hsk : sk = k := UInt8.toNat_inj.1 hr2.1
      subst hsk
      have g := h2 (sk, sn) (List.mem_cons_self ..)
      refine ⟨rfl, ?_, ?_, sn, r, rfl⟩
      · refine may_of (by simpa [ahead] using (by simp at hl; omega : r.length + 1 ≤ 32)) (fun s hs => ?_)
        rcases List.mem_cons.1 hs with rfl | hs
        · exact ⟨by simp, by simp; omega, g.2.2⟩
        · exact h2 s (List.mem_cons_of_mem _ hs)
      · simp [ahead, Pt.all]
  | false =>
    rw [if_neg (by decide), if_neg (by omega)]
    refine ⟨rfl, ?_, ?_, [], l, rfl⟩
    · refine may_of (by simp; omega) (fun s hs => ?_)
      rcases List.mem_cons.1 hs with rfl | hs
      · exact ⟨by simp, by simp, by simp; omega⟩
      · exact h2 s hs
    · simp [Pt.all]
theorem has_cons {l m : List Seg} {k : UInt8} {n x : Nat} (h1 : Pt.may l = true) (h2 : Pt.may m = true) (h : Pt.all m = (k, n) :: Pt.all l) : has m x = (n == x || has l x) := by
  unfold has
  rw [h1, h2, h, List.any_cons]
  simp
theorem ordered_conf {l m : List Seg} {k : UInt8} {n : Nat} (h1 : Pt.may l = true) (h2 : Pt.may m = true) (hk : confed k = true) (h : Pt.all m = (k, n) :: Pt.all l) : ordered m = ordered l := by
  unfold ordered sts
  rw [h1, h2, h, List.foldl_cons]
  have : st (false, false) (k, n) = (false, false) := by unfold st; rw [hk]; rfl
  rw [this]
theorem sts_plain (a : List (UInt8 × Nat)) (h : ∀ x ∈ a, confed x.1 = false) : ∀ s : Bool × Bool, (a.foldl st s).2 = s.2 := by
  induction a with
  | nil => exact fun s => rfl
  | cons x a ih =>
    intro s
    rw [List.foldl_cons, ih (fun y hy => h y (List.mem_cons_of_mem _ hy))]
    unfold st
    rw [h x (List.mem_cons_self ..)]
    rfl
theorem ordered_plain {m : List Seg} (h2 : Pt.may m = true) (h : ∀ x ∈ Pt.all m, confed x.1 = false) : ordered m = true := by
  unfold ordered sts
  rw [h2, sts_plain _ h]
  rfl
theorem first_of {m r : List Seg} {k : UInt8} {n : Nat} {q : List Nat} (h2 : Pt.may m = true) (h : m = (k, n :: q) :: r) : first m = (k.toNat, n, true) := by
  unfold first
  rw [h2, h]
  rfl
theorem plains_all {l : List Seg} {x : UInt8 × Nat} (h : x ∈ Pt.all (plains l)) : confed x.1 = false ∧ x ∈ Pt.all l := by
  unfold Pt.all at h ⊢
  obtain ⟨s, hs, hx⟩ := List.mem_flatMap.1 h
  obtain ⟨n, hn, rfl⟩ := List.mem_map.1 hx
  have hs2 := List.mem_filter.1 hs
  exact ⟨by simpa using hs2.2, List.mem_flatMap.2 ⟨s, hs2.1, List.mem_map.2 ⟨n, hn, rfl⟩⟩⟩

/-- A path that may be, of few segments. -/
def Fewer (l : List Seg) : Prop := l.length ≤ 31 ∧ ∀ s ∈ l, s.2 ≠ [] ∧ s.2.length ≤ 255 ∧ 1 ≤ s.1.toNat ∧ s.1.toNat ≤ 4
theorem Fewer.strip {l : List Seg} (h : Fewer l) : Fewer (strip l) := by
  unfold Wk.strip
  rw [may_of (by have := h.1; omega) h.2, if_pos rfl]
  exact ⟨Nat.le_trans (plains_len l) h.1, fun s hs => h.2 s (List.mem_filter.1 hs).1⟩
theorem next_a {l : List Seg} {N : Nat} (hl : Fewer l) (ho : ordered l = true) (h0 : has l 0 = false) (hN : N ≠ 0) :
    right (prepend l 3 N).1 2 N = true ∧ right (prepend l 3 N).1 1 0 = true ∧ right (prepend l 3 N).1 3 N = false := by
  obtain ⟨_, h2, h3, m, r, h4⟩ := prepend_ok (k := 3) (n := N) hl.1 hl.2 (.inr rfl)
  have hm := may_of (by have := hl.1; omega) hl.2
  have e1 := ordered_conf hm h2 (by rfl) h3
  have e2 := has_cons (x := 0) hm h2 h3
  have e3 := first_of h2 h4
  have e4 : has (prepend l 3 N).1 0 = false := by rw [e2, h0]; simp [hN]
  unfold right begins
  rw [e1, ho, e4, e3]
  simp
theorem next_b {l : List Seg} {M : Nat} (hl : Fewer l) (h0 : has l 0 = false) (hM : M ≠ 0) :
    right (prepend (strip l) 2 M).1 3 M = true ∧ right (prepend (strip l) 2 M).1 2 M = false := by
  have hs := hl.strip
  obtain ⟨_, h2, h3, m, r, h4⟩ := prepend_ok (k := 2) (n := M) hs.1 hs.2 (.inl rfl)
  have hm := may_of (by have := hl.1; omega) hl.2
  have hms := may_of (by have := hs.1; omega) hs.2
  have est : strip l = plains l := by unfold Wk.strip; rw [hm]; rfl
  have e2 := has_cons (x := 0) hms h2 h3
  have e3 := first_of h2 h4
  have hpl : ∀ x ∈ Pt.all (strip l), confed x.1 = false ∧ x ∈ Pt.all l := fun x hx => by rw [est] at hx; exact plains_all hx
  have e1 : ordered (prepend (strip l) 2 M).1 = true := ordered_plain h2 (fun x hx => by
    rw [h3] at hx
    rcases List.mem_cons.1 hx with rfl | hx
    · rfl
    · exact (hpl x hx).1)
  have e5 : has (strip l) 0 = false := by
    unfold has at h0 ⊢
    rw [hm, Bool.true_and, List.any_eq_false] at h0
    rw [hms, Bool.true_and, List.any_eq_false]
    exact fun x hx => h0 x (hpl x hx).2
  have e4 : has (prepend (strip l) 2 M).1 0 = false := by rw [e2, e5]; simp [hM]
  unfold right begins
  rw [e1, e4, e3]
  simp
theorem right_inv {l : List Seg} {c : Int} {p : Nat} (h : right l c p = true) : ordered l = true ∧ has l 0 = false := by
  unfold right at h
  simp only [Bool.and_eq_true, Bool.not_eq_true'] at h
  exact ⟨h.1.1, h.1.2⟩
theorem right_one {l : List Seg} {p : Nat} (h1 : ordered l = true) (h2 : has l 0 = false) : right l 1 p = true := by
  unfold right; rw [h1, h2]; rfl
theorem right_none {l : List Seg} {p : Nat} : right l 0 p = false ∧ right l 4 p = false := by
  unfold right
  simp
theorem made_few (l : List Seg) : Fewer (madeF l) := ⟨by have := madeF_len l; omega, fun s hs => by
  obtain ⟨h1, h2, h3, h4⟩ := madeF_seg hs
  exact ⟨h1, by omega, h3, h4⟩⟩
theorem Fewer.bound {l : List Seg} (h : Fewer l) : l.length ≤ 1000000 ∧ ∀ s ∈ l, s.2.length ≤ 1000000 := ⟨by have := h.1; omega, fun s hs => by have := (h.2 s hs).2.1; omega⟩
theorem may_bound {l : List Seg} (h : Pt.may l = true) : l.length ≤ 1000000 ∧ ∀ s ∈ l, s.2.length ≤ 1000000 := ⟨by have := Pt.may_le h; omega, fun s hs => by have := (Pt.may_seg h hs).2.2.2; omega⟩
end Wk
end Go.Proofs.YtfjpphfadglohaaDoor
namespace Go.Proofs.YtfjpphfadglohaaDoor
open Go.RowKit

namespace Wk
theorem lens_cons (s : Seg) (l : List Seg) : lens (s :: l) = len1 s + lens l := by unfold lens; rw [List.map_cons, List.sum_cons]
theorem prepend_lens {l : List Seg} {k : UInt8} {n : Nat} (hl : l.length ≤ 31) (h2 : ∀ s ∈ l, s.2 ≠ [] ∧ s.2.length ≤ 255 ∧ 1 ≤ s.1.toNat ∧ s.1.toNat ≤ 4) (hk : k.toNat = 2 ∨ k.toNat = 3) :
    lens (prepend l k n).1 = lens l + (if k.toNat = 2 then 1 else 0) := by
  have hm : Pt.may l = true := may_of (by omega) h2
  have e : prepend l k n = if room l k.toNat then (ahead l n, 0) else if l.length = 32 then ([], 7) else ((k, [n]) :: l, 0) := by
    unfold prepend
    rw [if_neg]
    simp only [hm, Bool.not_true, Bool.false_or, Bool.and_eq_true, decide_eq_true_eq]
    omega
  rw [e]
  cases hr : room l k.toNat with
  | true =>
    rw [if_pos rfl]
    cases l with
    | nil => simp [room] at hr
    | cons s r =>
      obtain ⟨sk, sn⟩ := s
      have hr2 : sk.toNat = k.toNat ∧ sn.length < 255 := by simpa [room] using hr
      show lens ((sk, n :: sn) :: r) = _
      rw [lens_cons, lens_cons]
      unfold len1
      simp only [hr2.1, List.length_cons]
      rcases hk with h | h <;> simp [h] <;> omega
  | false =>
    rw [if_neg (by decide), if_neg (by omega)]
    show lens ((k, [n]) :: l) = _
    rw [lens_cons]
    unfold len1
    rcases hk with h | h <;> simp [h] <;> omega
theorem lens_plains (l : List Seg) : lens (plains l) = lens l := by
  induction l with
  | nil => rfl
  | cons s l ih =>
    unfold plains at ih ⊢
    rw [lens_cons]
    cases hc : confed s.1 with
    | true =>
      rw [List.filter_cons_of_neg (by simp [hc]), ih]
      have h0 : len1 s = 0 := by
        unfold confed at hc
        unfold len1
        have : s.1.toNat = 3 ∨ s.1.toNat = 4 := by simpa using hc
        rw [if_neg (by omega), if_neg (by omega)]
      omega
    | false => rw [List.filter_cons_of_pos (by simp [hc]), lens_cons, ih]
theorem lens_cnt (l : List Seg) (h : ∀ s ∈ l, s.2 ≠ []) : lens l ≤ Pt.cnt l := by
  induction l with
  | nil => exact Nat.le_refl _
  | cons s l ih =>
    have h1 := ih (fun x hx => h x (List.mem_cons_of_mem _ hx))
    have h2 := List.length_pos_iff.2 (h s (List.mem_cons_self ..))
    rw [lens_cons]
    unfold Pt.cnt at h1 ⊢
    rw [List.map_cons, List.sum_cons]
    have : len1 s ≤ s.2.length := by unfold len1; split; exact Nat.le_refl _; split <;> omega
    omega
theorem all_plains (l : List Seg) : Pt.all (plains l) = (Pt.all l).filter (fun x => !confed x.1) := by
  induction l with
  | nil => rfl
  | cons s l ih =>
    unfold plains at ih ⊢
    have e : Pt.all (s :: l) = s.2.map (fun n => (s.1, n)) ++ Pt.all l := by simp [Pt.all]
    rw [e, List.filter_append, ← ih]
    cases hc : confed s.1 with
    | true =>
      rw [List.filter_cons_of_neg (by simp [hc])]
      have : (s.2.map (fun n => (s.1, n))).filter (fun x => !confed x.1) = [] := by
        rw [List.filter_eq_nil_iff]
        intro x hx
        obtain ⟨n, _, rfl⟩ := List.mem_map.1 hx
        simp [hc]
      rw [this, List.nil_append]
    | false =>
      rw [List.filter_cons_of_pos (by simp [hc])]
      have : (s.2.map (fun n => (s.1, n))).filter (fun x => !confed x.1) = s.2.map (fun n => (s.1, n)) := by
        rw [List.filter_eq_self]
        intro x hx
        obtain ⟨n, _, rfl⟩ := List.mem_map.1 hx
        simp [hc]
      rw [this]
      simp [Pt.all]
theorem find_filter (a : List (UInt8 × Nat)) (p : UInt8 × Nat → Bool) : (a.filter p).find? p = a.find? p := by
  induction a with
  | nil => rfl
  | cons x a ih =>
    cases hx : p x with
    | true => rw [List.filter_cons_of_pos hx, List.find?_cons_of_pos hx, List.find?_cons_of_pos hx]
    | false => rw [List.filter_cons_of_neg (by simp [hx]), List.find?_cons_of_neg (by simp [hx]), ih]
theorem plains_twice (l : List Seg) : plains (plains l) = plains l := by
  unfold plains
  rw [List.filter_filter]
  simp
/-- What the law asks. -/
theorem lengths {l : List Seg} (n : Nat) (hl : Fewer l) :
    length (prepend l 2 n).1 = length l + 1 ∧ length (prepend l 3 n).1 = length l ∧ length (strip l) = length l ∧ neighbour (strip l) = neighbour l ∧ neighbour (prepend l 2 n).1 = n ∧ neighbour (prepend l 3 n).1 = neighbour l ∧
    (∀ s ∈ strip l, s.1.toNat ≤ 2) ∧ ordered (strip l) = true ∧ strip (strip l) = strip l ∧ ordered (prepend l 3 n).1 = ordered l ∧ length l ≤ Pt.cnt l := by
  obtain ⟨_, a2, a3, _⟩ := prepend_ok (k := 2) (n := n) hl.1 hl.2 (.inl rfl)
  obtain ⟨_, b2, b3, _⟩ := prepend_ok (k := 3) (n := n) hl.1 hl.2 (.inr rfl)
  have hm := may_of (by have := hl.1; omega) hl.2
  have hs := hl.strip
  have hms := may_of (by have := hs.1; omega) hs.2
  have est : strip l = plains l := by unfold Wk.strip; rw [hm]; rfl
  have ea := prepend_lens (k := 2) (n := n) hl.1 hl.2 (.inl rfl)
  have eb := prepend_lens (k := 3) (n := n) hl.1 hl.2 (.inr rfl)
  refine ⟨?_, ?_, ?_, ?_, ?_, ?_, ?_, ?_, ?_, ?_, ?_⟩
  · unfold length; rw [a2, hm, if_pos rfl, if_pos rfl, ea]; rfl
  · unfold length; rw [b2, hm, if_pos rfl, if_pos rfl, eb]; rfl
  · unfold length; rw [hms, hm, est, lens_plains]
  · unfold neighbour; rw [hms, hm, est, all_plains, find_filter]
  · unfold neighbour; rw [a2, if_pos rfl, a3, List.find?_cons_of_pos (by rfl)]; rfl
  · unfold neighbour; rw [b2, hm, b3, List.find?_cons_of_neg (by show ¬ (!confed 3) = true; decide)]
  · intro s h
    rw [est] at h
    have h2 := List.mem_filter.1 h
    have h3 := hl.2 s h2.1
    have h4 : confed s.1 = false := by simpa using h2.2
    unfold confed at h4
    have : ¬ s.1.toNat = 3 ∧ ¬ s.1.toNat = 4 := by simpa using h4
    omega
  · exact ordered_plain hms (fun x hx => by rw [est] at hx; exact (plains_all hx).1)
  · have e2 : strip (strip l) = plains (strip l) := by
      have : ∀ m, Pt.may m = true → strip m = plains m := fun m h => by unfold Wk.strip; rw [h]; rfl
      exact this _ hms
    rw [e2, est, plains_twice]
  · exact ordered_conf hm b2 (by rfl) b3
  · unfold length; rw [hm, if_pos rfl]; exact lens_cnt l (fun s hs => (hl.2 s hs).1)
end Wk
end Go.Proofs.YtfjpphfadglohaaDoor
namespace Go.Proofs.YtfjpphfadglohaaDoor
open Go.RowKit Go.Shelf

theorem own_setN {w : World} {base g n : Nat} {e : TypeId} {v u : Value} {xs : List Value} (h : w.ownsRow base e 1 v n xs) (hg : v.ownBlock = some g) (j : Nat) : (w.setCell ⟨g, j, none⟩ u).ownsRow base e 1 v n (xs.set j u) := by
  obtain ⟨h1, h2⟩ := h
  refine ⟨by rw [List.length_set]; exact h1, ?_⟩
  rcases h2 with ⟨rfl, _⟩ | ⟨g', cap, cur, rfl, hb, hh, hnc, hcm, hcs, htk⟩
  · simp [Value.ownBlock] at hg
  · obtain rfl : g' = g := by simpa [Value.ownBlock] using hg
    have hB : Blk w g' e cur := hh
    refine .inr ⟨g', cap, _, rfl, hb, hB.put j u, hnc, hcm, by simpa using hcs, ?_⟩
    rw [Array.toList_setIfInBounds, List.take_set, htk]
theorem ass_set (l : List Nat) (j m : Nat) : ass (l.set j m) = (ass l).set j (.int .u32 (m : Int)) := by unfold ass; rw [List.map_set]
theorem Rws.setN {w : World} {B g m : Nat} (hm : m < 4294967296) (j : Nat) {v : Value} : ∀ {xs : List Value} {l : List Seg} (_ : Rws w B xs l) (_ : Dist xs) (k : Nat) (_ : k < l.length) (_ : xs[k * 2 + 1]? = some v) (_ : v.ownBlock = some g),
    Rws (w.setCell ⟨g, j, none⟩ (.int .u32 (m : Int))) B xs (l.set k ((l.getD k (0, [])).1, (l.getD k (0, [])).2.set j m))
  | _ :: u :: xs, c :: l, ⟨h1, h2, h3, h4⟩, hd, 0, _, hv, hg => by
    obtain rfl : u = v := by simpa using hv
    have hd2 := List.pairwise_cons.1 (List.pairwise_cons.1 hd).2
    refine ⟨h1, ?_, fun x hx => ?_, h4.apart (Kept.own w g j _) (fun x hx g' hg' (e : g' = g) => ?_)⟩
    · show World.ownsRow _ B _ 1 u (c.2.set j m).length (ass (c.2.set j m))
      rw [List.length_set, ass_set]
      exact own_setN h2 hg j
    · rcases List.mem_or_eq_of_mem_set hx with hx | rfl
      · exact h3 x hx
      · exact hm
    · subst e
      exact hd2.1 x hx g' hg hg'
  | a :: u :: xs, c :: l, ⟨h1, h2, h3, h4⟩, hd, k + 1, hk, hv, hg => by
    have hd2 := List.pairwise_cons.1 (List.pairwise_cons.1 hd).2
    have hv' : xs[k * 2 + 1]? = some v := by rw [Nat.add_mul] at hv; exact hv
    refine ⟨h1, ow_kept h2 (Kept.own w g j _) (fun g' hg' (e : g' = g) => ?_), h3, Rws.setN hm j h4 hd2.2 k (by simpa using hk) hv' hg⟩
    subst e
    exact hd2.1 v (List.mem_of_getElem? hv') g' hg' hg
  | [], [], _, _, k, hk, _, _ => absurd hk (Nat.not_lt_zero _)
  | [], _ :: _, h, _, _, _, _, _ => h.elim
  | [_], _, h, _, _, _, _, _ => by unfold Rws at h; exact h.elim
  | _ :: _ :: _, [], h, _, _, _, _, _ => by unfold Rws at h; exact h.elim

namespace Wk
/-- The first j of a list changed by f. -/
def mix {α : Type} (f : α → α) (j : Nat) (l : List α) : List α := (l.take j).map f ++ l.drop j
section
variable {α : Type} {f : α → α} {j : Nat} {l : List α}
theorem mix_len : (mix f j l).length = l.length := by unfold mix; simp; omega
theorem mix_zero : mix f 0 l = l := by simp [mix]
theorem mix_all : mix f l.length l = l.map f := by simp [mix]
theorem mix_at (d : α) (hj : j < l.length) : (mix f j l).getD j d = l.getD j d := by
  unfold mix
  have h : ((l.take j).map f).length = j := by rw [List.length_map, List.length_take]; omega
  rw [List.getD_eq_getElem?_getD, List.getElem?_append_right (by omega), h, Nat.sub_self, List.getElem?_drop, Nat.add_zero, List.getD_eq_getElem?_getD]
theorem mix_succ (d : α) (hj : j < l.length) : mix f (j + 1) l = (mix f j l).set j (f (l.getD j d)) := by
  unfold mix
  have h : ((l.take j).map f).length = j := by rw [List.length_map, List.length_take]; omega
  have hg : l.getD j d = l[j] := by rw [List.getD_eq_getElem?_getD, List.getElem?_eq_getElem hj]; rfl
  rw [List.take_succ_eq_append_getElem hj, List.map_append, List.set_append_right _ _ (by omega), h, Nat.sub_self, hg, List.drop_eq_getElem_cons hj, List.set_cons_zero]
  simp
theorem mix_skip (d : α) (hj : j < l.length) (h : f (l.getD j d) = l.getD j d) : mix f (j + 1) l = mix f j l := by
  rw [mix_succ d hj, h]
  have h2 := mix_at (f := f) d hj
  have hj2 : j < (mix f j l).length := by rw [mix_len]; exact hj
  have e2 : l.getD j d = (mix f j l)[j] := by rw [← h2, List.getD_eq_getElem?_getD, List.getElem?_eq_getElem hj2]; rfl
  rw [e2, List.set_getElem_self]
end
def rep1 (a b n : Nat) : Nat := if n = a then b else n
def reps (a b : Nat) (s : Seg) : Seg := (s.1, s.2.map (rep1 a b))
def replace (l : List Seg) (a b : Nat) : List Seg := if Pt.may l then l.map (reps a b) else []
/-- The first k segments replaced, and the first j numbers of the next. -/
def half (a b k j : Nat) (l : List Seg) : List Seg := (mix (reps a b) k l).set k ((l.getD k (0, [])).1, mix (rep1 a b) j (l.getD k (0, [])).2)
theorem half_len (a b k j : Nat) (l : List Seg) : (half a b k j l).length = l.length := by unfold half; rw [List.length_set, mix_len]
theorem half_at {a b k j : Nat} {l : List Seg} (hk : k < l.length) : (half a b k j l).getD k (0, []) = ((l.getD k (0, [])).1, mix (rep1 a b) j (l.getD k (0, [])).2) := by
  unfold half
  rw [List.getD_eq_getElem?_getD, List.getElem?_set_self (by rw [mix_len]; exact hk)]
  rfl
theorem half_zero {a b k : Nat} {l : List Seg} (hk : k < l.length) : half a b k 0 l = mix (reps a b) k l := by
  unfold half
  rw [mix_zero]
  have h := mix_at (f := reps a b) (0, ([] : List Nat)) hk
  have hk2 : k < (mix (reps a b) k l).length := by rw [mix_len]; exact hk
  have e : l.getD k (0, []) = (mix (reps a b) k l)[k] := by rw [← h, List.getD_eq_getElem?_getD, List.getElem?_eq_getElem hk2]; rfl
  show (mix (reps a b) k l).set k (l.getD k (0, [])) = _
  rw [e, List.set_getElem_self]
theorem half_full {a b k : Nat} {l : List Seg} (hk : k < l.length) : half a b k (l.getD k (0, [])).2.length l = mix (reps a b) (k + 1) l := by
  unfold half
  rw [mix_all, mix_succ (0, []) hk]
  rfl
theorem half_succ {a b k j : Nat} {l : List Seg} (hj : j < (l.getD k (0, [])).2.length) : half a b k (j + 1) l = (half a b k j l).set k ((l.getD k (0, [])).1, (mix (rep1 a b) j (l.getD k (0, [])).2).set j (rep1 a b ((l.getD k (0, [])).2.getD j 0))) := by
  unfold half
  rw [mix_succ 0 hj, List.set_set]
theorem half_skip {a b k j : Nat} {l : List Seg} (hj : j < (l.getD k (0, [])).2.length) (h : ¬ (l.getD k (0, [])).2.getD j 0 = a) : half a b k (j + 1) l = half a b k j l := by
  unfold half
  rw [mix_skip (f := rep1 a b) 0 hj (if_neg h)]
end Wk
theorem ass_at {l : List Nat} {j : Nat} (hj : j < l.length) : (ass l)[j]? = some (.int .u32 ((l.getD j 0 : Nat) : Int)) := by
  unfold ass
  rw [List.getElem?_map, List.getElem?_eq_getElem hj, List.getD_eq_getElem?_getD, List.getElem?_eq_getElem hj]
  rfl

set_option maxHeartbeats 1600000 in
theorem walk_replace (v : Value) (l : List Seg) (a b : Nat) (hb : b < 4294967296) (w : World) (h : Pts w v l) (hl : l.length ≤ 1000000) (hn : ∀ s ∈ l, s.2.length ≤ 1000000) :
    Calls Tryd.prog 42 #[v, .int .u32 (a : Int), .int .u32 (b : Int)] w fun e w' => ∃ v', e = .returned v' ∧ Pown w' w.heap.size v' (Wk.replace l a b) ∧ Kept Nothing w w' := by
  obtain ⟨A, c, rfl, -, -⟩ := h.form
  have HM := Lib.hid (path_may _ l w h (by omega))
  have HC := Lib.hid (fun w1 (k : Kept Nothing w w1) => path_copyD _ l w1 (h.old k) hl hn)
  have HN := Lib.hid hn
  clear h hn
  unfold Wk.replace
  cases hmay : Pt.may l with
  | false =>
    rw [hmay] at HM
    rw [if_neg (by decide)]
    clear hmay HC
    go_enter Tryd.func42, Tryd.ntmps42
    go_wp2_with (go_at_call 50; refine (HM.out).mono ?_; rintro e w1 ⟨rfl, k1⟩)
    go_ret
    exact ⟨_, rfl, ⟨[], World.ownsRow_nil _ _ _ _, trivial⟩, k1⟩
  | true =>
    rw [hmay] at HM
    rw [if_pos rfl]
    clear hmay
    go_enter Tryd.func42, Tryd.ntmps42
    go_upto_region 3 with (go_at_call 50; refine (HM.out).mono ?_; rintro e w1 ⟨rfl, k1⟩; have K1 := Lib.hid k1; clear k1)
    go_upto_region 5 with (go_at_call 12; refine (HC.out _ K1.out).mono ?_; rintro e w2 ⟨v2, xs, rfl, o2, r2, d2, k2⟩; (obtain ⟨A2, c2, rfl, _, _⟩ := ow_form o2); (have O2 := Lib.hid o2); (have R2 := Lib.hid r2); (have D2 := Lib.hid d2); (have K2 := Lib.hid k2); clear o2 r2 d2 k2)
    clear HC HM
    have hbase : w.heap.size ≤ w1.heap.size := K1.out.size
    have R0 : Hid (w2.ownsRow w1.heap.size 34 2 (.slice A2 l.length c2) l.length xs ∧ Rws w2 w1.heap.size xs (Wk.mix (Wk.reps a b) 0 l) ∧ Kept Nothing w1 w2) := Lib.hid ⟨O2.out, by rw [Wk.mix_zero]; exact R2.out, K2.out⟩
    clear O2 R2 K2
    go_loopw [19] (fun i wx => ∃ k : Nat, i = .int .i64 (k : Int) ∧ k ≤ l.length ∧ Hid (wx.ownsRow w1.heap.size 34 2 (.slice A2 l.length c2) l.length xs ∧ Rws wx w1.heap.size xs (Wk.mix (Wk.reps a b) k l) ∧ Kept Nothing w1 wx)) (fun i _ => l.length - (intOf i).toNat)
    case atStart => exact ⟨0, rfl, Nat.zero_le _, R0⟩
    case round =>
      clear R0
      obtain ⟨k, rfl, hk, HX⟩ := hrel
      by_cases hlt : k < l.length
      · have hmem : l.getD k (0, []) ∈ l := by rw [getD_get hlt]; exact List.getElem_mem _
        have hsl := HN.out _ hmem
        obtain ⟨hx1, hx2, hx3⟩ := HX.out
        rw [← Wk.half_zero hlt] at hx2
        obtain ⟨gt, cpt, _, hvt, _, _⟩ := own_lies hx1 (by omega)
        injection hvt with hvt _ hcc
        subst hvt
        subst hcc
        obtain ⟨nv, e0, e1, no, nf⟩ := hx2.at k (by rw [Wk.half_len]; exact hlt)
        rw [Wk.half_at hlt, Wk.mix_zero] at no nf
        have e0' : xs[k * 2]? = some (by8 (l.getD k (0, [])).1) := by rw [e0, Wk.half_at hlt]
        have p0 := hx1.cells (g := gt) rfl _ _ e0'
        have p1 := hx1.cells (g := gt) rfl _ _ e1
        rw [add_none, Nat.zero_add] at p0 p1
        have E1 := Lib.hid e1
        have hls : gt < wr.heap.size := World.block_lt_of_cell? _ _ p0
        have ES := Lib.hid (fun j (hj : j < (l.getD k (0, [])).2.length) => Wk.half_succ (a := a) (b := b) (k := k) hj)
        have ESK := Lib.hid (fun j (hj : j < (l.getD k (0, [])).2.length) h => Wk.half_skip (a := a) (b := b) (k := k) hj h)
        have EF := Lib.hid (Wk.half_full (a := a) (b := b) hlt)
        have EA := Lib.hid (fun j => Wk.half_at (a := a) (b := b) (j := j) hlt)
        generalize l.getD k (0, []) = sg at *
        obtain ⟨sk, sn⟩ := sg
        simp only at no nf hsl ES EF EA ESK
        obtain ⟨Au, cu, rfl, _, _⟩ := ow_form no
        replace p0 : wr.cell? ⟨gt, k * 2, none⟩ = some (.int .u8 (sk.toNat : Int)) := p0
        have i1 : (0 : Int) ≤ (k : Int) := by omega
        have i2 : (k : Int) < (l.length : Int) := by omega
        have ka := (Kept.refl Nothing wr).alloc (.cells #[.int .u8 (sk.toNat : Int), .slice Au sn.length cu] 34)
        have HY : Hid ((wr.alloc (.cells #[.int .u8 (sk.toNat : Int), .slice Au sn.length cu] 34)).ownsRow w1.heap.size 34 2 (.slice (some ⟨gt, 0, none⟩) l.length c2) l.length xs ∧ Rws (wr.alloc (.cells #[.int .u8 (sk.toNat : Int), .slice Au sn.length cu] 34)) w1.heap.size xs (Wk.half a b k 0 l) ∧ Kept Nothing w1 (wr.alloc (.cells #[.int .u8 (sk.toNat : Int), .slice Au sn.length cu] 34))) := Lib.hid ⟨ow_kept hx1 ka (fun _ _ x => x), hx2.old ka, hx3.trans ka⟩
        have YS := Blk.fresh wr 34 #[.int .u8 (sk.toNat : Int), .slice Au sn.length cu]
        clear hx1 hx2 hx3 HX e0 e1 e0' no ka hmem
        go_upto_region 8 with fail
        generalize wr.alloc (.cells #[.int .u8 (sk.toNat : Int), .slice Au sn.length cu] 34) = wA at *
        generalize wr.heap.size = bs at *
        clear p0 p1
        have hsl2 : sn.length ≤ 9223372036854775807 := by omega
        go_loopw [26] (fun i wq => ∃ j : Nat, i = .int .i64 (j : Int) ∧ j ≤ sn.length ∧ Hid (wq.ownsRow w1.heap.size 34 2 (.slice (some ⟨gt, 0, none⟩) l.length c2) l.length xs ∧ Rws wq w1.heap.size xs (Wk.half a b k j l) ∧ Kept Nothing w1 wq ∧ Blk wq bs 34 #[.int .u8 (sk.toNat : Int), .slice Au sn.length cu])) (fun i _ => sn.length - (intOf i).toNat)
        case atStart => exact ⟨0, rfl, Nat.zero_le _, Lib.hid ⟨HY.out.1, HY.out.2.1, HY.out.2.2, YS⟩⟩
        case round =>
          clear HY YS
          obtain ⟨j, rfl, hj, HJ⟩ := hrel
          by_cases hlj : j < sn.length
          · obtain ⟨y1, y2, y3, y4⟩ := HJ.out
            obtain ⟨nv2, _, f1, no2, nf2⟩ := y2.at k (by rw [Wk.half_len]; exact hlt)
            have f1' := f1
            rw [E1.out] at f1'
            injection f1' with f1'
            subst f1'
            rw [EA.out j] at no2
            have hml : (Wk.mix (Wk.rep1 a b) j sn).length = sn.length := Wk.mix_len
            have c1 := y4.cell 1
            have HB := Lib.hid y4
            simp only at no2
            obtain ⟨g, cg, cur, hv, hge, hbg⟩ := own_lies no2 (by omega)
            injection hv with hv _ _
            subst hv
            have q0 := no2.cells (g := g) rfl j _ (ass_at (by omega))
            rw [add_none, Nat.zero_add, Wk.mix_at 0 hlj] at q0
            have qf := hbg.free j
            have j1 : (0 : Int) ≤ (j : Int) := by omega
            have j2 : (j : Int) < (sn.length : Int) := by omega
            have SN := Rws.setN (w := wr) (g := g) hb j y2 D2.out k (by rw [Wk.half_len]; exact hlt) f1 rfl
            rw [EA.out j] at SN
            have SX := Lib.hid SN
            have ES2 := ES.out j hlj
            have Y1 := Lib.hid y1
            have Y2 := Lib.hid y2
            have Y3 := Lib.hid y3
            have HBG := Lib.hid hbg
            have HGE := Lib.hid hge
            have Y4 : Hid (∀ u, Blk (wr.setCell ⟨g, j, none⟩ u) bs 34 #[.int .u8 (sk.toNat : Int), .slice (some ⟨g, 0, none⟩) sn.length cu]) := Lib.hid (fun u => y4.far (p := ⟨g, j, none⟩) (y4.apart hbg (by decide)) u)
            clear y1 y2 y3 y4 HJ f1 no2 nf2 SN hbg hge E1
            generalize hx : sn.getD j 0 = x at *
            by_cases hxa : x = a
            · subst hxa
              rw [show Wk.rep1 x b x = b from if_pos rfl] at ES2
              have ES3 := Lib.hid ES2
              clear ES2 ESK EF EA ES hx hml
              go_wp2
              go_roundw
              case rel => exact ⟨j + 1, by go_num, by omega, Lib.hid ⟨ow_kept Y1.out (Kept.own _ g j _) (ow_far Y1.out HBG.out (by decide)), by rw [ES3.out]; exact SX.out, Y3.out.setCell (p := ⟨g, j, none⟩) (fun h => by have := HGE.out; exact absurd h (Nat.not_lt.2 this)) _, Y4.out _⟩⟩
              case measure => simp [intOf]; omega
            · have hxi : ((x : Int) == (a : Int)) = false := by simp; omega
              have ES3 : Hid (Wk.half a b k (j + 1) l = Wk.half a b k j l) := Lib.hid (ESK.out j hlj (by show ¬ sn.getD j 0 = a; rw [hx]; exact hxa))
              clear ES2 ESK EF EA ES hx hml SX
              go_wp2
              go_roundw
              case rel => exact ⟨j + 1, by go_num, by omega, Lib.hid ⟨Y1.out, by rw [ES3.out]; exact Y2.out, Y3.out, HB.out⟩⟩
              case measure => simp [intOf]; omega
          · obtain rfl : j = sn.length := by omega
            have HJ2 := Lib.hid HJ.out
            clear HJ
            go_wp2
            go_roundw
            case rel =>
              exact ⟨k + 1, by go_num, by omega, Lib.hid ⟨HJ2.out.1, by rw [← EF.out]; exact HJ2.out.2.1, HJ2.out.2.2.1⟩⟩
            case measure => simp [intOf]; omega
      · obtain rfl : k = l.length := by omega
        obtain ⟨x1, x2, x3⟩ := HX.out
        rw [Wk.mix_all] at x2
        have X1 := Lib.hid x1
        have X2 := Lib.hid x2
        have X3 := Lib.hid x3
        clear x1 x2 x3 HX
        go_wp2
        go_ret
        exact ⟨_, rfl, ⟨xs, by rw [List.length_map]; exact own_weakA X1.out hbase, X2.out.weak hbase⟩, K1.out.trans X3.out⟩
end Go.Proofs.YtfjpphfadglohaaDoor
namespace Go.Proofs.YtfjpphfadglohaaDoor
open Go.RowKit

namespace Wk
theorem all_reps (a b : Nat) (l : List Seg) : Pt.all (l.map (reps a b)) = (Pt.all l).map (fun x => (x.1, rep1 a b x.2)) := by
  unfold Pt.all
  rw [List.flatMap_map, List.map_flatMap]
  congr 1
  funext s
  unfold reps
  simp [List.map_map, Function.comp_def]
theorem lens_reps (a b : Nat) (l : List Seg) : lens (l.map (reps a b)) = lens l := by
  unfold lens
  rw [List.map_map]
  congr 2
  funext s
  unfold reps len1
  simp
theorem Fewer.reps {l : List Seg} (h : Fewer l) (a b : Nat) : Fewer (l.map (reps a b)) := by
  refine ⟨by rw [List.length_map]; exact h.1, fun s hs => ?_⟩
  obtain ⟨t, ht, rfl⟩ := List.mem_map.1 hs
  obtain ⟨h1, h2, h3, h4⟩ := h.2 t ht
  refine ⟨?_, ?_, h3, h4⟩
  · intro e
    apply h1
    have : t.2.map (rep1 a b) = [] := e
    simpa using this
  · show (t.2.map (rep1 a b)).length ≤ 255
    rw [List.length_map]
    exact h2
theorem map_same {l : List Seg} {a b : Nat} (h : ∀ s ∈ l, ∀ n ∈ s.2, ¬ n = a) : l.map (Wk.reps a b) = l := by
  refine (List.map_congr_left (fun s hs => ?_)).trans (List.map_id _)
  unfold Wk.reps
  rw [(List.map_congr_left (fun n hn => if_neg (h s hs n hn)) : s.2.map (rep1 a b) = s.2.map id), List.map_id]
  rfl
theorem map_back {l : List Seg} {a b : Nat} (h : ∀ s ∈ l, ∀ n ∈ s.2, ¬ n = b) : (l.map (Wk.reps a b)).map (Wk.reps b a) = l := by
  rw [List.map_map]
  refine (List.map_congr_left (fun s hs => ?_)).trans (List.map_id _)
  show ((s.1, (s.2.map (rep1 a b)).map (rep1 b a)) : Seg) = s
  rw [List.map_map]
  have : s.2.map (rep1 b a ∘ rep1 a b) = s.2.map id := List.map_congr_left (fun n hn => by
    show rep1 b a (rep1 a b n) = n
    unfold rep1
    by_cases hna : n = a
    · rw [if_pos hna, if_pos rfl, hna]
    · rw [if_neg hna, if_neg (h s hs n hn)])
  rw [this, List.map_id]
theorem has_none {l : List Seg} {a : Nat} (hm : Pt.may l = true) (h : has l a = false) : ∀ s ∈ l, ∀ n ∈ s.2, ¬ n = a := by
  intro s hs n hn e
  unfold has at h
  rw [hm, Bool.true_and, List.any_eq_false] at h
  have hin : (s.1, n) ∈ Pt.all l := by
    unfold Pt.all
    exact List.mem_flatMap.2 ⟨s, hs, List.mem_map.2 ⟨n, hn, rfl⟩⟩
  have := h _ hin
  rw [e] at this
  simp at this
/-- What the law asks. -/
theorem replaced {l : List Seg} (a b : Nat) (hl : Fewer l) :
    replace l a b = l.map (reps a b) ∧ Fewer (l.map (reps a b)) ∧ length (l.map (reps a b)) = length l ∧ (¬ a = b → has (l.map (reps a b)) a = false) ∧
    (has l a = true → has (l.map (reps a b)) b = true) ∧ (has l b = false → replace (l.map (reps a b)) b a = l) ∧ (has l a = false → l.map (reps a b) = l) := by
  have hm := may_of (by have := hl.1; omega) hl.2
  have hq := hl.reps a b
  have hmq := may_of (by have := hq.1; omega) hq.2
  refine ⟨by unfold replace; rw [hm]; rfl, hq, ?_, ?_, ?_, ?_, ?_⟩
  · unfold length; rw [hm, hmq, lens_reps]
  · intro hab
    unfold has
    rw [hmq, all_reps, Bool.true_and, List.any_eq_false]
    intro x hx
    obtain ⟨y, _, rfl⟩ := List.mem_map.1 hx
    unfold rep1
    by_cases h : y.2 = a
    · simp only [h, if_true]; simpa using fun e => hab e.symm
    · simp only [h, if_false]; simpa using h
  · intro h
    unfold has at h ⊢
    rw [hm, Bool.true_and, List.any_eq_true] at h
    obtain ⟨y, hy, e⟩ := h
    rw [hmq, all_reps, Bool.true_and, List.any_eq_true]
    refine ⟨_, List.mem_map.2 ⟨y, hy, rfl⟩, ?_⟩
    have e2 : y.2 = a := by simpa using e
    simp [rep1, e2]
  · intro h
    have e : replace (l.map (reps a b)) b a = (l.map (reps a b)).map (reps b a) := by
      generalize l.map (reps a b) = q at *
      unfold replace; rw [hmq]; rfl
    rw [e]
    exact map_back (has_none hm h)
  · intro h
    exact map_same (has_none hm h)
end Wk
end Go.Proofs.YtfjpphfadglohaaDoor
namespace Go.Proofs.YtfjpphfadglohaaDoor
open Go.RowKit Go.Shelf

set_option maxRecDepth 20000 in
set_option maxHeartbeats 8000000 in
theorem law_replaced (v : Value) (p : List Seg) (N M : Nat) (hN : N < 4294967296) (hM : M < 4294967296) (w : World) (h : Pts w v p) (hr : Rdy w) (hs : Bkt w) :
    Calls Tryd.prog 9 #[v, .agg #[.int .u32 (N : Int), .int .u32 (M : Int)]] w fun e w' => e = .returned (.bool true) ∧ Kept Nothing w w' := by
  obtain ⟨A, c, rfl, -, -⟩ := h.form
  have HM := Lib.hid (fun w1 (k : Kept Nothing w w1) => made_any _ p w1 (h.old k))
  have HR := Lib.hid hr
  have HS := Lib.hid hs
  have HFEW := Lib.hid (Wk.made_few p)
  clear h hr hs
  generalize madeF p = P at *
  obtain ⟨l1, l2, l3, l4, l5, l6, l7⟩ := Wk.replaced N M HFEW.out
  have hQl : (P.map (Wk.reps N M)).length = P.length := List.length_map _
  obtain ⟨hb1, hb2⟩ := HFEW.out.bound
  obtain ⟨hq1, hq2⟩ := l2.bound
  have CR := Lib.hid (fun v u (h : Pts u v P) => walk_replace v P N M hM u h hb1 hb2)
  rw [l1] at CR
  have CB := Lib.hid (fun v u (h : Pts u v (P.map (Wk.reps N M))) => walk_replace v _ M N hN u h hq1 hq2)
  have LP := Lib.hid (fun v u (h : Pts u v P) => walk_length v P u h hb1 hb2)
  have LQ := Lib.hid (fun v u (h : Pts u v (P.map (Wk.reps N M))) => walk_length v _ u h hq1 hq2)
  rw [l3] at LQ
  have XHP := Lib.hid (fun v x u (h : Pts u v P) => walk_has v _ x u h hb1 hb2)
  have XHQ := Lib.hid (fun v x u (h : Pts u v (P.map (Wk.reps N M))) => walk_has v _ x u h hq1 hq2)
  have L4 := Lib.hid l4
  have L5 := Lib.hid l5
  have L6 := Lib.hid l6
  have L7 := Lib.hid l7
  have hPl : P.length ≤ 9223372036854775807 := by omega
  clear l1 l2 l3 l4 l5 l6 l7 hN hM HFEW hb1 hb2 hq1 hq2
  generalize P.map (Wk.reps N M) = Q at *
  generalize Wk.length P = lp at *
  go_enter Tryd.func9, Tryd.ntmps9
  go_upto_region 1 with fail
  have bx := Blk.fresh w 42 #[.int .u32 (N : Int), .int .u32 (M : Int)]
  have k1 := (Kept.refl Nothing w).alloc (.cells #[.int .u32 (N : Int), .int .u32 (M : Int)] 42)
  generalize w.alloc (.cells #[.int .u32 (N : Int), .int .u32 (M : Int)] 42) = w1 at bx k1 ⊢
  have Z0 := Lib.hid (fun u (k : Kept Nothing w1 u) => (bx.kept k (fun x => x)).cell 0)
  have Z1 := Lib.hid (fun u (k : Kept Nothing w1 u) => (bx.kept k (fun x => x)).cell 1)
  replace Z0 : Hid (∀ u, Kept Nothing w1 u → u.cell? ⟨w.heap.size, 0, none⟩ = some (.int .u32 (N : Int))) := Z0
  replace Z1 : Hid (∀ u, Kept Nothing w1 u → u.cell? ⟨w.heap.size, 1, none⟩ = some (.int .u32 (M : Int))) := Z1
  have K1 := Lib.hid k1
  clear bx k1
  generalize w.heap.size = bk at *
  go_upto_region 2 with (go_at_call 45; refine (HM.out _ K1.out).mono ?_; rintro e w2 ⟨vP, rfl, p2, k2⟩; (have z0 := Z0.out _ k2); (have z1 := Z1.out _ k2); (have P2 := Lib.hid p2.pts); (have K2 := Lib.hid k2); clear p2 k2)
  go_upto_region 3 with (go_at_call 42; refine (CR.out _ _ P2.out).mono ?_; rintro e w4 ⟨vQ, rfl, p3, k3⟩; (have XQ := Lib.hid p3.pts); (have K3 := Lib.hid k3); clear p3 k3 z0 z1)
  have XP := Lib.hid (P2.out.old K3.out)
  have KZ := Lib.hid (K1.out.trans (K2.out.trans K3.out))
  have KY := Lib.hid (K2.out.trans K3.out)
  replace Z0 : Hid (∀ u, Kept Nothing w4 u → u.cell? ⟨bk, 0, none⟩ = some (.int .u32 (N : Int))) := Lib.hid (fun u k => Z0.out _ (KY.out.trans k))
  replace Z1 : Hid (∀ u, Kept Nothing w4 u → u.cell? ⟨bk, 1, none⟩ = some (.int .u32 (M : Int))) := Lib.hid (fun u k => Z1.out _ (KY.out.trans k))
  have CT := Lib.hid (fun u (k : Kept Nothing w4 u) => tells_true u (HR.out.kept (KZ.out.trans k)) (HS.out.kept (KZ.out.trans k)))
  clear P2 K1 K2 K3 HM CR KY HR HS
  obtain ⟨AP, cP, rfl, -, -⟩ := XP.out.form
  obtain ⟨AQ, cQ, rfl⟩ : ∃ AQ cQ, vQ = .slice AQ P.length cQ := by
    obtain ⟨A, c, h, -, -⟩ := XQ.out.form
    exact ⟨A, c, by rw [h, hQl]⟩
  have TPN := Lib.hid (fun u (k : Kept Nothing w4 u) => XHP.out _ N u (XP.out.old k))
  have TPM := Lib.hid (fun u (k : Kept Nothing w4 u) => XHP.out _ M u (XP.out.old k))
  have TQN := Lib.hid (fun u (k : Kept Nothing w4 u) => XHQ.out _ N u (XQ.out.old k))
  have TQM := Lib.hid (fun u (k : Kept Nothing w4 u) => XHQ.out _ M u (XQ.out.old k))
  have TLP := Lib.hid (fun u (k : Kept Nothing w4 u) => LP.out _ u (XP.out.old k))
  have TLQ := Lib.hid (fun u (k : Kept Nothing w4 u) => LQ.out _ u (XQ.out.old k))
  have TCB := Lib.hid (fun u (k : Kept Nothing w4 u) => CB.out _ u (XQ.out.old k))
  have SQ := Lib.hid (fun u (k : Kept Nothing w4 u) => path_same _ _ Q P u (XQ.out.old k) (XP.out.old k))
  have SP := Lib.hid (fun a u (h : Pts u a P) (k : Kept Nothing w4 u) => path_same a _ P P u h (XP.out.old k))
  rw [decide_eq_true (rfl : P = P)] at SP
  clear XHP XHQ LP LQ CB
  have m0 := Lib.hid (Kept.refl Nothing w4)
  have z00 := Z0.out _ m0.out
  have z01 := Z1.out _ m0.out
  cases hpn : Wk.has P N with
  | true =>
    rw [hpn] at TPN
    have e5 := L5.out hpn
    rw [e5] at TQM
    clear hpn
    cases hpm : Wk.has P M with
    | true =>
      rw [hpm] at TPM
      clear hpm
      by_cases hab : N = M
      · subst hab
        go_wp2_with (first
          | (go_at_call 38; refine (CT.out _ m6.out).mono ?_; rintro e u7 ⟨rfl, q7⟩; (have m7 := Lib.hid (m6.out.trans q7)); (have z70 := Z0.out _ m7.out); (have z71 := Z1.out _ m7.out); clear q7)
          | (go_at_call 23; refine (TPN.out _ m5.out).mono ?_; rintro e u6 ⟨rfl, q6⟩; (have m6 := Lib.hid (m5.out.trans q6)); (have z60 := Z0.out _ m6.out); (have z61 := Z1.out _ m6.out); clear q6)
          | (go_at_call 23; refine (TPM.out _ m4.out).mono ?_; rintro e u5 ⟨rfl, q5⟩; (have m5 := Lib.hid (m4.out.trans q5)); (have z50 := Z0.out _ m5.out); (have z51 := Z1.out _ m5.out); clear q5)
          | (go_at_call 23; refine (TQM.out _ m3.out).mono ?_; rintro e u4 ⟨rfl, q4⟩; (have m4 := Lib.hid (m3.out.trans q4)); (have z40 := Z0.out _ m4.out); (have z41 := Z1.out _ m4.out); clear q4)
          | (go_at_call 23; refine (TPN.out _ m2.out).mono ?_; rintro e u3 ⟨rfl, q3⟩; (have m3 := Lib.hid (m2.out.trans q3)); (have z30 := Z0.out _ m3.out); (have z31 := Z1.out _ m3.out); clear q3)
          | (go_at_call 35; refine (TLP.out _ m1.out).mono ?_; rintro e u2 ⟨rfl, q2⟩; (have m2 := Lib.hid (m1.out.trans q2)); (have z20 := Z0.out _ m2.out); (have z21 := Z1.out _ m2.out); clear q2)
          | (go_at_call 35; refine (TLQ.out _ m0.out).mono ?_; rintro e u1 ⟨rfl, q1⟩; (have m1 := Lib.hid (m0.out.trans q1)); (have z10 := Z0.out _ m1.out); (have z11 := Z1.out _ m1.out); clear q1))
        go_ret
        exact ⟨rfl, KZ.out.trans m7.out⟩
      · have e4 := L4.out hab
        rw [e4] at TQN
        have hnb : ((N : Int) == (M : Int)) = false := by simp; omega
        have hnc : ¬ (N : Int) = (M : Int) := by omega
        go_wp2_with (first
          | (go_at_call 38; refine (CT.out _ m7.out).mono ?_; rintro e u8 ⟨rfl, q8⟩; (have m8 := Lib.hid (m7.out.trans q8)); (have z80 := Z0.out _ m8.out); (have z81 := Z1.out _ m8.out); clear q8)
          | (go_at_call 23; refine (TPN.out _ m6.out).mono ?_; rintro e u7 ⟨rfl, q7⟩; (have m7 := Lib.hid (m6.out.trans q7)); (have z70 := Z0.out _ m7.out); (have z71 := Z1.out _ m7.out); clear q7)
          | (go_at_call 23; refine (TPM.out _ m5.out).mono ?_; rintro e u6 ⟨rfl, q6⟩; (have m6 := Lib.hid (m5.out.trans q6)); (have z60 := Z0.out _ m6.out); (have z61 := Z1.out _ m6.out); clear q6)
          | (go_at_call 23; refine (TQM.out _ m4.out).mono ?_; rintro e u5 ⟨rfl, q5⟩; (have m5 := Lib.hid (m4.out.trans q5)); (have z50 := Z0.out _ m5.out); (have z51 := Z1.out _ m5.out); clear q5)
          | (go_at_call 23; refine (TPN.out _ m3.out).mono ?_; rintro e u4 ⟨rfl, q4⟩; (have m4 := Lib.hid (m3.out.trans q4)); (have z40 := Z0.out _ m4.out); (have z41 := Z1.out _ m4.out); clear q4)
          | (go_at_call 23; refine (TQN.out _ m2.out).mono ?_; rintro e u3 ⟨rfl, q3⟩; (have m3 := Lib.hid (m2.out.trans q3)); (have z30 := Z0.out _ m3.out); (have z31 := Z1.out _ m3.out); clear q3)
          | (go_at_call 35; refine (TLP.out _ m1.out).mono ?_; rintro e u2 ⟨rfl, q2⟩; (have m2 := Lib.hid (m1.out.trans q2)); (have z20 := Z0.out _ m2.out); (have z21 := Z1.out _ m2.out); clear q2)
          | (go_at_call 35; refine (TLQ.out _ m0.out).mono ?_; rintro e u1 ⟨rfl, q1⟩; (have m1 := Lib.hid (m0.out.trans q1)); (have z10 := Z0.out _ m1.out); (have z11 := Z1.out _ m1.out); clear q1))
        go_ret
        exact ⟨rfl, KZ.out.trans m8.out⟩
    | false =>
      rw [hpm] at TPM
      have e6 := L6.out hpm
      rw [e6] at TCB
      clear e6
      clear hpm
      by_cases hab : N = M
      · subst hab
        go_wp2_with (first
          | (go_at_call 38; refine (CT.out _ m8.out).mono ?_; rintro e u9 ⟨rfl, q9⟩; (have m9 := Lib.hid (m8.out.trans q9)); (have z90 := Z0.out _ m9.out); (have z91 := Z1.out _ m9.out); clear q9)
          | (go_at_call 23; refine (TPN.out _ m7.out).mono ?_; rintro e u8 ⟨rfl, q8⟩; (have m8 := Lib.hid (m7.out.trans q8)); (have z80 := Z0.out _ m8.out); (have z81 := Z1.out _ m8.out); clear q8)
          | (go_at_call 17; refine (SP.out _ _ PB.out m6.out).mono ?_; rintro e u7 ⟨rfl, q7⟩; (have m7 := Lib.hid (m6.out.trans q7)); (have z70 := Z0.out _ m7.out); (have z71 := Z1.out _ m7.out); clear q7)
          | (go_at_call 42; refine (TCB.out _ m5.out).mono ?_; rintro e u6 ⟨vB, rfl, pB, q6⟩; (have PB := Lib.hid pB.pts); clear pB; (have m6 := Lib.hid (m5.out.trans q6)); (have z60 := Z0.out _ m6.out); (have z61 := Z1.out _ m6.out); clear q6)
          | (go_at_call 23; refine (TPM.out _ m4.out).mono ?_; rintro e u5 ⟨rfl, q5⟩; (have m5 := Lib.hid (m4.out.trans q5)); (have z50 := Z0.out _ m5.out); (have z51 := Z1.out _ m5.out); clear q5)
          | (go_at_call 23; refine (TQM.out _ m3.out).mono ?_; rintro e u4 ⟨rfl, q4⟩; (have m4 := Lib.hid (m3.out.trans q4)); (have z40 := Z0.out _ m4.out); (have z41 := Z1.out _ m4.out); clear q4)
          | (go_at_call 23; refine (TPN.out _ m2.out).mono ?_; rintro e u3 ⟨rfl, q3⟩; (have m3 := Lib.hid (m2.out.trans q3)); (have z30 := Z0.out _ m3.out); (have z31 := Z1.out _ m3.out); clear q3)
          | (go_at_call 35; refine (TLP.out _ m1.out).mono ?_; rintro e u2 ⟨rfl, q2⟩; (have m2 := Lib.hid (m1.out.trans q2)); (have z20 := Z0.out _ m2.out); (have z21 := Z1.out _ m2.out); clear q2)
          | (go_at_call 35; refine (TLQ.out _ m0.out).mono ?_; rintro e u1 ⟨rfl, q1⟩; (have m1 := Lib.hid (m0.out.trans q1)); (have z10 := Z0.out _ m1.out); (have z11 := Z1.out _ m1.out); clear q1))
        go_ret
        exact ⟨rfl, KZ.out.trans m9.out⟩
      · have e4 := L4.out hab
        rw [e4] at TQN
        have hnb : ((N : Int) == (M : Int)) = false := by simp; omega
        have hnc : ¬ (N : Int) = (M : Int) := by omega
        go_wp2_with (first
          | (go_at_call 38; refine (CT.out _ m9.out).mono ?_; rintro e u10 ⟨rfl, q10⟩; (have m10 := Lib.hid (m9.out.trans q10)); (have z100 := Z0.out _ m10.out); (have z101 := Z1.out _ m10.out); clear q10)
          | (go_at_call 23; refine (TPN.out _ m8.out).mono ?_; rintro e u9 ⟨rfl, q9⟩; (have m9 := Lib.hid (m8.out.trans q9)); (have z90 := Z0.out _ m9.out); (have z91 := Z1.out _ m9.out); clear q9)
          | (go_at_call 17; refine (SP.out _ _ PB.out m7.out).mono ?_; rintro e u8 ⟨rfl, q8⟩; (have m8 := Lib.hid (m7.out.trans q8)); (have z80 := Z0.out _ m8.out); (have z81 := Z1.out _ m8.out); clear q8)
          | (go_at_call 42; refine (TCB.out _ m6.out).mono ?_; rintro e u7 ⟨vB, rfl, pB, q7⟩; (have PB := Lib.hid pB.pts); clear pB; (have m7 := Lib.hid (m6.out.trans q7)); (have z70 := Z0.out _ m7.out); (have z71 := Z1.out _ m7.out); clear q7)
          | (go_at_call 23; refine (TPM.out _ m5.out).mono ?_; rintro e u6 ⟨rfl, q6⟩; (have m6 := Lib.hid (m5.out.trans q6)); (have z60 := Z0.out _ m6.out); (have z61 := Z1.out _ m6.out); clear q6)
          | (go_at_call 23; refine (TQM.out _ m4.out).mono ?_; rintro e u5 ⟨rfl, q5⟩; (have m5 := Lib.hid (m4.out.trans q5)); (have z50 := Z0.out _ m5.out); (have z51 := Z1.out _ m5.out); clear q5)
          | (go_at_call 23; refine (TPN.out _ m3.out).mono ?_; rintro e u4 ⟨rfl, q4⟩; (have m4 := Lib.hid (m3.out.trans q4)); (have z40 := Z0.out _ m4.out); (have z41 := Z1.out _ m4.out); clear q4)
          | (go_at_call 23; refine (TQN.out _ m2.out).mono ?_; rintro e u3 ⟨rfl, q3⟩; (have m3 := Lib.hid (m2.out.trans q3)); (have z30 := Z0.out _ m3.out); (have z31 := Z1.out _ m3.out); clear q3)
          | (go_at_call 35; refine (TLP.out _ m1.out).mono ?_; rintro e u2 ⟨rfl, q2⟩; (have m2 := Lib.hid (m1.out.trans q2)); (have z20 := Z0.out _ m2.out); (have z21 := Z1.out _ m2.out); clear q2)
          | (go_at_call 35; refine (TLQ.out _ m0.out).mono ?_; rintro e u1 ⟨rfl, q1⟩; (have m1 := Lib.hid (m0.out.trans q1)); (have z10 := Z0.out _ m1.out); (have z11 := Z1.out _ m1.out); clear q1))
        go_ret
        exact ⟨rfl, KZ.out.trans m10.out⟩
  | false =>
    rw [hpn] at TPN
    have e7 := L7.out hpn
    rw [decide_eq_true e7] at SQ
    clear e7
    clear hpn
    cases hpm : Wk.has P M with
    | true =>
      rw [hpm] at TPM
      clear hpm
      by_cases hab : N = M
      · subst hab
        go_wp2_with (first
          | (go_at_call 38; refine (CT.out _ m6.out).mono ?_; rintro e u7 ⟨rfl, q7⟩; (have m7 := Lib.hid (m6.out.trans q7)); (have z70 := Z0.out _ m7.out); (have z71 := Z1.out _ m7.out); clear q7)
          | (go_at_call 17; refine (SQ.out _ m5.out).mono ?_; rintro e u6 ⟨rfl, q6⟩; (have m6 := Lib.hid (m5.out.trans q6)); (have z60 := Z0.out _ m6.out); (have z61 := Z1.out _ m6.out); clear q6)
          | (go_at_call 23; refine (TPN.out _ m4.out).mono ?_; rintro e u5 ⟨rfl, q5⟩; (have m5 := Lib.hid (m4.out.trans q5)); (have z50 := Z0.out _ m5.out); (have z51 := Z1.out _ m5.out); clear q5)
          | (go_at_call 23; refine (TPM.out _ m3.out).mono ?_; rintro e u4 ⟨rfl, q4⟩; (have m4 := Lib.hid (m3.out.trans q4)); (have z40 := Z0.out _ m4.out); (have z41 := Z1.out _ m4.out); clear q4)
          | (go_at_call 23; refine (TPN.out _ m2.out).mono ?_; rintro e u3 ⟨rfl, q3⟩; (have m3 := Lib.hid (m2.out.trans q3)); (have z30 := Z0.out _ m3.out); (have z31 := Z1.out _ m3.out); clear q3)
          | (go_at_call 35; refine (TLP.out _ m1.out).mono ?_; rintro e u2 ⟨rfl, q2⟩; (have m2 := Lib.hid (m1.out.trans q2)); (have z20 := Z0.out _ m2.out); (have z21 := Z1.out _ m2.out); clear q2)
          | (go_at_call 35; refine (TLQ.out _ m0.out).mono ?_; rintro e u1 ⟨rfl, q1⟩; (have m1 := Lib.hid (m0.out.trans q1)); (have z10 := Z0.out _ m1.out); (have z11 := Z1.out _ m1.out); clear q1))
        go_ret
        exact ⟨rfl, KZ.out.trans m7.out⟩
      · have e4 := L4.out hab
        rw [e4] at TQN
        have hnb : ((N : Int) == (M : Int)) = false := by simp; omega
        have hnc : ¬ (N : Int) = (M : Int) := by omega
        go_wp2_with (first
          | (go_at_call 38; refine (CT.out _ m7.out).mono ?_; rintro e u8 ⟨rfl, q8⟩; (have m8 := Lib.hid (m7.out.trans q8)); (have z80 := Z0.out _ m8.out); (have z81 := Z1.out _ m8.out); clear q8)
          | (go_at_call 17; refine (SQ.out _ m6.out).mono ?_; rintro e u7 ⟨rfl, q7⟩; (have m7 := Lib.hid (m6.out.trans q7)); (have z70 := Z0.out _ m7.out); (have z71 := Z1.out _ m7.out); clear q7)
          | (go_at_call 23; refine (TPN.out _ m5.out).mono ?_; rintro e u6 ⟨rfl, q6⟩; (have m6 := Lib.hid (m5.out.trans q6)); (have z60 := Z0.out _ m6.out); (have z61 := Z1.out _ m6.out); clear q6)
          | (go_at_call 23; refine (TPM.out _ m4.out).mono ?_; rintro e u5 ⟨rfl, q5⟩; (have m5 := Lib.hid (m4.out.trans q5)); (have z50 := Z0.out _ m5.out); (have z51 := Z1.out _ m5.out); clear q5)
          | (go_at_call 23; refine (TPN.out _ m3.out).mono ?_; rintro e u4 ⟨rfl, q4⟩; (have m4 := Lib.hid (m3.out.trans q4)); (have z40 := Z0.out _ m4.out); (have z41 := Z1.out _ m4.out); clear q4)
          | (go_at_call 23; refine (TQN.out _ m2.out).mono ?_; rintro e u3 ⟨rfl, q3⟩; (have m3 := Lib.hid (m2.out.trans q3)); (have z30 := Z0.out _ m3.out); (have z31 := Z1.out _ m3.out); clear q3)
          | (go_at_call 35; refine (TLP.out _ m1.out).mono ?_; rintro e u2 ⟨rfl, q2⟩; (have m2 := Lib.hid (m1.out.trans q2)); (have z20 := Z0.out _ m2.out); (have z21 := Z1.out _ m2.out); clear q2)
          | (go_at_call 35; refine (TLQ.out _ m0.out).mono ?_; rintro e u1 ⟨rfl, q1⟩; (have m1 := Lib.hid (m0.out.trans q1)); (have z10 := Z0.out _ m1.out); (have z11 := Z1.out _ m1.out); clear q1))
        go_ret
        exact ⟨rfl, KZ.out.trans m8.out⟩
    | false =>
      rw [hpm] at TPM
      have e6 := L6.out hpm
      rw [e6] at TCB
      clear e6
      clear hpm
      by_cases hab : N = M
      · subst hab
        go_wp2_with (first
          | (go_at_call 38; refine (CT.out _ m8.out).mono ?_; rintro e u9 ⟨rfl, q9⟩; (have m9 := Lib.hid (m8.out.trans q9)); (have z90 := Z0.out _ m9.out); (have z91 := Z1.out _ m9.out); clear q9)
          | (go_at_call 17; refine (SQ.out _ m7.out).mono ?_; rintro e u8 ⟨rfl, q8⟩; (have m8 := Lib.hid (m7.out.trans q8)); (have z80 := Z0.out _ m8.out); (have z81 := Z1.out _ m8.out); clear q8)
          | (go_at_call 23; refine (TPN.out _ m6.out).mono ?_; rintro e u7 ⟨rfl, q7⟩; (have m7 := Lib.hid (m6.out.trans q7)); (have z70 := Z0.out _ m7.out); (have z71 := Z1.out _ m7.out); clear q7)
          | (go_at_call 17; refine (SP.out _ _ PB.out m5.out).mono ?_; rintro e u6 ⟨rfl, q6⟩; (have m6 := Lib.hid (m5.out.trans q6)); (have z60 := Z0.out _ m6.out); (have z61 := Z1.out _ m6.out); clear q6)
          | (go_at_call 42; refine (TCB.out _ m4.out).mono ?_; rintro e u5 ⟨vB, rfl, pB, q5⟩; (have PB := Lib.hid pB.pts); clear pB; (have m5 := Lib.hid (m4.out.trans q5)); (have z50 := Z0.out _ m5.out); (have z51 := Z1.out _ m5.out); clear q5)
          | (go_at_call 23; refine (TPM.out _ m3.out).mono ?_; rintro e u4 ⟨rfl, q4⟩; (have m4 := Lib.hid (m3.out.trans q4)); (have z40 := Z0.out _ m4.out); (have z41 := Z1.out _ m4.out); clear q4)
          | (go_at_call 23; refine (TPN.out _ m2.out).mono ?_; rintro e u3 ⟨rfl, q3⟩; (have m3 := Lib.hid (m2.out.trans q3)); (have z30 := Z0.out _ m3.out); (have z31 := Z1.out _ m3.out); clear q3)
          | (go_at_call 35; refine (TLP.out _ m1.out).mono ?_; rintro e u2 ⟨rfl, q2⟩; (have m2 := Lib.hid (m1.out.trans q2)); (have z20 := Z0.out _ m2.out); (have z21 := Z1.out _ m2.out); clear q2)
          | (go_at_call 35; refine (TLQ.out _ m0.out).mono ?_; rintro e u1 ⟨rfl, q1⟩; (have m1 := Lib.hid (m0.out.trans q1)); (have z10 := Z0.out _ m1.out); (have z11 := Z1.out _ m1.out); clear q1))
        go_ret
        exact ⟨rfl, KZ.out.trans m9.out⟩
      · have e4 := L4.out hab
        rw [e4] at TQN
        have hnb : ((N : Int) == (M : Int)) = false := by simp; omega
        have hnc : ¬ (N : Int) = (M : Int) := by omega
        go_wp2_with (first
          | (go_at_call 38; refine (CT.out _ m9.out).mono ?_; rintro e u10 ⟨rfl, q10⟩; (have m10 := Lib.hid (m9.out.trans q10)); (have z100 := Z0.out _ m10.out); (have z101 := Z1.out _ m10.out); clear q10)
          | (go_at_call 17; refine (SQ.out _ m8.out).mono ?_; rintro e u9 ⟨rfl, q9⟩; (have m9 := Lib.hid (m8.out.trans q9)); (have z90 := Z0.out _ m9.out); (have z91 := Z1.out _ m9.out); clear q9)
          | (go_at_call 23; refine (TPN.out _ m7.out).mono ?_; rintro e u8 ⟨rfl, q8⟩; (have m8 := Lib.hid (m7.out.trans q8)); (have z80 := Z0.out _ m8.out); (have z81 := Z1.out _ m8.out); clear q8)
          | (go_at_call 17; refine (SP.out _ _ PB.out m6.out).mono ?_; rintro e u7 ⟨rfl, q7⟩; (have m7 := Lib.hid (m6.out.trans q7)); (have z70 := Z0.out _ m7.out); (have z71 := Z1.out _ m7.out); clear q7)
          | (go_at_call 42; refine (TCB.out _ m5.out).mono ?_; rintro e u6 ⟨vB, rfl, pB, q6⟩; (have PB := Lib.hid pB.pts); clear pB; (have m6 := Lib.hid (m5.out.trans q6)); (have z60 := Z0.out _ m6.out); (have z61 := Z1.out _ m6.out); clear q6)
          | (go_at_call 23; refine (TPM.out _ m4.out).mono ?_; rintro e u5 ⟨rfl, q5⟩; (have m5 := Lib.hid (m4.out.trans q5)); (have z50 := Z0.out _ m5.out); (have z51 := Z1.out _ m5.out); clear q5)
          | (go_at_call 23; refine (TPN.out _ m3.out).mono ?_; rintro e u4 ⟨rfl, q4⟩; (have m4 := Lib.hid (m3.out.trans q4)); (have z40 := Z0.out _ m4.out); (have z41 := Z1.out _ m4.out); clear q4)
          | (go_at_call 23; refine (TQN.out _ m2.out).mono ?_; rintro e u3 ⟨rfl, q3⟩; (have m3 := Lib.hid (m2.out.trans q3)); (have z30 := Z0.out _ m3.out); (have z31 := Z1.out _ m3.out); clear q3)
          | (go_at_call 35; refine (TLP.out _ m1.out).mono ?_; rintro e u2 ⟨rfl, q2⟩; (have m2 := Lib.hid (m1.out.trans q2)); (have z20 := Z0.out _ m2.out); (have z21 := Z1.out _ m2.out); clear q2)
          | (go_at_call 35; refine (TLQ.out _ m0.out).mono ?_; rintro e u1 ⟨rfl, q1⟩; (have m1 := Lib.hid (m0.out.trans q1)); (have z10 := Z0.out _ m1.out); (have z11 := Z1.out _ m1.out); clear q1))
        go_ret
        exact ⟨rfl, KZ.out.trans m10.out⟩
end Go.Proofs.YtfjpphfadglohaaDoor
