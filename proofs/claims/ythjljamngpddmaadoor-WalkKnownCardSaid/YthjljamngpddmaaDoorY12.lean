
/-
  The law WalkKnown.
-/
import Derived.Test.YthjljamngpddmaaDoorY10
import Derived.Test.YthjljamngpddmaaDoorY11
namespace Go.Proofs.YthjljamngpddmaaDoor
open Go.RowKit Go.Shelf

namespace Wk
def begins (l : List Seg) (k n : Nat) : Bool := (first l).2.2 && decide ((first l).1 = k) && decide ((first l).2.1 = n)
def right (l : List Seg) (cl : Int) (peer : Nat) : Bool := ordered l && !has l 0 && (if cl = 1 then true else if cl = 2 then begins l 3 peer else if cl = 3 then begins l 2 peer else false)
def len1 (s : Seg) : Nat := if s.1.toNat = 2 then s.2.length else if s.1.toNat = 1 then 1 else 0
def lens (l : List Seg) : Nat := (l.map len1).sum
def length (l : List Seg) : Nat := if Pt.may l then lens l else 0
theorem lens_snoc (l : List Seg) (s : Seg) : lens (l ++ [s]) = lens l + len1 s := by unfold lens; rw [List.map_append, List.sum_append]; simp
theorem lens_le (l : List Seg) (h : ∀ s ∈ l, s.2.length ≤ 1000000) : lens l ≤ 1000000 * l.length := by
  unfold lens
  induction l with
  | nil => simp
  | cons s l ih =>
    have h1 := ih (fun x hx => h x (List.mem_cons_of_mem _ hx))
    have h3 := h s (List.mem_cons_self ..)
    have h4 : len1 s ≤ 1000000 := by unfold len1; split; exact h3; split <;> omega
    rw [List.map_cons, List.sum_cons, List.length_cons]
    omega
end Wk

theorem walk_begins (v : Value) (l : List Seg) (k n : Nat) (w : World) (h : Pts w v l) (hl : l.length ≤ 1000000) :
    Calls Tryd.prog 42 #[v, .int .u8 (k : Int), .int .u32 (n : Int)] w fun e w' => e = .returned (.bool (Wk.begins l k n)) ∧ Kept Nothing w w' := by
  obtain ⟨A, c, rfl, -, -⟩ := h.form
  have HF := Lib.hid (walk_first _ l w h hl)
  have HB : Hid (Wk.begins l k n = ((Wk.first l).2.2 && decide ((Wk.first l).1 = k) && decide ((Wk.first l).2.1 = n))) := Lib.hid rfl
  clear h
  generalize Wk.first l = ff at *
  obtain ⟨fk, fn, fi⟩ := ff
  replace HB : Hid (Wk.begins l k n = (fi && decide (fk = k) && decide (fn = n))) := HB
  cases fi with
  | false =>
    go_enter Tryd.func42, Tryd.ntmps42
    go_wp2_with (go_at_call 8; refine (HF.out).mono ?_; rintro e w1 ⟨rfl, k1⟩)
    go_ret
    exact ⟨by rw [HB.out]; rfl, k1⟩
  | true =>
    by_cases hk : fk = k
    · subst hk
      have HB2 : Hid (Wk.begins l fk n = decide (fn = n)) := Lib.hid (by rw [HB.out]; simp)
      go_enter Tryd.func42, Tryd.ntmps42
      go_wp2_with (go_at_call 8; refine (HF.out).mono ?_; rintro e w1 ⟨rfl, k1⟩)
      go_ret
      exact ⟨by rw [HB2.out]; exact ret_bool (by rw [Bool.eq_iff_iff]; simp; omega), k1⟩
    · have hb : ((fk : Int) == (k : Int)) = false := by simp; omega
      have HB2 : Hid (Wk.begins l k n = false) := Lib.hid (by rw [HB.out]; simp [hk])
      clear hk
      go_enter Tryd.func42, Tryd.ntmps42
      go_wp2_with (go_at_call 8; refine (HF.out).mono ?_; rintro e w1 ⟨rfl, k1⟩)
      go_ret
      exact ⟨by rw [HB2.out]; rfl, k1⟩

theorem walk_right (v : Value) (l : List Seg) (cl : Int) (n : Nat) (w : World) (h : Pts w v l) (hl : l.length ≤ 1000000) (hn : ∀ s ∈ l, s.2.length ≤ 1000000) :
    Calls Tryd.prog 16 #[v, .int .i64 cl, .int .u32 (n : Int)] w fun e w' => e = .returned (.bool (Wk.right l cl n)) ∧ Kept Nothing w w' := by
  obtain ⟨A, c, rfl, -, -⟩ := h.form
  have HO := Lib.hid (walk_ordered _ l w h hl hn)
  have HH := Lib.hid (fun w1 (k1 : Kept Nothing w w1) => walk_has _ l 0 w1 (h.old k1) hl hn)
  have HB := Lib.hid (fun (k : Nat) w1 (k1 : Kept Nothing w w1) => walk_begins _ l k n w1 (h.old k1) hl)
  have HR : Hid (Wk.right l cl n = (Wk.ordered l && !Wk.has l 0 && (if cl = 1 then true else if cl = 2 then Wk.begins l 3 n else if cl = 3 then Wk.begins l 2 n else false))) := Lib.hid rfl
  have HB3 := Lib.hid (HB.out 3)
  have HB2 := Lib.hid (HB.out 2)
  clear h hn HB
  generalize Wk.ordered l = o at *
  generalize Wk.has l 0 = z at *
  generalize Wk.begins l 3 n = b3 at *
  generalize Wk.begins l 2 n = b2 at *
  cases o with
  | false =>
    go_enter Tryd.func16, Tryd.ntmps16
    go_wp2_with (go_at_call 14; refine (HO.out).mono ?_; rintro e w1 ⟨rfl, k1⟩)
    go_ret
    exact ⟨by rw [HR.out]; rfl, k1⟩
  | true =>
    cases z with
    | true =>
      go_enter Tryd.func16, Tryd.ntmps16
      go_wp2_with (first
        | (go_at_call 10; refine (HH.out _ k1).mono ?_; rintro e w2 ⟨rfl, k2⟩)
        | (go_at_call 14; refine (HO.out).mono ?_; rintro e w1 ⟨rfl, k1⟩))
      go_ret
      exact ⟨by rw [HR.out]; rfl, k1.trans k2⟩
    | false =>
      by_cases h1 : cl = 1
      · subst h1
        go_enter Tryd.func16, Tryd.ntmps16
        go_wp2_with (first
          | (go_at_call 10; refine (HH.out _ k1).mono ?_; rintro e w2 ⟨rfl, k2⟩)
          | (go_at_call 14; refine (HO.out).mono ?_; rintro e w1 ⟨rfl, k1⟩))
        go_ret
        exact ⟨by rw [HR.out]; rfl, k1.trans k2⟩
      · have c1 : (cl == 1) = false := by simp [h1]
        by_cases h2 : cl = 2
        · subst h2
          clear h1
          go_enter Tryd.func16, Tryd.ntmps16
          go_wp2_with (first
            | (go_at_call 42; refine (HB3.out _ (k1.trans k2)).mono ?_; rintro e w3 ⟨rfl, k3⟩)
            | (go_at_call 10; refine (HH.out _ k1).mono ?_; rintro e w2 ⟨rfl, k2⟩)
            | (go_at_call 14; refine (HO.out).mono ?_; rintro e w1 ⟨rfl, k1⟩))
          go_ret
          exact ⟨by rw [HR.out]; simp, (k1.trans k2).trans k3⟩
        · have c2 : (cl == 2) = false := by simp [h2]
          by_cases h3 : cl = 3
          · subst h3
            clear h1 h2
            go_enter Tryd.func16, Tryd.ntmps16
            go_wp2_with (first
              | (go_at_call 42; refine (HB2.out _ (k1.trans k2)).mono ?_; rintro e w3 ⟨rfl, k3⟩)
              | (go_at_call 10; refine (HH.out _ k1).mono ?_; rintro e w2 ⟨rfl, k2⟩)
              | (go_at_call 14; refine (HO.out).mono ?_; rintro e w1 ⟨rfl, k1⟩))
            go_ret
            exact ⟨by rw [HR.out]; simp, (k1.trans k2).trans k3⟩
          · have c3 : (cl == 3) = false := by simp [h3]
            have HE : Hid (Wk.right l cl n = false) := Lib.hid (by rw [HR.out]; simp [h1, h2, h3])
            clear h1 h2 h3
            go_enter Tryd.func16, Tryd.ntmps16
            go_wp2_with (first
              | (go_at_call 10; refine (HH.out _ k1).mono ?_; rintro e w2 ⟨rfl, k2⟩)
              | (go_at_call 14; refine (HO.out).mono ?_; rintro e w1 ⟨rfl, k1⟩))
            go_ret
            exact ⟨by rw [HE.out]; rfl, k1.trans k2⟩

set_option maxHeartbeats 800000 in
theorem walk_length (v : Value) (l : List Seg) (w : World) (h : Pts w v l) (hl : l.length ≤ 1000000) (hn : ∀ s ∈ l, s.2.length ≤ 1000000) :
    Calls Tryd.prog 22 #[v] w fun e w' => e = .returned (.int .i64 (Wk.length l : Int)) ∧ Kept Nothing w w' := by
  obtain ⟨A, c, rfl, hc, hm⟩ := h.form
  have HM := Lib.hid (path_may _ l w h (by omega))
  have HV := Lib.hid h
  have HN := Lib.hid hn
  have HE : Hid (Wk.length l = if Pt.may l then Wk.lens l else 0) := Lib.hid rfl
  clear h hn
  cases hmay : Pt.may l with
  | false =>
    rw [hmay] at HM HE
    clear hmay
    go_enter Tryd.func22, Tryd.ntmps22
    go_wp2_with (go_at_call 34; refine (HM.out).mono ?_; rintro e w1 ⟨rfl, k1⟩)
    go_ret
    exact ⟨by rw [HE.out]; rfl, k1⟩
  | true =>
    rw [hmay] at HM HE
    clear hmay
    go_enter Tryd.func22, Tryd.ntmps22
    go_upto_region 5 with (go_at_call 34; refine (HM.out).mono ?_; rintro e w1 ⟨rfl, k1⟩; (have K1 := Lib.hid k1); clear k1)
    go_loopw [3, 11] (fun q i wr => ∃ k : Nat, i = .int .i64 (k : Int) ∧ q = .int .i64 (Wk.lens (l.take k) : Int) ∧ k ≤ l.length ∧ Hid (Kept Nothing w wr)) (fun _ i _ => l.length - (intOf i).toNat)
    case atStart => exact ⟨0, rfl, rfl, Nat.zero_le _, K1⟩
    case round =>
      clear K1
      obtain ⟨k, rfl, rfl, hk, KK⟩ := hrel
      by_cases hlt : k < l.length
      · obtain ⟨b, o, Au, cu, rfl, p0w, p1w, hp⟩ := HV.out.at2 hlt
        have p0 := KK.out.cell_some p0w (fun x => x)
        have p1 := KK.out.cell_some p1w (fun x => x)
        have i1 : (0 : Int) ≤ (k : Int) := by omega
        have i2 : (k : Int) < (l.length : Int) := by omega
        have hls : b < wr.heap.size := World.block_lt_of_cell? _ _ p0
        have ET : Hid (Wk.lens (l.take (k + 1)) = Wk.lens (l.take k) + Wk.len1 (l.getD k (0, []))) := Lib.hid (by rw [List.take_succ_eq_append_getElem hlt, Wk.lens_snoc, getD_get hlt])
        have hb1 := Wk.lens_le (l.take k) (fun s hs => HN.out s (List.mem_of_mem_take hs))
        have hn1 : (l.getD k (0, [])).2.length ≤ 1000000 := HN.out _ (by rw [getD_get hlt]; exact List.getElem_mem _)
        have hb2 : (l.take k).length ≤ 1000000 := by rw [List.length_take]; omega
        have E1 : Hid (Wk.len1 (l.getD k (0, [])) = if (l.getD k (0, [])).1.toNat = 2 then (l.getD k (0, [])).2.length else if (l.getD k (0, [])).1.toNat = 1 then 1 else 0) := Lib.hid rfl
        clear hp p0w p1w
        generalize Wk.len1 (l.getD k (0, [])) = dl at *
        generalize (l.getD k (0, [])).1.toNat = kn at *
        generalize (l.getD k (0, [])).2.length = nl at *
        generalize Wk.lens (l.take k) = acc at *
        generalize (l.take k).length = tl at *
        have KX := Lib.hid (KK.out.alloc (.cells #[.int .u8 (kn : Int), .slice Au nl cu] 61))
        by_cases h2 : kn = 2
        · subst h2
          rw [if_pos rfl] at E1
          go_wp2
          go_roundw
          case rel => exact ⟨k + 1, by go_num, by rw [ET.out, E1.out]; go_num, by omega, KX⟩
          case measure => simp [intOf]; omega
        · have c2 : ((kn : Int) == 2) = false := by simp; omega
          rw [if_neg h2] at E1
          by_cases h1 : kn = 1
          · subst h1
            rw [if_pos rfl] at E1
            clear h2
            go_wp2
            go_roundw
            case rel => exact ⟨k + 1, by go_num, by rw [ET.out, E1.out]; go_num, by omega, KX⟩
            case measure => simp [intOf]; omega
          · have c1 : ((kn : Int) == 1) = false := by simp; omega
            rw [if_neg h1] at E1
            clear h1 h2
            go_wp2
            go_roundw
            case rel => exact ⟨k + 1, by go_num, by rw [ET.out, E1.out]; go_num, by omega, KX⟩
            case measure => simp [intOf]; omega
      · obtain rfl : k = l.length := by omega
        rw [List.take_of_length_le (Nat.le_refl _)]
        go_wp2
        go_ret
        exact ⟨by rw [HE.out]; rfl, KK.out⟩
end Go.Proofs.YthjljamngpddmaaDoor
namespace Go.Proofs.YthjljamngpddmaaDoor
open Go.RowKit Go.Shelf

def tP : List Seg := [(3, [65001, 65002]), (2, [10]), (1, [20, 30])]
def tQ : List Seg := [(3, [65003, 65001, 65002]), (2, [10]), (1, [20, 30])]
def tR : List Seg := [(1, [5]), (2, [6])]
theorem t_pre : Wk.prepend tP 3 65003 = (tQ, 0) := by rfl
theorem t_len : Wk.length tP = 2 ∧ Wk.length tR = 2 := ⟨by rfl, by rfl⟩
theorem t_nb : Wk.neighbour tP = 10 ∧ Wk.neighbour tR = 0 := ⟨by rfl, by rfl⟩
theorem t_or : Wk.origin tR = 6 := by rfl
theorem t_ord : Wk.ordered tP = true := by rfl
theorem t_strip : Wk.strip tP = [(2, [10]), (1, [20, 30])] := by rfl
theorem d10 : Lib.decDigits 10 = [49, 48] := by rw [dec_step (by decide), dec_small (by decide)]; rfl
theorem d20 : Lib.decDigits 20 = [50, 48] := by rw [dec_step (by decide), dec_small (by decide)]; rfl
theorem d30 : Lib.decDigits 30 = [51, 48] := by rw [dec_step (by decide), dec_small (by decide)]; rfl
theorem d65 (k : Nat) (hk : k < 10) : Lib.decDigits (65000 + k) = [54, 53, 48, 48, UInt8.ofNat (48 + k)] := by
  rw [dec_step (by omega), show (65000 + k) / 10 = 6500 by omega, show (65000 + k) % 10 = k by omega, dec_step (by decide), dec_step (by decide), dec_step (by decide), dec_small (by decide)]
  rfl
theorem t_text1 : Pt.text [(2, [10]), (1, [20, 30])] = [49, 48, 32, 123, 50, 48, 44, 51, 48, 125] := by
  show Pt.tx [(2, [10]), (1, [20, 30])] 2 = _
  simp [Pt.tx, Pt.ahead, Pt.gap, Pt.segT, Pt.opens, Pt.betw, Pt.ends, d10, d20, d30, Lib.join, List.intercalate, List.intersperse]
theorem t_text2 : Pt.text tQ = [40, 54, 53, 48, 48, 51, 32, 54, 53, 48, 48, 49, 32, 54, 53, 48, 48, 50, 41, 32, 49, 48, 32, 123, 50, 48, 44, 51, 48, 125] := by
  have e1 : Lib.decDigits 65001 = [54, 53, 48, 48, 49] := d65 1 (by decide)
  have e2 : Lib.decDigits 65002 = [54, 53, 48, 48, 50] := d65 2 (by decide)
  have e3 : Lib.decDigits 65003 = [54, 53, 48, 48, 51] := d65 3 (by decide)
  show Pt.tx tQ 3 = _
  simp [tQ, Pt.tx, Pt.ahead, Pt.gap, Pt.segT, Pt.opens, Pt.betw, Pt.ends, d10, d20, d30, e1, e2, e3, Lib.join, List.intercalate, List.intersperse]

theorem as_made (w : World) (cs : Array Value) (l : List Nat) (h : cs.toList = ass l) (hm : l.length ≤ 100) (hl : ∀ n ∈ l, n < 4294967296) (hp : 0 < l.length) : As (w.alloc (.cells cs 25)) (.slice (some ⟨w.heap.size, 0, none⟩) l.length l.length) l := by
  have hs : cs.size = l.length := by rw [← Array.length_toList, h, length_ass]
  refine As.of_own (base := 0) (e := 25) ⟨by rw [length_ass, Nat.mul_one], .inr ⟨w.heap.size, l.length, cs, rfl, Nat.zero_le _, heap_alloc_new w _, Nat.le_refl _, by unfold maxLen; omega, by rw [hs, Nat.mul_one], ?_⟩⟩ hl
  rw [List.take_of_length_le (by simp [hs]), h]
theorem pts_made (w : World) (cs : Array Value) (l : List Seg) (hm : l.length ≤ 100) (hs : cs.size = l.length * 2) (h : PCells (As (w.alloc (.cells cs 61))) cs.toList l) : Pts (w.alloc (.cells cs 61)) (.slice (some ⟨w.heap.size, 0, none⟩) l.length l.length) l :=
  Pts.of_own (base := 0) (e := 61) ⟨by simp [hs], .inr ⟨w.heap.size, l.length, cs, rfl, Nat.zero_le _, heap_alloc_new w _, Nat.le_refl _, by unfold maxLen; omega, hs, by rw [List.take_of_length_le (by simp [hs])]⟩⟩ h

set_option maxRecDepth 20000 in
set_option maxHeartbeats 2000000 in
theorem tells_true (w : World) (hr : Rdy w) (hs : Bkt w) :
    Calls Tryd.prog 25 #[] w fun e w' => e = .returned (.bool true) ∧ Kept Nothing w w' := by
  have HR := Lib.hid hr
  have HS := Lib.hid hs
  clear hr hs
  have hB : ∀ s ∈ tP, s.2.length ≤ 1000000 := by unfold tP; simp
  have hBR : ∀ s ∈ tR, s.2.length ≤ 1000000 := by unfold tR; simp
  go_enter Tryd.func25, Tryd.ntmps25
  go_upto_region 2 with fail
  obtain ⟨wA, hwA⟩ : ∃ wA, w.alloc (.cells #[.int .u32 65001, .int .u32 65002] 25) = wA := ⟨_, rfl⟩
  have zA : wA.heap.size = w.heap.size + 1 := by rw [← hwA]; exact World.size_alloc _ _
  have aA : As wA (.slice (some ⟨w.heap.size, 0, none⟩) 2 2) [65001, 65002] := by rw [← hwA]; exact as_made w _ [65001, 65002] rfl (by simp) (by simp) (by simp)
  have kA : Kept Nothing w wA := by rw [← hwA]; exact (Kept.refl _ w).alloc _
  rw [hwA]
  obtain ⟨wB, hwB⟩ : ∃ wB, wA.alloc (.cells #[.int .u32 10] 25) = wB := ⟨_, rfl⟩
  have zB : wB.heap.size = w.heap.size + 1 + 1 := by rw [← hwB, World.size_alloc, zA]
  have aB : As wB (.slice (some ⟨w.heap.size + 1, 0, none⟩) 1 1) [10] := by rw [← hwB, ← zA]; exact as_made wA _ [10] rfl (by simp) (by simp) (by simp)
  have kB : Kept Nothing wA wB := by rw [← hwB]; exact (Kept.refl _ wA).alloc _
  rw [hwB]
  obtain ⟨wC, hwC⟩ : ∃ wC, wB.alloc (.cells #[.int .u32 20, .int .u32 30] 25) = wC := ⟨_, rfl⟩
  have zC : wC.heap.size = w.heap.size + 1 + 1 + 1 := by rw [← hwC, World.size_alloc, zB]
  have aC : As wC (.slice (some ⟨w.heap.size + 1 + 1, 0, none⟩) 2 2) [20, 30] := by rw [← hwC, ← zB]; exact as_made wB _ [20, 30] rfl (by simp) (by simp) (by simp)
  have kC : Kept Nothing wB wC := by rw [← hwC]; exact (Kept.refl _ wB).alloc _
  rw [hwC]
  have kD := (Kept.refl Nothing wC).alloc (.cells #[.int .u8 3, .slice (some ⟨w.heap.size, 0, none⟩) 2 2, .int .u8 2, .slice (some ⟨w.heap.size + 1, 0, none⟩) 1 1, .int .u8 1, .slice (some ⟨w.heap.size + 1 + 1, 0, none⟩) 2 2] 61)
  have PD := Lib.hid (pts_made wC #[.int .u8 3, .slice (some ⟨w.heap.size, 0, none⟩) 2 2, .int .u8 2, .slice (some ⟨w.heap.size + 1, 0, none⟩) 1 1, .int .u8 1, .slice (some ⟨w.heap.size + 1 + 1, 0, none⟩) 2 2] tP (by decide) rfl ⟨rfl, aA.old (kB.trans (kC.trans kD)), rfl, aB.old (kC.trans kD), rfl, aC.old kD, trivial⟩)
  rw [zC] at PD
  have KD := Lib.hid (kA.trans (kB.trans (kC.trans kD)))
  clear aA aB aC kA kB kC kD zA zB
  generalize wC.alloc (.cells #[.int .u8 3, .slice (some ⟨w.heap.size, 0, none⟩) 2 2, .int .u8 2, .slice (some ⟨w.heap.size + 1, 0, none⟩) 1 1, .int .u8 1, .slice (some ⟨w.heap.size + 1 + 1, 0, none⟩) 2 2] 61) = wD at *
  generalize w.heap.size + 1 + 1 + 1 = gP at *
  have HPP := Lib.hid (walk_prepend (.slice (some ⟨gP, 0, none⟩) 3 3) tP 3 65003 (by decide) wD PD.out (by decide) hB)
  rw [t_pre] at HPP
  replace HPP : Hid (Calls Tryd.prog 26 #[.slice (some ⟨gP, 0, none⟩) 3 3, .int .u8 3, .int .u32 65003] wD fun e w' => ∃ v', e = .returned (.tuple #[v', .int .i64 0]) ∧ Pown w' wD.heap.size v' tQ ∧ Kept Nothing wD w') := HPP
  go_upto_region 3 with (go_at_call 26; refine (HPP.out).mono ?_; rintro e w5 ⟨v5, rfl, p5, k5⟩; (have P5 := Lib.hid p5); (have K5 := Lib.hid k5); clear p5 k5)
  go_upto_region 4 with fail
  obtain ⟨wE, hwE⟩ : ∃ wE, w5.alloc (.cells #[.int .u32 5] 25) = wE := ⟨_, rfl⟩
  have zE : wE.heap.size = w5.heap.size + 1 := by rw [← hwE]; exact World.size_alloc _ _
  have aE : As wE (.slice (some ⟨w5.heap.size, 0, none⟩) 1 1) [5] := by rw [← hwE]; exact as_made w5 _ [5] rfl (by simp) (by simp) (by simp)
  have kE : Kept Nothing w5 wE := by rw [← hwE]; exact (Kept.refl _ w5).alloc _
  rw [hwE]
  obtain ⟨wF, hwF⟩ : ∃ wF, wE.alloc (.cells #[.int .u32 6] 25) = wF := ⟨_, rfl⟩
  have zF : wF.heap.size = w5.heap.size + 1 + 1 := by rw [← hwF, World.size_alloc, zE]
  have aF : As wF (.slice (some ⟨w5.heap.size + 1, 0, none⟩) 1 1) [6] := by rw [← hwF, ← zE]; exact as_made wE _ [6] rfl (by simp) (by simp) (by simp)
  have kF : Kept Nothing wE wF := by rw [← hwF]; exact (Kept.refl _ wE).alloc _
  rw [hwF]
  have kG := (Kept.refl Nothing wF).alloc (.cells #[.int .u8 1, .slice (some ⟨w5.heap.size, 0, none⟩) 1 1, .int .u8 2, .slice (some ⟨w5.heap.size + 1, 0, none⟩) 1 1] 61)
  have RG := Lib.hid (pts_made wF #[.int .u8 1, .slice (some ⟨w5.heap.size, 0, none⟩) 1 1, .int .u8 2, .slice (some ⟨w5.heap.size + 1, 0, none⟩) 1 1] tR (by decide) rfl ⟨rfl, aE.old (kF.trans kG), rfl, aF.old kG, trivial⟩)
  rw [zF] at RG
  have K6 := Lib.hid (kE.trans (kF.trans kG))
  have KZ := Lib.hid (KD.out.trans (K5.out.trans K6.out))
  have PG := Lib.hid (PD.out.old (K5.out.trans K6.out))
  have QG := Lib.hid (P5.out.old K6.out).pts
  clear aE aF kE kF kG zE zF
  generalize wF.alloc (.cells #[.int .u8 1, .slice (some ⟨w5.heap.size, 0, none⟩) 1 1, .int .u8 2, .slice (some ⟨w5.heap.size + 1, 0, none⟩) 1 1] 61) = w6 at *
  generalize w5.heap.size + 1 + 1 = gR at *
  have C1 := Lib.hid (fun u (k : Kept Nothing w6 u) => walk_length (.slice (some ⟨gP, 0, none⟩) 3 3) tP u (PG.out.old k) (by decide) hB)
  have C2 := Lib.hid (fun u (k : Kept Nothing w6 u) => walk_neighbour (.slice (some ⟨gP, 0, none⟩) 3 3) tP u (PG.out.old k) (by decide) hB)
  have C3 := Lib.hid (fun u (k : Kept Nothing w6 u) => walk_ordered (.slice (some ⟨gP, 0, none⟩) 3 3) tP u (PG.out.old k) (by decide) hB)
  have C4 := Lib.hid (fun u (k : Kept Nothing w6 u) => walk_strip (.slice (some ⟨gP, 0, none⟩) 3 3) tP u (PG.out.old k) (by decide) hB)
  have C5 := Lib.hid (fun v u (k : Kept Nothing w6 u) (h : Pts u v [(2, [10]), (1, [20, 30])]) => path_text v [(2, [10]), (1, [20, 30])] u h (by decide) (HR.out.kept (KZ.out.trans k)) (HS.out.kept (KZ.out.trans k)))
  have C6 := Lib.hid (fun u (k : Kept Nothing w6 u) => path_text v5 tQ u (QG.out.old k) (by decide) (HR.out.kept (KZ.out.trans k)) (HS.out.kept (KZ.out.trans k)))
  have C7 := Lib.hid (fun u (k : Kept Nothing w6 u) => walk_neighbour (.slice (some ⟨gR, 0, none⟩) 2 2) tR u (RG.out.old k) (by decide) hBR)
  have C8 := Lib.hid (fun u (k : Kept Nothing w6 u) => walk_origin (.slice (some ⟨gR, 0, none⟩) 2 2) tR u (RG.out.old k) (by decide) hBR)
  have C9 := Lib.hid (fun u (k : Kept Nothing w6 u) => walk_length (.slice (some ⟨gR, 0, none⟩) 2 2) tR u (RG.out.old k) (by decide) hBR)
  rw [t_len.1] at C1
  rw [t_nb.1] at C2
  rw [t_ord] at C3
  rw [t_strip] at C4
  rw [t_text1] at C5
  rw [t_text2] at C6
  rw [t_nb.2] at C7
  rw [t_or] at C8
  rw [t_len.2] at C9
  clear hB hBR PD HPP P5 K5 K6
  go_wp2_with (first
    | (go_at_call 22; refine (C9.out _ (m7.trans q8)).mono ?_; rintro e u9 ⟨rfl, q9⟩)
    | (go_at_call 20; refine (C8.out _ m7).mono ?_; rintro e u8 ⟨rfl, q8⟩)
    | (go_at_call 18; refine (C7.out _ m6).mono ?_; rintro e u7 ⟨rfl, q7⟩; have m7 := m6.trans q7)
    | (go_at_call 33; refine (C6.out _ m5).mono ?_; rintro e u6 ⟨rfl, q6⟩; have m6 := m5.trans q6)
    | (go_at_call 33; refine (C5.out _ _ m4 p4.pts).mono ?_; rintro e u5 ⟨rfl, q5⟩; have m5 := m4.trans q5)
    | (go_at_call 28; refine (C4.out _ m3).mono ?_; rintro e u4 ⟨v4, rfl, p4, q4⟩; have m4 := m3.trans q4)
    | (go_at_call 14; refine (C3.out _ m2).mono ?_; rintro e u3 ⟨rfl, q3⟩; have m3 := m2.trans q3)
    | (go_at_call 18; refine (C2.out _ m1).mono ?_; rintro e u2 ⟨rfl, q2⟩; have m2 := m1.trans q2)
    | (go_at_call 22; refine (C1.out _ (Kept.refl _ _)).mono ?_; rintro e u1 ⟨rfl, m1⟩))
  go_ret
  exact ⟨rfl, KZ.out.trans ((m7.trans q8).trans q9)⟩
end Go.Proofs.YthjljamngpddmaaDoor
namespace Go.Proofs.YthjljamngpddmaaDoor
open Go.RowKit Go.Shelf

/-- A path of one segment. -/
theorem path_ofL (k : UInt8) (l : List Nat) (hne : l ≠ []) (hl : l.length ≤ 1000000) (v : Value) (w : World) (h : As w v l) :
    Calls Tryd.prog 32 #[.int .u8 (k.toNat : Int), v] w fun e w' => ∃ v', e = .returned v' ∧ Pts w' v' [(k, l)] ∧ Kept Nothing w w' := by
  obtain ⟨A, c, rfl, _, _⟩ := h.form
  have HC := Lib.hid (as_clone _ l w h (by omega))
  have HF := Lib.hid h.1
  have hpos : 0 < l.length := List.length_pos_iff.2 hne
  have hz : ((l.length : Int) == 0) = false := by simp; omega
  clear h
  go_enter Tryd.func32, Tryd.ntmps32
  go_wp2_with (go_at_call 51; refine (HC.out).mono ?_; rintro e w2 ⟨v2, rfl, o2, k2⟩; (obtain ⟨A2, c2, rfl, _, _⟩ := ow_form o2); (have O2 := Lib.hid o2); (have K2 := Lib.hid k2); clear o2 k2)
  go_ret
  have hr : Rws (w2.alloc (.cells #[.int .u8 (k.toNat : Int), .slice A2 l.length c2] 61)) w.heap.size [.int .u8 (k.toNat : Int), .slice A2 l.length c2] [(k, l)] := ⟨rfl, ow_kept O2.out ((Kept.refl Nothing w2).alloc _) (fun _ _ x => x), HF.out, trivial⟩
  exact ⟨_, rfl, Pts.of_own (own_one w2 #[.int .u8 (k.toNat : Int), .slice A2 l.length c2] rfl) hr.cells, K2.out.alloc _⟩
def kz : List Nat := List.replicate 255 0
theorem kz_len : kz.length = 255 := List.length_replicate
theorem make255 (w : World) : (Instr.makeSlice 59 (.int .i64 255) (.int .i64 255)).run Tryd.prog w = .ok (.slice (some ⟨w.heap.size, 0, none⟩) 255 255) (w.alloc (.cells (madeCells #[.int .u32 0] 255) 25)) := by
  obtain ⟨i, hi, h1, h2, h3⟩ := info_parts as_info
  have := run_make (P := Tryd.prog) w 59 25 i (.int .u32 0) Tryd.underlying59 hi h1 .i64 .i64 255 255 (by omega) (by omega) (by rw [h3]; omega) (by omega)
  rw [h2, Nat.mul_one] at this
  exact this
theorem as_mk (w : World) (cs : Array Value) (l : List Nat) (h : cs.toList = ass l) (hm : l.length ≤ 1000) (hl : ∀ n ∈ l, n < 4294967296) : As (w.alloc (.cells cs 25)) (.slice (some ⟨w.heap.size, 0, none⟩) l.length l.length) l := by
  have hs : cs.size = l.length := by rw [← Array.length_toList, h, length_ass]
  refine As.of_own (base := 0) (e := 25) ⟨by rw [length_ass, Nat.mul_one], .inr ⟨w.heap.size, l.length, cs, rfl, Nat.zero_le _, heap_alloc_new w _, Nat.le_refl _, by unfold maxLen; omega, by rw [hs, Nat.mul_one], ?_⟩⟩ hl
  rw [List.take_of_length_le (by simp [hs]), h]
theorem as255 (w : World) : As (w.alloc (.cells (madeCells #[.int .u32 0] 255) 25)) (.slice (some ⟨w.heap.size, 0, none⟩) 255 255) kz := by
  have h := as_mk w (madeCells #[.int .u32 0] 255) kz (by rw [toList_madeCells_one]; unfold ass kz; rw [List.map_replicate]; rfl) (by rw [kz_len]; omega) (fun n hn => by have := List.eq_of_mem_replicate hn; omega)
  rwa [kz_len] at h
/-- Paths laid down literally. -/
theorem made1 (w : World) (k : UInt8) (n : Nat) (hn : n < 4294967296) : Pts ((w.alloc (.cells #[.int .u32 (n : Int)] 25)).alloc (.cells #[.int .u8 (k.toNat : Int), .slice (some ⟨w.heap.size, 0, none⟩) 1 1] 61)) (.slice (some ⟨w.heap.size + 1, 0, none⟩) 1 1) [(k, [n])] := by
  have a := as_mk w #[.int .u32 (n : Int)] [n] rfl (by simp) (fun m hm => by obtain rfl := List.mem_singleton.1 hm; exact hn)
  have h := pts_made (w.alloc (.cells #[.int .u32 (n : Int)] 25)) #[.int .u8 (k.toNat : Int), .slice (some ⟨w.heap.size, 0, none⟩) 1 1] [(k, [n])] (by simp) rfl ⟨rfl, a.old ((Kept.refl _ _).alloc _), trivial⟩
  rwa [World.size_alloc] at h
theorem made2 (w : World) (k k' : UInt8) (n n' : Nat) (hn : n < 4294967296) (hn' : n' < 4294967296) : Pts (((w.alloc (.cells #[.int .u32 (n : Int)] 25)).alloc (.cells #[.int .u32 (n' : Int)] 25)).alloc (.cells #[.int .u8 (k.toNat : Int), .slice (some ⟨w.heap.size, 0, none⟩) 1 1, .int .u8 (k'.toNat : Int), .slice (some ⟨w.heap.size + 1, 0, none⟩) 1 1] 61)) (.slice (some ⟨w.heap.size + 1 + 1, 0, none⟩) 2 2) [(k, [n]), (k', [n'])] := by
  have a := as_mk w #[.int .u32 (n : Int)] [n] rfl (by simp) (fun m hm => by obtain rfl := List.mem_singleton.1 hm; exact hn)
  have b := as_mk (w.alloc (.cells #[.int .u32 (n : Int)] 25)) #[.int .u32 (n' : Int)] [n'] rfl (by simp) (fun m hm => by obtain rfl := List.mem_singleton.1 hm; exact hn')
  rw [World.size_alloc] at b
  have h := pts_made ((w.alloc (.cells #[.int .u32 (n : Int)] 25)).alloc (.cells #[.int .u32 (n' : Int)] 25)) #[.int .u8 (k.toNat : Int), .slice (some ⟨w.heap.size, 0, none⟩) 1 1, .int .u8 (k'.toNat : Int), .slice (some ⟨w.heap.size + 1, 0, none⟩) 1 1] [(k, [n]), (k', [n'])] (by simp) rfl ⟨rfl, a.old (((Kept.refl _ _).alloc _).alloc _), rfl, b.old ((Kept.refl _ _).alloc _), trivial⟩
  rwa [World.size_alloc, World.size_alloc] at h

def kMany (k : Nat) : List Seg := List.replicate k (1, [1])
def kBad : List Seg := [(5, [9])]
def kLate : List Seg := [(2, [1]), (3, [2])]
def kZero : List Seg := [(2, [5, 0])]
theorem kp_full : Wk.prepend [(2, kz)] 2 7 = ([(2, [7]), (2, kz)], 0) := by decide +kernel
theorem kp_many : Wk.prepend (kMany 32) 2 7 = ([], 7) := by decide +kernel
theorem kp_set : Wk.prepend [] 1 7 = ([], 1) := by rfl
theorem kp_cset : Wk.prepend [] 4 7 = ([], 1) := by rfl
theorem kp_bad : Wk.prepend kBad 2 7 = ([], 1) := by rfl
theorem kp_cseq : Wk.prepend [] 3 7 = ([(3, [7])], 0) := by rfl
theorem kf_bad : Wk.first kBad = (0, 0, false) := by rfl
theorem kx_bad : Wk.has kBad 9 = false ∧ Wk.strip kBad = [] ∧ Wk.replace kBad 9 8 = [] ∧ Wk.length kBad = 0 ∧ Wk.origin kBad = 0 ∧ Wk.ordered kBad = false ∧ Wk.loops kBad 9 9 = false := ⟨by rfl, by rfl, by rfl, by rfl, by rfl, by rfl, by rfl⟩
theorem kx_late : Wk.ordered kLate = false ∧ Wk.right kLate 1 0 = false ∧ Wk.origin kLate = 0 ∧ Wk.neighbour kLate = 1 := ⟨by rfl, by rfl, by rfl, by rfl⟩
theorem kx_zero : Wk.right kZero 3 5 = false := by rfl
theorem kx_nil : Wk.right [] 3 0 = false ∧ Wk.right [] 1 0 = true ∧ Wk.ordered [] = true := ⟨by rfl, by rfl, by rfl⟩
theorem d7 : Lib.decDigits 7 = [55] := by rw [dec_small (by decide)]; rfl
theorem kt_b : Pt.text [(3, [7])] = [40, 55, 41] := by
  show Pt.tx [(3, [7])] 1 = _
  simp [Pt.tx, Pt.ahead, Pt.segT, Pt.opens, Pt.betw, Pt.ends, d7, Lib.join, List.intercalate]
end Go.Proofs.YthjljamngpddmaaDoor
