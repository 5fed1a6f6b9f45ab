
/-
  A segment's text.
-/
import Derived.Test.YthjljamngpddmaaDoorY08
import Derived.Test.YthjljamngpddmaaDoorY09
import Derived.Test.YthjljamngpddmaaDoorY06
import Derived.Test.YthjljamngpddmaaDoorY05
import Derived.Test.YthjljamngpddmaaDoorY03
import Derived.Deep.RegionHeld3
namespace Go.Proofs.YthjljamngpddmaaDoor
open Go.RowKit Go.Shelf

theorem Pt.may_seg2 {l : List Seg} (h : Pt.may l = true) (s : Seg) (hs : s ∈ l) : s.2 ≠ [] := by
  unfold Pt.may at h
  rw [Bool.and_eq_true, List.all_eq_true] at h
  have := h.1 s hs
  unfold Pt.may1 at this
  simp only [Bool.and_eq_true, decide_eq_true_eq] at this
  exact List.length_pos_iff.1 this.1.2
theorem neighbour_1 (k : UInt8) (m g : Nat) (A : World) (b : Blk A g 25 #[.int .u32 0]) :
    Calls Tryd.prog 43 #[.int .u8 (k.toNat : Int), .int .u32 (m : Int), .pointer (some ⟨g, 0, none⟩)] A fun e A' => Kept (Only g) A A' ∧ e = .returned (.bool (!Wk.confed k)) ∧ Blk A' g 25 #[.int .u32 (Wk.nbv (some (k, m)) : Int)] := by
  have HNV : Hid (Wk.nbv (some (k, m)) = if k.toNat = 2 then m else 0) := Lib.hid rfl
  have c0 := b.cell 0
  have f0 := b.free 0
  have HB := Lib.hid b
  have HC := Lib.hid (fun A => confed_any k A)
  generalize Wk.confed k = cf at *
  generalize Wk.nbv (some (k, m)) = nv at *
  clear b
  by_cases h2 : k.toNat = 2
  · rw [if_pos h2] at HNV
    generalize k.toNat = kn at *
    subst h2
    go_enter Tryd.func43, Tryd.ntmps43
    go_wp2_with (go_at_call 40; refine (HC.out _).mono ?_; rintro e w2 ⟨rfl, rfl⟩)
    go_ret
    exact ⟨Kept.own A g 0 _, rfl, by rw [HNV.out]; exact HB.out.put 0 _⟩
  · rw [if_neg h2] at HNV
    have hb : ((k.toNat : Int) == 2) = false := by simp; omega
    generalize k.toNat = kn at *
    clear h2
    go_enter Tryd.func43, Tryd.ntmps43
    go_wp2_with (go_at_call 40; refine (HC.out _).mono ?_; rintro e w2 ⟨rfl, rfl⟩)
    go_ret
    exact ⟨Kept.refl _ _, rfl, by rw [HNV.out]; exact HB.out⟩
theorem walk_neighbour (v : Value) (l : List Seg) (w : World) (h : Pts w v l) (hl : l.length ≤ 1000000) (hn : ∀ s ∈ l, s.2.length ≤ 1000000) :
    Calls Tryd.prog 18 #[v] w fun e w' => e = .returned (.int .u32 (Wk.neighbour l : Int)) ∧ Kept Nothing w w' := by
  obtain ⟨A, c, rfl, -, -⟩ := h.form
  have hmf := run_mkFunc
  have k1 := (Kept.refl Nothing w).alloc (.cells #[.int .u32 0] 25)
  have b1 := Blk.fresh w 25 #[.int .u32 0]
  have HS := some_any w _ _ l 43 #[.pointer (some ⟨w.heap.size, 0, none⟩)] (Only w.heap.size) (enters_of Tryd.func43 (by kernel_rfl) rfl) h k1 (fun k (e : k = _) => by omega) (fun k (e : k = _) => by have := b1.lt; omega) hl hn
    (fun pre A => Blk A w.heap.size 25 #[.int .u32 0] ∧ pre.find? (fun x => !Wk.confed x.1) = none) (fun pre A => ∃ x, Blk A w.heap.size 25 #[.int .u32 (Wk.nbv (some x) : Int)] ∧ pre.find? (fun x => !Wk.confed x.1) = some x)
    (fun s X Y hs hX hk => ⟨hs.1.kept hk (by have := b1.lt; omega), hs.2⟩) (fun s X Y hs hX hk => by obtain ⟨x, h1, h2⟩ := hs; exact ⟨x, h1.kept hk (by have := b1.lt; omega), h2⟩)
    (fun pre x A hj hp => by
      rw [app3]
      refine (neighbour_1 x.1 x.2 _ A hj.1).mono ?_
      rintro e A' ⟨k3, rfl, b3⟩
      refine ⟨k3, ?_⟩
      rw [List.find?_append, hj.2]
      cases hb : Wk.confed x.1 with
      | true =>
        refine .inl ⟨rfl, ?_, by simp [hb]⟩
        have : Wk.nbv (some (x.1, x.2)) = 0 := by
          show (if x.1.toNat = 2 then x.2 else 0) = 0
          rw [if_neg (fun e => by rw [Wk.confed_seq e] at hb; cases hb)]
        rw [this] at b3
        exact b3
      | false => exact .inr ⟨rfl, x, b3, by simp [hb]⟩) ⟨b1, rfl⟩
  have HN : Hid (Wk.neighbour l = if Pt.may l then Wk.nbv ((Pt.all l).find? (fun x => !Wk.confed x.1)) else 0) := Lib.hid rfl
  have HS := Lib.hid (HS.mono (R' := fun e w' => (∃ b, e = .returned (.bool b)) ∧ Kept Nothing w w' ∧ Blk w' w.heap.size 25 #[.int .u32 (Wk.neighbour l : Int)]) (by
    rintro e w3 ⟨k3, (⟨hm, rfl, hb, -⟩ | ⟨hm, (⟨rfl, hb, hf⟩ | ⟨rfl, pre, hpre, x, hb, hf⟩)⟩)⟩
    · exact ⟨⟨_, rfl⟩, k1.trans_new k3 (fun i hi (e : i = _) => by omega), by rw [HN.out, hm]; exact hb⟩
    · exact ⟨⟨_, rfl⟩, k1.trans_new k3 (fun i hi (e : i = _) => by omega), by rw [HN.out, hm, hf]; exact hb⟩
    · exact ⟨⟨_, rfl⟩, k1.trans_new k3 (fun i hi (e : i = _) => by omega), by rw [HN.out, hm, Wk.find_prefix hpre hf]; exact hb⟩))
  clear h hn b1 k1 HN
  generalize Wk.neighbour l = nb at *
  go_enter Tryd.func18, Tryd.ntmps18
  go_wp2_with (go_at_call 36; refine (HS.out).mono ?_; rintro e w3 ⟨⟨b, rfl⟩, k3, b3⟩; (have c3 := b3.cell 0))
  go_ret
  exact ⟨rfl, k3⟩

theorem origin_1 (k : UInt8) (m z g : Nat) (A : World) (b : Blk A g 25 #[.int .u32 (z : Int)]) :
    Calls Tryd.prog 44 #[.int .u8 (k.toNat : Int), .int .u32 (m : Int), .pointer (some ⟨g, 0, none⟩)] A fun e A' => Kept (Only g) A A' ∧ e = .returned (.bool false) ∧ Blk A' g 25 #[.int .u32 (Wk.nbv (some (k, m)) : Int)] := by
  have HNV : Hid (Wk.nbv (some (k, m)) = if k.toNat = 2 then m else 0) := Lib.hid rfl
  have c0 := b.cell 0
  have f0 := b.free 0
  have b2 := b.put 0 (.int .u32 0)
  have c1 := b2.cell 0
  have f1 := b2.free 0
  have HB := Lib.hid b
  have HB2 := Lib.hid b2
  generalize Wk.nbv (some (k, m)) = nv at *
  clear b b2
  by_cases h2 : k.toNat = 2
  · rw [if_pos h2] at HNV
    generalize k.toNat = kn at *
    subst h2
    go_enter Tryd.func44, Tryd.ntmps44
    go_wp2
    go_ret
    exact ⟨(Kept.own A g 0 _).trans (Kept.own _ g 0 _), rfl, by rw [HNV.out]; exact HB2.out.put 0 _⟩
  · rw [if_neg h2] at HNV
    have hb : ((k.toNat : Int) == 2) = false := by simp; omega
    generalize k.toNat = kn at *
    clear h2
    go_enter Tryd.func44, Tryd.ntmps44
    go_wp2
    go_ret
    exact ⟨Kept.own A g 0 _, rfl, by rw [HNV.out]; exact HB2.out⟩
theorem walk_origin (v : Value) (l : List Seg) (w : World) (h : Pts w v l) (hl : l.length ≤ 1000000) (hn : ∀ s ∈ l, s.2.length ≤ 1000000) :
    Calls Tryd.prog 20 #[v] w fun e w' => e = .returned (.int .u32 (Wk.origin l : Int)) ∧ Kept Nothing w w' := by
  obtain ⟨A, c, rfl, -, -⟩ := h.form
  have hmf := run_mkFunc
  have k1 := (Kept.refl Nothing w).alloc (.cells #[.int .u32 0] 25)
  have b1 := Blk.fresh w 25 #[.int .u32 0]
  have HS := some_any w _ _ l 44 #[.pointer (some ⟨w.heap.size, 0, none⟩)] (Only w.heap.size) (enters_of Tryd.func44 (by kernel_rfl) rfl) h k1 (fun k (e : k = _) => by omega) (fun k (e : k = _) => by have := b1.lt; omega) hl hn
    (fun pre A => Blk A w.heap.size 25 #[.int .u32 (Wk.nbv pre.getLast? : Int)]) (fun pre A => False)
    (fun s X Y hs hX hk => hs.kept hk (by have := b1.lt; omega)) (fun s X Y hs hX hk => hs.elim)
    (fun pre x A hj hp => by
      rw [app3]
      refine (origin_1 x.1 x.2 _ _ A hj).mono ?_
      rintro e A' ⟨k3, rfl, b3⟩
      exact ⟨k3, .inl ⟨rfl, by rw [List.getLast?_append]; exact b3⟩⟩) b1
  have HN : Hid (Wk.origin l = if Pt.may l then Wk.nbv (Pt.all l).getLast? else 0) := Lib.hid rfl
  have HS := Lib.hid (HS.mono (R' := fun e w' => (∃ b, e = .returned (.bool b)) ∧ Kept Nothing w w' ∧ Blk w' w.heap.size 25 #[.int .u32 (Wk.origin l : Int)]) (by
    rintro e w3 ⟨k3, (⟨hm, rfl, hb⟩ | ⟨hm, (⟨rfl, hb⟩ | ⟨rfl, pre, hpre, hb⟩)⟩)⟩
    · exact ⟨⟨_, rfl⟩, k1.trans_new k3 (fun i hi (e : i = _) => by omega), by rw [HN.out, hm]; exact hb⟩
    · exact ⟨⟨_, rfl⟩, k1.trans_new k3 (fun i hi (e : i = _) => by omega), by rw [HN.out, hm]; exact hb⟩
    · exact hb.elim))
  clear h hn b1 k1 HN
  generalize Wk.origin l = nb at *
  go_enter Tryd.func20, Tryd.ntmps20
  go_wp2_with (go_at_call 36; refine (HS.out).mono ?_; rintro e w3 ⟨⟨b, rfl⟩, k3, b3⟩; (have c3 := b3.cell 0))
  go_ret
  exact ⟨rfl, k3⟩

namespace Wk
def first (l : List Seg) : Nat × Nat × Bool := if Pt.may l then (match l with | [] => (0, 0, false) | s :: _ => (s.1.toNat, s.2.getD 0 0, true)) else (0, 0, false)
end Wk
set_option maxHeartbeats 800000 in
theorem walk_first (v : Value) (l : List Seg) (w : World) (h : Pts w v l) (hl : l.length ≤ 1000000) :
    Calls Tryd.prog 8 #[v] w fun e w' => e = .returned (.tuple #[.int .u8 ((Wk.first l).1 : Int), .int .u32 ((Wk.first l).2.1 : Int), .bool (Wk.first l).2.2]) ∧ Kept Nothing w w' := by
  obtain ⟨A, c, rfl, hc, hm⟩ := h.form
  have HM := Lib.hid (path_may _ l w h (by omega))
  have HV := Lib.hid h
  have HF : Hid (Wk.first l = if Pt.may l then (match l with | [] => (0, 0, false) | s :: _ => (s.1.toNat, s.2.getD 0 0, true)) else (0, 0, false)) := Lib.hid rfl
  clear h
  cases hmay : Pt.may l with
  | false =>
    rw [hmay] at HM HF
    clear hmay
    go_enter Tryd.func8, Tryd.ntmps8
    go_wp2_with (go_at_call 34; refine (HM.out).mono ?_; rintro e w1 ⟨rfl, k1⟩)
    refine bodyPost_ret (v := .tuple #[.int .u8 0, .int .u32 0, .bool false]) (by simp [results, Tryd.results8, go_sem]) rfl ⟨by rw [HF.out]; rfl, k1⟩
  | true =>
    have HMS := Lib.hid (fun s hs => @Pt.may_seg2 l hmay s hs)
    rw [hmay] at HM HF
    clear hmay
    cases l with
    | nil =>
      go_enter Tryd.func8, Tryd.ntmps8
      go_wp2_with (go_at_call 34; refine (HM.out).mono ?_; rintro e w1 ⟨rfl, k1⟩)
      refine bodyPost_ret (v := .tuple #[.int .u8 0, .int .u32 0, .bool false]) (by simp [results, Tryd.results8, go_sem]) rfl ⟨by rw [HF.out]; rfl, k1⟩
    | cons s r =>
      obtain ⟨sk, sn⟩ := s
      have hne : sn ≠ [] := HMS.out (sk, sn) (List.mem_cons_self ..)
      rw [List.length_cons] at *
      obtain ⟨b, o, Au, cu, rfl, p0, p1, hp⟩ := HV.out.at2 (i := 0) (by simp)
      rw [Nat.zero_mul, Nat.add_zero] at p0 p1
      replace p0 : w.cell? ⟨b, o, none⟩ = some (.int .u8 (sk.toNat : Int)) := p0
      replace p1 : w.cell? ⟨b, o + 1, none⟩ = some (.slice Au sn.length cu) := p1
      replace hp : As w (.slice Au sn.length cu) sn := hp
      have hpos : 0 < sn.length := List.length_pos_iff.2 hne
      obtain ⟨b2, o2, rfl, hc2⟩ := hp.at hpos
      have q0 := hc2 0 hpos
      rw [Nat.add_zero] at q0
      rw [show Wk.first ((sk, sn) :: r) = (sk.toNat, sn.getD 0 0, true) from HF.out]
      generalize sn.getD 0 0 = n0 at *
      have hli : ((r.length + 1 : Nat) : Int) = (r.length : Int) + 1 := by omega
      have hlb : (((r.length : Nat) : Int) + 1 == 0) = false := by simp; omega
      have i2 : (0 : Int) < (r.length : Int) + 1 := by omega
      have i3 : (0 : Int) < (sn.length : Int) := by omega
      clear hp hc2 hne HMS HV
      go_enter Tryd.func8, Tryd.ntmps8
      go_upto_region 3 with (go_at_call 34; refine (HM.out).mono ?_; rintro e w1 ⟨rfl, k1⟩; (have K1 := Lib.hid k1); (have c0 := k1.cell_some p0 (fun x => x)); (have c1 := k1.cell_some p1 (fun x => x)); (have c2 := k1.cell_some q0 (fun x => x)); clear k1)
      go_region
      go_wp2
      refine bodyPost_ret (v := .tuple #[.int .u8 (sk.toNat : Int), .int .u32 (n0 : Int), .bool true]) (by simp [results, Tryd.results8, go_sem]) rfl ⟨rfl, K1.out.drew⟩
end Go.Proofs.YthjljamngpddmaaDoor
namespace Go.Proofs.YthjljamngpddmaaDoor
open Go.RowKit Go.Shelf

def Wk.strip (l : List Seg) : List Seg := if Pt.may l then plains l else []
theorem walk_strip (v : Value) (l : List Seg) (w : World) (h : Pts w v l) (hl : l.length ≤ 1000000) (hn : ∀ s ∈ l, s.2.length ≤ 1000000) :
    Calls Tryd.prog 28 #[v] w fun e w' => ∃ v', e = .returned v' ∧ Pown w' w.heap.size v' (Wk.strip l) ∧ Kept Nothing w w' := by
  obtain ⟨A, c, rfl, -, -⟩ := h.form
  have HM := Lib.hid (path_may _ l w h (by omega))
  have HC := Lib.hid (fun w1 (k1 : Kept Nothing w w1) => path_copyD _ l w1 (h.old k1) hl hn)
  have HS : Hid (Wk.strip l = if Pt.may l then plains l else []) := Lib.hid rfl
  clear h hn
  cases hmay : Pt.may l with
  | false =>
    rw [hmay] at HM HS
    clear hmay
    go_enter Tryd.func28, Tryd.ntmps28
    go_wp2_with (go_at_call 34; refine (HM.out).mono ?_; rintro e w1 ⟨rfl, k1⟩)
    go_ret
    exact ⟨_, rfl, by rw [HS.out]; exact Pown.nil _ _, k1⟩
  | true =>
    rw [hmay] at HM HS
    clear hmay
    go_enter Tryd.func28, Tryd.ntmps28
    go_wp2_with (first
      | (go_at_call 49; refine (del_func _ _ _ l _ O2.out R2.out hl).mono ?_; rintro e w3 ⟨v3, rfl, p3, k3⟩)
      | (go_at_call 46; refine (HC.out _ K1.out).mono ?_; rintro e w2 ⟨v2, xs2, rfl, o2, r2, -, k2⟩; (have O2 := Lib.hid o2); (have R2 := Lib.hid r2); (have K2 := Lib.hid k2); clear o2 r2 k2)
      | (go_at_call 34; refine (HM.out).mono ?_; rintro e w1 ⟨rfl, k1⟩; (have K1 := Lib.hid k1); clear k1))
    go_ret
    refine ⟨_, rfl, ?_, (K1.out.trans K2.out).trans_new k3 (fun i hi hk => by have := (ow_ge O2.out hk).1; have := K1.out.size; omega)⟩
    rw [HS.out]
    exact p3.weak K1.out.size

theorem own_one (w : World) (cs : Array Value) (h : cs.size = 2) : (w.alloc (.cells cs 61)).ownsRow w.heap.size 61 2 (.slice (some ⟨w.heap.size, 0, none⟩) 1 1) 1 cs.toList :=
  ⟨by simp [h], .inr ⟨w.heap.size, 1, cs, rfl, Nat.le_refl _, heap_alloc_new w _, Nat.le_refl _, by simp [maxLen], by simp [h], by rw [List.take_of_length_le (by simp [h])]⟩⟩
/-- A path of one segment of one number. -/
theorem path_of1 (k : UInt8) (n : Nat) (hn : n < 4294967296) (v : Value) (w : World) (h : As w v [n]) :
    Calls Tryd.prog 32 #[.int .u8 (k.toNat : Int), v] w fun e w' => ∃ v' xs, e = .returned v' ∧ w'.ownsRow w.heap.size 61 2 v' 1 xs ∧ Rws w' w.heap.size xs [(k, [n])] ∧ Kept Nothing w w' := by
  obtain ⟨A, c, rfl, _, _⟩ := h.form
  have HC := Lib.hid (as_clone _ [n] w h (by simp))
  clear h
  go_enter Tryd.func32, Tryd.ntmps32
  go_wp2_with (go_at_call 51; refine (HC.out).mono ?_; rintro e w2 ⟨v2, rfl, o2, k2⟩; (obtain ⟨A2, c2, rfl, _, _⟩ := ow_form o2); (have O2 := Lib.hid o2); (have K2 := Lib.hid k2); clear o2 k2)
  go_ret
  refine ⟨_, [.int .u8 (k.toNat : Int), .slice A2 1 c2], rfl, own_weakA (own_one w2 #[.int .u8 (k.toNat : Int), .slice A2 1 c2] rfl) K2.out.size, ⟨rfl, ow_kept O2.out ((Kept.refl Nothing w2).alloc _) (fun _ _ x => x), (fun m hm => by obtain rfl := List.mem_singleton.1 hm; exact hn), trivial⟩, K2.out.alloc _⟩

def Wk.room (l : List Seg) (k : Nat) : Bool := match l with | [] => false | s :: _ => decide (s.1.toNat = k) && decide (s.2.length < 255)
theorem has_room (v : Value) (l : List Seg) (k : Nat) (w : World) (h : Pts w v l) (hl : l.length ≤ 1000000) :
    Calls Tryd.prog 45 #[v, .int .u8 (k : Int)] w fun e w' => e = .returned (.bool (Wk.room l k)) ∧ w = w' := by
  obtain ⟨A, c, rfl, _, _⟩ := h.form
  cases l with
  | nil =>
    go_enter Tryd.func45, Tryd.ntmps45
    go_wp2
    go_ret
    exact ⟨rfl, rfl⟩
  | cons s r =>
    obtain ⟨sk, sn⟩ := s
    have HRM : Hid (Wk.room ((sk, sn) :: r) k = (decide (sk.toNat = k) && decide (sn.length < 255))) := Lib.hid rfl
    obtain ⟨b, o, Au, cu, rfl, p0, p1, -⟩ := h.at2 (i := 0) (by simp)
    rw [Nat.zero_mul, Nat.add_zero] at p0 p1
    replace p0 : w.cell? ⟨b, o, none⟩ = some (.int .u8 (sk.toNat : Int)) := p0
    replace p1 : w.cell? ⟨b, o + 1, none⟩ = some (.slice Au sn.length cu) := p1
    have hli : (((sk, sn) :: r).length : Int) = (r.length : Int) + 1 := by simp
    have i2 : (0 : Int) < (r.length : Int) + 1 := by omega
    clear h hli
    rw [show ((sk, sn) :: r).length = r.length + 1 from rfl]
    by_cases hk : sk.toNat = k
    · generalize sk.toNat = kn at *
      subst hk
      have HB : Hid (Wk.room ((sk, sn) :: r) kn = decide (sn.length < 255)) := Lib.hid (by rw [HRM.out]; simp)
      go_enter Tryd.func45, Tryd.ntmps45
      go_wp2
      go_ret
      exact ⟨by rw [HB.out]; exact ret_bool (by rw [Bool.eq_iff_iff]; simp; omega), rfl⟩
    · have hb : ((sk.toNat : Int) == (k : Int)) = false := by simp; omega
      have HB : Hid (Wk.room ((sk, sn) :: r) k = false) := Lib.hid (by rw [HRM.out]; simp [hk])
      clear hk
      go_enter Tryd.func45, Tryd.ntmps45
      go_wp2
      go_ret
      exact ⟨by rw [HB.out]; rfl, rfl⟩
end Go.Proofs.YthjljamngpddmaaDoor
namespace Go.Proofs.YthjljamngpddmaaDoor
open Go.RowKit Go.Shelf

theorem Blk.setCells2 {t : TypeId} {g : Nat} : ∀ (vs : List Value) (o : Nat) (w : World) (cur : Array Value), Blk w g t cur → o + vs.length ≤ cur.size →
    ∃ cur', Blk (w.setCells g o vs) g t cur' ∧ cur'.toList = cur.toList.take o ++ vs ++ cur.toList.drop (o + vs.length) ∧ Kept (Only g) w (w.setCells g o vs)
  | [], o, w, cur, h, _ => ⟨cur, h, by simp, Kept.refl _ _⟩
  | v :: vs, o, w, cur, h, hs => by
    rw [List.length_cons] at hs
    obtain ⟨cur', h1, h2, h4⟩ := Blk.setCells2 vs (o + 1) (w.setCell ⟨g, o, none⟩ v) (cur.setIfInBounds o v) (h.put o v) (by simp; omega)
    refine ⟨cur', h1, ?_, (Kept.own w g o v).trans h4⟩
    rw [h2, Array.toList_setIfInBounds]
    have e1 : (cur.toList.set o v).take (o + 1) = cur.toList.take o ++ [v] := by
      rw [List.take_add_one, List.getElem?_set_self (by simp; omega)]
      simp [List.take_set_of_le]
    have e2 : (cur.toList.set o v).drop (o + 1 + vs.length) = cur.toList.drop (o + (v :: vs).length) := by
      rw [List.drop_set_of_lt (by omega)]
      congr 1
      rw [List.length_cons]; omega
    rw [e1, e2]
    simp

theorem ins_own (B : Nat) (v : Value) (l : List Nat) (x : Nat) (w : World) (ho : w.ownsRow B 25 1 v l.length (ass l)) (hne : l ≠ []) (hl : l.length ≤ 1000000) (hBw : B ≤ w.heap.size)
    (gv : Nat) (hv : Blk w gv 25 #[.int .u32 (x : Int)]) (hgv : v.ownBlock ≠ some gv) :
    Calls Tryd.prog 47 #[v, .int .i64 0, .slice (some ⟨gv, 0, none⟩) 1 1] w fun e w' => ∃ v', e = .returned v' ∧ w'.ownsRow B 25 1 v' (l.length + 1) (ass (x :: l)) ∧ Kept (fun k => v.ownBlock = some k) w w' ∧ (v'.ownBlock = v.ownBlock ∨ ∃ g, v'.ownBlock = some g ∧ w.heap.size ≤ g) := by
  have hpos : 0 < l.length := List.length_pos_iff.2 hne
  obtain ⟨g, c, cur, rfl, hge, hb, hn, hm, hs, ht⟩ : ∃ g cap cur, v = .slice (some ⟨g, 0, none⟩) l.length cap ∧ B ≤ g ∧ Blk w g 25 cur ∧ l.length ≤ cap ∧ cap ≤ maxLen ∧ cur.size = cap * 1 ∧ cur.toList.take (l.length * 1) = ass l := by
    rcases ho.2 with ⟨_, h0⟩ | ⟨g, cap, cur, e, hb, hh, hn, hm, hs, ht⟩
    · omega
    · exact ⟨g, cap, cur, e, hb, hh, hn, hm, hs, ht⟩
  rw [Nat.mul_one] at hs ht
  have hgg : gv ≠ g := fun e => hgv (by rw [e]; rfl)
  have hcell : ∀ (j : Nat) u, (ass l)[j]? = some u → w.cell? ⟨g, 0 + j, none⟩ = some u := fun j u hu => by
    rw [Nat.zero_add, hb.cell, ← Array.getElem?_toList]
    have hj := (List.getElem?_eq_some_iff.1 hu).1
    rw [length_ass] at hj
    rw [← hu, ← ht, List.getElem?_take_of_lt hj]
  have h1c : ∀ u ∈ ass l, u.oneCell' = true := fun u hu => by
    unfold ass at hu
    obtain ⟨n, _, rfl⟩ := List.mem_map.1 hu
    rfl
  have hx0 : w.cell? ⟨gv, 0, none⟩ = some (.int .u32 (x : Int)) := hv.cell 0
  by_cases hroom : l.length + 1 ≤ c
  · refine (ins_shift g l.length c gv x (ass l) w hpos hroom (by unfold maxLen at hm; omega) hgg (length_ass l) hcell (fun j hj => by rw [Nat.zero_add, hb.cell, Array.getElem?_eq_getElem (by omega)]; rfl) (fun j hj => hb.free _) hx0 h1c
      25 25 1 cur.size (by unfold Blk at hv; simp [World.shape?, hv]) (by unfold Blk at hb; simp [World.shape?, hb]) (by omega) (hv.free _) (hv.free _)).mono ?_
    rintro e w' ⟨rfl, rfl⟩
    obtain ⟨cur1, b1, e1, k1⟩ := hb.setCells2 (ass l) 1 w.drew cur (by rw [length_ass]; omega)
    obtain ⟨cur2, b2, e2, k2⟩ := b1.setCells2 [.int .u32 (x : Int)] 0 _ cur1 (by
      have : cur1.toList.length = cur.toList.length := by rw [e1]; simp [length_ass]; omega
      simp at this ⊢; omega)
    have hsz2 : cur2.size = cur.size := by
      have h1 : cur1.toList.length = cur.toList.length := by rw [e1]; simp [length_ass]; omega
      have h2 : cur2.toList.length = cur1.toList.length := by rw [e2]; simp; simp at h1; omega
      simp at h1 h2; omega
    refine ⟨_, rfl, ⟨by simp [length_ass], .inr ⟨g, c, cur2, rfl, hge, b2, hroom, hm, by rw [hsz2, hs, Nat.mul_one], ?_⟩⟩, ((Kept.refl _ w).drew.trans (k1.trans k2)).mono (fun k (e : k = g) => by rw [e]; rfl), .inl rfl⟩
    rw [e2, e1]
    have : ass (x :: l) = .int .u32 (x : Int) :: ass l := rfl
    rw [this]
    simp [length_ass, List.take_append, List.drop_append]
    rw [show min 1 cur.size = 1 by omega]
    simp [length_ass, List.take_of_length_le]
  · refine (ins_grow g l.length c gv x (ass l) w hpos hn (by omega) (by omega) (length_ass l) hcell hx0 h1c).mono ?_
    rintro e w' ⟨G, ROW, rfl, hG1, hG2, hR, rfl⟩
    have b0 : Blk ((w.alloc (.cells ROW 25)).drew) w.heap.size 25 ROW := Blk.fresh w _ ROW
    obtain ⟨cur1, b1, e1, k1⟩ := b0.setCells2 [.int .u32 (x : Int)] 0 _ ROW (by simp; omega)
    have hs1 : cur1.size = ROW.size := by
      have : cur1.toList.length = ROW.toList.length := by rw [e1]; simp; omega
      simpa using this
    obtain ⟨cur2, b2, e2, k2⟩ := Blk.setCells2 (ass l) 1 (((w.alloc (.cells ROW 25)).drew.setCells w.heap.size 0 [.int .u32 (x : Int)]).drew) cur1 b1 (by rw [length_ass]; omega)
    have hs2 : cur2.size = cur1.size := by
      have : cur2.toList.length = cur1.toList.length := by rw [e2]; simp [length_ass]; omega
      simpa using this
    have kz : Kept Nothing w _ := (((Kept.refl Nothing w).alloc (.cells ROW 25)).drew.trans_new k1 (fun i hi (e : i = _) => by omega)).drew.trans_new k2 (fun i hi (e : i = _) => by omega)
    refine ⟨_, rfl, ⟨by simp [length_ass], .inr ⟨w.heap.size, G, cur2, rfl, hBw, b2, hG1, hG2, by rw [hs2, hs1, hR, Nat.mul_one], ?_⟩⟩, kz.mono (fun _ x => x.elim), .inr ⟨w.heap.size, rfl, Nat.le_refl _⟩⟩
    rw [e2, e1]
    have : ass (x :: l) = .int .u32 (x : Int) :: ass l := rfl
    rw [this]
    simp [length_ass]
end Go.Proofs.YthjljamngpddmaaDoor
namespace Go.Proofs.YthjljamngpddmaaDoor
open Go.RowKit

namespace Pt
/-- A segment's text. -/
def segT (s : Seg) : List UInt8 := opens s.1.toNat ++ Lib.join (s.2.map Lib.decDigits) (betw s.1.toNat) ++ ends s.1.toNat
/-- What stands ahead of the k-th segment. -/
def ahead (l : List Seg) (k : Nat) : List UInt8 := if k = 0 then [] else gap (l.getD (k - 1) (0, [])).1.toNat (l.getD k (0, [])).1.toNat
/-- The text of the first k segments. -/
def tx (l : List Seg) : Nat → List UInt8
  | 0 => []
  | k + 1 => tx l k ++ (ahead l k ++ segT (l.getD k (0, [])))
/-- A path's text. -/
def text (l : List Seg) : List UInt8 := if may l then (if l = [] then [45] else tx l l.length) else []
theorem lens_dec (l : List Nat) (h : ∀ n ∈ l, n < 4294967296) : Lib.lens (l.map Lib.decDigits) ≤ 10 * l.length := by
  induction l with
  | nil => simp [Lib.lens]
  | cons n l ih =>
    have h1 := ih (fun m hm => h m (List.mem_cons_of_mem _ hm))
    have h2 := dec_len32 n (h n (List.mem_cons_self ..))
    unfold Lib.lens at h1 ⊢
    rw [List.map_cons, List.map_cons, List.sum_cons, List.length_cons]
    omega
theorem betw_len (k : Nat) : (betw k).length ≤ 1 := by unfold betw; split <;> simp
theorem opens_len (k : Nat) : (opens k).length ≤ 1 := by unfold opens; split <;> simp
theorem ends_len (k : Nat) : (ends k).length ≤ 1 := by unfold ends; split <;> simp
theorem join_len (k : Nat) (l : List Nat) (h : ∀ n ∈ l, n < 4294967296) : (Lib.join (l.map Lib.decDigits) (betw k)).length ≤ 11 * l.length := by
  cases l with
  | nil => simp [Lib.join_nil]
  | cons n l =>
    rw [List.map_cons, Lib.join_cons, List.length_append, Lib.joinTail_length, List.length_map]
    have h1 := lens_dec l (fun m hm => h m (List.mem_cons_of_mem _ hm))
    have h2 := dec_len32 n (h n (List.mem_cons_self ..))
    have h3 := betw_len k
    rw [List.length_cons]
    have h4 : (betw k).length * l.length ≤ 1 * l.length := Nat.mul_le_mul_right _ h3
    omega
theorem segT_len (s : Seg) (h : ∀ n ∈ s.2, n < 4294967296) : (segT s).length ≤ 11 * s.2.length + 2 := by
  unfold segT
  rw [List.length_append, List.length_append]
  have := join_len s.1.toNat s.2 h
  have := opens_len s.1.toNat
  have := ends_len s.1.toNat
  omega
end Pt
end Go.Proofs.YthjljamngpddmaaDoor
namespace Go.Proofs.YthjljamngpddmaaDoor
open Go.RowKit Go.Sort

theorem fmtu_in1 (u : Nat) (hu : u < 4294967296) (w : World) (hr : Rdy w) :
    Calls Tryd.prog 70 #[.int .u64 (u : Int), .int .i64 10] w fun e w' => e = .returned (.string ⟨(Lib.decDigits u).toArray⟩) ∧ Kept Nothing w w' := by
  by_cases hi : u < 100
  · have hi2 : (u : Int) < 100 := by omega
    go_enter Tryd.func70, Tryd.ntmps70
    go_wp2_with (go_at_call 72; refine (Tryd.internal_strconv_small u hi _).mono ?_; rintro e w' ⟨rfl, rfl⟩)
    go_ret
    exact ⟨rfl, Kept.refl _ _⟩
  · have hi2 : (100 : Int) ≤ (u : Int) := by omega
    have hu1 : 1 ≤ u := by omega
    have hu64 : u < 18446744073709551616 := by omega
    have hnd20 : Lib.nDigits u ≤ 20 := by have := Lib.numDigits_eq u hu1 hu64; split at this <;> omega
    have hal : Tryd.prog.arrayLen 107 = 24 := by kernel_rfl
    have hsl : ∀ W, (Instr.sliceAt 107 (.pointer (some ⟨w.heap.size, 0, none⟩)) none (some (.int .i64 (Lib.nDigits u : Int))) none).run Tryd.prog W = .ok (.slice (some ⟨w.heap.size, 0, none⟩) (Lib.nDigits u) 24) W := fun W => by
      rw [run_sliceAt_array_h W 107 ⟨w.heap.size, 0, none⟩ (by kernel_rfl) .i64 (Lib.nDigits u : Int) (by omega) (by rw [hal]; omega)]
      go_simp
    have hH0 := Lib.holds_zero0 w 107 (Lib.nDigits u) (by omega)
    have hfmt := Tryd.internal_strconv_formatBase10 w.heap.size 0 24 u (Array.replicate (Lib.nDigits u) 0) (w.alloc (.cells Lib.zeros24 107)) hH0 (by rw [Array.size_replicate]; exact Lib.lt_pow_nDigits u) hu64 (by rw [Array.size_replicate]; omega)
    rw [Array.size_replicate] at hfmt
    have HH0 := Lib.hid hH0
    have HF := Lib.hid hfmt
    have htab := Lib.hid hr
    clear hH0 hal hfmt hr
    go_enter Tryd.func70, Tryd.ntmps70
    go_wp2_with (first
      | (go_at_call 73; refine (Tryd.internal_strconv_numDigits u hu1 hu64 _ (Lib.tabIs_alloc htab.out _)).mono ?_; rintro e w' ⟨rfl, rfl⟩))
    go_at_call 74
    refine (HF.out).mono ?_
    rintro e w' ⟨rfl, k, v', dk, rfl, hF⟩
    have hcv : (convert 80 9 (.slice (some ⟨w.heap.size, 0, none⟩) (Lib.nDigits u) 24)).run Tryd.prog ((putRow (fun (b : UInt8) => Value.int .u8 (b.toNat : Int)) (w.alloc (.cells Lib.zeros24 107)) w.heap.size 0 dk).drewN k) = .ok (.string ⟨(Lib.decDigits u).toArray⟩) ((putRow (fun (b : UInt8) => Value.int .u8 (b.toNat : Int)) (w.alloc (.cells Lib.zeros24 107)) w.heap.size 0 dk).drewN k) := by
      have h := run_convert_bytes_back (P := Tryd.prog) ((putRow (fun (b : UInt8) => Value.int .u8 (b.toNat : Int)) (w.alloc (.cells Lib.zeros24 107)) w.heap.size 0 dk).drewN k) 80 9 5 ⟨w.heap.size, 0, none⟩ 24 (Lib.decDigits u) Tryd.underlying80 Tryd.underlying5 Tryd.underlying9 (fun j hj => by
        rw [Lib.row_is_numeral hF j hj, Lib.add_plain, World.cell?_drewN]
        exact cell?_putRow (fun (b : UInt8) => Value.int .u8 (b.toNat : Int)) _ w.heap.size 0 _ dk HH0.out (by rw [hF.size, Array.size_replicate]) j (by rw [hF.size]; rw [Lib.decDigits_length] at hj; exact hj))
      rw [Lib.decDigits_length] at h
      exact h
    go_wp2
    go_ret
    obtain ⟨os, eo⟩ := Lib.fin_at w (.cells Lib.zeros24 107) dk k 0
    exact ⟨rfl, by rw [eo]; exact kept_grow w k os⟩
theorem fmtu_any1 (u : Nat) (hu : u < 4294967296) (w : World) (hr : Rdy w) :
    Calls Tryd.prog 67 #[.int .u64 (u : Int), .int .i64 10] w fun e w' => e = .returned (.string ⟨(Lib.decDigits u).toArray⟩) ∧ Kept Nothing w w' := by
  go_enter Tryd.func67, Tryd.ntmps67
  go_wp2_with (go_at_call 70; refine (fmtu_in1 u hu _ hr).mono ?_; rintro e w1 ⟨rfl, hk⟩)
  go_ret
  exact ⟨rfl, hk⟩
theorem text_any1 (u : Nat) (hu : u < 4294967296) (w : World) (hr : Rdy w) :
    Calls Tryd.prog 63 #[.int .u32 (u : Int)] w fun e w' => e = .returned (.string ⟨(Lib.decDigits u).toArray⟩) ∧ Kept Nothing w w' := by
  go_enter Tryd.func63, Tryd.ntmps63
  go_wp2_with (go_at_call 67; refine (fmtu_any1 u hu _ hr).mono ?_; rintro e w1 ⟨rfl, hk⟩)
  go_ret
  exact ⟨rfl, hk⟩
theorem st_info : (Tryd.prog.info? 9).map (fun i => (i.zero, i.size, i.bytes)) = some (some (.string ⟨#[]⟩), 1, 16) := by kernel_rfl
/-- Texts as the model has them. -/
def sts (l : List (List UInt8)) : List Value := l.map str
theorem sts_append (a b : List (List UInt8)) : sts (a ++ b) = sts a ++ sts b := List.map_append
theorem length_sts (l : List (List UInt8)) : (sts l).length = l.length := List.length_map _

set_option maxRecDepth 20000 in
set_option maxHeartbeats 2000000 in
theorem seg_text (sk : UInt8) (sn : List Nat) (A : Option Addr) (c : Nat) (w : World) (hr : Rdy w) (hs : Bkt w) (h : As w (.slice A sn.length c) sn) (hk1 : 1 ≤ sk.toNat) (hk4 : sk.toNat ≤ 4) (hne : sn ≠ []) (hl : sn.length ≤ 1000) :
    Calls Tryd.prog 54 #[.agg #[.int .u8 (sk.toNat : Int), .slice A sn.length c]] w fun e w' => e = .returned (.string ⟨(Pt.segT (sk, sn)).toArray⟩) ∧ Kept Nothing w w' := by
  obtain ⟨i0, hi, hz0, hz1, hz2⟩ := info_parts st_info
  have HSEG : Hid (Pt.segT (sk, sn) = Pt.opens sk.toNat ++ Lib.join (sn.map Lib.decDigits) (Pt.betw sk.toNat) ++ Pt.ends sk.toNat) := Lib.hid rfl
  have HBC := Lib.hid (fun w1 (k1 : Kept Nothing w w1) => show w1.cell? ⟨0, sk.toNat * 3, none⟩ = some (.string ⟨(Pt.opens sk.toNat).toArray⟩) ∧ w1.cell? ⟨0, sk.toNat * 3 + 1, none⟩ = some (.string ⟨(Pt.betw sk.toNat).toArray⟩) ∧ w1.cell? ⟨0, sk.toNat * 3 + 2, none⟩ = some (.string ⟨(Pt.ends sk.toNat).toArray⟩) from by
    have hb := hs.kept k1
    have hc := bk_cells sk.toNat (by omega)
    exact ⟨by rw [hb.cell]; exact hc.1, by rw [hb.cell]; exact hc.2.1, by rw [hb.cell]; exact hc.2.2⟩)
  have HJL := Lib.hid (Pt.join_len sk.toNat sn h.1)
  have hol := Pt.opens_len sk.toNat
  have hbl := Pt.betw_len sk.toNat
  have hel := Pt.ends_len sk.toNat
  have HR := Lib.hid hr
  have HV := Lib.hid h
  have hki : (sk.toNat : Int) < 5 := by omega
  have hk0i : (0 : Int) ≤ (sk.toNat : Int) := by omega
  have hpos : 0 < sn.length := List.length_pos_iff.2 hne
  generalize Pt.segT (sk, sn) = sg at *
  generalize Pt.opens sk.toNat = op at *
  generalize Pt.betw sk.toNat = bt at *
  generalize Pt.ends sk.toNat = en at *
  generalize sk.toNat = kn at *
  clear h hr hs hne
  go_enter Tryd.func54, Tryd.ntmps54
  go_upto_region 1 with fail
  have b1 := Blk.fresh w 61 #[.int .u8 (kn : Int), .slice A sn.length c]
  have k1 := (Kept.refl Nothing w).alloc (.cells #[.int .u8 (kn : Int), .slice A sn.length c] 61)
  generalize w.alloc (.cells #[.int .u8 (kn : Int), .slice A sn.length c] 61) = w1 at b1 k1 ⊢
  have hbz1 := b1.lt
  have c1 := b1.cell 1
  have B1 := Lib.hid b1
  have K1 := Lib.hid k1
  clear b1 k1
  go_upto_region 3 with fail
  go_loopw [3, 10] (fun q i wr => ∃ k : Nat, i = .int .i64 (k : Int) ∧ k ≤ sn.length ∧ Hid (wr.ownsRow w1.heap.size 9 1 q k (sts ((sn.take k).map Lib.decDigits))) ∧ Kept Nothing w1 wr) (fun _ i _ => sn.length - (intOf i).toNat)
  case atStart => exact ⟨0, rfl, Nat.zero_le _, Lib.hid (World.ownsRow_nil _ _ _ _), Kept.refl _ _⟩
  case round =>
    obtain ⟨k, rfl, hk, HP, hkk⟩ := hrel
    have KK := Lib.hid hkk
    clear hkk
    by_cases hlt : k < sn.length
    · obtain ⟨b, o, rfl, hc⟩ := (HV.out.old (K1.out.trans KK.out)).at (by omega)
      have p0 := hc k hlt
      have i1 : (0 : Int) ≤ (k : Int) := by omega
      have i2 : (k : Int) < (sn.length : Int) := by omega
      have ET : Hid (sts ((sn.take (k + 1)).map Lib.decDigits) = sts ((sn.take k).map Lib.decDigits) ++ [str (Lib.decDigits (sn.getD k 0))]) := Lib.hid (by rw [List.take_succ_eq_append_getElem hlt, List.map_append, sts_append, getD_get hlt]; rfl)
      have hn : sn.getD k 0 < 4294967296 := HV.out.1 _ (by rw [getD_get hlt]; exact List.getElem_mem _)
      have HT := Lib.hid (text_any1 (sn.getD k 0) hn wr (HR.out.kept (K1.out.trans KK.out)))
      generalize sts ((sn.take k).map Lib.decDigits) = xs at *
      generalize Lib.decDigits (sn.getD k 0) = dg at *
      generalize sn.getD k 0 = n at *
      obtain ⟨Aq, cq, rfl, _, _⟩ := ow_form HP.out
      have HL5 : Hid (k + 1 ≤ maxLen ∧ (k + 1) * 16 ≤ 140737488355328) := Lib.hid (by unfold maxLen; omega)
      clear hc
      go_wp2_with (first
        | (at_builtin; refine wpList_app _ rfl _ _ 93 rfl w1.heap.size 9 i0 _ 1 16 Tryd.underlying93 hi hz0 hz1 hz2 rfl (by decide) (.slice Aq k cq) k xs rfl (ow_kept HP.out (K2.out.alloc _) (fun _ _ x => x)) (some ⟨w2.heap.size, 0, none⟩) 1 1 [.string ⟨dg.toArray⟩] rfl (src_new w2 _ #[.string ⟨dg.toArray⟩] 1 1 rfl (by simp [Value.oneCell'])) HL5.out.1 HL5.out.2 (by have := ((KK.out.trans K2.out).alloc (.cells #[.string ⟨dg.toArray⟩] 9)).size; exact this) ?_; intro v7 w7 hown7 hg7 _)
        | (go_at_call 63; refine (HT.out).mono ?_; rintro e w2 ⟨rfl, k2⟩; (have K2 := Lib.hid k2); clear k2))
      go_roundw
      case rel => exact ⟨k + 1, by go_num, by omega, Lib.hid (by rw [ET.out]; exact hown7), (KK.out.trans (K2.out.alloc _)).own_grown (ow_kept HP.out (K2.out.alloc _) (fun _ _ x => x)) (Nat.le_refl _) hg7⟩
      case measure => simp [intOf]; omega
    · obtain rfl : k = sn.length := by omega
      rw [List.take_of_length_le (Nat.le_refl _)] at HP
      obtain ⟨g, cg, cur, rfl, hge, hbg⟩ := own_lies HP.out hpos
      have KW := Lib.hid (K1.out.trans KK.out)
      obtain ⟨q0, q1, q2⟩ := HBC.out _ KW.out
      have c0 := (B1.out.kept KK.out (fun x => x)).cell 0
      have hfm : sn.length ≤ cg := by
        obtain ⟨_, _, e, h1, _⟩ := ow_form HP.out
        injection e with _ _ e3
        subst e3
        exact h1
      have HGC : Hid (∀ (j : Nat) x, (sn.map (fun n => (⟨(Lib.decDigits n).toArray⟩ : ByteArray)))[j]? = some x → wr.cell? ⟨g, 0 + j, none⟩ = some (.string x)) := Lib.hid (fun j x hx => by
        rw [← add_none]
        refine HP.out.cells rfl j _ ?_
        unfold sts
        rw [List.map_map, List.getElem?_map]
        rw [List.getElem?_map] at hx
        cases hj : sn[j]? with
        | none => rw [hj] at hx; cases hx
        | some n => rw [hj] at hx; simp at hx; simp [str, ← hx])
      have HJ := Lib.hid (fun w2 (k2 : Kept Nothing wr w2) => Tryd.strings_Join g 0 cg (sn.map (fun n => (⟨(Lib.decDigits n).toArray⟩ : ByteArray))) ⟨bt.toArray⟩ w2
        (fun j x hx => k2.cell_some (HGC.out j x hx) (fun x => x)) (Nat.lt_of_lt_of_le hbg.lt k2.size) (by rw [List.length_map]; omega) (by rw [List.length_map]; exact hfm)
        (by
          have e1 : ((sn.map (fun n => (⟨(Lib.decDigits n).toArray⟩ : ByteArray))).map (·.data.toList)) = sn.map Lib.decDigits := by rw [List.map_map]; exact List.map_congr_left (fun n _ => rfl)
          rw [e1]
          have := HJL.out
          show (Lib.join (sn.map Lib.decDigits) bt).length ≤ _
          omega))
      have e1 : ((sn.map (fun n => (⟨(Lib.decDigits n).toArray⟩ : ByteArray))).map (·.data.toList)) = sn.map Lib.decDigits := by rw [List.map_map]; exact List.map_congr_left (fun n _ => rfl)
      rw [e1, List.length_map] at HJ
      have s1 := add_run op (Lib.join (sn.map Lib.decDigits) bt) (by omega) (by have := HJL.out; omega)
      have s2 := add_run (op ++ Lib.join (sn.map Lib.decDigits) bt) en (by rw [List.length_append]; have := HJL.out; omega) (by omega)
      replace HJ : Hid (∀ w2, Kept Nothing wr w2 → Calls Tryd.prog 64 #[.slice (some ⟨g, 0, none⟩) sn.length cg, .string ⟨bt.toArray⟩] w2 fun e w' => e = .returned (.string ⟨(Lib.join (sn.map Lib.decDigits) bt).toArray⟩) ∧ Below w2.heap.size w2 w') := HJ
      generalize Lib.join (sn.map Lib.decDigits) bt = jt at *
      clear HP HGC e1 hbg
      go_upto_region 8 with fail
      have b2 := Blk.fresh wr 96 #[.string ⟨op.toArray⟩, .string ⟨bt.toArray⟩, .string ⟨en.toArray⟩]
      have k2 := (Kept.refl Nothing wr).alloc (.cells #[.string ⟨op.toArray⟩, .string ⟨bt.toArray⟩, .string ⟨en.toArray⟩] 96)
      clear q0 q1 q2 c0 c1
      generalize wr.alloc (.cells #[.string ⟨op.toArray⟩, .string ⟨bt.toArray⟩, .string ⟨en.toArray⟩] 96) = wX at b2 k2 ⊢
      generalize wr.heap.size = gx at *
      have B2 := Lib.hid b2
      have K2 := Lib.hid k2
      have d0 := b2.cell 0
      have d1 := b2.cell 1
      have d2 := b2.cell 2
      clear b2 k2
      go_region_held3 (fun w' => w'.cell? ⟨gx, 0, none⟩ = some (.string ⟨op.toArray⟩) ∧ w'.cell? ⟨gx, 1, none⟩ = some (.string ⟨bt.toArray⟩) ∧ w'.cell? ⟨gx, 2, none⟩ = some (.string ⟨en.toArray⟩)) (first | exact ⟨d0, d1, d2⟩ | exact ⟨f0, f1, f2⟩) (first
        | (go_simp; go_at_call 64; refine (HJ.out _ (by exact K2.out.drew)).mono ?_; rintro e w9 ⟨rfl, hb9⟩; (have k9 := grows hb9); (have f0 := (B2.out.drew.kept k9 (fun x => x)).cell 0); (have f1 := (B2.out.drew.kept k9 (fun x => x)).cell 1); (have f2 := (B2.out.drew.kept k9 (fun x => x)).cell 2); (have K9 := Lib.hid k9); clear k9 hb9))
      all_goals
        go_wp2
        go_ret
        exact ⟨by rw [HSEG.out]; simp, KW.out.trans (K2.out.drew.trans K9.out)⟩
end Go.Proofs.YthjljamngpddmaaDoor
