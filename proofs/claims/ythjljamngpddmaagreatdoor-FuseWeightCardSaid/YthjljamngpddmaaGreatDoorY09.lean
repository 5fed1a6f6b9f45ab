
/-
  A path's copy whose segments' first numbers are made one more.
-/
import Derived.Test.YthjljamngpddmaaGreatDoorY08
import Derived.Shelf.Abstract
import Derived.Laws.EntriesVeiled
import Derived.Test.YthjljamngpddmaaGreatDoorY03
namespace Go.Proofs.YthjljamngpddmaaGreatDoor
open Go.RowKit
attribute [local go_sem] Oper.semAt_some

namespace Pt
theorem all_take_succ (l : List Seg) (i : Nat) (h : i < l.length) : all (l.take (i + 1)) = all (l.take i) ++ (l[i]).2.map fun n => ((l[i]).1, n) := by
  rw [List.take_succ_eq_append_getElem h, all_append]
  simp [all]
theorem all_prefix (l : List Seg) (i j : Nat) (h : i < l.length) (hj : j < (l[i]).2.length) : (all (l.take i) ++ ((l[i]).2.take j).map (fun n => ((l[i]).1, n))) ++ [((l[i]).1, (l[i]).2[j])] <+: all l := by
  have e1 : ((l[i]).2.take j).map (fun n => ((l[i]).1, n)) ++ [((l[i]).1, (l[i]).2[j])] = ((l[i]).2.take (j + 1)).map (fun n => ((l[i]).1, n)) := by
    rw [List.take_succ_eq_append_getElem hj, List.map_append]; rfl
  rw [List.append_assoc, e1]
  have h1 : ((l[i]).2.take (j + 1)).map (fun n => ((l[i]).1, n)) <+: (l[i]).2.map (fun n => ((l[i]).1, n)) := by
    exact (List.take_prefix _ _).map _
  have h2 : all (l.take i) ++ ((l[i]).2.take (j + 1)).map (fun n => ((l[i]).1, n)) <+: all (l.take (i + 1)) := by
    rw [all_take_succ l i h]
    exact (List.prefix_append_right_inj _).2 h1
  have h3 : all (l.take (i + 1)) <+: all l := by
    conv => rhs; rw [← List.take_append_drop (i + 1) l, all_append]
    exact List.prefix_append _ _
  exact h2.trans h3
end Pt

def encA (x : UInt8 × Nat) : Array Value := #[.int .u8 (x.1.toNat : Int), .int .u32 (x.2 : Int)]

theorem run_eqIn_yield (u : World) (n q : Nat) : (Op.equalIn (n + 1) 107 (.func (.yield q) #[] #[]) .nilFunc).run Tryz.prog u = .ok false u := by
  simp [Op.equalIn, run_underlying Tryz.underlying107]
theorem run_eql_yield (u : World) (q : Nat) : (binOp .eql 107 (.func (.yield q) #[] #[]) .nilFunc).run Tryz.prog u = .ok (.bool false) u := by
  simp only [binOp]
  simp [Op.equal, Op.maxDepth, run_eqIn_yield u 9999 q]

set_option maxRecDepth 100000 in
set_option maxHeartbeats 4000000 in
theorem all_seq (w0 : World) (v : Value) (l : List Seg) (S : Nat → Prop) (w : World) (h : Pts w0 v l) (k0 : Kept Nothing w0 w) (hS : ∀ k, S k → w0.heap.size ≤ k) (hS2 : ∀ k, S k → k < w.heap.size) (hl : l.length ≤ 1000000) (hn : ∀ s ∈ l, s.2.length ≤ 1000000) :
    SeqAll Tryz.prog 28 #[v] encA (Pt.all l) S w := by
  intro q J Jx W kW hq1 hq2 hJ hJx hY h00
  obtain ⟨A, c, rfl, hc, hm⟩ := h.form
  have HV := Lib.hid h
  have HN := Lib.hid hn
  have HY := Lib.hid hY
  have HJ := Lib.hid hJ
  have KW := Lib.hid (k0.trans kW)
  have HK : Hid (∀ {X Y : World}, Kept Nothing w0 X → Kept (Plus S q) X Y → Kept Nothing w0 Y) := Lib.hid (fun hx hy => hx.trans_new hy (fun i hi x => by
    rcases x with x | x
    · have := hS i x; omega
    · have := k0.size; omega))
  have HP : Hid (∀ k, W.heap.size ≤ k → ¬ Plus S q k) := Lib.hid (fun k hk x => by
    rcases x with x | x
    · have := hS2 k x; have := kW.size; omega
    · omega)
  have H0 := Lib.hid h00
  clear h hn hY hJ hJx k0 hS hS2 kW h00
  refine callsIn_of_wp Tryz.func28 rfl trivial ?_ rfl
  simp only [Tryz.ntmps28, List.size_toArray, List.length_cons, List.length_nil, Nat.reduceAdd, Nat.reduceSub, Array.replicate_succ, Array.replicate_zero, List.push_toArray, List.append_toArray, List.nil_append, List.cons_append]
  have hnil := fun u => run_eql_yield u q
  gi_wp2
  gi_loopw [12] (fun i wr => ∃ k : Nat, i = .int .i64 (k : Int) ∧ k ≤ l.length ∧ Hid (J (Pt.all (l.take k)) wr) ∧ Hid (Kept Nothing w0 wr) ∧ W.heap.size ≤ wr.heap.size) (fun i _ => l.length - (intOf i).toNat)
  case atStart => exact ⟨0, rfl, Nat.zero_le _, H0, KW, Nat.le_refl _⟩
  case round =>
    clear H0 KW
    obtain ⟨k, rfl, hk, JK, KK, hz⟩ := hrel
    by_cases hlt : k < l.length
    · obtain ⟨b, o, Au, cu, rfl, p0, p1, hp⟩ := HV.out.at2 hlt
      have i1 : (0 : Int) ≤ (k : Int) := by omega
      have i2 : (k : Int) < (l.length : Int) := by omega
      have q0 := KK.out.cell_some p0 (fun x => x)
      have q1 := KK.out.cell_some p1 (fun x => x)
      have hmem : l.getD k (0, []) ∈ l := by rw [getD_get hlt]; exact List.getElem_mem _
      have hsn := HN.out _ hmem
      have ET : Hid (Pt.all (l.take (k + 1)) = Pt.all (l.take k) ++ (l.getD k (0, [])).2.map (fun n => ((l.getD k (0, [])).1, n))) := Lib.hid (by rw [getD_get hlt]; exact Pt.all_take_succ l k hlt)
      have EP : Hid (∀ m, m < (l.getD k (0, [])).2.length → (Pt.all (l.take k) ++ ((l.getD k (0, [])).2.take m).map (fun n => ((l.getD k (0, [])).1, n))) ++ [((l.getD k (0, [])).1, (l.getD k (0, [])).2.getD m 0)] <+: Pt.all l) := Lib.hid (fun m hm => by
        have := Pt.all_prefix l k m hlt (by rw [getD_get hlt] at hm; exact hm)
        rw [getD_get hlt, getD_get (by rw [getD_get hlt] at hm; exact hm)]
        exact this)
      generalize hsg : l.getD k (0, []) = sg at *
      obtain ⟨sk, sn⟩ := sg
      clear hsg hmem
      simp only at q0 q1 hp hsn
      have HPN := Lib.hid hp
      have J1 := Lib.hid (HJ.out _ wr (wr.alloc (.cells #[.int .u8 (sk.toNat : Int), .slice Au sn.length cu] 72)) JK.out hz (((Kept.refl Nothing wr).alloc _).mono (fun _ x => x.elim)))
      have K1 := Lib.hid (KK.out.alloc (.cells #[.int .u8 (sk.toNat : Int), .slice Au sn.length cu] 72))
      have B1 := Lib.hid (Blk.fresh wr 72 #[.int .u8 (sk.toNat : Int), .slice Au sn.length cu])
      have hz1 : W.heap.size ≤ (wr.alloc (.cells #[.int .u8 (sk.toNat : Int), .slice Au sn.length cu] 72)).heap.size := by rw [World.size_alloc]; omega
      clear hp p0 p1 JK KK
      gi_wp2
      generalize hbx : wr.heap.size = bx at *
      have hbz : W.heap.size ≤ bx := hz
      clear hbx
      gi_loopw [19] (fun i wq => ∃ m : Nat, i = .int .i64 (m : Int) ∧ m ≤ sn.length ∧ Hid (J (Pt.all (l.take k) ++ (sn.take m).map (fun n => (sk, n))) wq) ∧ Hid (Kept Nothing w0 wq) ∧ W.heap.size ≤ wq.heap.size ∧ Hid (Blk wq bx 72 #[.int .u8 (sk.toNat : Int), .slice Au sn.length cu])) (fun i _ => sn.length - (intOf i).toNat)
      case atStart => exact ⟨0, rfl, Nat.zero_le _, by simpa using J1, K1, hz1, B1⟩
      case round =>
        clear J1 K1 B1 hz1
        obtain ⟨m, rfl, hm', JM, KM, hzm, BM⟩ := hrel
        by_cases hml : m < sn.length
        · obtain ⟨b2, o2, rfl, hc2⟩ := HPN.out.at (by omega)
          have cm := KM.out.cell_some (hc2 m hml) (fun x => x)
          have cb := BM.out.cell 0
          have j1 : (0 : Int) ≤ (m : Int) := by omega
          have j2 : (m : Int) < (sn.length : Int) := by omega
          have EX : Hid ((Pt.all (l.take k) ++ (sn.take m).map (fun n => (sk, n))) ++ [(sk, sn.getD m 0)] <+: Pt.all l) := Lib.hid (EP.out m hml)
          have EM : Hid (sn.take (m + 1) = sn.take m ++ [sn.getD m 0]) := Lib.hid (by rw [List.take_succ_eq_append_getElem hml, getD_get hml])
          generalize sn.getD m 0 = n at *
          obtain ⟨fn, tmps, assign, body, hy, hR⟩ := HY.out _ (sk, n) wr JM.out EX.out
          simp only [encA] at hy
          have HR := Lib.hid hR
          clear hc2 hR
          gi_wp2
          refine HR.out.mono ?_
          rintro e W3 ⟨hk3, (⟨rfl, hJ3⟩ | ⟨rfl, hJx3⟩)⟩
          · have hb3 := BM.out.kept hk3 (HP.out bx hbz)
            have K3 := Lib.hid (HK.out KM.out hk3)
            have hz3 := Nat.le_trans hzm hk3.size
            have J3 : Hid (J (Pt.all (l.take k) ++ (sn.take (m + 1)).map (fun n => (sk, n))) W3) := Lib.hid (by rw [EM.out, List.map_append, ← List.append_assoc]; exact hJ3)
            have B3 := Lib.hid hb3
            clear hb3 hJ3 hk3
            gi_wp2
            go_roundw
            case rel => exact ⟨m + 1, by go_num, by omega, J3, K3, hz3, B3⟩
            case measure => simp [intOf]; omega
          · clear hk3
            gi_wp2
            refine bodyPost_ret (results_none rfl _ _ _) rfl ?_
            exact ⟨⟨_, rfl⟩, .inr ⟨_, EX.out, hJx3⟩⟩
        · obtain rfl : m = sn.length := by omega
          rw [List.take_of_length_le (Nat.le_refl _)] at JM
          have J4 : Hid (J (Pt.all (l.take (k + 1))) wr) := Lib.hid (by rw [ET.out]; exact JM.out)
          clear JM BM
          gi_wp2
          go_roundw
          case rel => exact ⟨k + 1, by go_num, by omega, J4, KM, hzm⟩
          case measure => simp [intOf]; omega
    · obtain rfl : k = l.length := by omega
      rw [List.take_of_length_le (Nat.le_refl _)] at JK
      gi_wp2
      go_end0
      exact ⟨⟨_, rfl⟩, .inl JK.out⟩
end Go.Proofs.YthjljamngpddmaaGreatDoor
namespace Go.Proofs.YthjljamngpddmaaGreatDoor
open Go.RowKit Go.Shelf
attribute [local go_sem] Oper.semAt_some

theorem run_mkFunc (fn : Fn) (first cap : Array Value) (w : World) : (Instr.makeFunc fn first cap).run Tryz.prog w = .ok (.func fn first cap) w := by
  simp [Instr.makeFunc, Sem.run_pure]

theorem zip_two (a b : Tmp) (u v : Value) : (#[a, b] : Array Tmp).zip #[u, v] = #[(a, u), (b, v)] := by
  apply Array.ext'
  simp
theorem fold_two (a b : Tmp) (u v : Value) (t : Array Value) : (#[a, b].zip #[u, v]).foldl (fun t x => t.setIfInBounds x.1 x.2) t = (t.setIfInBounds a u).setIfInBounds b v := by
  rw [zip_two]; rfl
theorem Pt.cnt_le (l : List Seg) (hn : ∀ s ∈ l, s.2.length ≤ 1000000) : Pt.cnt l ≤ 1000000 * l.length := by
  unfold Pt.cnt
  induction l with
  | nil => simp
  | cons s l ih =>
    have h1 := ih (fun x hx => hn x (List.mem_cons_of_mem _ hx))
    have h3 := hn s (List.mem_cons_self ..)
    rw [List.map_cons, List.sum_cons, List.length_cons, Nat.mul_add]
    omega

set_option maxHeartbeats 1600000 in
theorem path_count (v : Value) (l : List Seg) (w : World) (h : Pts w v l) (hl : l.length ≤ 1000000) (hn : ∀ s ∈ l, s.2.length ≤ 1000000) :
    Calls Tryz.prog 19 #[v] w fun e w' => e = .returned (.int .i64 (Pt.cnt l : Int)) ∧ Kept Nothing w w' := by
  obtain ⟨A, c, rfl, hc, hm⟩ := h.form
  have hmf := run_mkFunc
  refine (callsIn_wide (n := 4)).1 (callsIn_of_wp_marks Tryz.func19 rfl trivial ?_ rfl)
  rw [wpIn_wide]
  simp only [Tryz.ntmps19, List.size_toArray, List.length_cons, List.length_nil, Nat.reduceAdd, Nat.reduceSub, Array.replicate_succ, Array.replicate_zero, List.push_toArray, List.append_toArray, List.nil_append, List.cons_append]
  go_wp2_with fail
  have hb1 := Blk.fresh w 3 #[.int .i64 0]
  have k1 := (Kept.refl Nothing w).alloc (.cells #[.int .i64 0] 3)
  have hz1 : (w.alloc (.cells #[.int .i64 0] 3)).heap.size = w.heap.size + 1 := World.size_alloc _ _
  generalize w.alloc (.cells #[.int .i64 0] 3) = w1 at hb1 k1 hz1 ⊢
  refine wp_rf (gf := 28) (fs := #[.slice A l.length c]) (encs := encA) (xs := Pt.all l) (S := Only w.heap.size) rfl (enters_of Tryz.func28 (by kernel_rfl) rfl) (fun k (e : k = w.heap.size) => by omega)
    (all_seq w _ l _ w1 h k1 (fun k (e : k = w.heap.size) => by omega) (fun k (e : k = w.heap.size) => by omega) hl hn) (fun _ => rfl)
    (fun pre W => Kept Nothing w W ∧ Blk W w.heap.size 3 #[.int .i64 (pre.length : Int)] ∧ pre <+: Pt.all l) (fun _ _ _ => False)
    (fun s X Y hs hX hk => ⟨hs.1.trans_new hk (fun i hi x => by omega), hs.2.1.kept hk (by omega), hs.2.2⟩) (fun _ _ _ _ hs _ _ => hs) ⟨k1, hb1, List.nil_prefix⟩
    (fun x => { tmps := #[.slice A l.length c, undef, .int .i64 0, .pointer (some ⟨w.heap.size, 0, none⟩), .slice A l.length c, .func (.func 28) #[.slice A l.length c] #[], .int .u8 (x.1.toNat : Int), .int .u32 (x.2 : Int), undef, undef, undef], defers := [] }) ?assign ?body ?done ?stop
  case assign =>
    intro q x W K hK
    simp only [encA, fold_two]
    gi_wp2
    exact hK
  case body =>
    rintro q pre x W ⟨hk, hb, hp⟩ hp2 hz
    have hln : (pre.length : Int) < 1000000000000 := by
      have h1 := hp2.length_le
      rw [Pt.length_all, List.length_append] at h1
      have := Pt.cnt_le l hn
      simp only [List.length_cons, List.length_nil] at h1
      omega
    have c0 := hb.cell 0
    have f0 := hb.free 0
    gi_wp2
    refine ⟨Kept.own W w.heap.size 0 _, hk.setCell (p := ⟨w.heap.size, 0, none⟩) (fun h => absurd h (Nat.lt_irrefl _)) _, ?_, hp2⟩
    have := hb.put 0 (.int .i64 ((pre.length : Int) + 1))
    rw [List.length_append]
    exact this
  case done =>
    rintro D W hD ⟨hk, hb, -⟩ hd
    rw [Pt.length_all] at hb
    have c0 := hb.cell 0
    go_wp2
    refine ⟨by simp, .inl ⟨_, _, rfl, run_takeDeferred hd, ?_⟩⟩
    exact ⟨_, results_tmp rfl _ _ _, rfl, hk.trans_new ((Kept.putObj W D _).mono (fun k (e : k = D) => e)) (fun i hi (e : i = D) => by omega)⟩
  case stop =>
    rintro D c pre W _ _ h _
    exact h.elim

theorem Blk.putObj {W : World} {g D : Nat} {t : TypeId} {cs : Array Value} (h : Blk W g t cs) (hne : g ≠ D) (o : Obj) : Blk (W.putObj D o) g t cs := h.kept (Kept.putObj W D o) (fun (e : g = D) => hne e)
theorem Pt.hasW_false {l : List Seg} (h : ∀ x ∈ Pt.all l, ¬ 65535 < x.2) : Pt.hasW l = false := by
  unfold Pt.hasW
  rw [List.any_eq_false]
  intro x hx
  simpa using h x hx
theorem Pt.hasW_true {l : List Seg} {pre : List (UInt8 × Nat)} (hp : pre <+: Pt.all l) {x : UInt8 × Nat} (hx : x ∈ pre) (h : 65535 < x.2) : Pt.hasW l = true := by
  unfold Pt.hasW
  rw [List.any_eq_true]
  exact ⟨x, hp.subset hx, by simpa using h⟩

set_option maxHeartbeats 1600000 in
theorem path_hasWide (v : Value) (l : List Seg) (w : World) (h : Pts w v l) (hl : l.length ≤ 1000000) (hn : ∀ s ∈ l, s.2.length ≤ 1000000) :
    Calls Tryz.prog 43 #[v] w fun e w' => e = .returned (.bool (Pt.hasW l)) ∧ Kept Nothing w w' := by
  obtain ⟨A, c, rfl, hc, hm⟩ := h.form
  have hmf := run_mkFunc
  refine (callsIn_wide (n := 4)).1 (callsIn_of_wp_marks Tryz.func43 rfl trivial ?_ rfl)
  rw [wpIn_wide]
  simp only [Tryz.ntmps43, List.size_toArray, List.length_cons, List.length_nil, Nat.reduceAdd, Nat.reduceSub, Array.replicate_succ, Array.replicate_zero, List.push_toArray, List.append_toArray, List.nil_append, List.cons_append]
  go_wp2_with fail
  have hb1 := Blk.fresh w 4 #[.bool false]
  have k1 := (Kept.refl Nothing w).alloc (.cells #[.bool false] 4)
  have hz1 : (w.alloc (.cells #[.bool false] 4)).heap.size = w.heap.size + 1 := World.size_alloc _ _
  generalize w.alloc (.cells #[.bool false] 4) = w1 at hb1 k1 hz1 ⊢
  refine wp_rf (gf := 28) (fs := #[.slice A l.length c]) (encs := encA) (xs := Pt.all l) (S := Only w.heap.size) rfl (enters_of Tryz.func28 (by kernel_rfl) rfl) (fun k (e : k = w.heap.size) => by omega)
    (all_seq w _ l _ w1 h k1 (fun k (e : k = w.heap.size) => by omega) (fun k (e : k = w.heap.size) => by omega) hl hn) (fun _ => rfl)
    (fun pre W => Kept Nothing w W ∧ Blk W w.heap.size 4 #[.bool false] ∧ ∀ x ∈ pre, ¬ 65535 < x.2) (fun c pre W => c = .ret ∧ Kept Nothing w W ∧ Blk W w.heap.size 4 #[.bool true] ∧ ∃ x ∈ pre, 65535 < x.2)
    (fun s X Y hs hX hk => ⟨hs.1.trans_new hk (fun i hi x => by omega), hs.2.1.kept hk (by omega), hs.2.2⟩) (fun c s X Y hs hX hk => ⟨hs.1, hs.2.1.trans_new hk (fun i hi x => by omega), hs.2.2.1.kept hk (by omega), hs.2.2.2⟩) ⟨k1, hb1, fun x hx => by cases hx⟩
    (fun x => { tmps := #[.slice A l.length c, undef, .pointer (some ⟨w.heap.size, 0, none⟩), undef, .int .u32 (x.2 : Int), .slice A l.length c, .func (.func 28) #[.slice A l.length c] #[], .int .u8 (x.1.toNat : Int), .int .u32 (x.2 : Int), undef, undef], defers := [] }) ?assign ?body ?done ?stop
  case assign =>
    intro q x W K hK
    simp only [encA, fold_two]
    gi_wp2
    exact hK
  case body =>
    rintro q pre x W ⟨hk, hb, hp⟩ hp2 hz
    have c0 := hb.cell 0
    have f0 := hb.free 0
    have HW := Lib.hid (fun w => pnum_wide x.2 w)
    by_cases hx : 65535 < x.2
    · rw [show decide (65535 < x.2) = true from by simpa using hx] at HW
      gi_wp2_with (refine ⟨trivial, ?_⟩; gi_at_call 71; refine (CallsIn.inRound q (callsIn_wide.2 (HW.out _))).mono ?_; rintro e w' ⟨rfl, rfl⟩)
      refine ⟨Kept.own W w.heap.size 0 _, rfl, hk.setCell (p := ⟨w.heap.size, 0, none⟩) (fun h => absurd h (Nat.lt_irrefl _)) _, hb.put 0 _, x, by simp, hx⟩
    · rw [show decide (65535 < x.2) = false from by simpa using hx] at HW
      gi_wp2_with (refine ⟨trivial, ?_⟩; gi_at_call 71; refine (CallsIn.inRound q (callsIn_wide.2 (HW.out _))).mono ?_; rintro e w' ⟨rfl, rfl⟩)
      refine ⟨Kept.refl _ _, hk, hb, fun y hy => ?_⟩
      rcases List.mem_append.1 hy with hy | hy
      · exact hp y hy
      · obtain rfl := List.mem_singleton.1 hy
        exact hx
  case done =>
    rintro D W hD ⟨hk, hb, hp⟩ hd
    have c0 := hb.cell 0
    have f0 := hb.free 0
    go_wp2
    have e0 := ((hb.put 0 (.bool false)).putObj (D := D) (by have := hb.lt; omega) (.deferred none)).cell 0
    have hd2 : (W.setCell ⟨w.heap.size, 0, none⟩ (.bool false)).heap[D]? = some (.deferred (some [])) := (Below.heap_setCell W ⟨w.heap.size, 0, none⟩ _ D (by show D ≠ w.heap.size; omega)).trans hd
    refine ⟨by simp, .inl ⟨_, _, rfl, run_takeDeferred hd2, ?_⟩⟩
    have hW := Pt.hasW_false hp
    exact ⟨.bool false, by simp [results, Tryz.results43, go_sem, e0], by rw [hW], (hk.setCell (p := ⟨w.heap.size, 0, none⟩) (fun h => absurd h (Nat.lt_irrefl _)) _).trans_new ((Kept.putObj _ D _).mono (fun k (e : k = D) => e)) (fun i hi (e : i = D) => by omega)⟩
  case stop =>
    rintro D c pre W hD hpre ⟨rfl, hk, hb, x, hx, hx2⟩ hd
    have c0 := hb.cell 0
    go_wp2
    have e0 := (hb.putObj (D := D) (by omega) (.deferred none)).cell 0
    refine ⟨by simp, .inl ⟨_, _, rfl, run_takeDeferred hd, ?_⟩⟩
    have hW := Pt.hasW_true hpre hx hx2
    exact ⟨.bool true, by simp [results, Tryz.results43, go_sem, e0], by rw [hW], hk.trans_new ((Kept.putObj W D _).mono (fun k (e : k = D) => e)) (fun i hi (e : i = D) => by omega)⟩
end Go.Proofs.YthjljamngpddmaaGreatDoor
namespace Go.Proofs.YthjljamngpddmaaGreatDoor
open Go.RowKit Go.Shelf
attribute [local go_sem] Oper.semAt_some

end Go.Proofs.YthjljamngpddmaaGreatDoor
namespace Go.Proofs.YthjljamngpddmaaGreatDoor
open Go.RowKit Go.Shelf

namespace Wk
/-- Is a segment of this kind confed? -/
def confed (k : UInt8) : Bool := decide (k.toNat = 3) || decide (k.toNat = 4)
def has (l : List Seg) (n : Nat) : Bool := Pt.may l && (Pt.all l).any (fun x => x.2 == n)
def loops (l : List Seg) (m c : Nat) : Bool := Pt.may l && (Pt.all l).any (fun x => if confed x.1 then x.2 == m else x.2 == c)
/-- Has a plain number come up, and a confed one behind it? -/
def st (s : Bool × Bool) (x : UInt8 × Nat) : Bool × Bool := if confed x.1 then (s.1, s.2 || s.1) else (true, s.2)
def sts (a : List (UInt8 × Nat)) : Bool × Bool := a.foldl st (false, false)
def ordered (l : List Seg) : Bool := Pt.may l && !(sts (Pt.all l)).2
theorem sts_snoc (a : List (UInt8 × Nat)) (x : UInt8 × Nat) : sts (a ++ [x]) = st (sts a) x := by unfold sts; rw [List.foldl_append]; rfl
theorem bad_stays (b : List (UInt8 × Nat)) : ∀ s : Bool × Bool, s.2 = true → (b.foldl st s).2 = true := by
  induction b with
  | nil => exact fun s h => h
  | cons x b ih =>
    intro s h
    refine ih _ ?_
    unfold st
    split
    · simp [h]
    · exact h
theorem bad_prefix {a b : List (UInt8 × Nat)} (h : a <+: b) (hb : (sts a).2 = true) : (sts b).2 = true := by
  obtain ⟨r, rfl⟩ := h
  unfold sts
  rw [List.foldl_append]
  exact bad_stays r _ hb
/-- The number of a plain one. -/
def nbv (x : Option (UInt8 × Nat)) : Nat := match x with
  | some x => if x.1.toNat = 2 then x.2 else 0
  | none => 0
def neighbour (l : List Seg) : Nat := if Pt.may l then nbv ((Pt.all l).find? (fun x => !confed x.1)) else 0
def origin (l : List Seg) : Nat := if Pt.may l then nbv (Pt.all l).getLast? else 0
theorem find_prefix {a b : List (UInt8 × Nat)} {p : UInt8 × Nat → Bool} (h : a <+: b) {x : UInt8 × Nat} (hf : a.find? p = some x) : b.find? p = some x := by
  obtain ⟨r, rfl⟩ := h
  rw [List.find?_append, hf]; rfl
end Wk
theorem nat_beq (m n : Nat) : ((m : Int) == (n : Int)) = (m == n) := by rw [Bool.eq_iff_iff]; simp; omega
theorem app3 (a b c : Value) : (#[a, b] ++ #[c] : Array Value) = #[a, b, c] := by simp
theorem app4 (a b c d : Value) : (#[a, b] ++ #[c, d] : Array Value) = #[a, b, c, d] := by simp

theorem Wk.confed_seq {k : UInt8} (h : k.toNat = 2) : Wk.confed k = false := by unfold Wk.confed; simp [h]

end Go.Proofs.YthjljamngpddmaaGreatDoor
namespace Go.Proofs.YthjljamngpddmaaGreatDoor
open Go.RowKit

theorem own_lies {w : World} {base size n : Nat} {e : TypeId} {v : Value} {xs : List Value} (h : w.ownsRow base e size v n xs) (hn : 0 < n) : ∃ g cap cur, v = .slice (some ⟨g, 0, none⟩) n cap ∧ base ≤ g ∧ Blk w g e cur := by
  rcases h.2 with ⟨_, h0⟩ | ⟨g, cap, cur, hv, hb, hh, _⟩
  · omega
  · exact ⟨g, cap, cur, hv, hb, hh⟩
theorem inc_wrap (n : Nat) : IntKind.u32.wrap ((n : Int) + 1) = (((n + 1) % 4294967296 : Nat) : Int) := by
  simp [IntKind.wrap, IntKind.bits, IntKind.signed]
theorem own_setA {w : World} {base g n : Nat} {e : TypeId} {v x u : Value} {xs : List Value} (h : w.ownsRow base e 1 v n (x :: xs)) (hg : v.ownBlock = some g) : (w.setCell ⟨g, 0, none⟩ u).ownsRow base e 1 v n (u :: xs) := by
  obtain ⟨h1, h2⟩ := h
  refine ⟨h1, ?_⟩
  rcases h2 with ⟨rfl, _⟩ | ⟨g', cap, cur, rfl, hb, hh, hnc, hcm, hcs, htk⟩
  · simp [Value.ownBlock] at hg
  · obtain rfl : g' = g := by simpa [Value.ownBlock] using hg
    have hB : Blk w g' e cur := hh
    refine .inr ⟨g', cap, _, rfl, hb, hB.put 0 u, hnc, hcm, by simpa using hcs, ?_⟩
    rw [List.length_cons] at h1
    obtain ⟨m, rfl⟩ : ∃ m, n = m + 1 := ⟨n - 1, by omega⟩
    rw [Array.toList_setIfInBounds]
    cases hc : cur.toList with
    | nil => rw [hc] at htk; simp at htk
    | cons c0 r =>
      rw [hc, Nat.mul_one, List.take_succ_cons] at htk
      rw [Nat.mul_one, List.set_cons_zero, List.take_succ_cons]
      injection htk with _ h2
      rw [h2]
theorem Rws.apart {w w' : World} {B : Nat} {S : Nat → Prop} (k : Kept S w w') : ∀ {xs : List Value} {l : List Seg}, Rws w B xs l → (∀ u ∈ xs, ∀ g, u.ownBlock = some g → ¬ S g) → Rws w' B xs l
  | [], [], _, _ => trivial
  | _ :: v :: _, _ :: _, ⟨h1, h2, h3, h4⟩, hs => ⟨h1, ow_kept h2 k (fun g hg => hs v (by simp) g hg), h3, Rws.apart k h4 (fun u hu => hs u (by simp [hu]))⟩
  | [], _ :: _, h, _ => h.elim
  | [_], _, h, _ => by unfold Rws at h; exact h.elim
  | _ :: _ :: _, [], h, _ => by unfold Rws at h; exact h.elim
theorem Rws.at {w : World} {B : Nat} : ∀ {xs : List Value} {l : List Seg} (_ : Rws w B xs l) (k : Nat) (_ : k < l.length), ∃ v, xs[k * 2]? = some (by8 (l.getD k (0, [])).1) ∧ xs[k * 2 + 1]? = some v ∧ w.ownsRow B 54 1 v (l.getD k (0, [])).2.length (ass (l.getD k (0, [])).2) ∧ ∀ n ∈ (l.getD k (0, [])).2, n < 4294967296
  | _ :: v :: _, c :: _, ⟨h1, h2, h3, _⟩, 0, _ => ⟨v, by rw [h1]; rfl, rfl, h2, h3⟩
  | a :: v :: xs, c :: l, ⟨_, _, _, h4⟩, k + 1, hk => by
    obtain ⟨u, e0, e1, e2, e3⟩ := Rws.at h4 k (by simpa using hk)
    exact ⟨u, by rw [Nat.add_mul]; exact e0, by rw [Nat.add_mul]; exact e1, e2, e3⟩
  | [], [], _, k, hk => absurd hk (Nat.not_lt_zero _)
  | [], _ :: _, h, _, _ => h.elim
  | [_], _, h, _, _ => by unfold Rws at h; exact h.elim
  | _ :: _ :: _, [], h, _, _ => by unfold Rws at h; exact h.elim
theorem Rws.inc {w : World} {B g m : Nat} (hm : m < 4294967296) {n : Nat} {t : List Nat} {v : Value} : ∀ {xs : List Value} {l : List Seg} (_ : Rws w B xs l) (_ : Dist xs) (k : Nat) (_ : k < l.length) (_ : xs[k * 2 + 1]? = some v) (_ : v.ownBlock = some g) (_ : (l.getD k (0, [])).2 = n :: t),
    Rws (w.setCell ⟨g, 0, none⟩ (.int .u32 (m : Int))) B xs (l.set k ((l.getD k (0, [])).1, m :: t))
  | _ :: u :: xs, c :: l, ⟨h1, h2, h3, h4⟩, hd, 0, _, hv, hg, hl => by
    obtain rfl : u = v := by simpa using hv
    have hd2 := List.pairwise_cons.1 (List.pairwise_cons.1 hd).2
    have hl' : c.2 = n :: t := hl
    rw [hl'] at h2 h3
    refine ⟨h1, own_setA h2 hg, fun x hx => ?_, h4.apart (Kept.own w g 0 _) (fun x hx g' hg' (e : g' = g) => ?_)⟩
    · rcases List.mem_cons.1 hx with rfl | hx
      · exact hm
      · exact h3 x (List.mem_cons_of_mem _ hx)
    · subst e
      exact hd2.1 x hx g' hg hg'
  | a :: u :: xs, c :: l, ⟨h1, h2, h3, h4⟩, hd, k + 1, hk, hv, hg, hl => by
    have hd2 := List.pairwise_cons.1 (List.pairwise_cons.1 hd).2
    have hv' : xs[k * 2 + 1]? = some v := by rw [Nat.add_mul] at hv; exact hv
    refine ⟨h1, ow_kept h2 (Kept.own w g 0 _) (fun g' hg' (e : g' = g) => ?_), h3, Rws.inc hm h4 hd2.2 k (by simpa using hk) hv' hg hl⟩
    subst e
    exact hd2.1 v (List.mem_of_getElem? hv') g' hg' hg
  | [], [], _, _, k, hk, _, _, _ => absurd hk (Nat.not_lt_zero _)
  | [], _ :: _, h, _, _, _, _, _, _ => h.elim
  | [_], _, h, _, _, _, _, _, _ => by unfold Rws at h; exact h.elim
  | _ :: _ :: _, [], h, _, _, _, _, _, _ => by unfold Rws at h; exact h.elim

namespace Pt
def inc (s : Seg) : Seg := (s.1, match s.2 with | n :: t => ((n + 1) % 4294967296) :: t | [] => [])
/-- The first k segments made one more. -/
def incs (k : Nat) (l : List Seg) : List Seg := (l.take k).map inc ++ l.drop k
theorem incs_len (k : Nat) (l : List Seg) : (incs k l).length = l.length := by unfold incs; simp; omega
theorem incs_at {k : Nat} {l : List Seg} (hk : k < l.length) : (incs k l).getD k (0, []) = l.getD k (0, []) := by
  unfold incs
  have h : ((l.take k).map inc).length = k := by rw [List.length_map, List.length_take]; omega
  rw [List.getD_eq_getElem?_getD, List.getElem?_append_right (by omega), h, Nat.sub_self, List.getElem?_drop, Nat.add_zero, List.getD_eq_getElem?_getD]
theorem incs_succ {k : Nat} {l : List Seg} (hk : k < l.length) : incs (k + 1) l = (incs k l).set k (inc (l.getD k (0, []))) := by
  unfold incs
  have h : ((l.take k).map inc).length = k := by rw [List.length_map, List.length_take]; omega
  rw [List.take_succ_eq_append_getElem hk, List.map_append, List.set_append_right _ _ (by omega), h, Nat.sub_self, getD_get hk, List.drop_eq_getElem_cons hk, List.set_cons_zero]
  simp
theorem incs_ne {l : List Seg} (h : l ≠ []) (hn : ∀ s ∈ l, s.2 ≠ []) (hf : ∀ s ∈ l, ∀ n ∈ s.2, n < 4294967296) : incs l.length l ≠ l := by
  cases l with
  | nil => exact absurd rfl h
  | cons s l =>
    unfold incs
    intro e
    rw [List.take_length, List.drop_length, List.append_nil, List.map_cons] at e
    injection e with e1 _
    have h2 := congrArg Prod.snd e1
    cases hs : s.2 with
    | nil => exact hn s (by simp) hs
    | cons n t =>
      have hlt := hf s (by simp) n (by rw [hs]; simp)
      simp only [inc, hs] at h2
      injection h2 with h2 _
      omega
end Pt
end Go.Proofs.YthjljamngpddmaaGreatDoor
