
/-
  Paths: All, as a range over it meets it.
-/
import Derived.Test.YtdeblmolgmadiaaGreatDoorJf
namespace Go.Proofs.YtdeblmolgmadiaaGreatDoor
open Go.RowKit
attribute [local go_sem] Oper.semAt_some

namespace Pt
theorem all_take_succ (l : List Seg) (i : Nat) (h : i < l.length) : all (l.take (i + 1)) = all (l.take i) ++ (l[i]).2.map fun n => ((l[i]).1, n) := by
  rw [List.take_succ_eq_append_getElem h, all_append]
  simp [all]
theorem all_prefix (l : List Seg) (i j : Nat) (h : i < l.length) (hj : j < (l[i]).2.length) : (all (l.take i) ++ ((l[i]).2.take j).map (fun n => ((l[i]).1, n))) ++ [((l[i]).1, (l[i]).2[j])] <+: all l := by
  have e1 : ((l[i]).2.take j).map (fun n => ((l[i]).1, n)) ++ [((l[i]).1, (l[i]).2[j])] = ((l[i]).2.take (j + 1)).map (fun n => ((l[i]).1, n)) := by
    rw [List.take_succ_eq_append_getElem hj, List.map_append]; rfl
  rw [List.append_assoc, e1]
  have h1 : ((l[i]).2.take (j + 1)).map (fun n => ((l[i]).1, n)) <+: (l[i]).2.map (fun n => ((l[i]).1, n)) := by
    exact (List.take_prefix _ _).map _
  have h2 : all (l.take i) ++ ((l[i]).2.take (j + 1)).map (fun n => ((l[i]).1, n)) <+: all (l.take (i + 1)) := by
    rw [all_take_succ l i h]
    exact (List.prefix_append_right_inj _).2 h1
  have h3 : all (l.take (i + 1)) <+: all l := by
    conv => rhs; rw [← List.take_append_drop (i + 1) l, all_append]
    exact List.prefix_append _ _
  exact h2.trans h3
end Pt

def encA (x : UInt8 × Nat) : Array Value := #[.int .u8 (x.1.toNat : Int), .int .u32 (x.2 : Int)]

theorem run_eqIn_yield (u : World) (n q : Nat) : (Op.equalIn (n + 1) 129 (.func (.yield q) #[] #[]) .nilFunc).run Tryz.prog u = .ok false u := by
  simp [Op.equalIn, run_underlying Tryz.underlying129]
theorem run_eql_yield (u : World) (q : Nat) : (binOp .eql 129 (.func (.yield q) #[] #[]) .nilFunc).run Tryz.prog u = .ok (.bool false) u := by
  simp only [binOp]
  simp [Op.equal, Op.maxDepth, run_eqIn_yield u 9999 q]

set_option maxRecDepth 100000 in
set_option maxHeartbeats 4000000 in
theorem all_seq (w0 : World) (v : Value) (l : List Seg) (S : Nat → Prop) (w : World) (h : Pts w0 v l) (k0 : Kept Nothing w0 w) (hS : ∀ k, S k → w0.heap.size ≤ k) (hS2 : ∀ k, S k → k < w.heap.size) (hl : l.length ≤ 1000000) (hn : ∀ s ∈ l, s.2.length ≤ 1000000) :
    SeqAll Tryz.prog 30 #[v] encA (Pt.all l) S w := by
  intro q J Jx W kW hq1 hq2 hJ hJx hY h00
  obtain ⟨A, c, rfl, hc, hm⟩ := h.form
  have HV := Lib.hid h
  have HN := Lib.hid hn
  have HY := Lib.hid hY
  have HJ := Lib.hid hJ
  have KW := Lib.hid (k0.trans kW)
  have HK : Hid (∀ {X Y : World}, Kept Nothing w0 X → Kept (Plus S q) X Y → Kept Nothing w0 Y) := Lib.hid (fun hx hy => hx.trans_new hy (fun i hi x => by
    rcases x with x | x
    · have := hS i x; omega
    · have := k0.size; omega))
  have HP : Hid (∀ k, W.heap.size ≤ k → ¬ Plus S q k) := Lib.hid (fun k hk x => by
    rcases x with x | x
    · have := hS2 k x; have := kW.size; omega
    · omega)
  have H0 := Lib.hid h00
  clear h hn hY hJ hJx k0 hS hS2 kW h00
  refine callsIn_of_wp Tryz.func30 rfl trivial ?_ rfl
  simp only [Tryz.ntmps30, List.size_toArray, List.length_cons, List.length_nil, Nat.reduceAdd, Nat.reduceSub, Array.replicate_succ, Array.replicate_zero, List.push_toArray, List.append_toArray, List.nil_append, List.cons_append]
  have hnil := fun u => run_eql_yield u q
  gi_wp2
  gi_loopw [12] (fun i wr => ∃ k : Nat, i = .int .i64 (k : Int) ∧ k ≤ l.length ∧ Hid (J (Pt.all (l.take k)) wr) ∧ Hid (Kept Nothing w0 wr) ∧ W.heap.size ≤ wr.heap.size) (fun i _ => l.length - (intOf i).toNat)
  case atStart => exact ⟨0, rfl, Nat.zero_le _, H0, KW, Nat.le_refl _⟩
  case round =>
    clear H0 KW
    obtain ⟨k, rfl, hk, JK, KK, hz⟩ := hrel
    by_cases hlt : k < l.length
    · obtain ⟨b, o, Au, cu, rfl, p0, p1, hp⟩ := HV.out.at2 hlt
      have i1 : (0 : Int) ≤ (k : Int) := by omega
      have i2 : (k : Int) < (l.length : Int) := by omega
      have q0 := KK.out.cell_some p0 (fun x => x)
      have q1 := KK.out.cell_some p1 (fun x => x)
      have hmem : l.getD k (0, []) ∈ l := by rw [getD_get hlt]; exact List.getElem_mem _
      have hsn := HN.out _ hmem
      have ET : Hid (Pt.all (l.take (k + 1)) = Pt.all (l.take k) ++ (l.getD k (0, [])).2.map (fun n => ((l.getD k (0, [])).1, n))) := Lib.hid (by rw [getD_get hlt]; exact Pt.all_take_succ l k hlt)
      have EP : Hid (∀ m, m < (l.getD k (0, [])).2.length → (Pt.all (l.take k) ++ ((l.getD k (0, [])).2.take m).map (fun n => ((l.getD k (0, [])).1, n))) ++ [((l.getD k (0, [])).1, (l.getD k (0, [])).2.getD m 0)] <+: Pt.all l) := Lib.hid (fun m hm => by
        have := Pt.all_prefix l k m hlt (by rw [getD_get hlt] at hm; exact hm)
        rw [getD_get hlt, getD_get (by rw [getD_get hlt] at hm; exact hm)]
        exact this)
      generalize hsg : l.getD k (0, []) = sg at *
      obtain ⟨sk, sn⟩ := sg
      clear hsg hmem
      simp only at q0 q1 hp hsn
      have HPN := Lib.hid hp
      have J1 := Lib.hid (HJ.out _ wr (wr.alloc (.cells #[.int .u8 (sk.toNat : Int), .slice Au sn.length cu] 96)) JK.out hz (((Kept.refl Nothing wr).alloc _).mono (fun _ x => x.elim)))
      have K1 := Lib.hid (KK.out.alloc (.cells #[.int .u8 (sk.toNat : Int), .slice Au sn.length cu] 96))
      have B1 := Lib.hid (Blk.fresh wr 96 #[.int .u8 (sk.toNat : Int), .slice Au sn.length cu])
      have hz1 : W.heap.size ≤ (wr.alloc (.cells #[.int .u8 (sk.toNat : Int), .slice Au sn.length cu] 96)).heap.size := by rw [World.size_alloc]; omega
      clear hp p0 p1 JK KK
      gi_wp2
      generalize hbx : wr.heap.size = bx at *
      have hbz : W.heap.size ≤ bx := hz
      clear hbx
      gi_loopw [19] (fun i wq => ∃ m : Nat, i = .int .i64 (m : Int) ∧ m ≤ sn.length ∧ Hid (J (Pt.all (l.take k) ++ (sn.take m).map (fun n => (sk, n))) wq) ∧ Hid (Kept Nothing w0 wq) ∧ W.heap.size ≤ wq.heap.size ∧ Hid (Blk wq bx 96 #[.int .u8 (sk.toNat : Int), .slice Au sn.length cu])) (fun i _ => sn.length - (intOf i).toNat)
      case atStart => exact ⟨0, rfl, Nat.zero_le _, by simpa using J1, K1, hz1, B1⟩
      case round =>
        clear J1 K1 B1 hz1
        obtain ⟨m, rfl, hm', JM, KM, hzm, BM⟩ := hrel
        by_cases hml : m < sn.length
        · obtain ⟨b2, o2, rfl, hc2⟩ := HPN.out.at (by omega)
          have cm := KM.out.cell_some (hc2 m hml) (fun x => x)
          have cb := BM.out.cell 0
          have j1 : (0 : Int) ≤ (m : Int) := by omega
          have j2 : (m : Int) < (sn.length : Int) := by omega
          have EX : Hid ((Pt.all (l.take k) ++ (sn.take m).map (fun n => (sk, n))) ++ [(sk, sn.getD m 0)] <+: Pt.all l) := Lib.hid (EP.out m hml)
          have EM : Hid (sn.take (m + 1) = sn.take m ++ [sn.getD m 0]) := Lib.hid (by rw [List.take_succ_eq_append_getElem hml, getD_get hml])
          generalize sn.getD m 0 = n at *
          obtain ⟨fn, tmps, assign, body, hy, hR⟩ := HY.out _ (sk, n) wr JM.out EX.out
          simp only [encA] at hy
          have HR := Lib.hid hR
          clear hc2 hR
          gi_wp2
          refine HR.out.mono ?_
          rintro e W3 ⟨hk3, (⟨rfl, hJ3⟩ | ⟨rfl, hJx3⟩)⟩
          · have hb3 := BM.out.kept hk3 (HP.out bx hbz)
            have K3 := Lib.hid (HK.out KM.out hk3)
            have hz3 := Nat.le_trans hzm hk3.size
            have J3 : Hid (J (Pt.all (l.take k) ++ (sn.take (m + 1)).map (fun n => (sk, n))) W3) := Lib.hid (by rw [EM.out, List.map_append, ← List.append_assoc]; exact hJ3)
            have B3 := Lib.hid hb3
            clear hb3 hJ3 hk3
            gi_wp2
            go_roundw
            case rel => exact ⟨m + 1, by go_num, by omega, J3, K3, hz3, B3⟩
            case measure => simp [intOf]; omega
          · clear hk3
            gi_wp2
            refine bodyPost_ret (results_none rfl _ _ _) rfl ?_
            exact ⟨⟨_, rfl⟩, .inr ⟨_, EX.out, hJx3⟩⟩
        · obtain rfl : m = sn.length := by omega
          rw [List.take_of_length_le (Nat.le_refl _)] at JM
          have J4 : Hid (J (Pt.all (l.take (k + 1))) wr) := Lib.hid (by rw [ET.out]; exact JM.out)
          clear JM BM
          gi_wp2
          go_roundw
          case rel => exact ⟨k + 1, by go_num, by omega, J4, KM, hzm⟩
          case measure => simp [intOf]; omega
    · obtain rfl : k = l.length := by omega
      rw [List.take_of_length_le (Nat.le_refl _)] at JK
      gi_wp2
      go_end0
      exact ⟨⟨_, rfl⟩, .inl JK.out⟩
end Go.Proofs.YtdeblmolgmadiaaGreatDoor
