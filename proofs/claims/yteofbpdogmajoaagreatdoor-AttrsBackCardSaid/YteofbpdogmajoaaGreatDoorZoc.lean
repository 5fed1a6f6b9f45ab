
/-
  The law's Few (40 segments of 300 numbers).
-/
import Derived.Test.YteofbpdogmajoaaGreatDoorZjp
import Derived.Test.YteofbpdogmajoaaGreatDoorZoa
namespace Go.Proofs.YteofbpdogmajoaaGreatDoor
open Go.RowKit
attribute [local go_sem] Oper.semAt_some

/-- The first m segments, of the first n numbers each. -/
def fewN (m n : Nat) (l : List Seg) : List Seg := (l.take m).map fun s => (s.1, s.2.take n)
theorem fewN_lo {m n : Nat} {l : List Seg} {k : Nat} (hk : k < l.length) (h : k < m) : fewN m n (l.take (k + 1)) = fewN m n (l.take k) ++ [((l.getD k (0, [])).1, (l.getD k (0, [])).2.take n)] := by
  unfold fewN
  rw [List.take_take, List.take_take, show min m (k + 1) = k + 1 by omega, show min m k = k by omega, List.take_succ_eq_append_getElem hk, List.map_append, getD_get hk]
  rfl
theorem fewN_no {m n : Nat} {l : List Seg} {k : Nat} (h : ¬ k < m) : fewN m n (l.take (k + 1)) = fewN m n (l.take k) := by
  unfold fewN
  rw [List.take_take, List.take_take, show min m (k + 1) = m by omega, show min m k = m by omega]
theorem fewN_len (m n : Nat) (l : List Seg) : (fewN m n l).length ≤ m := by unfold fewN; rw [List.length_map, List.length_take]; omega
theorem fewN_len2 {m n : Nat} {l : List Seg} {k : Nat} (hk : k ≤ l.length) (h : k ≤ m) : (fewN m n (l.take k)).length = k := by unfold fewN; rw [List.length_map, List.length_take, List.length_take]; omega
theorem fewN_num {m n : Nat} {l : List Seg} {s : Seg} (h : s ∈ fewN m n l) : s.2.length ≤ n := by
  unfold fewN at h
  obtain ⟨t, _, rfl⟩ := List.mem_map.1 h
  rw [List.length_take]; omega

end Go.Proofs.YteofbpdogmajoaaGreatDoor
namespace Go.Proofs.YteofbpdogmajoaaGreatDoor
open Go.RowKit
attribute [local go_sem] Oper.semAt_some

theorem rs_info : (Tryz.prog.info? 156).map (fun i => (i.zero, i.size, i.bytes)) = some (some (.agg #[.int .i64 0, .slice none 0 0]), 2, 32) := by kernel_rfl
theorem u32_info : (Tryz.prog.info? 23).map (fun i => (i.zero, i.size, i.bytes)) = some (some (.int .u32 0), 1, 4) := by kernel_rfl

/-- A kind as the document has it. -/
def ki (b : UInt8) : Value := .int .i64 (b.toNat : Int)
/-- The cells of a document's path of the call's own: each its kind, and a row of its own. -/
def Rrs (w : World) (B : Nat) : List Value → List Seg → Prop
  | [], [] => True
  | a :: v :: xs, c :: l => a = ki c.1 ∧ w.ownsRow B 23 1 v c.2.length (ass c.2) ∧ (∀ n ∈ c.2, n < 4294967296) ∧ Rrs w B xs l
  | _, _ => False
theorem Rrs.kept {w w' : World} {B : Nat} {S : Nat → Prop} (k : Kept S w w') (hs : ∀ g cs, S g → w.heap[g]? ≠ some (.cells cs 23 (0, 0))) : ∀ {xs : List Value} {l : List Seg}, Rrs w B xs l → Rrs w' B xs l
  | [], [], _ => trivial
  | _ :: _ :: _, _ :: _, ⟨h1, h2, h3, h4⟩ => ⟨h1, ow_kept h2 k (fun g hg x => by obtain ⟨cs, hh⟩ := ow_lt h2 hg; exact hs g cs x hh), h3, Rrs.kept k hs h4⟩
  | [], _ :: _, h => h.elim
  | [_], _, h => by unfold Rrs at h; exact h.elim
  | _ :: _ :: _, [], h => by unfold Rrs at h; exact h.elim
theorem Rrs.old {w w' : World} {B : Nat} (k : Kept Nothing w w') {xs : List Value} {l : List Seg} (h : Rrs w B xs l) : Rrs w' B xs l := h.kept k (fun _ _ x => x.elim)
theorem Rrs.snoc {w : World} {B : Nat} {c : Seg} {v : Value} (hv : w.ownsRow B 23 1 v c.2.length (ass c.2)) (hn : ∀ n ∈ c.2, n < 4294967296) : ∀ {xs : List Value} {l : List Seg}, Rrs w B xs l → Rrs w B (xs ++ [ki c.1, v]) (l ++ [c])
  | [], [], _ => ⟨rfl, hv, hn, trivial⟩
  | _ :: _ :: _, _ :: _, ⟨h1, h2, h3, h4⟩ => ⟨h1, h2, h3, Rrs.snoc hv hn h4⟩
  | [], _ :: _, h => h.elim
  | [_], _, h => by unfold Rrs at h; exact h.elim
  | _ :: _ :: _, [], h => by unfold Rrs at h; exact h.elim
theorem Rrs.at {w : World} {B : Nat} : ∀ {xs : List Value} {l : List Seg} (_ : Rrs w B xs l) (i : Nat) (h : i < l.length), xs[i * 2]? = some (ki l[i].1) ∧ ∃ u, xs[i * 2 + 1]? = some u ∧ As w u l[i].2
  | [], [], _, i, h => by simp at h
  | a :: v :: xs, c :: l, ⟨h1, h2, h3, h4⟩, 0, _ => ⟨by simp [h1], v, by simp, As.of_own h2 h3⟩
  | a :: v :: xs, c :: l, ⟨h1, h2, h3, h4⟩, i + 1, h => by
    have := Rrs.at h4 i (by simp at h; omega)
    rw [show (i + 1) * 2 = i * 2 + 1 + 1 from by omega]
    simpa using this
  | [], _ :: _, h, _, _ => h.elim
  | [_], _, h, _, _ => by unfold Rrs at h; exact h.elim
  | _ :: _ :: _, [], h, _, _ => by unfold Rrs at h; exact h.elim
/-- A document's path of the call's own. -/
def Rown (w : World) (B : Nat) (v : Value) (l : List Seg) : Prop := ∃ xs, w.ownsRow B 156 2 v l.length xs ∧ Rrs w B xs l
theorem Rown.rfs {w : World} {B : Nat} {v : Value} {l : List Seg} (h : Rown w B v l) : Rfs w v l := by
  obtain ⟨xs, h, hx⟩ := h
  obtain ⟨A, c, hv0, hn, hm⟩ := ow_form h
  obtain ⟨_, h2⟩ := h
  refine ⟨A, c, hv0, hn, hm, fun h0 => ?_⟩
  rcases h2 with ⟨rfl, h0'⟩ | ⟨g, cap, cur, hv, _, hg, _, _, _, ht⟩
  · omega
  · rw [hv] at hv0
    injection hv0 with hA
    refine ⟨g, 0, hA.symm, fun i hi => ?_⟩
    obtain ⟨h1, u, h2, h3⟩ := hx.at i hi
    have cell : ∀ j, j < l.length * 2 → w.cell? ⟨g, 0 + j, none⟩ = xs[j]? := fun j hj => by
      rw [cell_of_row w g _ cur _ (0, 0) hg, ← ht, List.getElem?_take_of_lt hj, Array.getElem?_toList, Nat.zero_add]
    have e1 := cell (i * 2) (by omega)
    have e2 := cell (i * 2 + 1) (by omega)
    exact ⟨by rw [e1, h1]; rfl, u, by rw [Nat.add_assoc, e2, h2], h3⟩
theorem Rown.old {w w' : World} {B : Nat} {v : Value} {l : List Seg} (h : Rown w B v l) (k : Kept Nothing w w') : Rown w' B v l := by
  obtain ⟨xs, h1, h2⟩ := h
  exact ⟨xs, ow_kept h1 k (fun _ _ x => x), h2.old k⟩
theorem Rown.nil (w : World) (B : Nat) : Rown w B (.slice none 0 0) [] := ⟨[], World.ownsRow_nil _ _ _ _, trivial⟩
/-- A segment put behind. -/
theorem Rrs.push {u1 w9 : World} {B : Nat} {q v8 : Value} {l : List Seg} {c : Seg} {n : Nat} {xs : List Value} (oq : u1.ownsRow B 156 2 q n xs) (hr : Rrs u1 B xs l) (o8 : u1.ownsRow B 23 1 v8 c.2.length (ass c.2)) (hn : ∀ n ∈ c.2, n < 4294967296) (hg : u1.grownBy w9 q.ownBlock) : Rrs w9 B (xs ++ [ki c.1, v8]) (l ++ [c]) := by
  have kg : Kept (fun k => q.ownBlock = some k) u1 w9 := (Kept.refl _ u1).grown hg (fun _ hk _ => hk)
  have hs : ∀ g cs, q.ownBlock = some g → u1.heap[g]? ≠ some (.cells cs 23 (0, 0)) := fun g cs x e => by
    obtain ⟨cs', hh⟩ := ow_lt oq x
    rw [hh] at e
    injection e with e
    injection e with _ e2
    exact absurd e2 (by decide)
  exact (hr.kept kg hs).snoc (ow_kept o8 kg (fun g hg' x => by obtain ⟨cs, hh⟩ := ow_lt o8 hg'; exact hs g cs x hh)) hn

/-- Of's inner loop: what it has made so far. -/
structure OfN (wr : World) (B : Nat) (sk : UInt8) (sn : List Nat) (j : Nat) (nv : Value) (wq : World) : Prop where
  blk : Blk wq (wr.heap.size + 1) 156 #[ki sk, nv]
  own : wq.ownsRow (wr.heap.size + 2) 23 1 nv j (ass (sn.take j))
  kept : Kept Nothing wr wq
theorem OfN.push {wr wq w7 : World} {B : Nat} {sk : UInt8} {sn : List Nat} {j n : Nat} {nv v' : Value} (h : OfN wr B sk sn j nv wq) (hj : j < sn.length) (hn : sn.getD j 0 = n) (ob : Obj)
    (hg : (wq.alloc ob).grownBy w7 nv.ownBlock) (ho : w7.ownsRow (wr.heap.size + 2) 23 1 v' (j + 1) (ass (sn.take j) ++ [.int .u32 (n : Int)])) :
    OfN wr B sk sn (j + 1) v' (w7.setCell ⟨wr.heap.size + 1, 1, none⟩ v') ∧ Blk w7 (wr.heap.size + 1) 156 #[ki sk, nv] := by
  have k0 := (Kept.refl Nothing wq).alloc ob
  have kg : Kept (fun k => nv.ownBlock = some k) (wq.alloc ob) w7 := (Kept.refl _ _).grown hg (fun _ hk _ => hk)
  have o1 := ow_kept h.own k0 (fun _ _ x => x)
  have hb := (h.blk.kept k0 (fun x => x)).kept kg (fun e => by have := (ow_ge o1 e).1; omega)
  have hk := (h.kept.trans k0).own_grown o1 (by omega) hg
  refine ⟨⟨hb.put 1 v', ?_, hk.setCell (p := ⟨wr.heap.size + 1, 1, none⟩) (fun h => absurd h (by simp)) v'⟩, hb⟩
  have e : ass (sn.take (j + 1)) = ass (sn.take j) ++ [.int .u32 (n : Int)] := by
    rw [List.take_succ_eq_append_getElem hj, ass_append, ← getD_get hj (d := 0), hn]
    rfl
  rw [e]
  exact ow_kept ho (Kept.own w7 _ 1 v') (ow_far ho hb (by decide))

set_option maxRecDepth 20000 in
set_option maxHeartbeats 2000000 in
theorem of7 (v : Value) (l : List Seg) (w : World) (h : Pts w v l) (hl : l.length ≤ 1000000) (hn : ∀ s ∈ l, s.2.length ≤ 1000000) :
    Calls Tryz.prog 38 #[v] w fun e w' => ∃ v', e = .returned v' ∧ Rown w' w.heap.size v' l ∧ Kept Nothing w w' := by
  obtain ⟨A, c, rfl, hc, hm⟩ := h.form
  obtain ⟨i0, hi, hz0, hz1, hz2⟩ := info_parts rs_info
  obtain ⟨j0, hj, hy0, hy1, hy2⟩ := info_parts u32_info
  have HV := Lib.hid h
  have HN := Lib.hid hn
  clear h hn
  go_enter Tryz.func38, Tryz.ntmps38
  go_wp2
  go_loopw [3, 11] (fun q i wr => ∃ k : Nat, i = .int .i64 (k : Int) ∧ k ≤ l.length ∧ Hid (Rown wr w.heap.size q (l.take k)) ∧ Kept Nothing w wr) (fun _ i _ => l.length - (intOf i).toNat)
  case atStart => exact ⟨0, rfl, Nat.zero_le _, Lib.hid (Rown.nil _ _), Kept.refl _ _⟩
  case round =>
    obtain ⟨k, rfl, hk, HP, hkk⟩ := hrel
    obtain ⟨u0, hu0⟩ : ∃ u0, u0 = wr := ⟨_, rfl⟩
    subst hu0
    have KK := Lib.hid hkk
    clear hkk
    by_cases hlt : k < l.length
    · obtain ⟨b, o, Au, cu, rfl, p0, p1, hp⟩ := (HV.out.old KK.out).at2 hlt
      have i1 : (0 : Int) ≤ (k : Int) := by omega
      have i2 : (k : Int) < (l.length : Int) := by omega
      have hls : b < u0.heap.size := World.block_lt_of_cell? _ _ p0
      have ET : Hid (l.take (k + 1) = l.take k ++ [l.getD k (0, [])]) := Lib.hid (by rw [List.take_succ_eq_append_getElem hlt, getD_get hlt])
      have hsn : (l.getD k (0, [])).2.length ≤ 1000000 := HN.out _ (by rw [getD_get hlt]; exact List.getElem_mem _)
      have HLK : Hid ((l.take k).length = k) := Lib.hid (by rw [List.length_take]; omega)
      have HAS := Lib.hid hp
      clear hp
      generalize hsg : l.getD k (0, []) = sg at *
      obtain ⟨sk, sn⟩ := sg
      clear hsg
      simp only at p0 p1 hsn
      replace HAS : Hid (As u0 (.slice Au sn.length cu) sn) := HAS
      have HP2 := HP
      obtain ⟨xs, oq, hr⟩ := HP2.out
      rw [HLK.out] at oq
      have OQ := Lib.hid oq
      have HR := Lib.hid hr
      obtain ⟨Aq, cq, rfl, _, _⟩ := ow_form oq
      clear oq hr HP2 HP
      have hsk : IntKind.i64.wrap (sk.toNat : Int) = (sk.toNat : Int) := by have := sk.toNat_lt; rw [IntKind.wrap_i64]; omega
      have HKZ := Lib.hid KK.out.size
      have N0 : Hid (OfN u0 w.heap.size sk sn 0 (.slice none 0 0) ((u0.alloc (.cells #[.int .u8 (sk.toNat : Int), .slice Au sn.length cu] 71)).alloc (.cells #[.int .i64 (sk.toNat : Int), .slice none 0 0] 156))) := Lib.hid ⟨by
          have := Blk.fresh (u0.alloc (.cells #[.int .u8 (sk.toNat : Int), .slice Au sn.length cu] 71)) 156 #[.int .i64 (sk.toNat : Int), .slice none 0 0]
          rw [World.size_alloc] at this
          exact this, by rw [List.take_zero]; exact World.ownsRow_nil _ _ _ _, ((Kept.refl Nothing u0).alloc _).alloc _⟩
      have BX := Lib.hid ((Blk.fresh u0 71 #[.int .u8 (sk.toNat : Int), .slice Au sn.length cu]).alloc (.cells #[.int .i64 (sk.toNat : Int), .slice none 0 0] 156))
      have z1 := BX.out.cell 1
      go_wp2_with fail
      go_loopw [22] (fun i wq => ∃ (j : Nat) (nv : Value), i = .int .i64 (j : Int) ∧ j ≤ sn.length ∧ Hid (OfN u0 w.heap.size sk sn j nv wq)) (fun i _ => sn.length - (intOf i).toNat)
      case atStart => exact ⟨0, _, rfl, Nat.zero_le _, N0⟩
      case round =>
        obtain ⟨j, nv, rfl, hjl, HO⟩ := hrel
        clear N0 z1
        by_cases hjt : j < sn.length
        · obtain ⟨b3, o3, rfl, hc3⟩ := (HAS.out.old HO.out.kept).at (by omega)
          have x0 := hc3 j hjt
          have j1 : (0 : Int) ≤ (j : Int) := by omega
          have j2 : (j : Int) < (sn.length : Int) := by omega
          have hx : sn.getD j 0 < 4294967296 := HAS.out.1 _ (by rw [getD_get hjt]; exact List.getElem_mem _)
          have HX : Hid (∃ n, sn.getD j 0 = n) := Lib.hid ⟨_, rfl⟩
          obtain ⟨Aq3, cq3, rfl, _, _⟩ := ow_form HO.out.own
          have y0 := HO.out.blk.cell 0
          have y1 := HO.out.blk.cell 1
          have hz := HO.out.blk.lt
          have HL6 : Hid (j + 1 ≤ maxLen ∧ (j + 1) * 4 ≤ 140737488355328) := Lib.hid (by unfold maxLen; omega)
          clear hc3
          generalize hxn : sn.getD j 0 = xn at *
          have HXN := Lib.hid hxn
          clear hxn HX
          go_wp2_with (at_builtin; refine wpList_app _ rfl _ _ 30 rfl (u0.heap.size + 2) 23 j0 _ 1 4 Tryz.underlying30 hj hy0 hy1 hy2 rfl (by decide) (.slice Aq3 j cq3) j (ass (sn.take j)) rfl (ow_kept HO.out.own ((Kept.refl Nothing _).alloc _) (fun _ _ x => x)) (some ⟨wr.heap.size, 0, none⟩) 1 1 [.int .u32 (xn : Int)] rfl (src_new wr _ #[.int .u32 (xn : Int)] 1 1 rfl (by simp [Value.oneCell'])) HL6.out.1 HL6.out.2 (by simp; omega) ?_; intro v7 w7 ho7 hg7 _; (have HOP := Lib.hid (HO.out.push hjt HXN.out _ hg7 ho7)); (obtain ⟨A7, c7, rfl, _, _⟩ := ow_form ho7); (have y7 := HOP.out.2.cell 1); (have f7 := HOP.out.2.free 1); clear ho7 hg7)
          go_roundw
          case rel => exact ⟨j + 1, _, by go_num, by omega, Lib.hid HOP.out.1⟩
          case measure => simp [intOf]; omega
        · obtain rfl : j = sn.length := by omega
          have y0 := HO.out.blk.cell 0
          have y1 := HO.out.blk.cell 1
          have HKW := HO.out.kept
          have HF := Lib.hid HAS.out.1
          have HL5 : Hid (k + 1 ≤ maxLen ∧ (k + 1) * 32 ≤ 140737488355328) := Lib.hid (by unfold maxLen; omega)
          have HW := Lib.hid HKW
          have OQ2 := Lib.hid (ow_kept OQ.out HKW (fun _ _ x => x))
          have HR2 := Lib.hid (HR.out.old HKW)
          have ON := Lib.hid HO.out.own
          rw [List.take_of_length_le (Nat.le_refl _)] at ON
          obtain ⟨An, cn, rfl, _, _⟩ := ow_form HO.out.own
          clear HKW HO
          go_wp2_with (at_builtin; refine wpList_app _ rfl _ _ 41 rfl w.heap.size 156 i0 _ 2 32 Tryz.underlying41 hi hz0 hz1 hz2 rfl (by decide) (.slice Aq k cq) k xs rfl (ow_kept OQ2.out ((Kept.refl Nothing _).alloc _) (fun _ _ x => x)) (some ⟨wr.heap.size, 0, none⟩) 1 1 [.int .i64 (sk.toNat : Int), .slice An sn.length cn] rfl (src_new wr _ #[.int .i64 (sk.toNat : Int), .slice An sn.length cn] 2 1 rfl (by simp [Value.oneCell'])) HL5.out.1 HL5.out.2 (by have := HKZ.out; have := HW.out.size; simp; omega) ?_; intro v8 w8 ho8 hg8 _)
          go_roundw
          case rel =>
            have k1 := (Kept.refl Nothing wr).alloc (.cells #[.int .i64 (sk.toNat : Int), .slice An sn.length cn] 156)
            have oq2 := ow_kept OQ2.out k1 (fun _ _ x => x)
            have hP : Rown w8 w.heap.size v8 (l.take (k + 1)) := by
              rw [ET.out]
              refine ⟨xs ++ [ki sk, .slice An sn.length cn], ?_, ?_⟩
              · rw [List.length_append, HLK.out]; exact ho8
              · exact Rrs.push (c := (sk, sn)) oq2 (HR2.out.old k1) (ow_kept (own_weakA ON.out (by have := HKZ.out; omega)) k1 (fun _ _ x => x)) HF.out hg8
            exact ⟨k + 1, by go_num, by omega, Lib.hid hP, (KK.out.trans (HW.out.trans k1)).own_grown oq2 (Nat.le_refl _) hg8⟩
          case measure => simp [intOf]; omega
    · obtain rfl : k = l.length := by omega
      rw [List.take_of_length_le (Nat.le_refl _)] at HP
      go_wp2
      go_ret
      exact ⟨_, rfl, HP.out, KK.out⟩
end Go.Proofs.YteofbpdogmajoaaGreatDoor
namespace Go.Proofs.YteofbpdogmajoaaGreatDoor
open Go.RowKit
attribute [local go_sem] Oper.semAt_some

set_option maxRecDepth 20000 in
set_option maxHeartbeats 2000000 in
theorem few8 (v : Value) (l : List Seg) (w : World) (h : Pts w v l) :
    Calls Tryz.prog 95 #[v] w fun e w' => ∃ v', e = .returned v' ∧ Pown w' w.heap.size v' (fewN 40 300 l) ∧ Kept Nothing w w' := by
  obtain ⟨A, c, rfl, hc, hm⟩ := h.form
  obtain ⟨i0, hi, hz0, hz1, hz2⟩ := info_parts sg_info
  obtain ⟨j0, hj, hy0, hy1, hy2⟩ := info_parts as_info
  have HV := Lib.hid h
  have hL : l.length ≤ 9223372036854775807 := by unfold maxLen at hm; omega
  clear h
  go_enter Tryz.func95, Tryz.ntmps95
  go_wp2
  go_loopw [3, 4] (fun q i wr => ∃ k : Nat, i = .int .i64 (k : Int) ∧ k ≤ l.length ∧ k ≤ 40 ∧ Hid (Pown wr w.heap.size q (fewN 40 300 (l.take k))) ∧ Kept Nothing w wr) (fun _ i _ => l.length - (intOf i).toNat)
  case atStart => exact ⟨0, rfl, Nat.zero_le _, Nat.zero_le _, Lib.hid (Pown.nil _ _), Kept.refl _ _⟩
  case round =>
    obtain ⟨k, rfl, hk, hk40, HP, hkk⟩ := hrel
    have KK := Lib.hid hkk
    clear hkk
    by_cases hlt : k < l.length
    · have i1 : (0 : Int) ≤ (k : Int) := by omega
      have i2 : (k : Int) < (l.length : Int) := by omega
      by_cases h8 : k < 40
      · obtain ⟨b, o, Au, cu, rfl, p0, p1, hp⟩ := (HV.out.old KK.out).at2 hlt
        have hls : b < wr.heap.size := World.block_lt_of_cell? _ _ p0
        have EB := Lib.hid (@fewN_lo 40 300 l k hlt h8)
        have HAS := Lib.hid hp
        have HQ := Lib.hid (fewN_len2 (m := 40) (n := 300) (l := l) (k := k) (by omega) (by omega))
        clear hp
        generalize hsg : l.getD k (0, []) = sg at *
        obtain ⟨sk, sn⟩ := sg
        clear hsg
        simp only at p0 p1
        replace HAS : Hid (As wr (.slice Au sn.length cu) sn) := HAS
        replace EB : Hid (fewN 40 300 (l.take (k + 1)) = fewN 40 300 (l.take k) ++ [(sk, sn.take 300)]) := EB
        have HP2 := HP
        obtain ⟨xs, oq, hr⟩ := HP2.out
        rw [HQ.out] at oq
        have OQ := Lib.hid oq
        have HR := Lib.hid hr
        obtain ⟨Aq, cq, rfl, _, _⟩ := ow_form oq
        clear oq hr HP2 HP
        have h8' : (k : Int) < 40 := by omega
        have hmin : (if (300 : Int) < (sn.length : Int) then (300 : Int) else (sn.length : Int)) = ((min sn.length 300 : Nat) : Int) := by split <;> omega
        have hcu : sn.length ≤ cu ∧ cu ≤ maxLen := by obtain ⟨_, _, e, h1, h2⟩ := HAS.out.form; cases e; exact ⟨h1, h2⟩
        have hsl := slice_toA Au sn.length cu (min sn.length 300) (by omega)
        have HA2 := Lib.hid (HAS.out.pre (m := min sn.length 300) (by omega))
        have hlen : (sn.take 300).length = min sn.length 300 := by rw [List.length_take]; omega
        have htk : sn.take (min sn.length 300) = sn.take 300 := by
          by_cases h : sn.length ≤ 300
          · rw [List.take_of_length_le (by omega), List.take_of_length_le (by omega)]
          · rw [show min sn.length 300 = 300 by omega]
        rw [htk] at HA2
        have KD := Lib.hid ((Kept.refl Nothing wr).drew)
        have HSRC := Lib.hid (HA2.out.old KD.out).src
        rw [hlen] at HSRC
        have hml : min sn.length 300 ≤ 300 := by omega
        have HLEN := Lib.hid hlen
        have HSZ := Lib.hid KK.out.size
        have HL5 : Hid (k + 1 ≤ maxLen ∧ (k + 1) * 32 ≤ 140737488355328) := Lib.hid (by unfold maxLen; omega)
        have HL6 : Hid (0 + min sn.length 300 ≤ maxLen ∧ (0 + min sn.length 300) * 4 ≤ 140737488355328) := Lib.hid (by unfold maxLen; omega)
        have HF := Lib.hid (fun n hn => HAS.out.1 n (List.mem_of_mem_take (i := 300) hn))
        generalize min sn.length 300 = ml at *
        generalize sn.take 300 = vt at *
        have P0 := Lib.hid p0
        have P1 := Lib.hid p1
        clear hlen htk HAS HA2
        go_wp2_with fail
        go_region_held3 (fun w' => w'.cell? ⟨b, o + k * 2, none⟩ = some (.int .u8 (sk.toNat : Int)) ∧ w'.cell? ⟨b, o + k * 2 + 1, none⟩ = some (.slice Au sn.length cu)) (first | exact ⟨P0.out, P1.out⟩ | exact ⟨d0, d1⟩) (first
            | (refine step_app _ (by rfl) _ _ 69 (by rfl) w.heap.size 27 j0 _ 1 4 Tryz.underlying69 hj hy0 hy1 hy2 rfl (by decide) (.slice none 0 0) 0 [] (by rfl) (World.ownsRow_nil _ _ _ _) Au ml cu (ass vt) (by rfl) HSRC.out HL6.out.1 HL6.out.2 HSZ.out ?_; intro v2 w2 ho2 hg2 hat2; (rw [Nat.zero_add, List.nil_append] at ho2); (have k2 := (Kept.refl Nothing _).grown hg2 (fun _ hk _ => by cases hk)); (have O2 := Lib.hid ho2); (have K2 := Lib.hid (KD.out.trans k2)); (have d0 : w2.cell? ⟨b, o + k * 2, none⟩ = some (.int .u8 (sk.toNat : Int)) := K2.out.cell_some P0.out (fun x => x)); (have d1 : w2.cell? ⟨b, o + k * 2 + 1, none⟩ = some (.slice Au sn.length cu) := K2.out.cell_some P1.out (fun x => x)); (obtain ⟨A2, c2, rfl, _, _⟩ := ow_form ho2); clear ho2 hg2 hat2 k2))
        all_goals
          go_wp2_with (at_builtin; refine wpList_app _ rfl _ _ 25 rfl w.heap.size 71 i0 _ 2 32 Tryz.underlying25 hi hz0 hz1 hz2 rfl (by decide) (.slice Aq k cq) k xs rfl (ow_kept OQ.out (K2.out.alloc _) (fun _ _ x => x)) (some ⟨w2.heap.size, 0, none⟩) 1 1 [.int .u8 (sk.toNat : Int), .slice A2 ml c2] rfl (src_new w2 _ #[.int .u8 (sk.toNat : Int), .slice A2 ml c2] 2 1 rfl (by simp [Value.oneCell'])) HL5.out.1 HL5.out.2 (Nat.le_trans HSZ.out ((K2.out.alloc (.cells #[.int .u8 (sk.toNat : Int), .slice A2 ml c2] 71)).size)) ?_; intro v7 w7 ho7 hg7 _)
          go_roundw
          case rel =>
            have k1 := K2.out.alloc (.cells #[.int .u8 (sk.toNat : Int), .slice A2 ml c2] 71)
            have oq2 := ow_kept OQ.out k1 (fun _ _ x => x)
            have hP : Pown w7 w.heap.size v7 (fewN 40 300 (l.take (k + 1))) := by
              rw [EB.out]
              refine ⟨xs ++ [by8 sk, .slice A2 ml c2], ?_, ?_⟩
              · rw [List.length_append, HQ.out]; exact ho7
              · exact Rws.push (c := (sk, vt)) oq2 (HR.out.old k1) (by rw [show (sk, vt).2.length = ml from HLEN.out]; exact ow_kept O2.out ((Kept.refl Nothing w2).alloc _) (fun _ _ x => x)) HF.out hg7
            exact ⟨k + 1, by go_num, by omega, by omega, Lib.hid hP, (KK.out.trans k1).own_grown oq2 (Nat.le_refl _) hg7⟩
          case measure => simp [intOf]; omega
      · obtain rfl : k = 40 := by omega
        have HF : Hid (fewN 40 300 (l.take 40) = fewN 40 300 l) := Lib.hid (by unfold fewN; rw [List.take_take, Nat.min_self])
        rw [HF.out] at HP
        go_wp2
        go_ret
        exact ⟨_, rfl, HP.out, KK.out⟩
    · obtain rfl : k = l.length := by omega
      rw [List.take_of_length_le (Nat.le_refl _)] at HP
      have i3 : ¬ ((l.length : Int)) < (l.length : Int) := by omega
      go_wp2
      go_ret
      exact ⟨_, rfl, HP.out, KK.out⟩
end Go.Proofs.YteofbpdogmajoaaGreatDoor
