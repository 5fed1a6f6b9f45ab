
/-
  Paths: copies in new memory.
-/
import Derived.Test.YteofbpdogmajoaaGreatDoorZg
namespace Go.Proofs.YteofbpdogmajoaaGreatDoor
open Go.RowKit

theorem own_weakA {w : World} {B B' : Nat} {e : TypeId} {size n : Nat} {v : Value} {xs : List Value} (h : w.ownsRow B e size v n xs) (hb : B' ≤ B) : w.ownsRow B' e size v n xs := by
  obtain ⟨h1, h2⟩ := h
  refine ⟨h1, ?_⟩
  rcases h2 with h | ⟨g, cap, cur, e, hg, r⟩
  · exact .inl h
  · exact .inr ⟨g, cap, cur, e, Nat.le_trans hb hg, r⟩
theorem ow_ge {w : World} {base : Nat} {e : TypeId} {size n : Nat} {v : Value} {xs : List Value} (h : w.ownsRow base e size v n xs) {g : Nat} (hg : v.ownBlock = some g) : base ≤ g ∧ g < w.heap.size := by
  obtain ⟨cs, hh⟩ := ow_lt h hg
  refine ⟨?_, (Array.getElem?_eq_some_iff.1 hh).1⟩
  rcases h.2 with ⟨rfl, _⟩ | ⟨g', cap, cur, rfl, hb, _⟩
  · simp [Value.ownBlock] at hg
  · have : g' = g := by simpa [Value.ownBlock] using hg
    omega

set_option maxHeartbeats 800000 in
theorem seg_copied (k : Nat) (A : Option Addr) (n c : Nat) (l : List Nat) (w : World) (h : As w (.slice A n c) l) (hl : l.length ≤ 1099511627776) :
    Calls Tryz.prog 141 #[.agg #[.int .u8 (k : Int), .slice A n c]] w fun e w' => ∃ v', e = .returned (.agg #[.int .u8 (k : Int), v']) ∧ w'.ownsRow w.heap.size 27 1 v' l.length (ass l) ∧ Kept Nothing w w' := by
  have HS := Lib.hid (fun u (hu : Kept Nothing w u) => as_clone _ l u (h.old hu) hl)
  obtain ⟨A', c', hv, _⟩ := h.form
  obtain rfl : n = l.length := by injection hv
  clear h hv
  have k0 := ((Kept.refl Nothing w).alloc (.cells #[.int .u8 (k : Int), .slice A l.length c] 71)).alloc (.cells #[.int .u8 0, .slice none 0 0] 71)
  have b1 := (Blk.fresh w 71 #[.int .u8 (k : Int), .slice A l.length c]).alloc (.cells #[.int .u8 0, .slice none 0 0] 71)
  have b2 := Blk.fresh (w.alloc (.cells #[.int .u8 (k : Int), .slice A l.length c] 71)) 71 #[.int .u8 0, .slice none 0 0]
  rw [World.size_alloc] at b2
  go_enter Tryz.func141, Tryz.ntmps141
  go_upto_region 1 with fail
  obtain ⟨w0, hw0⟩ : ∃ w0, (w.alloc (.cells #[.int .u8 (k : Int), .slice A l.length c] 71)).alloc (.cells #[.int .u8 0, .slice none 0 0] 71) = w0 := ⟨_, rfl⟩
  rw [hw0] at k0 b1 b2 ⊢
  have c0 := b1.cell 0
  have c1 := b1.cell 1
  have HK := Lib.hid k0
  have HB := Lib.hid b2
  have hz : w.heap.size + 1 < w0.heap.size := b2.lt
  clear k0 b1 b2 hw0
  go_region_law (first
    | (go_simp; go_at_call 63; refine (HS.out _ (by exact HK.out.drew)).mono ?_; rintro e w8 ⟨v8, rfl, ho8, hk8⟩; (have b8 := HB.out.kept (((Kept.refl Nothing _).drew).trans hk8) (fun x => x)); (have c8' : w8.cell? ⟨w.heap.size, 0, none⟩ = some (.int .u8 (k : Int)) := hk8.cell_some (p := ⟨w.heap.size, 0, none⟩) c0 (fun x => x)); (have r0 := b8.cell 0); (have r1 := b8.cell 1); (have f0 := b8.free 0); (have f1 := b8.free 1); (have B8 := Lib.hid b8); (have HV8 := Lib.hid ho8); (have HK8 := Lib.hid hk8); (obtain ⟨A8, c8, rfl, _, _⟩ := ow_form ho8); clear ho8 hk8 b8))
  all_goals
    have e0 : ((w8.setCell ⟨w.heap.size + 1, 0, none⟩ (.int .u8 (k : Int))).setCell ⟨w.heap.size + 1, 1, none⟩ (.slice A8 l.length c8)).cell? ⟨w.heap.size + 1, 0, none⟩ = some (.int .u8 (k : Int)) := ((B8.out.put 0 _).put 1 _).cell 0
    have e1 : ((w8.setCell ⟨w.heap.size + 1, 0, none⟩ (.int .u8 (k : Int))).setCell ⟨w.heap.size + 1, 1, none⟩ (.slice A8 l.length c8)).cell? ⟨w.heap.size + 1, 1, none⟩ = some (.slice A8 l.length c8) := ((B8.out.put 0 _).put 1 _).cell 1
    go_wp2
    refine bodyPost_ret (v := .agg #[.int .u8 (k : Int), .slice A8 l.length c8]) (by simp [results, Tryz.results141, go_sem, e0, e1]) rfl ⟨_, rfl, ?_, ?_⟩
    · refine own_weakA (ow_kept HV8.out ((Kept.own w8 (w.heap.size + 1) 0 (.int .u8 (k : Int))).trans (Kept.own _ (w.heap.size + 1) 1 (.slice A8 l.length c8))) (ow_far HV8.out B8.out (by decide))) (HK.out.drew).size
    · exact (((HK.out.drew).trans HK8.out).setCell (p := ⟨w.heap.size + 1, 0, none⟩) (fun h => absurd h (by simp)) _).setCell (p := ⟨w.heap.size + 1, 1, none⟩) (fun h => absurd h (by simp)) _

/-- The cells of a path's copy: each its kind, and a row of its own. -/
def Rws (w : World) (B : Nat) : List Value → List Seg → Prop
  | [], [] => True
  | a :: v :: xs, c :: l => a = by8 c.1 ∧ w.ownsRow B 27 1 v c.2.length (ass c.2) ∧ (∀ n ∈ c.2, n < 4294967296) ∧ Rws w B xs l
  | _, _ => False
theorem Rws.kept {w w' : World} {B : Nat} {S : Nat → Prop} (k : Kept S w w') (hs : ∀ g cs, S g → w.heap[g]? ≠ some (.cells cs 27 (0, 0))) : ∀ {xs : List Value} {l : List Seg}, Rws w B xs l → Rws w' B xs l
  | [], [], _ => trivial
  | _ :: _ :: _, _ :: _, ⟨h1, h2, h3, h4⟩ => ⟨h1, ow_kept h2 k (fun g hg x => by obtain ⟨cs, hh⟩ := ow_lt h2 hg; exact hs g cs x hh), h3, Rws.kept k hs h4⟩
  | [], _ :: _, h => h.elim
  | [_], _, h => by unfold Rws at h; exact h.elim
  | _ :: _ :: _, [], h => by unfold Rws at h; exact h.elim
theorem Rws.old {w w' : World} {B : Nat} (k : Kept Nothing w w') {xs : List Value} {l : List Seg} (h : Rws w B xs l) : Rws w' B xs l := h.kept k (fun _ _ x => x.elim)
theorem Rws.snoc {w : World} {B : Nat} {c : Seg} {v : Value} (hv : w.ownsRow B 27 1 v c.2.length (ass c.2)) (hn : ∀ n ∈ c.2, n < 4294967296) : ∀ {xs : List Value} {l : List Seg}, Rws w B xs l → Rws w B (xs ++ [by8 c.1, v]) (l ++ [c])
  | [], [], _ => ⟨rfl, hv, hn, trivial⟩
  | _ :: _ :: _, _ :: _, ⟨h1, h2, h3, h4⟩ => ⟨h1, h2, h3, Rws.snoc hv hn h4⟩
  | [], _ :: _, h => h.elim
  | [_], _, h => by unfold Rws at h; exact h.elim
  | _ :: _ :: _, [], h => by unfold Rws at h; exact h.elim
theorem Rws.cells {w : World} {B : Nat} : ∀ {xs : List Value} {l : List Seg}, Rws w B xs l → PCells (As w) xs l
  | [], [], _ => trivial
  | _ :: _ :: _, _ :: _, ⟨h1, h2, h3, h4⟩ => ⟨h1, As.of_own h2 h3, Rws.cells h4⟩
  | [], _ :: _, h => h.elim
  | [_], _, h => by unfold Rws at h; exact h.elim
  | _ :: _ :: _, [], h => by unfold Rws at h; exact h.elim
theorem Rws.lt {w : World} {B : Nat} : ∀ {xs : List Value} {l : List Seg}, Rws w B xs l → ∀ u ∈ xs, ∀ g, u.ownBlock = some g → g < w.heap.size
  | [], [], _ => fun u hu => by cases hu
  | a :: v :: xs, _ :: _, ⟨h1, h2, h3, h4⟩ => fun u hu g hg => by
    subst h1
    rcases List.mem_cons.1 hu with rfl | hu
    · simp [by8, Value.ownBlock] at hg
    · rcases List.mem_cons.1 hu with rfl | hu
      · exact (ow_ge h2 hg).2
      · exact Rws.lt h4 u hu g hg
  | [], _ :: _, h => h.elim
  | [_], _, h => by unfold Rws at h; exact h.elim
  | _ :: _ :: _, [], h => by unfold Rws at h; exact h.elim
/-- A path of the call's own: its row, its numbers' rows. -/
def Pown (w : World) (B : Nat) (v : Value) (l : List Seg) : Prop := ∃ xs, w.ownsRow B 71 2 v l.length xs ∧ Rws w B xs l
theorem Pown.pts {w : World} {B : Nat} {v : Value} {l : List Seg} (h : Pown w B v l) : Pts w v l := by
  obtain ⟨xs, h1, h2⟩ := h
  exact Pts.of_own h1 h2.cells
theorem Pown.old {w w' : World} {B : Nat} {v : Value} {l : List Seg} (h : Pown w B v l) (k : Kept Nothing w w') : Pown w' B v l := by
  obtain ⟨xs, h1, h2⟩ := h
  exact ⟨xs, ow_kept h1 k (fun _ _ x => x), h2.old k⟩
theorem Pown.nil (w : World) (B : Nat) : Pown w B (.slice none 0 0) [] := ⟨[], World.ownsRow_nil _ _ _ _, trivial⟩
/-- A segment put behind. -/
theorem Rws.push {u1 w9 : World} {B : Nat} {q v8 : Value} {l : List Seg} {c : Seg} {n : Nat} {xs : List Value} (oq : u1.ownsRow B 71 2 q n xs) (hr : Rws u1 B xs l) (o8 : u1.ownsRow B 27 1 v8 c.2.length (ass c.2)) (hn : ∀ n ∈ c.2, n < 4294967296) (hg : u1.grownBy w9 q.ownBlock) : Rws w9 B (xs ++ [by8 c.1, v8]) (l ++ [c]) := by
  have kg : Kept (fun k => q.ownBlock = some k) u1 w9 := (Kept.refl _ u1).grown hg (fun _ hk _ => hk)
  have hs : ∀ g cs, q.ownBlock = some g → u1.heap[g]? ≠ some (.cells cs 27 (0, 0)) := fun g cs x e => by
    obtain ⟨cs', hh⟩ := ow_lt oq x
    rw [hh] at e
    injection e with e
    injection e with _ e2
    exact absurd e2 (by decide)
  exact (hr.kept kg hs).snoc (ow_kept o8 kg (fun g hg' x => by obtain ⟨cs, hh⟩ := ow_lt o8 hg'; exact hs g cs x hh)) hn
theorem Kept.own_grown {w u1 w9 : World} {B : Nat} {e : TypeId} {size n : Nat} {q : Value} {xs : List Value} (k : Kept Nothing w u1) (oq : u1.ownsRow B e size q n xs) (hB : w.heap.size ≤ B) (hg : u1.grownBy w9 q.ownBlock) : Kept Nothing w w9 :=
  k.grown hg (fun k hk hlt => by have := (ow_ge oq hk).1; omega)

/-- The rows of a path's cells lie in blocks of their own. -/
def Dist (xs : List Value) : Prop := xs.Pairwise fun u v => ∀ g, u.ownBlock = some g → v.ownBlock ≠ some g
theorem Dist.push {w : World} {B : Nat} {xs : List Value} {l : List Seg} (h : Dist xs) (hr : Rws w B xs l) {k v : Value} (hk : k.ownBlock = none) (hv : ∀ g, v.ownBlock = some g → w.heap.size ≤ g) : Dist (xs ++ [k, v]) := by
  refine List.pairwise_append.2 ⟨h, ?_, ?_⟩
  · refine List.pairwise_cons.2 ⟨fun b _ g hg => ?_, List.pairwise_singleton _ _⟩
    rw [hk] at hg; cases hg
  · intro u hu b hb g hg e
    have hlt := hr.lt u hu g hg
    rcases List.mem_cons.1 hb with rfl | hb
    · rw [hk] at e; cases e
    · obtain rfl := List.mem_singleton.1 hb
      have := hv g e
      omega

set_option maxHeartbeats 1600000 in
theorem path_copyD (v : Value) (l : List Seg) (w : World) (h : Pts w v l) (hl : l.length ≤ 1000000) (hn : ∀ s ∈ l, s.2.length ≤ 1000000) :
    Calls Tryz.prog 97 #[v] w fun e w' => ∃ v' xs, e = .returned v' ∧ w'.ownsRow w.heap.size 71 2 v' l.length xs ∧ Rws w' w.heap.size xs l ∧ Dist xs ∧ Kept Nothing w w' := by
  obtain ⟨A, c, rfl, hc, hm⟩ := h.form
  obtain ⟨i0, hi, hz0, hz1, hz2⟩ := info_parts sg_info
  have HV := Lib.hid h
  have HN := Lib.hid hn
  clear h hn
  go_enter Tryz.func97, Tryz.ntmps97
  go_wp2
  go_loopw [3, 8] (fun q i wr => ∃ k : Nat, i = .int .i64 (k : Int) ∧ k ≤ l.length ∧ Hid (∃ xs, wr.ownsRow w.heap.size 71 2 q (l.take k).length xs ∧ Rws wr w.heap.size xs (l.take k) ∧ Dist xs) ∧ Kept Nothing w wr) (fun _ i _ => l.length - (intOf i).toNat)
  case atStart => exact ⟨0, rfl, Nat.zero_le _, Lib.hid ⟨[], World.ownsRow_nil _ _ _ _, trivial, List.Pairwise.nil⟩, Kept.refl _ _⟩
  case round =>
    obtain ⟨k, rfl, hk, HP, hkk⟩ := hrel
    have KK := Lib.hid hkk
    clear hkk
    by_cases hlt : k < l.length
    · obtain ⟨b, o, Au, cu, rfl, p0, p1, hp⟩ := (HV.out.old KK.out).at2 hlt
      have i1 : (0 : Int) ≤ (k : Int) := by omega
      have i2 : (k : Int) < (l.length : Int) := by omega
      have hls : b < wr.heap.size := World.block_lt_of_cell? _ _ p0
      have ET : Hid (l.take (k + 1) = l.take k ++ [l.getD k (0, [])]) := Lib.hid (by rw [List.take_succ_eq_append_getElem hlt, getD_get hlt])
      have hmem : l.getD k (0, []) ∈ l := by rw [getD_get hlt]; exact List.getElem_mem _
      have HS := Lib.hid (fun w' (k' : Kept Nothing wr w') => seg_copied (l.getD k (0, [])).1.toNat _ _ _ (l.getD k (0, [])).2 w' (hp.old k') (by have := HN.out _ hmem; omega))
      have HF := Lib.hid hp.1
      have hlk : (l.take k).length = k := by rw [List.length_take]; omega
      obtain ⟨xs, oq, hr, hdi⟩ := HP.out
      have HDI := Lib.hid hdi
      clear hdi
      rw [hlk] at oq
      have OQ := Lib.hid oq
      have HR := Lib.hid hr
      obtain ⟨Aq, cq, rfl, _, _⟩ := ow_form oq
      clear hp hmem HP oq hr
      generalize hsg : l.getD k (0, []) = sg at *
      obtain ⟨sk, sn⟩ := sg
      clear hsg
      simp only at p0 p1
      replace HS := Lib.hid (show ∀ w', Kept Nothing wr w' → _ from HS.out)
      have HLK := Lib.hid hlk
      clear hlk
      have KA := Lib.hid ((Kept.refl Nothing wr).alloc (.cells #[.int .u8 (sk.toNat : Int), .slice Au sn.length cu] 71))
      have HL5 : Hid (k + 1 ≤ maxLen ∧ (k + 1) * 32 ≤ 140737488355328) := Lib.hid (by unfold maxLen; omega)
      go_wp2_with (first
        | (go_at_call 141; refine (HS.out _ KA.out).mono ?_; rintro e w2 ⟨v2, rfl, o2, k2⟩; (obtain ⟨A2, c2, rfl, _, _⟩ := ow_form o2); (have O2 := Lib.hid o2); (have K2 := Lib.hid ((KA.out.trans k2).alloc (.cells #[.int .u8 (sk.toNat : Int), .slice A2 sn.length c2] 71))); (have K3 := Lib.hid k2); clear o2 k2)
        | (at_builtin; refine wpList_app _ rfl _ _ 25 rfl w.heap.size 71 i0 (.agg #[.int .u8 0, .slice none 0 0]) 2 32 Tryz.underlying25 hi hz0 hz1 hz2 rfl (by decide) (.slice Aq k cq) k xs rfl (ow_kept OQ.out K2.out (fun _ _ x => x)) (some ⟨w2.heap.size, 0, none⟩) 1 1 [.int .u8 (sk.toNat : Int), .slice A2 sn.length c2] rfl (src_new w2 _ #[.int .u8 (sk.toNat : Int), .slice A2 sn.length c2] 2 1 rfl (by simp [Value.oneCell'])) HL5.out.1 HL5.out.2 (by have := (KK.out.trans K2.out).size; exact this) ?_; intro v7 w7 hown7 hg7 _))
      go_roundw
      case rel =>
        have oq2 := ow_kept OQ.out K2.out (fun _ _ x => x)
        have hP : ∃ xs, w7.ownsRow w.heap.size 71 2 v7 (l.take (k + 1)).length xs ∧ Rws w7 w.heap.size xs (l.take (k + 1)) ∧ Dist xs := by
          rw [ET.out]
          refine ⟨xs ++ [by8 sk, .slice A2 sn.length c2], ?_, ?_, HDI.out.push (HR.out.old KA.out) rfl (fun g hg => (ow_ge O2.out hg).1)⟩
          · rw [List.length_append, HLK.out]; exact hown7
          · exact Rws.push (c := (sk, sn)) oq2 (HR.out.old K2.out) (ow_kept (own_weakA O2.out (by have := (KK.out.trans KA.out).size; exact this)) ((Kept.refl Nothing w2).alloc _) (fun _ _ x => x)) HF.out hg7
        exact ⟨k + 1, by go_num, by omega, Lib.hid hP, (KK.out.trans K2.out).own_grown oq2 (Nat.le_refl _) hg7⟩
      case measure => simp [intOf]; omega
    · obtain rfl : k = l.length := by omega
      rw [List.take_of_length_le (Nat.le_refl _)] at HP
      go_wp2
      go_ret
      obtain ⟨xs, h1, h2, h3⟩ := HP.out
      exact ⟨_, xs, rfl, h1, h2, h3, KK.out⟩

set_option maxHeartbeats 1600000 in
theorem path_copy (v : Value) (l : List Seg) (w : World) (h : Pts w v l) (hl : l.length ≤ 1000000) (hn : ∀ s ∈ l, s.2.length ≤ 1000000) :
    Calls Tryz.prog 97 #[v] w fun e w' => ∃ v', e = .returned v' ∧ Pown w' w.heap.size v' l ∧ Kept Nothing w w' := by
  obtain ⟨A, c, rfl, hc, hm⟩ := h.form
  obtain ⟨i0, hi, hz0, hz1, hz2⟩ := info_parts sg_info
  have HV := Lib.hid h
  have HN := Lib.hid hn
  clear h hn
  go_enter Tryz.func97, Tryz.ntmps97
  go_wp2
  go_loopw [3, 8] (fun q i wr => ∃ k : Nat, i = .int .i64 (k : Int) ∧ k ≤ l.length ∧ Hid (Pown wr w.heap.size q (l.take k)) ∧ Kept Nothing w wr) (fun _ i _ => l.length - (intOf i).toNat)
  case atStart => exact ⟨0, rfl, Nat.zero_le _, Lib.hid (Pown.nil _ _), Kept.refl _ _⟩
  case round =>
    obtain ⟨k, rfl, hk, HP, hkk⟩ := hrel
    have KK := Lib.hid hkk
    clear hkk
    by_cases hlt : k < l.length
    · obtain ⟨b, o, Au, cu, rfl, p0, p1, hp⟩ := (HV.out.old KK.out).at2 hlt
      have i1 : (0 : Int) ≤ (k : Int) := by omega
      have i2 : (k : Int) < (l.length : Int) := by omega
      have hls : b < wr.heap.size := World.block_lt_of_cell? _ _ p0
      have ET : Hid (l.take (k + 1) = l.take k ++ [l.getD k (0, [])]) := Lib.hid (by rw [List.take_succ_eq_append_getElem hlt, getD_get hlt])
      have hmem : l.getD k (0, []) ∈ l := by rw [getD_get hlt]; exact List.getElem_mem _
      have HS := Lib.hid (fun w' (k' : Kept Nothing wr w') => seg_copied (l.getD k (0, [])).1.toNat _ _ _ (l.getD k (0, [])).2 w' (hp.old k') (by have := HN.out _ hmem; omega))
      have HF := Lib.hid hp.1
      have hlk : (l.take k).length = k := by rw [List.length_take]; omega
      obtain ⟨xs, oq, hr⟩ := HP.out
      rw [hlk] at oq
      have OQ := Lib.hid oq
      have HR := Lib.hid hr
      obtain ⟨Aq, cq, rfl, _, _⟩ := ow_form oq
      clear hp hmem HP oq hr
      generalize hsg : l.getD k (0, []) = sg at *
      obtain ⟨sk, sn⟩ := sg
      clear hsg
      simp only at p0 p1
      replace HS := Lib.hid (show ∀ w', Kept Nothing wr w' → _ from HS.out)
      have HLK := Lib.hid hlk
      clear hlk
      have KA := Lib.hid ((Kept.refl Nothing wr).alloc (.cells #[.int .u8 (sk.toNat : Int), .slice Au sn.length cu] 71))
      have HL5 : Hid (k + 1 ≤ maxLen ∧ (k + 1) * 32 ≤ 140737488355328) := Lib.hid (by unfold maxLen; omega)
      go_wp2_with (first
        | (go_at_call 141; refine (HS.out _ KA.out).mono ?_; rintro e w2 ⟨v2, rfl, o2, k2⟩; (obtain ⟨A2, c2, rfl, _, _⟩ := ow_form o2); (have O2 := Lib.hid o2); (have K2 := Lib.hid ((KA.out.trans k2).alloc (.cells #[.int .u8 (sk.toNat : Int), .slice A2 sn.length c2] 71))); (have K3 := Lib.hid k2); clear o2 k2)
        | (at_builtin; refine wpList_app _ rfl _ _ 25 rfl w.heap.size 71 i0 (.agg #[.int .u8 0, .slice none 0 0]) 2 32 Tryz.underlying25 hi hz0 hz1 hz2 rfl (by decide) (.slice Aq k cq) k xs rfl (ow_kept OQ.out K2.out (fun _ _ x => x)) (some ⟨w2.heap.size, 0, none⟩) 1 1 [.int .u8 (sk.toNat : Int), .slice A2 sn.length c2] rfl (src_new w2 _ #[.int .u8 (sk.toNat : Int), .slice A2 sn.length c2] 2 1 rfl (by simp [Value.oneCell'])) HL5.out.1 HL5.out.2 (by have := (KK.out.trans K2.out).size; exact this) ?_; intro v7 w7 hown7 hg7 _))
      go_roundw
      case rel =>
        have oq2 := ow_kept OQ.out K2.out (fun _ _ x => x)
        have hP : Pown w7 w.heap.size v7 (l.take (k + 1)) := by
          rw [ET.out]
          refine ⟨xs ++ [by8 sk, .slice A2 sn.length c2], ?_, ?_⟩
          · rw [List.length_append, HLK.out]; exact hown7
          · exact Rws.push (c := (sk, sn)) oq2 (HR.out.old K2.out) (ow_kept (own_weakA O2.out (by have := (KK.out.trans KA.out).size; exact this)) ((Kept.refl Nothing w2).alloc _) (fun _ _ x => x)) HF.out hg7
        exact ⟨k + 1, by go_num, by omega, Lib.hid hP, (KK.out.trans K2.out).own_grown oq2 (Nat.le_refl _) hg7⟩
      case measure => simp [intOf]; omega
    · obtain rfl : k = l.length := by omega
      rw [List.take_of_length_le (Nat.le_refl _)] at HP
      go_wp2
      go_ret
      exact ⟨_, rfl, HP.out, KK.out⟩
end Go.Proofs.YteofbpdogmajoaaGreatDoor
