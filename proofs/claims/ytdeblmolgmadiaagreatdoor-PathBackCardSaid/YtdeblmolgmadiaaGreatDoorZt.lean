
/-
  PathBack: what the law asks, plainly; its loop.
-/
import Derived.Test.YtdeblmolgmadiaaGreatDoorJp
import Derived.Test.YtdeblmolgmadiaaGreatDoorZj
import Derived.Test.YtdeblmolgmadiaaGreatDoorKa
import Derived.Test.YtdeblmolgmadiaaGreatDoorNb
import Derived.Test.YtdeblmolgmadiaaGreatDoorJd
import Derived.Test.YtdeblmolgmadiaaGreatDoorJt
import Derived.Deep.RegionHeld3
import Derived.Test.YtdeblmolgmadiaaGreatDoorZn
import Derived.Test.YtdeblmolgmadiaaGreatDoorJi
import Derived.Test.YtdeblmolgmadiaaGreatDoorJh
namespace Go.Proofs.YtdeblmolgmadiaaGreatDoor
open Go.RowKit

section
variable {P : Program} (w : World)
/-- As run_app; and what the elder value reads stays. -/
theorem run_app2 (base : Nat) (t ty e : TypeId) (i : TypeInfo) (z : Value) (size bytes : Nat) (ht : P.underlying t = some (.slice e)) (hi : P.info? e = some i) (hz : i.zero = some z)
    (hsize : i.size = size) (hby : i.bytes = bytes) (hzs : z.cells.size = size) (hsz : 0 < size)
    (v : Value) (n : Nat) (xs : List Value) (hown : w.ownsRow base e size v n xs)
    (A : Option Addr) (m c : Nat) (news : List Value) (hs : Src w size A m news)
    (h63 : n + m ≤ maxLen) (hbytes : (n + m) * bytes ≤ 140737488355328) (hbase : base ≤ w.heap.size) :
    ∃ v' w', (Builtin.append_ #[t, t] ty #[v, .slice A m c]).run P w = .ok v' w' ∧ w'.ownsRow base e size v' (n + m) (xs ++ news) ∧ w.grownBy w' v.ownBlock ∧
      (v'.ownBlock = v.ownBlock ∨ v'.ownBlock = some w.heap.size) ∧ (∀ g, v.ownBlock = some g → ∀ j u, xs[j]? = some u → w'.cell? ((⟨g, 0, none⟩ : Addr).add j) = some u) := by
  obtain ⟨v', w', hr, h2, h3, h4⟩ := run_app (P := P) w base t ty e i z size bytes ht hi hz hsize hby hzs hsz v n xs hown A m c news hs h63 hbytes hbase
  refine ⟨v', w', hr, h2, h3, h4, ?_⟩
  intro g hg j u hu
  have same : v'.ownBlock = some g → w'.cell? ((⟨g, 0, none⟩ : Addr).add j) = some u := fun e => h2.cells e j u (by
    rw [List.getElem?_append_left (List.getElem?_eq_some_iff.1 hu).1]; exact hu)
  have hlt := (hown.lt g hg).2
  rcases h4 with h4 | h4
  · exact same (h4.trans hg)
  · obtain ⟨h1, hn2, hn3, hn4⟩ := hs
    rcases hown.2 with ⟨rfl, rfl⟩ | ⟨g', cap, cur, rfl, hbg, hgg, hnc, hcm, hcs, htake⟩
    · simp [Value.ownBlock] at hg
    · obtain rfl : g' = g := by simpa [Value.ownBlock] using hg
      subst hsize hby
      cases A with
      | none =>
        obtain rfl : m = 0 := hn2 rfl
        exfalso
        have : (Builtin.append_ #[t, t] ty #[.slice (some ⟨g', 0, none⟩) n cap, .slice none 0 c]).run P w = .ok (.slice (some ⟨g', 0, none⟩) n cap) w := by
          simp [Builtin.append_, run_underlying ht, sizeOf, typeInfo, hi, Builtin.lenOf, Builtin.firstCells, hnc, storeCells]
        rw [this] at hr
        injection hr with e1 e2
        rw [← e1] at h4
        simp [Value.ownBlock] at h4
        omega
      | some a =>
        by_cases hroom : n + m ≤ cap
        · exfalso
          have hfit : n * i.size + news.length ≤ cur.size := by rw [h1, hcs, ← Nat.add_mul]; exact Nat.mul_le_mul_right _ hroom
          have hr2 := run_append_room (P := P) w t ty e i ht hi g' n cap cur hgg a m c news h1 (hn3 a rfl) hn4 hroom hfit
          rw [hr2] at hr
          injection hr with e1 e2
          rw [← e1] at h4
          simp [Value.ownBlock] at h4
          omega
        · have hsmall : n + m ≤ 9223372036854775807 := by simp only [maxLen] at h63; omega
          have hr2 := run_append_grow (P := P) w t ty e i z ht hi hz ⟨g', 0, none⟩ n cap xs hown.1 (hown.cells rfl) a m c news h1 (hn3 a rfl) (by omega) (by omega) (growslice_fits (by omega) hbytes)
          rw [hr2] at hr
          injection hr with e1 e2
          rw [← e2]
          exact Go.Lib.cell?_alloc_some _ (hown.cells rfl j u hu)
theorem wp_app2 {o : Oper} {a : Act} {K : Act → World → Prop} {Q : Exit → Act → World → Prop} (s x : Operand) (t : TypeId)
    (ho : o.op = .call { callee := .builtin .append, args := #[s, x], argTypes := #[t, t] })
    (base : Nat) (e : TypeId) (i : TypeInfo) (z : Value) (size bytes : Nat) (ht : P.underlying t = some (.slice e)) (hi : P.info? e = some i) (hz : i.zero = some z)
    (hsize : i.size = size) (hby : i.bytes = bytes) (hzs : z.cells.size = size) (hsz : 0 < size)
    (v : Value) (n : Nat) (xs : List Value) (hv : a.eval s = v) (hown : w.ownsRow base e size v n xs)
    (A : Option Addr) (m c : Nat) (news : List Value) (hx : a.eval x = .slice A m c) (hs : Src w size A m news)
    (h63 : n + m ≤ maxLen) (hbytes : (n + m) * bytes ≤ 140737488355328) (hbase : base ≤ w.heap.size)
    (h : ∀ v' w', w'.ownsRow base e size v' (n + m) (xs ++ news) → w.grownBy w' v.ownBlock → (∀ g, v.ownBlock = some g → ∀ j u, xs[j]? = some u → w'.cell? ((⟨g, 0, none⟩ : Addr).add j) = some u) → K (a.put o.dst v') w') : o.wp P a w K Q := by
  obtain ⟨v', w', hr, h2, h3, h4, h5⟩ := run_app2 (P := P) w base t o.type e i z size bytes ht hi hz hsize hby hzs hsz v n xs hown A m c news hs h63 hbytes hbase
  unfold Oper.wp execOp
  simp only [ho, resolve, invoke, builtin, Sem.run_bind, Sem.run_pure, Result.andThen_ok, List.map_toArray, List.map_cons, List.map_nil, hv, hx, hr]
  exact h v' w' h2 h3 h5
/-- At a plain region's list, the operation guarded or not. -/
theorem wpList_app2 {ops : Array Oper} {rest : List Oper} {o : Oper} {a : Act} {Q : Exit → Act → World → Prop} (hw : Region.wanted o (yielded ops a.tmps) = true) (s x : Operand) (t : TypeId)
    (ho : o.op = .call { callee := .builtin .append, args := #[s, x], argTypes := #[t, t] })
    (base : Nat) (e : TypeId) (i : TypeInfo) (z : Value) (size bytes : Nat) (ht : P.underlying t = some (.slice e)) (hi : P.info? e = some i) (hz : i.zero = some z)
    (hsize : i.size = size) (hby : i.bytes = bytes) (hzs : z.cells.size = size) (hsz : 0 < size)
    (v : Value) (n : Nat) (xs : List Value) (hv : a.eval s = v) (hown : w.ownsRow base e size v n xs)
    (A : Option Addr) (m c : Nat) (news : List Value) (hx : a.eval x = .slice A m c) (hs : Src w size A m news)
    (h63 : n + m ≤ maxLen) (hbytes : (n + m) * bytes ≤ 140737488355328) (hbase : base ≤ w.heap.size)
    (h : ∀ v' w', w'.ownsRow base e size v' (n + m) (xs ++ news) → w.grownBy w' v.ownBlock → (∀ g, v.ownBlock = some g → ∀ j u, xs[j]? = some u → w'.cell? ((⟨g, 0, none⟩ : Addr).add j) = some u) → wpList P ops Q rest (a.put o.dst v') w') : wpList P ops Q (o :: rest) a w :=
  wpList_step fun K hK => by
    rw [if_pos hw]
    exact wp_app2 w s x t ho base e i z size bytes ht hi hz hsize hby hzs hsz v n xs hv hown A m c news hx hs h63 hbytes hbase fun v' w' h2 h3 h4 => hK _ _ (h v' w' h2 h3 h4)
end

/-- A row of bytes of the call's own, read behind such an append. -/
theorem bs_elder {w w' : World} {base n c : Nat} {A : Option Addr} {l : List UInt8} (h : w.ownsRow base 5 1 (.slice A l.length c) l.length (bys l)) (hn : n = l.length)
    (hc : ∀ g, (Value.slice A n c).ownBlock = some g → ∀ j u, (bys l)[j]? = some u → w'.cell? ((⟨g, 0, none⟩ : Addr).add j) = some u) : By w' (.slice A n c) l := by
  subst hn
  obtain ⟨A', c', e, h1, h2, s1, s2, s3, s4⟩ := (Bs.of_own h).by
  injection e with e1 _ e3
  subst e1 e3
  refine ⟨A, c, rfl, h1, h2, s1, s2, fun a ha j u hu => ?_, s4⟩
  rcases h.2 with ⟨e1, _⟩ | ⟨g, cap, cur, e1, _⟩
  · rw [ha] at e1; injection e1 with e1; cases e1
  · injection e1 with e1
    rw [ha] at e1
    injection e1 with e1
    subst e1
    exact hc g (by rw [ha]; rfl) j u hu
theorem Rws.join {w : World} {B : Nat} {ys : List Value} {m : List Seg} (hm : Rws w B ys m) : ∀ {xs : List Value} {l : List Seg}, Rws w B xs l → Rws w B (xs ++ ys) (l ++ m)
  | [], [], _ => hm
  | _ :: _ :: _, _ :: _, ⟨h1, h2, h3, h4⟩ => ⟨h1, h2, h3, Rws.join hm h4⟩
  | [], _ :: _, h => h.elim
  | [_], _, h => by unfold Rws at h; exact h.elim
  | _ :: _ :: _, [], h => by unfold Rws at h; exact h.elim
theorem Rws.one {w : World} {B : Nat} : ∀ {xs : List Value} {l : List Seg}, Rws w B xs l → ∀ u ∈ xs, u.oneCell' = true
  | [], [], _ => fun u hu => by cases hu
  | a :: v :: xs, _ :: _, ⟨h1, h2, h3, h4⟩ => fun u hu => by
    obtain ⟨A, c, rfl, _, _⟩ := ow_form h2
    subst h1
    rcases List.mem_cons.1 hu with rfl | hu
    · rfl
    · rcases List.mem_cons.1 hu with rfl | hu
      · rfl
      · exact Rws.one h4 u hu
  | [], _ :: _, h => h.elim
  | [_], _, h => by unfold Rws at h; exact h.elim
  | _ :: _ :: _, [], h => by unfold Rws at h; exact h.elim
theorem Rws.weak {w : World} {B B' : Nat} (hb : B' ≤ B) : ∀ {xs : List Value} {l : List Seg}, Rws w B xs l → Rws w B' xs l
  | [], [], _ => trivial
  | _ :: _ :: _, _ :: _, ⟨h1, h2, h3, h4⟩ => ⟨h1, own_weakA h2 hb, h3, Rws.weak hb h4⟩
  | [], _ :: _, h => h.elim
  | [_], _, h => by unfold Rws at h; exact h.elim
  | _ :: _ :: _, [], h => by unfold Rws at h; exact h.elim
theorem Pown.weak {w : World} {B B' : Nat} {v : Value} {l : List Seg} (h : Pown w B v l) (hb : B' ≤ B) : Pown w B' v l := by
  obtain ⟨xs, h1, h2⟩ := h
  exact ⟨xs, own_weakA h1 hb, h2.weak hb⟩
theorem src_own {w : World} {base : Nat} {e : TypeId} {size n c : Nat} {A : Option Addr} {xs : List Value} (h : w.ownsRow base e size (.slice A n c) n xs) (h1 : ∀ u ∈ xs, u.oneCell' = true) : Src w size A n xs := by
  refine ⟨h.1, ?_, ?_, h1⟩
  · intro hA
    rcases h.2 with ⟨_, h0⟩ | ⟨g, cap, cur, e1, _⟩
    · exact h0
    · rw [hA] at e1; injection e1 with e1; cases e1
  · intro a ha j u hu
    rcases h.2 with ⟨_, h0⟩ | ⟨g, cap, cur, e1, _⟩
    · exfalso
      have := h.1
      rw [h0, Nat.zero_mul] at this
      rw [List.eq_nil_of_length_eq_zero this] at hu
      simp at hu
    · injection e1 with e2
      rw [ha] at e2
      injection e2 with e2
      subst e2
      exact h.cells (by rw [ha]; rfl) j u hu
/-- A path's row put behind a path's row. -/
theorem Pown.cat {w w' : World} {B : Nat} {p v' : Value} {l m : List Seg} {xs ys : List Value} (op : w.ownsRow B 96 2 p l.length xs) (hp : Rws w B xs l) (hq : Rws w B ys m) (hg : w.grownBy w' p.ownBlock)
    (ho : w'.ownsRow B 96 2 v' (l.length + m.length) (xs ++ ys)) : Pown w' B v' (l ++ m) := by
  have kg : Kept (fun k => p.ownBlock = some k) w w' := (Kept.refl _ w).grown hg (fun _ hk _ => hk)
  have hs : ∀ g cs, p.ownBlock = some g → w.heap[g]? ≠ some (.cells cs 54 (0, 0)) := fun g cs x e => by
    obtain ⟨cs', hh⟩ := ow_lt op x
    rw [hh] at e
    injection e with e
    injection e with _ e2
    exact absurd e2 (by decide)
  exact ⟨xs ++ ys, by rw [List.length_append]; exact ho, (hq.kept kg hs).join (hp.kept kg hs)⟩

theorem brF_may (l m : List Seg) : Pt.may (brF l ++ brF m) = true := by
  unfold Pt.may
  rw [Bool.and_eq_true]
  refine ⟨List.all_eq_true.2 fun s hs => ?_, by
    have := brF_len l; have := brF_len m
    rw [decide_eq_true_eq, List.length_append]; omega⟩
  obtain ⟨h1, h2, h3, h4⟩ : s.2.length ≤ 40 ∧ s.2 ≠ [] ∧ 1 ≤ s.1.toNat ∧ s.1.toNat ≤ 4 := (List.mem_append.1 hs).elim brF_num brF_num
  have := List.length_pos_iff.2 h2
  unfold Pt.may1
  simp
  refine ⟨⟨⟨?_, ?_⟩, ?_⟩, ?_⟩ <;> first | omega | (rw [UInt8.le_iff_toNat_le]; simpa using h3) | (rw [UInt8.le_iff_toNat_le]; simpa using h4)
theorem brF_may1 (l : List Seg) : Pt.may (brF l) = true := by
  have := brF_may l []
  rwa [brF_nil, List.append_nil] at this
theorem bytes_of_may {l : List Seg} (h : Pt.may l = true) : Pt.bytes l true = (Pt.form true l, 0) := by
  unfold Pt.bytes
  rw [if_neg (by rw [h]; simp), if_neg (by simp)]
end Go.Proofs.YtdeblmolgmadiaaGreatDoor
namespace Go.Proofs.YtdeblmolgmadiaaGreatDoor
open Go.RowKit Go.Sort

theorem fmtu_in1 (u : Nat) (hu : u < 4294967296) (w : World) (hr : Rdy w) :
    Calls Tryz.prog 175 #[.int .u64 (u : Int), .int .i64 10] w fun e w' => e = .returned (.string ⟨(Lib.decDigits u).toArray⟩) ∧ Kept Nothing w w' := by
  by_cases hi : u < 100
  · have hi2 : (u : Int) < 100 := by omega
    go_enter Tryz.func175, Tryz.ntmps175
    go_wp2_with (go_at_call 187; refine (Tryz.internal_strconv_small u hi _).mono ?_; rintro e w' ⟨rfl, rfl⟩)
    go_ret
    exact ⟨rfl, Kept.refl _ _⟩
  · have hi2 : (100 : Int) ≤ (u : Int) := by omega
    have hu1 : 1 ≤ u := by omega
    have hu64 : u < 18446744073709551616 := by omega
    have hnd20 : Lib.nDigits u ≤ 20 := by have := Lib.numDigits_eq u hu1 hu64; split at this <;> omega
    have hal : Tryz.prog.arrayLen 250 = 24 := by kernel_rfl
    have hsl : ∀ W, (Instr.sliceAt 250 (.pointer (some ⟨w.heap.size, 0, none⟩)) none (some (.int .i64 (Lib.nDigits u : Int))) none).run Tryz.prog W = .ok (.slice (some ⟨w.heap.size, 0, none⟩) (Lib.nDigits u) 24) W := fun W => by
      rw [run_sliceAt_array_h W 250 ⟨w.heap.size, 0, none⟩ (by kernel_rfl) .i64 (Lib.nDigits u : Int) (by omega) (by rw [hal]; omega)]
      go_simp
    have hH0 := Lib.holds_zero0 w 250 (Lib.nDigits u) (by omega)
    have hfmt := Tryz.internal_strconv_formatBase10 w.heap.size 0 24 u (Array.replicate (Lib.nDigits u) 0) (w.alloc (.cells Lib.zeros24 250)) hH0 (by rw [Array.size_replicate]; exact Lib.lt_pow_nDigits u) hu64 (by rw [Array.size_replicate]; omega)
    rw [Array.size_replicate] at hfmt
    have HH0 := Lib.hid hH0
    have HF := Lib.hid hfmt
    have htab := Lib.hid hr
    clear hH0 hal hfmt hr
    go_enter Tryz.func175, Tryz.ntmps175
    go_wp2_with (first
      | (go_at_call 188; refine (Tryz.internal_strconv_numDigits u hu1 hu64 _ (Lib.tabIs_alloc htab.out _)).mono ?_; rintro e w' ⟨rfl, rfl⟩))
    go_at_call 189
    refine (HF.out).mono ?_
    rintro e w' ⟨rfl, k, v', dk, rfl, hF⟩
    have hcv : (convert 28 9 (.slice (some ⟨w.heap.size, 0, none⟩) (Lib.nDigits u) 24)).run Tryz.prog ((putRow (fun (b : UInt8) => Value.int .u8 (b.toNat : Int)) (w.alloc (.cells Lib.zeros24 250)) w.heap.size 0 dk).drewN k) = .ok (.string ⟨(Lib.decDigits u).toArray⟩) ((putRow (fun (b : UInt8) => Value.int .u8 (b.toNat : Int)) (w.alloc (.cells Lib.zeros24 250)) w.heap.size 0 dk).drewN k) := by
      have h := run_convert_bytes_back (P := Tryz.prog) ((putRow (fun (b : UInt8) => Value.int .u8 (b.toNat : Int)) (w.alloc (.cells Lib.zeros24 250)) w.heap.size 0 dk).drewN k) 28 9 5 ⟨w.heap.size, 0, none⟩ 24 (Lib.decDigits u) Tryz.underlying28 Tryz.underlying5 Tryz.underlying9 (fun j hj => by
        rw [Lib.row_is_numeral hF j hj, Lib.add_plain, World.cell?_drewN]
        exact cell?_putRow (fun (b : UInt8) => Value.int .u8 (b.toNat : Int)) _ w.heap.size 0 _ dk HH0.out (by rw [hF.size, Array.size_replicate]) j (by rw [hF.size]; rw [Lib.decDigits_length] at hj; exact hj))
      rw [Lib.decDigits_length] at h
      exact h
    go_wp2
    go_ret
    obtain ⟨os, eo⟩ := Lib.fin_at w (.cells Lib.zeros24 250) dk k 0
    exact ⟨rfl, by rw [eo]; exact kept_grow w k os⟩
theorem fmtu_any1 (u : Nat) (hu : u < 4294967296) (w : World) (hr : Rdy w) :
    Calls Tryz.prog 148 #[.int .u64 (u : Int), .int .i64 10] w fun e w' => e = .returned (.string ⟨(Lib.decDigits u).toArray⟩) ∧ Kept Nothing w w' := by
  go_enter Tryz.func148, Tryz.ntmps148
  go_wp2_with (go_at_call 175; refine (fmtu_in1 u hu _ hr).mono ?_; rintro e w1 ⟨rfl, hk⟩)
  go_ret
  exact ⟨rfl, hk⟩
theorem text_any1 (u : Nat) (hu : u < 4294967296) (w : World) (hr : Rdy w) :
    Calls Tryz.prog 106 #[.int .u32 (u : Int)] w fun e w' => e = .returned (.string ⟨(Lib.decDigits u).toArray⟩) ∧ Kept Nothing w w' := by
  go_enter Tryz.func106, Tryz.ntmps106
  go_wp2_with (go_at_call 148; refine (fmtu_any1 u hu _ hr).mono ?_; rintro e w1 ⟨rfl, hk⟩)
  go_ret
  exact ⟨rfl, hk⟩
theorem st_info : (Tryz.prog.info? 9).map (fun i => (i.zero, i.size, i.bytes)) = some (some (.string ⟨#[]⟩), 1, 16) := by kernel_rfl
/-- Texts as the model has them. -/
def sts (l : List (List UInt8)) : List Value := l.map str
theorem sts_append (a b : List (List UInt8)) : sts (a ++ b) = sts a ++ sts b := List.map_append
theorem length_sts (l : List (List UInt8)) : (sts l).length = l.length := List.length_map _

set_option maxRecDepth 20000 in
set_option maxHeartbeats 2000000 in
theorem seg_text (sk : UInt8) (sn : List Nat) (A : Option Addr) (c : Nat) (w : World) (hr : Rdy w) (hs : Bkt w) (h : As w (.slice A sn.length c) sn) (hk1 : 1 ≤ sk.toNat) (hk4 : sk.toNat ≤ 4) (hne : sn ≠ []) (hl : sn.length ≤ 1000) :
    Calls Tryz.prog 54 #[.agg #[.int .u8 (sk.toNat : Int), .slice A sn.length c]] w fun e w' => e = .returned (.string ⟨(Pt.segT (sk, sn)).toArray⟩) ∧ Kept Nothing w w' := by
  obtain ⟨i0, hi, hz0, hz1, hz2⟩ := info_parts st_info
  have HSEG : Hid (Pt.segT (sk, sn) = Pt.opens sk.toNat ++ Lib.join (sn.map Lib.decDigits) (Pt.betw sk.toNat) ++ Pt.ends sk.toNat) := Lib.hid rfl
  have HBC := Lib.hid (fun w1 (k1 : Kept Nothing w w1) => show w1.cell? ⟨1, sk.toNat * 3, none⟩ = some (.string ⟨(Pt.opens sk.toNat).toArray⟩) ∧ w1.cell? ⟨1, sk.toNat * 3 + 1, none⟩ = some (.string ⟨(Pt.betw sk.toNat).toArray⟩) ∧ w1.cell? ⟨1, sk.toNat * 3 + 2, none⟩ = some (.string ⟨(Pt.ends sk.toNat).toArray⟩) from by
    have hb := hs.kept k1
    have hc := bk_cells sk.toNat (by omega)
    exact ⟨by rw [hb.cell]; exact hc.1, by rw [hb.cell]; exact hc.2.1, by rw [hb.cell]; exact hc.2.2⟩)
  have HJL := Lib.hid (Pt.join_len sk.toNat sn h.1)
  have hol := Pt.opens_len sk.toNat
  have hbl := Pt.betw_len sk.toNat
  have hel := Pt.ends_len sk.toNat
  have HR := Lib.hid hr
  have HV := Lib.hid h
  have hki : (sk.toNat : Int) < 5 := by omega
  have hk0i : (0 : Int) ≤ (sk.toNat : Int) := by omega
  have hpos : 0 < sn.length := List.length_pos_iff.2 hne
  generalize Pt.segT (sk, sn) = sg at *
  generalize Pt.opens sk.toNat = op at *
  generalize Pt.betw sk.toNat = bt at *
  generalize Pt.ends sk.toNat = en at *
  generalize sk.toNat = kn at *
  clear h hr hs hne
  go_enter Tryz.func54, Tryz.ntmps54
  go_upto_region 1 with fail
  have b1 := Blk.fresh w 96 #[.int .u8 (kn : Int), .slice A sn.length c]
  have k1 := (Kept.refl Nothing w).alloc (.cells #[.int .u8 (kn : Int), .slice A sn.length c] 96)
  generalize w.alloc (.cells #[.int .u8 (kn : Int), .slice A sn.length c] 96) = w1 at b1 k1 ⊢
  have hbz1 := b1.lt
  have c1 := b1.cell 1
  have B1 := Lib.hid b1
  have K1 := Lib.hid k1
  clear b1 k1
  go_upto_region 3 with fail
  go_loopw [3, 10] (fun q i wr => ∃ k : Nat, i = .int .i64 (k : Int) ∧ k ≤ sn.length ∧ Hid (wr.ownsRow w1.heap.size 9 1 q k (sts ((sn.take k).map Lib.decDigits))) ∧ Kept Nothing w1 wr) (fun _ i _ => sn.length - (intOf i).toNat)
  case atStart => exact ⟨0, rfl, Nat.zero_le _, Lib.hid (World.ownsRow_nil _ _ _ _), Kept.refl _ _⟩
  case round =>
    obtain ⟨k, rfl, hk, HP, hkk⟩ := hrel
    have KK := Lib.hid hkk
    clear hkk
    by_cases hlt : k < sn.length
    · obtain ⟨b, o, rfl, hc⟩ := (HV.out.old (K1.out.trans KK.out)).at (by omega)
      have p0 := hc k hlt
      have i1 : (0 : Int) ≤ (k : Int) := by omega
      have i2 : (k : Int) < (sn.length : Int) := by omega
      have ET : Hid (sts ((sn.take (k + 1)).map Lib.decDigits) = sts ((sn.take k).map Lib.decDigits) ++ [str (Lib.decDigits (sn.getD k 0))]) := Lib.hid (by rw [List.take_succ_eq_append_getElem hlt, List.map_append, sts_append, getD_get hlt]; rfl)
      have hn : sn.getD k 0 < 4294967296 := HV.out.1 _ (by rw [getD_get hlt]; exact List.getElem_mem _)
      have HT := Lib.hid (text_any1 (sn.getD k 0) hn wr (HR.out.kept (K1.out.trans KK.out)))
      generalize sts ((sn.take k).map Lib.decDigits) = xs at *
      generalize Lib.decDigits (sn.getD k 0) = dg at *
      generalize sn.getD k 0 = n at *
      obtain ⟨Aq, cq, rfl, _, _⟩ := ow_form HP.out
      have HL5 : Hid (k + 1 ≤ maxLen ∧ (k + 1) * 16 ≤ 140737488355328) := Lib.hid (by unfold maxLen; omega)
      clear hc
      go_wp2_with (first
        | (at_builtin; refine wpList_app _ rfl _ _ 119 rfl w1.heap.size 9 i0 _ 1 16 Tryz.underlying119 hi hz0 hz1 hz2 rfl (by decide) (.slice Aq k cq) k xs rfl (ow_kept HP.out (K2.out.alloc _) (fun _ _ x => x)) (some ⟨w2.heap.size, 0, none⟩) 1 1 [.string ⟨dg.toArray⟩] rfl (src_new w2 _ #[.string ⟨dg.toArray⟩] 1 1 rfl (by simp [Value.oneCell'])) HL5.out.1 HL5.out.2 (by have := ((KK.out.trans K2.out).alloc (.cells #[.string ⟨dg.toArray⟩] 9)).size; exact this) ?_; intro v7 w7 hown7 hg7 _)
        | (go_at_call 106; refine (HT.out).mono ?_; rintro e w2 ⟨rfl, k2⟩; (have K2 := Lib.hid k2); clear k2))
      go_roundw
      case rel => exact ⟨k + 1, by go_num, by omega, Lib.hid (by rw [ET.out]; exact hown7), (KK.out.trans (K2.out.alloc _)).own_grown (ow_kept HP.out (K2.out.alloc _) (fun _ _ x => x)) (Nat.le_refl _) hg7⟩
      case measure => simp [intOf]; omega
    · obtain rfl : k = sn.length := by omega
      rw [List.take_of_length_le (Nat.le_refl _)] at HP
      obtain ⟨g, cg, cur, rfl, hge, hbg⟩ := own_lies HP.out hpos
      have KW := Lib.hid (K1.out.trans KK.out)
      obtain ⟨q0, q1, q2⟩ := HBC.out _ KW.out
      have c0 := (B1.out.kept KK.out (fun x => x)).cell 0
      have hfm : sn.length ≤ cg := by
        obtain ⟨_, _, e, h1, _⟩ := ow_form HP.out
        injection e with _ _ e3
        subst e3
        exact h1
      have HGC : Hid (∀ (j : Nat) x, (sn.map (fun n => (⟨(Lib.decDigits n).toArray⟩ : ByteArray)))[j]? = some x → wr.cell? ⟨g, 0 + j, none⟩ = some (.string x)) := Lib.hid (fun j x hx => by
        rw [← add_none]
        refine HP.out.cells rfl j _ ?_
        unfold sts
        rw [List.map_map, List.getElem?_map]
        rw [List.getElem?_map] at hx
        cases hj : sn[j]? with
        | none => rw [hj] at hx; cases hx
        | some n => rw [hj] at hx; simp at hx; simp [str, ← hx])
      have HJ := Lib.hid (fun w2 (k2 : Kept Nothing wr w2) => Tryz.strings_Join g 0 cg (sn.map (fun n => (⟨(Lib.decDigits n).toArray⟩ : ByteArray))) ⟨bt.toArray⟩ w2
        (fun j x hx => k2.cell_some (HGC.out j x hx) (fun x => x)) (Nat.lt_of_lt_of_le hbg.lt k2.size) (by rw [List.length_map]; omega) (by rw [List.length_map]; exact hfm)
        (by
          have e1 : ((sn.map (fun n => (⟨(Lib.decDigits n).toArray⟩ : ByteArray))).map (·.data.toList)) = sn.map Lib.decDigits := by rw [List.map_map]; exact List.map_congr_left (fun n _ => rfl)
          rw [e1]
          have := HJL.out
          show (Lib.join (sn.map Lib.decDigits) bt).length ≤ _
          omega))
      have e1 : ((sn.map (fun n => (⟨(Lib.decDigits n).toArray⟩ : ByteArray))).map (·.data.toList)) = sn.map Lib.decDigits := by rw [List.map_map]; exact List.map_congr_left (fun n _ => rfl)
      rw [e1, List.length_map] at HJ
      have s1 := add_run op (Lib.join (sn.map Lib.decDigits) bt) (by omega) (by have := HJL.out; omega)
      have s2 := add_run (op ++ Lib.join (sn.map Lib.decDigits) bt) en (by rw [List.length_append]; have := HJL.out; omega) (by omega)
      replace HJ : Hid (∀ w2, Kept Nothing wr w2 → Calls Tryz.prog 107 #[.slice (some ⟨g, 0, none⟩) sn.length cg, .string ⟨bt.toArray⟩] w2 fun e w' => e = .returned (.string ⟨(Lib.join (sn.map Lib.decDigits) bt).toArray⟩) ∧ Below w2.heap.size w2 w') := HJ
      generalize Lib.join (sn.map Lib.decDigits) bt = jt at *
      clear HP HGC e1 hbg
      go_upto_region 8 with fail
      have b2 := Blk.fresh wr 174 #[.string ⟨op.toArray⟩, .string ⟨bt.toArray⟩, .string ⟨en.toArray⟩]
      have k2 := (Kept.refl Nothing wr).alloc (.cells #[.string ⟨op.toArray⟩, .string ⟨bt.toArray⟩, .string ⟨en.toArray⟩] 174)
      clear q0 q1 q2 c0 c1
      generalize wr.alloc (.cells #[.string ⟨op.toArray⟩, .string ⟨bt.toArray⟩, .string ⟨en.toArray⟩] 174) = wX at b2 k2 ⊢
      generalize wr.heap.size = gx at *
      have B2 := Lib.hid b2
      have K2 := Lib.hid k2
      have d0 := b2.cell 0
      have d1 := b2.cell 1
      have d2 := b2.cell 2
      clear b2 k2
      go_region_held3 (fun w' => w'.cell? ⟨gx, 0, none⟩ = some (.string ⟨op.toArray⟩) ∧ w'.cell? ⟨gx, 1, none⟩ = some (.string ⟨bt.toArray⟩) ∧ w'.cell? ⟨gx, 2, none⟩ = some (.string ⟨en.toArray⟩)) (first | exact ⟨d0, d1, d2⟩ | exact ⟨f0, f1, f2⟩) (first
        | (go_simp; go_at_call 107; refine (HJ.out _ (by exact K2.out.drew)).mono ?_; rintro e w9 ⟨rfl, hb9⟩; (have k9 := grows hb9); (have f0 := (B2.out.drew.kept k9 (fun x => x)).cell 0); (have f1 := (B2.out.drew.kept k9 (fun x => x)).cell 1); (have f2 := (B2.out.drew.kept k9 (fun x => x)).cell 2); (have K9 := Lib.hid k9); clear k9 hb9))
      all_goals
        go_wp2
        go_ret
        exact ⟨by rw [HSEG.out]; simp, KW.out.trans (K2.out.drew.trans K9.out)⟩
end Go.Proofs.YtdeblmolgmadiaaGreatDoor
namespace Go.Proofs.YtdeblmolgmadiaaGreatDoor
open Go.RowKit

theorem bf_kept {T e : TypeId} {B b : Nat} {bs : List Value} {w w' : World} (h : Lib.IsBuilderF T e B b bs w) (k : Kept Nothing w w') : Lib.IsBuilderF T e B b bs w' := by
  have one : ∀ p, Lib.BuilderAtF T e B b p bs w → Lib.BuilderAtF T e B b p bs w' := fun p ⟨hB, v, hb, ho, hne⟩ => by
    have hlt := (Array.getElem?_eq_some_iff.1 hb).1
    refine ⟨hB, v, (k.block b hlt (fun x => x)).trans hb, ⟨ho.1, ?_⟩, hne⟩
    rcases ho.2 with hn | ⟨g, cap, cur, fz, hv, hbg, hg, rest⟩
    · exact .inl hn
    · exact .inr ⟨g, cap, cur, fz, hv, hbg, (k.block g (Array.getElem?_eq_some_iff.1 hg).1 (fun x => x)).trans hg, rest⟩
  exact h.elim (fun x => .inl (one _ x)) (fun x => .inr (one _ x))
theorem kept_below {w wr w' : World} (h : Kept Nothing w wr) (hb : Below w.heap.size wr w') : Kept Nothing w w' :=
  ⟨hb.os.trans h.os, hb.tape.trans h.tape, hb.output.trans h.output, Nat.le_trans h.size hb.size, fun k hk hs => (hb.block k hk).trans (h.block k hk hs)⟩
theorem byteCells_append (a b : List UInt8) : Lib.byteCells a ++ Lib.strCells ⟨b.toArray⟩ = Lib.byteCells (a ++ b) := by
  simp [Lib.byteCells, Lib.strCells]

/-- The builder written on. -/
theorem ws_any (B d : Nat) (bs s : List UInt8) (w : World) (h : Lib.IsBuilderF 113 5 B d (Lib.byteCells bs) w) (hl : bs.length + s.length ≤ 1000000) (hB : B ≤ w.heap.size) :
    Calls Tryz.prog 52 #[.pointer (some ⟨d, 0, none⟩), .string ⟨s.toArray⟩] w fun e w' => (∃ v, e = .returned v) ∧ Lib.IsBuilderF 113 5 B d (Lib.byteCells (bs ++ s)) w' ∧ Below B w w' ∧ Lib.OthersKept 5 (some d) w w' := by
  have h0 : Calls Tryz.prog 52 #[.pointer (some ⟨d, 0, none⟩), .string ⟨s.toArray⟩] w fun e w' => e = .returned (.tuple #[.int .i64 (⟨s.toArray⟩ : ByteArray).size, .nilIface]) ∧ (Lib.BuilderAtF 113 5 B d (.pointer (some ⟨d, 0, none⟩)) (Lib.byteCells bs ++ Lib.strCells ⟨s.toArray⟩) w' ∧ Below B w w' ∧ Lib.OthersKept 5 (some d) w w') :=
    Any.Builder_WriteString_k { Tryz.lays156 with } Tryz.Builder_Extra_156 B d (Lib.byteCells bs) ⟨s.toArray⟩ w h (by simp [Lib.byteCells, ByteArray.size]; omega) hB
  refine h0.mono ?_
  rintro e w' ⟨rfl, h1, h2, h3⟩
  refine ⟨⟨_, rfl⟩, .inr ?_, h2, h3⟩
  rw [← byteCells_append]
  exact h1

namespace Pt
theorem ahead_len (l : List Seg) (k : Nat) : (ahead l k).length ≤ 3 := by unfold ahead gap; split; simp; split <;> simp
theorem tx_len (l : List Seg) (h : ∀ s ∈ l, (∀ n ∈ s.2, n < 4294967296) ∧ s.2.length ≤ 255) : ∀ k, k ≤ l.length → (tx l k).length ≤ 3000 * k
  | 0, _ => by simp [tx]
  | k + 1, hk => by
    have h1 := tx_len l h k (by omega)
    have h2 := ahead_len l k
    have hm : l.getD k (0, []) ∈ l := by rw [getD_get (by omega)]; exact List.getElem_mem _
    have h3 := segT_len (l.getD k (0, [])) (h _ hm).1
    have h4 := (h _ hm).2
    unfold tx
    rw [List.length_append, List.length_append]
    omega
theorem may_seg {l : List Seg} (h : may l = true) {s : Seg} (hs : s ∈ l) : 1 ≤ s.1.toNat ∧ s.1.toNat ≤ 4 ∧ s.2 ≠ [] ∧ s.2.length ≤ 255 := by
  unfold may at h
  rw [Bool.and_eq_true, List.all_eq_true] at h
  have := h.1 s hs
  unfold may1 at this
  simp only [Bool.and_eq_true, decide_eq_true_eq] at this
  exact ⟨this.1.1.1, this.1.1.2, List.length_pos_iff.1 this.1.2, this.2⟩
theorem may_le {l : List Seg} (h : may l = true) : l.length ≤ 32 := by
  unfold may at h
  rw [Bool.and_eq_true] at h
  simpa using h.2
end Pt

set_option maxRecDepth 20000 in
set_option maxHeartbeats 2000000 in
theorem path_text (v : Value) (l : List Seg) (w : World) (h : Pts w v l) (hl : l.length ≤ 1000000) (hr : Rdy w) (hs : Bkt w) :
    Calls Tryz.prog 23 #[v] w fun e w' => e = .returned (.string ⟨(Pt.text l).toArray⟩) ∧ Kept Nothing w w' := by
  obtain ⟨A, c, rfl, hc, hm⟩ := h.form
  have HM := Lib.hid (path_may _ l w h (by omega))
  have HV := Lib.hid h
  have HR := Lib.hid hr
  have HS := Lib.hid hs
  have HT : Hid (Pt.text l = if Pt.may l then (if l = [] then [45] else Pt.tx l l.length) else []) := Lib.hid rfl
  clear h hr hs
  cases hmay : Pt.may l with
  | false =>
    rw [hmay] at HM HT
    clear hmay
    go_enter Tryz.func23, Tryz.ntmps23
    go_wp2_with (go_at_call 16; refine (HM.out).mono ?_; rintro e w1 ⟨rfl, k1⟩)
    go_ret
    exact ⟨by rw [HT.out]; rfl, k1⟩
  | true =>
    have h32 := Pt.may_le hmay
    have HSEG := Lib.hid (fun s (hs : s ∈ l) => Pt.may_seg hmay hs)
    rw [hmay] at HM HT
    clear hmay
    by_cases hle : l = []
    · subst hle
      go_enter Tryz.func23, Tryz.ntmps23
      go_wp2_with (go_at_call 16; refine (HM.out).mono ?_; rintro e w1 ⟨rfl, k1⟩)
      go_ret
      exact ⟨by rw [HT.out]; rfl, k1⟩
    · rw [if_pos rfl, if_neg hle] at HT
      have hpos : 0 < l.length := List.length_pos_iff.2 hle
      have hpi : ((l.length : Int) == 0) = false := by simp; omega
      have HTL := Lib.hid (Pt.tx_len l (fun s hs => ⟨HV.out.fits s hs, (HSEG.out s hs).2.2.2⟩))
      clear hle
      go_enter Tryz.func23, Tryz.ntmps23
      go_upto_region 5 with (go_at_call 16; refine (HM.out).mono ?_; rintro e w1 ⟨rfl, k1⟩; (have K1 := Lib.hid k1); clear k1)
      go_upto_region 6 with fail
      have hb1 : Lib.IsBuilderF 113 5 w.heap.size w1.heap.size (Lib.byteCells (Pt.tx l 0)) (w1.alloc (.cells #[.pointer none, .slice none 0 0] 113)) :=
        .inl ⟨K1.out.size, _, heap_alloc_new w1 _, World.ownsRowF_nil _ _ _ _, by simp [Value.ownBlock]⟩
      have k2 := K1.out.alloc (.cells #[.pointer none, .slice none 0 0] 113)
      have hdz : w1.heap.size < (w1.alloc (.cells #[.pointer none, .slice none 0 0] 113)).heap.size := by simp
      generalize w1.alloc (.cells #[.pointer none, .slice none 0 0] 113) = w2 at hb1 k2 hdz ⊢
      have hdw := K1.out.size
      generalize w1.heap.size = d at *
      have HB1 := Lib.hid hb1
      have K2 := Lib.hid k2
      clear hb1 k2 K1
      go_upto_region 7 with fail
      go_loopw [14] (fun i wr => ∃ k : Nat, i = .int .i64 (k : Int) ∧ k ≤ l.length ∧ Hid (Lib.IsBuilderF 113 5 w.heap.size d (Lib.byteCells (Pt.tx l k)) wr) ∧ Hid (Kept Nothing w wr) ∧ d < wr.heap.size) (fun i _ => l.length - (intOf i).toNat)
      case atStart => exact ⟨0, rfl, Nat.zero_le _, HB1, K2, hdz⟩
      case round =>
        clear HB1 K2 hdz
        obtain ⟨k, rfl, hk, HB, KK, hdz⟩ := hrel
        by_cases hlt : k < l.length
        · obtain ⟨b, o, Au, cu, rfl, p0w, p1w, hp⟩ := HV.out.at2 hlt
          have p0 := KK.out.cell_some p0w (fun x => x)
          have p1 := KK.out.cell_some p1w (fun x => x)
          have hmem : l.getD k (0, []) ∈ l := by rw [getD_get hlt]; exact List.getElem_mem _
          obtain ⟨g1, g2, g3, g4⟩ := HSEG.out _ hmem
          have htl := HTL.out k (by omega)
          have hsl := Pt.segT_len (l.getD k (0, [])) (HV.out.fits _ hmem)
          have ET : Hid (Pt.tx l (k + 1) = Pt.tx l k ++ (Pt.ahead l k ++ Pt.segT (l.getD k (0, [])))) := Lib.hid rfl
          have EA : Hid (Pt.ahead l k = if k = 0 then [] else Pt.gap (l.getD (k - 1) (0, [])).1.toNat (l.getD k (0, [])).1.toNat) := Lib.hid rfl
          have hal := Pt.ahead_len l k
          have i1 : (0 : Int) ≤ (k : Int) := by omega
          have i2 : (k : Int) < (l.length : Int) := by omega
          have hls : b < wr.heap.size := World.block_lt_of_cell? _ _ p0
          generalize hsg : l.getD k (0, []) = sg at *
          obtain ⟨sk, sn⟩ := sg
          simp only at p0 p1 g1 g2 g3 g4 hsl EA
          replace hp : As w (.slice Au sn.length cu) sn := hp
          have HST := Lib.hid (fun w1 (k1 : Kept Nothing w w1) (h1 : As w1 (.slice Au sn.length cu) sn) => seg_text sk sn Au cu w1 (HR.out.kept k1) (HS.out.kept k1) h1 g1 g2 g3 (by omega))
          have HAS := Lib.hid (fun w1 (k1 : Kept Nothing w w1) => hp.old k1)
          have hsk := sk.toNat_lt
          have HWS := Lib.hid (fun (bs s : List UInt8) (w1 : World) h h2 h3 => ws_any w.heap.size d bs s w1 h h2 h3)
          have hwz := KK.out.size
          clear hp hsg hmem p0w p1w
          by_cases hk0 : k = 0
          · rw [if_pos hk0] at EA
            have hk0i : ¬ (0 : Int) < (k : Int) := by omega
            clear hk0
            rw [EA.out, List.nil_append] at ET
            clear EA hal g1 g2 g3
            generalize Pt.segT (sk, sn) = st at *
            have BX := Lib.hid ((Kept.refl Nothing wr).alloc (.cells #[.int .u8 (sk.toNat : Int), .slice Au sn.length cu] 96))
            go_wp2_with (first
              | (go_at_call 52; refine (HWS.out _ _ _ (bf_kept HB.out (BX.out.trans K3.out)) (by omega) (Nat.le_trans hwz (BX.out.trans K3.out).size)).mono ?_; rintro e w4 ⟨⟨v4, rfl⟩, b4, l4, o4⟩)
              | (go_at_call 54; refine (HST.out _ (KK.out.trans BX.out) (HAS.out _ (KK.out.trans BX.out))).mono ?_; rintro e w3 ⟨rfl, k3⟩; (have K3 := Lib.hid k3); clear k3))
            go_roundw
            case rel => exact ⟨k + 1, by go_num, by omega, Lib.hid (by rw [ET.out]; exact b4), Lib.hid (kept_below (KK.out.trans (BX.out.trans K3.out)) l4), Nat.lt_of_lt_of_le hdz (Nat.le_trans (BX.out.trans K3.out).size l4.size)⟩
            case measure => simp [intOf]; omega
          · rw [if_neg hk0] at EA
            obtain ⟨m, hm1⟩ : ∃ m, k = m + 1 := ⟨k - 1, by omega⟩
            obtain ⟨bm, om, Am, cm, hbm, m0w, -⟩ := HV.out.at2 (i := m) (by omega)
            have m0 := KK.out.cell_some m0w (fun x => x)
            clear m0w
            injection hbm with hbm
            injection hbm with hb1 hb2
            subst hb1 hb2
            rw [show k - 1 = m by omega] at EA
            rw [EA.out] at ET hal
            have hmk := (l.getD m (0, [])).1.toNat_lt
            have HG := Lib.hid (fun w1 => gap_any (l.getD m (0, [])).1.toNat sk.toNat (by omega) (by omega) w1)
            generalize (l.getD m (0, [])).1.toNat = km at *
            generalize Pt.gap km sk.toNat = gp at *
            generalize Pt.segT (sk, sn) = st at *
            clear EA hk0 g1 g2 g3
            have j1 : (0 : Int) ≤ (m : Int) := by omega
            have j2 : (m : Int) < (l.length : Int) := by omega
            have j3 : (0 : Int) < (k : Int) := by omega
            have j4 : (k : Int) - 1 = (m : Int) := by omega
            have j5 : IntKind.i64.wrap (m : Int) = (m : Int) := by rw [IntKind.wrap_i64]; omega
            clear hm1
            go_upto_region 10 with fail
            have bx := Blk.fresh wr 96 #[.int .u8 (sk.toNat : Int), .slice Au sn.length cu]
            have kx := (Kept.refl Nothing wr).alloc (.cells #[.int .u8 (sk.toNat : Int), .slice Au sn.length cu] 96)
            have n0 := kx.cell_some m0 (fun x => x)
            clear p0 p1 m0
            generalize wr.alloc (.cells #[.int .u8 (sk.toNat : Int), .slice Au sn.length cu] 96) = wX at bx kx n0 ⊢
            have hgx : wr.heap.size ≠ d := by omega
            generalize wr.heap.size = gx at *
            have x0 := bx.cell 0
            have BX := Lib.hid kx
            have BB := Lib.hid bx
            clear bx kx
            go_region_law (first
              | (go_simp; go_at_call 52; refine (HWS.out _ _ _ (bf_kept HB.out BX.out.drew) (by omega) (Nat.le_trans KK.out.size BX.out.size)).mono ?_; rintro e w4 ⟨⟨v4, rfl⟩, b4, l4, o4⟩; (have B4 := Lib.hid b4); (have L4 := Lib.hid l4); (have O4 : Hid (Blk w4 gx 96 #[.int .u8 (sk.toNat : Int), .slice Au sn.length cu]) := Lib.hid (o4 gx _ BB.out (fun e => hgx (by injection e)) (fun c fz e => by injection e with _ e2; exact absurd e2 (by decide)))); clear b4 l4 o4)
              | (go_simp; go_at_call 53; refine (HG.out _).mono ?_; rintro e w9 ⟨rfl, rfl⟩))
            all_goals
              have y0 := O4.out.cell 0
              have y1 := O4.out.cell 1
              have K4 := Lib.hid (kept_below (KK.out.trans BX.out.drew) L4.out)
              have hz4 := L4.out.size
              clear x0 n0
              go_wp2_with (first
                | (go_at_call 52; refine (HWS.out _ _ _ (bf_kept B4.out K5.out) (by rw [List.length_append]; omega) (Nat.le_trans K4.out.size K5.out.size)).mono ?_; rintro e w6 ⟨⟨v6, rfl⟩, b6, l6, o6⟩)
                | (go_at_call 54; refine (HST.out _ K4.out (HAS.out _ K4.out)).mono ?_; rintro e w5 ⟨rfl, k5⟩; (have K5 := Lib.hid k5); clear k5))
              go_roundw
              case rel => exact ⟨k + 1, by go_num, by omega, Lib.hid (by rw [ET.out, ← List.append_assoc]; exact b6), Lib.hid (kept_below (K4.out.trans K5.out) l6), by have := K5.out.size; have := l6.size; have := BB.out.lt; have : wX.drew.heap.size = wX.heap.size := rfl; omega⟩
              case measure => simp [intOf]; omega
        · obtain rfl : k = l.length := by omega
          have HST := Lib.hid (Tryz.Builder_String_any_k w.heap.size d (Pt.tx l l.length) wr HB.out KK.out.size)
          go_wp2_with (go_at_call 55; refine (HST.out).mono ?_; rintro e w4 ⟨rfl, b4, l4, o4⟩)
          go_ret
          exact ⟨by rw [HT.out]; rfl, kept_below KK.out l4⟩
end Go.Proofs.YtdeblmolgmadiaaGreatDoor
namespace Go.Proofs.YtdeblmolgmadiaaGreatDoor
open Go.RowKit

namespace Pt
theorem numsB_zero (z : Nat) (x : List UInt8) : numsB z 0 x = [] := rfl
theorem numsB_cons {z n : Nat} {a x : List UInt8} (h : a.length = z) : numsB z (n + 1) (a ++ x) = RS.num a :: numsB z n x := by
  unfold numsB
  rw [List.range_succ_eq_map, List.map_cons, List.map_map]
  congr 1
  · rw [Nat.mul_zero, List.drop_zero, ← h, List.take_left]
  · refine List.map_congr_left (fun i _ => ?_)
    show RS.num (((a ++ x).drop (z * (i + 1))).take z) = _
    rw [show z * (i + 1) = a.length + z * i by rw [Nat.mul_add, Nat.mul_one, h]; omega, ← List.drop_drop, List.drop_left]
theorem num_w (a b : UInt8) : RS.num [a, b] = 256 * a.toNat + b.toNat := by unfold RS.num; simp
theorem num_4 (a b c d : UInt8) : RS.num [a, b, c, d] = 16777216 * a.toNat + 65536 * b.toNat + 256 * c.toNat + d.toNat := by unfold RS.num; simp; omega
/-- How many bytes a number has. -/
def zb (wide : Bool) : Nat := if wide then 4 else 2
theorem nums_cons (wide : Bool) (n : Nat) (l : List Nat) : nums wide (n :: l) = nums wide [n] ++ nums wide l := by
  unfold nums
  cases wide <;> simp [fours, twos]
theorem nums_one (wide : Bool) (n : Nat) : (nums wide [n]).length = zb wide := by
  unfold nums zb
  cases wide <;> simp [fours, twos, two]
theorem num_nums {wide : Bool} {n : Nat} (h : n < 4294967296) (h2 : wide = false → n < 65536) : RS.num (nums wide [n]) = n := by
  cases wide with
  | true =>
    unfold nums
    simp only [if_true, fours, twos, two, List.flatMap_cons, List.flatMap_nil, List.append_nil, List.cons_append, List.nil_append]
    rw [num_4]
    simp
    omega
  | false =>
    have := h2 rfl
    unfold nums
    simp only [Bool.false_eq_true, if_false, twos, two, List.flatMap_cons, List.flatMap_nil, List.append_nil]
    rw [num_w]
    simp
    omega
theorem numsB_nums {wide : Bool} : ∀ (l : List Nat) (r : List UInt8), (∀ n ∈ l, n < 4294967296) → (wide = false → ∀ n ∈ l, n < 65536) → numsB (zb wide) l.length (nums wide l ++ r) = l
  | [], r, _, _ => rfl
  | n :: l, r, h, h2 => by
    rw [nums_cons, List.append_assoc, List.length_cons, numsB_cons (nums_one wide n), num_nums (h n (List.mem_cons_self ..)) (fun e => h2 e n (List.mem_cons_self ..)), numsB_nums l r (fun m hm => h m (List.mem_cons_of_mem _ hm)) (fun e m hm => h2 e m (List.mem_cons_of_mem _ hm))]
theorem length_numsZ (wide : Bool) (l : List Nat) : (nums wide l).length = zb wide * l.length := by
  induction l with
  | nil => rw [nums_nil]; simp
  | cons n l ih => rw [nums_cons, List.length_append, nums_one, ih, List.length_cons, Nat.mul_add, Nat.mul_one]; omega
theorem rdL_form {wide : Bool} : ∀ (p acc : List Seg), p.all may1 = true → acc.length + p.length ≤ 32 → fits p → (wide = false → ∀ s ∈ p, ∀ n ∈ s.2, n < 65536) → rdL (zb wide) acc (form wide p) = (acc ++ p, 0)
  | [], acc, _, _, _, _ => by rw [form_nil, rdL_nil, List.append_nil]
  | s :: p, acc, hm, hl, hf, hw => by
    rw [List.all_cons, Bool.and_eq_true] at hm
    obtain ⟨h1, h2⟩ := hm
    unfold may1 at h1
    simp only [Bool.and_eq_true, decide_eq_true_eq] at h1
    obtain ⟨⟨⟨a1, a4⟩, a5⟩, a6⟩ := h1
    have hn : (UInt8.ofNat s.2.length).toNat = s.2.length := by simp; omega
    rw [List.length_cons] at hl
    have e : form wide (s :: p) = s.1 :: UInt8.ofNat s.2.length :: (nums wide s.2 ++ form wide p) := by
      show seg wide s ++ form wide p = _
      unfold seg
      simp
    rw [e, rdL_two, hn, if_neg (by rw [List.length_append, length_numsZ]; omega), if_neg (by rw [decide_eq_true a1, decide_eq_true a4, decide_eq_true a5]; decide), if_neg (by omega), numsB_nums s.2 _ (hf s (List.mem_cons_self ..)) (fun e => hw e s (List.mem_cons_self ..)), ← length_numsZ, List.drop_left,
      rdL_form p _ h2 (by simp; omega) (fun t ht => hf t (List.mem_cons_of_mem _ ht)) (fun e t ht => hw e t (List.mem_cons_of_mem _ ht)), List.append_assoc]
    rfl
theorem read_form {wide : Bool} {p : List Seg} (hm : may p = true) (hf : fits p) (hw : wide = false → ∀ s ∈ p, ∀ n ∈ s.2, n < 65536) : read wide (form wide p) = (p, 0) := by
  unfold may at hm
  rw [Bool.and_eq_true] at hm
  have := rdL_form p [] hm.1 (by have := hm.2; simp at this ⊢; omega) hf hw
  rw [List.nil_append] at this
  exact this
theorem nums_num {wide : Bool} {a : List UInt8} (h : a.length = zb wide) : nums wide [RS.num a] = a ∧ RS.num a < 4294967296 ∧ (wide = false → RS.num a < 65536) := by
  have hl := RS.num_lt a
  rw [h] at hl
  cases wide with
  | true =>
    obtain ⟨x, y, z, t, rfl⟩ : ∃ x y z t, a = [x, y, z, t] := by
      match a, h with
      | [x, y, z, t], _ => exact ⟨x, y, z, t, rfl⟩
    refine ⟨?_, hl, fun e => by cases e⟩
    rw [num_4]
    have := x.toNat_lt
    have := y.toNat_lt
    have := z.toNat_lt
    have := t.toNat_lt
    unfold nums
    simp only [if_true, fours, twos, two, List.flatMap_cons, List.flatMap_nil, List.append_nil, List.cons_append, List.nil_append]
    have e (u : Nat) (c : UInt8) (h : u % 256 = c.toNat) : UInt8.ofNat u = c := UInt8.toNat_inj.1 (by simpa using h)
    rw [e _ x (by omega), e _ y (by omega), e _ z (by omega), e _ t (by omega)]
  | false =>
    obtain ⟨x, y, rfl⟩ : ∃ x y, a = [x, y] := by
      match a, h with
      | [x, y], _ => exact ⟨x, y, rfl⟩
    have hl2 : RS.num [x, y] < 65536 := hl
    refine ⟨?_, by omega, fun _ => hl2⟩
    rw [num_w]
    have := x.toNat_lt
    have := y.toNat_lt
    unfold nums
    simp only [Bool.false_eq_true, if_false, twos, two, List.flatMap_cons, List.flatMap_nil, List.append_nil]
    have e (u : Nat) (c : UInt8) (h : u % 256 = c.toNat) : UInt8.ofNat u = c := UInt8.toNat_inj.1 (by simpa using h)
    rw [e _ x (by omega), e _ y (by omega)]
theorem nums_numsB {wide : Bool} : ∀ (n : Nat) (r : List UInt8), zb wide * n ≤ r.length → nums wide (numsB (zb wide) n r) = r.take (zb wide * n) ∧ (∀ m ∈ numsB (zb wide) n r, m < 4294967296) ∧ (wide = false → ∀ m ∈ numsB (zb wide) n r, m < 65536) ∧ (numsB (zb wide) n r).length = n
  | 0, r, _ => ⟨by rw [numsB_zero, nums_nil]; simp, (fun _ h => by cases h), (fun _ _ h => by cases h), rfl⟩
  | n + 1, r, h => by
    rw [Nat.mul_add, Nat.mul_one] at h
    have ha : (r.take (zb wide)).length = zb wide := by rw [List.length_take]; omega
    obtain ⟨h1, h2, h3⟩ := nums_num ha
    obtain ⟨i1, i2, i3, i4⟩ := nums_numsB (wide := wide) n (r.drop (zb wide)) (by rw [List.length_drop]; omega)
    have e : numsB (zb wide) (n + 1) r = RS.num (r.take (zb wide)) :: numsB (zb wide) n (r.drop (zb wide)) := by
      rw [← numsB_cons ha, List.take_append_drop]
    rw [e]
    refine ⟨?_, fun m hm => ?_, fun ew m hm => ?_, by rw [List.length_cons, i4]⟩
    · rw [nums_cons, h1, i1, Nat.mul_add, Nat.mul_one, Nat.add_comm, List.take_add]
    · rcases List.mem_cons.1 hm with rfl | hm
      · exact h2
      · exact i2 m hm
    · rcases List.mem_cons.1 hm with rfl | hm
      · exact h3 ew
      · exact i3 ew m hm
theorem rdL_back {wide : Bool} : ∀ (x : List UInt8) (acc q : List Seg), rdL (zb wide) acc x = (q, 0) → acc.length ≤ 32 → ∃ p, q = acc ++ p ∧ form wide p = x ∧ p.all may1 = true ∧ acc.length + p.length ≤ 32 ∧ fits p ∧ (wide = false → ∀ s ∈ p, ∀ n ∈ s.2, n < 65536)
  | [], acc, q, h, ha => by
    rw [rdL_nil] at h
    injection h with h
    exact ⟨[], by rw [h, List.append_nil], rfl, rfl, by simp; omega, (fun _ h => by cases h), (fun _ _ h => by cases h)⟩
  | [a], acc, q, h, _ => by rw [rdL_one] at h; cases h
  | k :: n :: r, acc, q, h, ha => by
    rw [rdL_two] at h
    by_cases h1 : r.length < zb wide * n.toNat
    · rw [if_pos h1] at h; cases h
    · rw [if_neg h1] at h
      by_cases h2 : (decide (1 ≤ k.toNat) && decide (k.toNat ≤ 4) && decide (0 < n.toNat)) = false
      · rw [if_pos h2] at h; cases h
      · rw [if_neg h2] at h
        by_cases h3 : acc.length = 32
        · rw [if_pos h3] at h; cases h
        · rw [if_neg h3] at h
          obtain ⟨p, rfl, e2, e3, e4, e5, e6⟩ := rdL_back (r.drop (zb wide * n.toNat)) _ q h (by simp; omega)
          obtain ⟨i1, i2, i3, i4⟩ := nums_numsB (wide := wide) n.toNat r (by omega)
          have hn8 := n.toNat_lt
          refine ⟨(k, numsB (zb wide) n.toNat r) :: p, by rw [List.append_assoc]; rfl, ?_, ?_, by simp at e4 ⊢; omega, ?_, ?_⟩
          · show seg wide (k, numsB (zb wide) n.toNat r) ++ form wide p = _
            unfold seg
            simp only [i4, i1, e2, UInt8.ofNat_toNat, List.cons_append, List.nil_append, List.take_append_drop]
          · rw [List.all_cons, e3, Bool.and_true]
            unfold may1
            simp only [Bool.not_eq_false, Bool.and_eq_true, decide_eq_true_eq] at h2
            simp only [i4, Bool.and_eq_true, decide_eq_true_eq]
            omega
          · intro s hs
            rcases List.mem_cons.1 hs with rfl | hs
            · exact i2
            · exact e5 s hs
          · intro ew s hs
            rcases List.mem_cons.1 hs with rfl | hs
            · exact i3 ew
            · exact e6 ew s hs
termination_by x => x.length
decreasing_by simp; omega
theorem form_read {wide : Bool} {b : List UInt8} {p : List Seg} (h : read wide b = (p, 0)) : form wide p = b ∧ may p = true ∧ fits p ∧ (wide = false → hasW p = false) := by
  obtain ⟨q, hq, h1, h2, h3, h4, h5⟩ := rdL_back (wide := wide) b [] p h (by simp)
  obtain rfl : p = q := hq
  refine ⟨h1, ?_, h4, fun e => ?_⟩
  · unfold may
    rw [h2, Bool.true_and]
    simp at h3 ⊢
    omega
  · unfold hasW
    rw [List.any_eq_false]
    intro x hx
    unfold all at hx
    obtain ⟨s, hs, hx⟩ := List.mem_flatMap.1 hx
    obtain ⟨n, hn, rfl⟩ := List.mem_map.1 hx
    have := h5 e s hs n hn
    simp
    omega
theorem bytes_read {wide : Bool} {b : List UInt8} {p : List Seg} (h : read wide b = (p, 0)) : bytes p wide = (b, 0) := by
  obtain ⟨h1, h2, _, h4⟩ := form_read h
  unfold bytes
  rw [if_neg (by rw [h2]; simp), if_neg (by cases wide with | true => simp | false => simp [h4 rfl]), h1]
/-- Where reading fails nothing is read. -/
theorem rdL_fault (z : Nat) : ∀ (x : List UInt8) (acc : List Seg), (rdL z acc x).2 ≠ 0 → (rdL z acc x).1 = []
  | [], acc, h => by rw [rdL_nil] at h; exact absurd rfl h
  | [a], acc, h => by rw [rdL_one]
  | k :: n :: r, acc, h => by
    rw [rdL_two] at h ⊢
    by_cases h1 : r.length < z * n.toNat
    · rw [if_pos h1]
    · rw [if_neg h1] at h ⊢
      by_cases h2 : (decide (1 ≤ k.toNat) && decide (k.toNat ≤ 4) && decide (0 < n.toNat)) = false
      · rw [if_pos h2]
      · rw [if_neg h2] at h ⊢
        by_cases h3 : acc.length = 32
        · rw [if_pos h3]
        · rw [if_neg h3] at h ⊢
          exact rdL_fault z _ _ h
termination_by x => x.length
decreasing_by simp; omega
/-- Unlike paths have unlike forms. -/
theorem form_inj {p q : List Seg} (hp : may p = true) (hq : may q = true) (fp : fits p) (fq : fits q) : (form true p == form true q) = decide (p = q) := by
  rw [Bool.eq_iff_iff, beq_iff_eq, decide_eq_true_eq]
  constructor
  · intro h
    have h1 := read_form hp fp (fun e : true = false => by cases e)
    have h2 := read_form hq fq (fun e : true = false => by cases e)
    rw [h, h2] at h1
    injection h1 with h1
    exact h1.symm
  · rintro rfl; rfl
end Pt
end Go.Proofs.YtdeblmolgmadiaaGreatDoor
namespace Go.Proofs.YtdeblmolgmadiaaGreatDoor
open Go.RowKit

namespace Pt
/-- What stands behind a number: nothing, or a mark. -/
def Tl (t : List UInt8) : Prop := t = [] ∨ ∃ c r, t = c :: r ∧ marks.contains c = true
theorem dec_marks (n : Nat) : ∀ c ∈ Lib.decDigits n, marks.contains c = false := fun c hc => by
  have h := isD_range (List.all_eq_true.1 (dec_all n) c hc)
  cases hm : marks.contains c with
  | false => rfl
  | true =>
    have : c ∈ marks := by simpa using hm
    simp only [marks, List.mem_cons, List.not_mem_nil, or_false] at this
    rcases this with rfl | rfl | rfl | rfl | rfl | rfl | rfl | rfl | rfl <;> exact absurd h (by decide)
theorem unm_app {a t : List UInt8} (ha : ∀ c ∈ a, marks.contains c = false) (ht : Tl t) : unm (a ++ t) = a := by
  induction a with
  | nil =>
    rcases ht with rfl | ⟨c, r, rfl, hc⟩
    · rfl
    · rw [List.nil_append]
      unfold unm
      rw [List.takeWhile_cons, if_neg (by rw [hc]; decide)]
  | cons c a ih =>
    have h1 := ih (fun x hx => ha x (List.mem_cons_of_mem _ hx))
    unfold unm at h1 ⊢
    rw [List.cons_append, List.takeWhile_cons, if_pos (by rw [ha c (List.mem_cons_self ..)]; rfl), h1]
theorem unm_dec (n : Nat) {t : List UInt8} (ht : Tl t) : unm (Lib.decDigits n ++ t) = Lib.decDigits n := unm_app (dec_marks n) ht
theorem hasP_app (a b : List UInt8) : Lib.hasPrefix (a ++ b) a = true := by
  unfold Lib.hasPrefix
  rw [List.isPrefixOf_iff_prefix]
  exact List.prefix_append a b
/-- Numbers, one behind the other. -/
theorem segL_join {c : UInt8} (hc : marks.contains c = true) {tail : List UInt8} (ht : Tl tail) (hn : ¬ (Lib.hasPrefix tail [c] = true ∧ unm (tail.drop 1) ≠ [])) :
    ∀ (ns : List Nat) (n f : Nat) (acc : List Nat), n < 4294967296 → (∀ m ∈ ns, m < 4294967296) → ns.length < f → segL f [c] (Lib.decDigits n ++ (Lib.joinTail [c] (ns.map Lib.decDigits) ++ tail)) acc 0 = (tail, acc ++ n :: ns, 0, true)
  | [], n, f + 1, acc, h1, _, _ => by
    have hu : unm (Lib.decDigits n ++ (Lib.joinTail [c] ([].map Lib.decDigits) ++ tail)) = Lib.decDigits n := by
      rw [List.map_nil, show Lib.joinTail [c] [] = [] from rfl, List.nil_append]
      exact unm_dec n ht
    have hd : (Lib.decDigits n ++ (Lib.joinTail [c] ([].map Lib.decDigits) ++ tail)).drop (Lib.decDigits n).length = tail := by
      rw [List.drop_left]; rfl
    unfold segL
    rw [hu, hd, if_neg (dec_ne n), if_neg (show ¬ (Lib.hasPrefix tail [c] = true ∧ unm (tail.drop [c].length) ≠ []) from hn), if_pos rfl, parse_dec n h1]
  | m :: ms, n, f + 1, acc, h1, h2, hf => by
    have e : Lib.joinTail [c] ((m :: ms).map Lib.decDigits) ++ tail = c :: (Lib.decDigits m ++ (Lib.joinTail [c] (ms.map Lib.decDigits) ++ tail)) := by
      simp [Lib.joinTail]
    have ht2 : Tl (Lib.joinTail [c] (ms.map Lib.decDigits) ++ tail) := by
      cases ms with
      | nil => exact ht
      | cons x r => exact .inr ⟨c, _, by simp [Lib.joinTail]; rfl, hc⟩
    rw [e]
    have hu : unm (Lib.decDigits n ++ c :: (Lib.decDigits m ++ (Lib.joinTail [c] (ms.map Lib.decDigits) ++ tail))) = Lib.decDigits n := unm_dec n (.inr ⟨c, _, rfl, hc⟩)
    have hu2 : unm (Lib.decDigits m ++ (Lib.joinTail [c] (ms.map Lib.decDigits) ++ tail)) = Lib.decDigits m := unm_dec m ht2
    have ih := segL_join hc ht hn ms m f (acc ++ [n]) (h2 m (List.mem_cons_self ..)) (fun x hx => h2 x (List.mem_cons_of_mem _ hx)) (by simp at hf; omega)
    unfold segL
    rw [hu, List.drop_left, if_neg (dec_ne n), if_pos ⟨hasP_app [c] _, by show unm (List.drop 1 (c :: _)) ≠ []; rw [List.drop_one, List.tail_cons, hu2]; exact dec_ne m⟩, if_pos rfl, parse_dec n h1]
    show segL f [c] (List.drop 1 (c :: _)) (acc ++ [n]) 0 = _
    rw [List.drop_one, List.tail_cons, ih, List.append_assoc]
    rfl
theorem betw_mark {k : Nat} (h1 : 1 ≤ k) (h4 : k ≤ 4) : ∃ c, betw k = [c] ∧ marks.contains c = true := by
  obtain rfl | rfl | rfl | rfl : k = 1 ∨ k = 2 ∨ k = 3 ∨ k = 4 := by omega
  all_goals exact ⟨_, rfl, by decide⟩
/-- What stands behind a segment: nothing, or a blank and a mark. -/
def Gp (t : List UInt8) : Prop := t = [] ∨ ∃ c r, t = 32 :: c :: r ∧ marks.contains c = true
theorem tail_ok {k : Nat} (h1 : 1 ≤ k) (h4 : k ≤ 4) {c : UInt8} (hc : betw k = [c]) {r : List UInt8} (hg : k = 2 → Gp r) : Tl (ends k ++ r) ∧ ¬ (Lib.hasPrefix (ends k ++ r) [c] = true ∧ unm ((ends k ++ r).drop 1) ≠ []) := by
  obtain rfl | rfl | rfl | rfl : k = 1 ∨ k = 2 ∨ k = 3 ∨ k = 4 := by omega
  · obtain rfl : 44 = c := by injection hc
    exact ⟨.inr ⟨125, r, rfl, by decide⟩, fun x => absurd x.1 (by rw [show ends 1 ++ r = 125 :: r from rfl, mt_one]; decide)⟩
  · obtain rfl : 32 = c := by injection hc
    rcases hg rfl with rfl | ⟨d, t, rfl, hd⟩
    · exact ⟨.inl rfl, fun x => absurd x.1 (by decide)⟩
    · refine ⟨.inr ⟨32, _, rfl, by decide⟩, fun x => x.2 ?_⟩
      show unm (d :: t) = []
      unfold unm
      rw [List.takeWhile_cons, if_neg (by rw [hd]; decide)]
  · obtain rfl : 32 = c := by injection hc
    exact ⟨.inr ⟨41, r, rfl, by decide⟩, fun x => absurd x.1 (by rw [show ends 3 ++ r = 41 :: r from rfl, mt_one]; decide)⟩
  · obtain rfl : 44 = c := by injection hc
    exact ⟨.inr ⟨93, r, rfl, by decide⟩, fun x => absurd x.1 (by rw [show ends 4 ++ r = 93 :: r from rfl, mt_one]; decide)⟩
theorem trim_app (a b : List UInt8) : Lib.trimPrefix (a ++ b) a = b := by
  unfold Lib.trimPrefix
  rw [hasP_app, if_pos rfl, List.drop_left]
theorem joinTail_len (c : UInt8) (ns : List Nat) : ns.length ≤ (Lib.joinTail [c] (ns.map Lib.decDigits)).length := by
  rw [Lib.joinTail_length, List.length_map]
  simp
theorem segM_text {s : Seg} (h1 : 1 ≤ s.1.toNat) (h4 : s.1.toNat ≤ 4) (h0 : 0 < s.2.length) (hf : ∀ n ∈ s.2, n < 4294967296) {r : List UInt8} (hg : s.1.toNat = 2 → Gp r) (rd : List Seg) :
    segM s.1.toNat ⟨segT s ++ r, rd, 0⟩ = (⟨r, rd ++ [s], 0⟩, true) := by
  obtain ⟨k, ns⟩ := s
  cases ns with
  | nil => simp at h0
  | cons n ns =>
    simp only at h1 h4 hf hg ⊢
    obtain ⟨c, hb, hc⟩ := betw_mark h1 h4
    obtain ⟨t1, t2⟩ := tail_ok h1 h4 hb hg
    have e : segT (k, n :: ns) ++ r = opens k.toNat ++ (Lib.decDigits n ++ (Lib.joinTail [c] (ns.map Lib.decDigits) ++ (ends k.toNat ++ r))) := by
      unfold segT
      rw [hb, List.map_cons, Lib.join_cons]
      simp only [List.append_assoc]
    have hl : ns.length < (segT (k, n :: ns) ++ r).length + 1 := by
      rw [e]
      have := joinTail_len c ns
      simp only [List.length_append]
      omega
    have hs := segL_join hc t1 t2 ns n ((segT (k, n :: ns) ++ r).length + 1) [] (hf n (List.mem_cons_self ..)) (fun m hm => hf m (List.mem_cons_of_mem _ hm)) hl
    unfold segM
    simp only
    rw [show (segT (k, n :: ns) ++ r).drop (opens k.toNat).length = Lib.decDigits n ++ (Lib.joinTail [c] (ns.map Lib.decDigits) ++ (ends k.toNat ++ r)) by rw [e, List.drop_left], hb, hs]
    simp only [Bool.true_eq_false, if_false, trim_app, hasP_app, List.nil_append, UInt8.ofNat_toNat]
/-- A path's text, from the left. -/
def txF : List Seg → List UInt8
  | [] => []
  | [s] => segT s
  | s :: t :: r => segT s ++ (gap s.1.toNat t.1.toNat ++ txF (t :: r))
theorem dec_cons (n : Nat) : ∃ c r, Lib.decDigits n = c :: r ∧ 48 ≤ c.toNat ∧ c.toNat ≤ 57 := by
  cases h : Lib.decDigits n with
  | nil => exact absurd h (dec_ne n)
  | cons c r => exact ⟨c, r, rfl, isD_range (List.all_eq_true.1 (dec_all n) c (by rw [h]; exact List.mem_cons_self ..))⟩
theorem segT_head {s : Seg} (h1 : 1 ≤ s.1.toNat) (h4 : s.1.toNat ≤ 4) (h0 : 0 < s.2.length) : ∃ c r, segT s = c :: r ∧ (∀ x, kindOf (c :: x) = s.1.toNat) ∧ (s.1.toNat ≠ 2 → marks.contains c = true) ∧ c ≠ 45 := by
  obtain ⟨k, ns⟩ := s
  cases ns with
  | nil => simp at h0
  | cons n ns =>
    simp only at h1 h4 ⊢
    unfold segT
    generalize k.toNat = m at *
    obtain rfl | rfl | rfl | rfl : m = 1 ∨ m = 2 ∨ m = 3 ∨ m = 4 := by omega
    · exact ⟨123, _, rfl, fun x => rfl, fun _ => by decide, by decide⟩
    · obtain ⟨c, r, e, hc1, hc2⟩ := dec_cons n
      refine ⟨c, r ++ (Lib.joinTail (betw 2) (ns.map Lib.decDigits) ++ ends 2), ?_, fun x => ?_, fun h => absurd rfl h, fun h => ?_⟩
      · rw [List.map_cons, Lib.join_cons, e]
        simp [opens]
      · rw [kindOf_cons, if_neg (fun h => by subst h; exact absurd hc2 (by decide)), if_neg (fun h => by subst h; exact absurd hc1 (by decide)), if_neg (fun h => by subst h; exact absurd hc2 (by decide))]
      · subst h; exact absurd hc1 (by decide)
    · exact ⟨40, _, rfl, fun x => rfl, fun _ => by decide, by decide⟩
    · exact ⟨91, _, rfl, fun x => rfl, fun _ => by decide, by decide⟩
theorem txF_head (s : Seg) (p : List Seg) : ∃ r, txF (s :: p) = segT s ++ r := by
  cases p with
  | nil => exact ⟨[], by rw [List.append_nil]; rfl⟩
  | cons t r => exact ⟨_, rfl⟩
theorem may1_of {s : Seg} (h : may1 s = true) : 1 ≤ s.1.toNat ∧ s.1.toNat ≤ 4 ∧ 0 < s.2.length := by
  unfold may1 at h
  simp only [Bool.and_eq_true, decide_eq_true_eq] at h
  exact ⟨h.1.1.1, h.1.1.2, h.1.2⟩
theorem kindOf_tx {s : Seg} (h : may1 s = true) (p : List Seg) : kindOf (txF (s :: p)) = s.1.toNat := by
  obtain ⟨h1, h4, h0⟩ := may1_of h
  obtain ⟨c, r, e, hk, _⟩ := segT_head h1 h4 h0
  obtain ⟨r2, e2⟩ := txF_head s p
  rw [e2, e]
  exact hk _
theorem gap_next {s t : Seg} (ht : may1 t = true) (p : List Seg) : kindOf ((gap s.1.toNat t.1.toNat ++ txF (t :: p)).drop 1) = t.1.toNat ∧ (s.1.toNat = 2 → Gp (gap s.1.toNat t.1.toNat ++ txF (t :: p))) := by
  have hk := kindOf_tx ht p
  obtain ⟨h1, h4, h0⟩ := may1_of ht
  obtain ⟨c, r, e, _, hm, _⟩ := segT_head h1 h4 h0
  obtain ⟨r2, e2⟩ := txF_head t p
  unfold gap
  by_cases h : s.1.toNat = 2 ∧ t.1.toNat = 2
  · rw [if_pos h, h.2]
    exact ⟨rfl, fun _ => .inr ⟨124, _, rfl, by decide⟩⟩
  · rw [if_neg h]
    refine ⟨hk, fun h2 => .inr ⟨c, r ++ r2, by rw [e2, e]; rfl, hm (fun x => h ⟨h2, x⟩)⟩⟩
theorem gap_ne (k m : Nat) (x : List UInt8) : gap k m ++ x ≠ [] := by unfold gap; split <;> simp
theorem pathL_text : ∀ (p : List Seg) (s : Seg) (f : Nat) (rd : List Seg), may1 s = true → p.all may1 = true → fits (s :: p) → p.length < f → pathL f s.1.toNat ⟨txF (s :: p), rd, 0⟩ = (⟨[], rd ++ s :: p, 0⟩, true)
  | [], s, f + 1, rd, hs, _, hf, _ => by
    obtain ⟨h1, h4, h0⟩ := may1_of hs
    have e : segM s.1.toNat ⟨txF [s], rd, 0⟩ = (⟨[], rd ++ [s], 0⟩, true) := by
      have := segM_text h1 h4 h0 (hf s (List.mem_cons_self ..)) (r := []) (fun _ => .inl rfl) rd
      rwa [List.append_nil] at this
    unfold pathL
    rw [e]
    simp
  | t :: p, s, f + 1, rd, hs, hp, hf, hl => by
    obtain ⟨h1, h4, h0⟩ := may1_of hs
    rw [List.all_cons, Bool.and_eq_true] at hp
    obtain ⟨g1, g2⟩ := gap_next (s := s) hp.1 p
    have e : segM s.1.toNat ⟨txF (s :: t :: p), rd, 0⟩ = (⟨gap s.1.toNat t.1.toNat ++ txF (t :: p), rd ++ [s], 0⟩, true) :=
      segM_text h1 h4 h0 (hf s (List.mem_cons_self ..)) g2 rd
    have ih := pathL_text p t f (rd ++ [s]) hp.1 hp.2 (fun x hx => hf x (List.mem_cons_of_mem _ hx)) (by simp at hl; omega)
    unfold pathL
    rw [e]
    simp only [Bool.true_eq_false, if_false, gap_ne, g1, hasP_app, if_true, List.drop_left]
    rw [ih, List.append_assoc]
    rfl
theorem segT_pos {s : Seg} (h : may1 s = true) : 0 < (segT s).length := by
  obtain ⟨h1, h4, h0⟩ := may1_of h
  obtain ⟨c, r, e, _⟩ := segT_head h1 h4 h0
  rw [e]; simp
theorem txF_len : ∀ (p : List Seg), p.all may1 = true → p.length ≤ (txF p).length
  | [], _ => by simp
  | [s], h => by
    rw [List.all_cons, Bool.and_eq_true] at h
    have := segT_pos h.1
    show 1 ≤ (segT s).length
    omega
  | s :: t :: r, h => by
    rw [List.all_cons, Bool.and_eq_true] at h
    have := segT_pos h.1
    have ih := txF_len (t :: r) h.2
    show _ ≤ (segT s ++ (gap s.1.toNat t.1.toNat ++ txF (t :: r))).length
    simp only [List.length_append, List.length_cons] at ih ⊢
    omega
theorem parse_txF {l : List Seg} (hm : may l = true) (hf : fits l) (hne : l ≠ []) : parseP (txF l) = (l, 0) := by
  have hm2 := hm
  unfold may at hm2
  rw [Bool.and_eq_true] at hm2
  cases l with
  | nil => exact absurd rfl hne
  | cons s p =>
    have ha := hm2.1
    rw [List.all_cons, Bool.and_eq_true] at ha
    have hlen := txF_len (s :: p) hm2.1
    have h45 : txF (s :: p) ≠ [45] := fun e => by
      obtain ⟨h1, h4, h0⟩ := may1_of ha.1
      obtain ⟨c, r, e1, _, _, hc⟩ := segT_head h1 h4 h0
      obtain ⟨r2, e2⟩ := txF_head s p
      rw [e2, e1] at e
      injection e with e
      exact hc e
    unfold parseP
    rw [if_neg h45, kindOf_tx ha.1 p]
    simp only
    rw [pathL_text p s _ [] ha.1 ha.2 hf (by simp at hlen; omega)]
    simp [hm]
/-- The text from the right is the text from the left. -/
theorem tx_append (l r : List Seg) : ∀ k, k ≤ l.length → tx (l ++ r) k = tx l k
  | 0, _ => rfl
  | k + 1, h => by
    have e1 : (l ++ r).getD k (0, []) = l.getD k (0, []) := by
      rw [List.getD_eq_getElem?_getD, List.getD_eq_getElem?_getD, List.getElem?_append_left (by omega)]
    have e2 : (l ++ r).getD (k - 1) (0, []) = l.getD (k - 1) (0, []) := by
      rw [List.getD_eq_getElem?_getD, List.getD_eq_getElem?_getD, List.getElem?_append_left (by omega)]
    show tx (l ++ r) k ++ (ahead (l ++ r) k ++ segT ((l ++ r).getD k (0, []))) = tx l k ++ (ahead l k ++ segT (l.getD k (0, [])))
    rw [tx_append l r k (by omega), e1]
    unfold ahead
    rw [e1, e2]
theorem txF_snoc : ∀ (l : List Seg) (x s : Seg), txF (l ++ [x] ++ [s]) = txF (l ++ [x]) ++ (gap x.1.toNat s.1.toNat ++ segT s)
  | [], x, s => rfl
  | [a], x, s => by
    show segT a ++ (gap a.1.toNat x.1.toNat ++ (segT x ++ (gap x.1.toNat s.1.toNat ++ segT s))) = segT a ++ (gap a.1.toNat x.1.toNat ++ segT x) ++ _
    simp only [List.append_assoc]
  | a :: b :: l, x, s => by
    have ih := txF_snoc (b :: l) x s
    show segT a ++ (gap a.1.toNat b.1.toNat ++ txF (b :: l ++ [x] ++ [s])) = segT a ++ (gap a.1.toNat b.1.toNat ++ txF (b :: l ++ [x])) ++ _
    rw [ih]
    simp only [List.append_assoc]
theorem tx_eq : ∀ (n : Nat) (l : List Seg), l.length = n → tx l n = txF l
  | 0, l, h => by rw [List.length_eq_zero_iff.1 h]; rfl
  | n + 1, l, h => by
    obtain ⟨i, s, rfl⟩ : ∃ i s, l = i ++ [s] := by
      have hne : l ≠ [] := fun e => by rw [e] at h; simp at h
      exact ⟨l.dropLast, l.getLast hne, (List.dropLast_concat_getLast hne).symm⟩
    have hi : i.length = n := by simpa using h
    have ih := tx_eq n i hi
    have e1 : (i ++ [s]).getD n (0, []) = s := by rw [List.getD_eq_getElem?_getD, List.getElem?_append_right (by omega), hi]; simp
    show tx (i ++ [s]) n ++ (ahead (i ++ [s]) n ++ segT ((i ++ [s]).getD n (0, []))) = _
    rw [tx_append i [s] n (by omega), ih, e1]
    rcases List.eq_nil_or_concat i with rfl | ⟨j, x, rfl⟩
    · obtain rfl : n = 0 := hi.symm
      rfl
    · rw [List.concat_eq_append] at *
      have hj : j.length + 1 = n := by simpa using hi
      have e2 : (j ++ [x] ++ [s]).getD (n - 1) (0, []) = x := by
        rw [List.getD_eq_getElem?_getD, List.append_assoc, List.getElem?_append_right (by omega), show n - 1 - j.length = 0 by omega]; rfl
      unfold ahead
      rw [if_neg (by omega), e1, e2, txF_snoc]
theorem parse_text {l : List Seg} (hm : may l = true) (hf : fits l) : parseP (text l) = (l, 0) := by
  unfold text
  rw [hm, if_pos rfl]
  by_cases h : l = []
  · subst h; rfl
  · rw [if_neg h, tx_eq l.length l rfl]
    exact parse_txF hm hf h
theorem text_inj {p q : List Seg} (hp : may p = true) (hq : may q = true) (fp : fits p) (fq : fits q) : (text p == text q) = decide (p = q) := by
  rw [Bool.eq_iff_iff, beq_iff_eq, decide_eq_true_eq]
  constructor
  · intro h
    have h1 := parse_text hp fp
    rw [h, parse_text hq fq] at h1
    injection h1 with h1
    exact h1.symm
  · rintro rfl; rfl
theorem parseP_may {x : List UInt8} {l : List Seg} (h : parseP x = (l, 0)) : may l = true := by
  unfold parseP at h
  split at h
  · injection h with h; subst h; rfl
  · simp only at h
    split at h
    · cases h
    · split at h
      · next h0 => injection h with _ h2; exact absurd h2 h0
      · split at h
        · cases h
        · next h3 =>
          injection h with h1
          subst h1
          simpa using h3
theorem parseP_fault {x : List UInt8} (h : (parseP x).2 ≠ 0) : (parseP x).1 = [] := by
  unfold parseP at h ⊢
  split
  · rfl
  · next h0 =>
    rw [if_neg h0] at h
    simp only at h ⊢
    split
    · rfl
    · next h1 =>
      rw [if_neg h1] at h
      split
      · rfl
      · next h2 =>
        rw [if_neg h2] at h
        split
        · rfl
        · next h3 => rw [if_neg h3] at h; exact absurd rfl h
end Pt
end Go.Proofs.YtdeblmolgmadiaaGreatDoor
namespace Go.Proofs.YtdeblmolgmadiaaGreatDoor
open Go.RowKit

namespace Pt
theorem bytes_true {p : List Seg} (hm : may p = true) : bytes p true = (form true p, 0) := by
  unfold bytes
  rw [if_neg (by rw [hm]; simp), if_neg (by simp)]
theorem bytes_short {p : List Seg} (hm : may p = true) (hw : hasW p = false) : bytes p false = (form false p, 0) := by
  unfold bytes
  rw [if_neg (by rw [hm]; simp), if_neg (by rw [hw]; simp)]
theorem bytes_long {p : List Seg} (hm : may p = true) (hw : hasW p = true) : bytes p false = ([], 24) := by
  unfold bytes
  rw [if_neg (by rw [hm]; simp), if_pos (by rw [hw]; simp)]
theorem read_none (wide : Bool) : read wide [] = ([], 0) := rdL_nil _ _
theorem read_fault {wide : Bool} {b : List UInt8} (h : (read wide b).2 ≠ 0) : (read wide b).1 = [] := rdL_fault _ _ _ h
theorem tx_len2 (l : List Seg) (h : ∀ s ∈ l, (∀ n ∈ s.2, n < 4294967296) ∧ s.2.length ≤ 255) : ∀ k, k ≤ l.length → (tx l k).length ≤ 2810 * k
  | 0, _ => by simp [tx]
  | k + 1, hk => by
    have h1 := tx_len2 l h k (by omega)
    have h2 := ahead_len l k
    have hm : l.getD k (0, []) ∈ l := by rw [getD_get (by omega)]; exact List.getElem_mem _
    have h3 := segT_len (l.getD k (0, [])) (h _ hm).1
    have h4 := (h _ hm).2
    unfold tx
    rw [List.length_append, List.length_append]
    omega
theorem text_len {l : List Seg} (hm : may l = true) (hf : fits l) : (text l).length ≤ 90000 := by
  have h1 := tx_len2 l (fun s hs => ⟨hf s hs, (may_seg hm hs).2.2.2⟩) l.length (Nat.le_refl _)
  have h2 := may_le hm
  unfold text
  rw [hm, if_pos rfl]
  split
  · simp
  · omega
theorem short_all (l : List Seg) : (all l).all (fun x => decide (x.2 < 65536)) = !hasW l := by
  unfold hasW
  rw [List.all_eq_not_any_not]
  congr 2
  funext x
  rw [Bool.eq_iff_iff]
  simp
  omega
end Pt

theorem wp_rf1 {P : Program} {α : Type} {g : Operand} {p1 p2 q2 : Tmp} {assign body : Code} {K : Act → World → Prop} {Q : Exit → Act → World → Prop} {b : Nat} {a : Act} {w : World} {gf : Nat} {fs : Array Value}
    (hg : a.eval g = .func (.func gf) fs #[]) (eg : ∀ args w, (callFunc gf args).run P w = .ok (.enter gf args) w) {u v : α → Value} {xs : List α} {S : Nat → Prop} (hS : ∀ k, S k → k < w.heap.size)
    (hseq : SeqAll P gf fs (fun x => #[u x, v x]) xs S w)
    (I : List α → World → Prop) (hI : ∀ s A A', I s A → w.heap.size ≤ A.heap.size → Kept (fun k => w.heap.size ≤ k) A A' → I s A') (h0 : I [] w)
    (hassign : ∀ (l : Nat) (x : α) (W : World) (K : Act → World → Prop), K { tmps := ((a.tmps.setIfInBounds p1 (u x)).setIfInBounds p2 (v x)).setIfInBounds q2 (v x), defers := [] } W →
      assign.wpIn (Fence.wide.inRound l) 2 P (Exit.then K (fun _ _ _ => False)) { tmps := (a.tmps.setIfInBounds p1 (u x)).setIfInBounds p2 (v x), defers := [] } W)
    (hbody : ∀ (l : Nat) (pre : List α) (x : α) (W : World), I pre W → pre ++ [x] <+: xs → w.heap.size ≤ W.heap.size →
      body.wpIn (Fence.wide.inRound l) 2 P (RfPost S I (fun _ _ _ => False) (pre ++ [x]) W) { tmps := ((a.tmps.setIfInBounds p1 (u x)).setIfInBounds p2 (v x)).setIfInBounds q2 (v x), defers := [] } W)
    (hpost : ∀ (D : Nat) (W : World), w.heap.size ≤ D → I xs W → W.heap[D]? = some (.deferred (some [])) → K { a with defers := { target := .collected D, args := #[] } :: a.defers } W) :
    (Code.rangeFunc g #[p1, p2] assign body).wp P (Exit.inBlock b (Exit.then K Q)) a w := by
  refine wp_rf (encs := fun x => #[u x, v x]) hg eg hS hseq (fun _ => rfl) I (fun _ _ _ => False) hI (fun c s A A' h _ _ => h.elim) h0 (fun x => { tmps := ((a.tmps.setIfInBounds p1 (u x)).setIfInBounds p2 (v x)).setIfInBounds q2 (v x), defers := [] }) ?_ hbody ?_ ?_
  · intro l x W K hK
    rw [fold_two]
    exact hassign l x W K hK
  · intro D W hD hi hd
    exact hpost D W hD hi hd
  · rintro D c pre W hD hp h hd
    exact h.elim
end Go.Proofs.YtdeblmolgmadiaaGreatDoor
