
/-
  append onto a row whose elder value is read on; a path put behind a path.
-/
import Derived.Test.YtdeblmolgmadiaaDoorJp
import Derived.Test.YtdeblmolgmadiaaDoorJo
namespace Go.Proofs.YtdeblmolgmadiaaDoor
open Go.RowKit

section
variable {P : Program} (w : World)
/-- As run_app; and what the elder value reads stays. -/
theorem run_app2 (base : Nat) (t ty e : TypeId) (i : TypeInfo) (z : Value) (size bytes : Nat) (ht : P.underlying t = some (.slice e)) (hi : P.info? e = some i) (hz : i.zero = some z)
    (hsize : i.size = size) (hby : i.bytes = bytes) (hzs : z.cells.size = size) (hsz : 0 < size)
    (v : Value) (n : Nat) (xs : List Value) (hown : w.ownsRow base e size v n xs)
    (A : Option Addr) (m c : Nat) (news : List Value) (hs : Src w size A m news)
    (h63 : n + m ≤ maxLen) (hbytes : (n + m) * bytes ≤ 140737488355328) (hbase : base ≤ w.heap.size) :
    ∃ v' w', (Builtin.append_ #[t, t] ty #[v, .slice A m c]).run P w = .ok v' w' ∧ w'.ownsRow base e size v' (n + m) (xs ++ news) ∧ w.grownBy w' v.ownBlock ∧
      (v'.ownBlock = v.ownBlock ∨ v'.ownBlock = some w.heap.size) ∧ (∀ g, v.ownBlock = some g → ∀ j u, xs[j]? = some u → w'.cell? ((⟨g, 0, none⟩ : Addr).add j) = some u) := by
  obtain ⟨v', w', hr, h2, h3, h4⟩ := run_app (P := P) w base t ty e i z size bytes ht hi hz hsize hby hzs hsz v n xs hown A m c news hs h63 hbytes hbase
  refine ⟨v', w', hr, h2, h3, h4, ?_⟩
  intro g hg j u hu
  have same : v'.ownBlock = some g → w'.cell? ((⟨g, 0, none⟩ : Addr).add j) = some u := fun e => h2.cells e j u (by
    rw [List.getElem?_append_left (List.getElem?_eq_some_iff.1 hu).1]; exact hu)
  have hlt := (hown.lt g hg).2
  rcases h4 with h4 | h4
  · exact same (h4.trans hg)
  · obtain ⟨h1, hn2, hn3, hn4⟩ := hs
    rcases hown.2 with ⟨rfl, rfl⟩ | ⟨g', cap, cur, rfl, hbg, hgg, hnc, hcm, hcs, htake⟩
    · simp [Value.ownBlock] at hg
    · obtain rfl : g' = g := by simpa [Value.ownBlock] using hg
      subst hsize hby
      cases A with
      | none =>
        obtain rfl : m = 0 := hn2 rfl
        exfalso
        have : (Builtin.append_ #[t, t] ty #[.slice (some ⟨g', 0, none⟩) n cap, .slice none 0 c]).run P w = .ok (.slice (some ⟨g', 0, none⟩) n cap) w := by
          simp [Builtin.append_, run_underlying ht, sizeOf, typeInfo, hi, Builtin.lenOf, Builtin.firstCells, hnc, storeCells]
        rw [this] at hr
        injection hr with e1 e2
        rw [← e1] at h4
        simp [Value.ownBlock] at h4
        omega
      | some a =>
        by_cases hroom : n + m ≤ cap
        · exfalso
          have hfit : n * i.size + news.length ≤ cur.size := by rw [h1, hcs, ← Nat.add_mul]; exact Nat.mul_le_mul_right _ hroom
          have hr2 := run_append_room (P := P) w t ty e i ht hi g' n cap cur hgg a m c news h1 (hn3 a rfl) hn4 hroom hfit
          rw [hr2] at hr
          injection hr with e1 e2
          rw [← e1] at h4
          simp [Value.ownBlock] at h4
          omega
        · have hsmall : n + m ≤ 9223372036854775807 := by simp only [maxLen] at h63; omega
          have hr2 := run_append_grow (P := P) w t ty e i z ht hi hz ⟨g', 0, none⟩ n cap xs hown.1 (hown.cells rfl) a m c news h1 (hn3 a rfl) (by omega) (by omega) (growslice_fits (by omega) hbytes)
          rw [hr2] at hr
          injection hr with e1 e2
          rw [← e2]
          exact Go.Lib.cell?_alloc_some _ (hown.cells rfl j u hu)
theorem wp_app2 {o : Oper} {a : Act} {K : Act → World → Prop} {Q : Exit → Act → World → Prop} (s x : Operand) (t : TypeId)
    (ho : o.op = .call { callee := .builtin .append, args := #[s, x], argTypes := #[t, t] })
    (base : Nat) (e : TypeId) (i : TypeInfo) (z : Value) (size bytes : Nat) (ht : P.underlying t = some (.slice e)) (hi : P.info? e = some i) (hz : i.zero = some z)
    (hsize : i.size = size) (hby : i.bytes = bytes) (hzs : z.cells.size = size) (hsz : 0 < size)
    (v : Value) (n : Nat) (xs : List Value) (hv : a.eval s = v) (hown : w.ownsRow base e size v n xs)
    (A : Option Addr) (m c : Nat) (news : List Value) (hx : a.eval x = .slice A m c) (hs : Src w size A m news)
    (h63 : n + m ≤ maxLen) (hbytes : (n + m) * bytes ≤ 140737488355328) (hbase : base ≤ w.heap.size)
    (h : ∀ v' w', w'.ownsRow base e size v' (n + m) (xs ++ news) → w.grownBy w' v.ownBlock → (∀ g, v.ownBlock = some g → ∀ j u, xs[j]? = some u → w'.cell? ((⟨g, 0, none⟩ : Addr).add j) = some u) → K (a.put o.dst v') w') : o.wp P a w K Q := by
  obtain ⟨v', w', hr, h2, h3, h4, h5⟩ := run_app2 (P := P) w base t o.type e i z size bytes ht hi hz hsize hby hzs hsz v n xs hown A m c news hs h63 hbytes hbase
  unfold Oper.wp execOp
  simp only [ho, resolve, invoke, builtin, Sem.run_bind, Sem.run_pure, Result.andThen_ok, List.map_toArray, List.map_cons, List.map_nil, hv, hx, hr]
  exact h v' w' h2 h3 h5
/-- At a plain region's list, the operation guarded or not. -/
theorem wpList_app2 {ops : Array Oper} {rest : List Oper} {o : Oper} {a : Act} {Q : Exit → Act → World → Prop} (hw : Region.wanted o (yielded ops a.tmps) = true) (s x : Operand) (t : TypeId)
    (ho : o.op = .call { callee := .builtin .append, args := #[s, x], argTypes := #[t, t] })
    (base : Nat) (e : TypeId) (i : TypeInfo) (z : Value) (size bytes : Nat) (ht : P.underlying t = some (.slice e)) (hi : P.info? e = some i) (hz : i.zero = some z)
    (hsize : i.size = size) (hby : i.bytes = bytes) (hzs : z.cells.size = size) (hsz : 0 < size)
    (v : Value) (n : Nat) (xs : List Value) (hv : a.eval s = v) (hown : w.ownsRow base e size v n xs)
    (A : Option Addr) (m c : Nat) (news : List Value) (hx : a.eval x = .slice A m c) (hs : Src w size A m news)
    (h63 : n + m ≤ maxLen) (hbytes : (n + m) * bytes ≤ 140737488355328) (hbase : base ≤ w.heap.size)
    (h : ∀ v' w', w'.ownsRow base e size v' (n + m) (xs ++ news) → w.grownBy w' v.ownBlock → (∀ g, v.ownBlock = some g → ∀ j u, xs[j]? = some u → w'.cell? ((⟨g, 0, none⟩ : Addr).add j) = some u) → wpList P ops Q rest (a.put o.dst v') w') : wpList P ops Q (o :: rest) a w :=
  wpList_step fun K hK => by
    rw [if_pos hw]
    exact wp_app2 w s x t ho base e i z size bytes ht hi hz hsize hby hzs hsz v n xs hv hown A m c news hx hs h63 hbytes hbase fun v' w' h2 h3 h4 => hK _ _ (h v' w' h2 h3 h4)
end

/-- A row of bytes of the call's own, read behind such an append. -/
theorem bs_elder {w w' : World} {base n c : Nat} {A : Option Addr} {l : List UInt8} (h : w.ownsRow base 5 1 (.slice A l.length c) l.length (bys l)) (hn : n = l.length)
    (hc : ∀ g, (Value.slice A n c).ownBlock = some g → ∀ j u, (bys l)[j]? = some u → w'.cell? ((⟨g, 0, none⟩ : Addr).add j) = some u) : By w' (.slice A n c) l := by
  subst hn
  obtain ⟨A', c', e, h1, h2, s1, s2, s3, s4⟩ := (Bs.of_own h).by
  injection e with e1 _ e3
  subst e1 e3
  refine ⟨A, c, rfl, h1, h2, s1, s2, fun a ha j u hu => ?_, s4⟩
  rcases h.2 with ⟨e1, _⟩ | ⟨g, cap, cur, e1, _⟩
  · rw [ha] at e1; injection e1 with e1; cases e1
  · injection e1 with e1
    rw [ha] at e1
    injection e1 with e1
    subst e1
    exact hc g (by rw [ha]; rfl) j u hu
theorem Rws.join {w : World} {B : Nat} {ys : List Value} {m : List Seg} (hm : Rws w B ys m) : ∀ {xs : List Value} {l : List Seg}, Rws w B xs l → Rws w B (xs ++ ys) (l ++ m)
  | [], [], _ => hm
  | _ :: _ :: _, _ :: _, ⟨h1, h2, h3, h4⟩ => ⟨h1, h2, h3, Rws.join hm h4⟩
  | [], _ :: _, h => h.elim
  | [_], _, h => by unfold Rws at h; exact h.elim
  | _ :: _ :: _, [], h => by unfold Rws at h; exact h.elim
theorem Rws.one {w : World} {B : Nat} : ∀ {xs : List Value} {l : List Seg}, Rws w B xs l → ∀ u ∈ xs, u.oneCell' = true
  | [], [], _ => fun u hu => by cases hu
  | a :: v :: xs, _ :: _, ⟨h1, h2, h3, h4⟩ => fun u hu => by
    obtain ⟨A, c, rfl, _, _⟩ := ow_form h2
    subst h1
    rcases List.mem_cons.1 hu with rfl | hu
    · rfl
    · rcases List.mem_cons.1 hu with rfl | hu
      · rfl
      · exact Rws.one h4 u hu
  | [], _ :: _, h => h.elim
  | [_], _, h => by unfold Rws at h; exact h.elim
  | _ :: _ :: _, [], h => by unfold Rws at h; exact h.elim
theorem Rws.weak {w : World} {B B' : Nat} (hb : B' ≤ B) : ∀ {xs : List Value} {l : List Seg}, Rws w B xs l → Rws w B' xs l
  | [], [], _ => trivial
  | _ :: _ :: _, _ :: _, ⟨h1, h2, h3, h4⟩ => ⟨h1, own_weakA h2 hb, h3, Rws.weak hb h4⟩
  | [], _ :: _, h => h.elim
  | [_], _, h => by unfold Rws at h; exact h.elim
  | _ :: _ :: _, [], h => by unfold Rws at h; exact h.elim
theorem Pown.weak {w : World} {B B' : Nat} {v : Value} {l : List Seg} (h : Pown w B v l) (hb : B' ≤ B) : Pown w B' v l := by
  obtain ⟨xs, h1, h2⟩ := h
  exact ⟨xs, own_weakA h1 hb, h2.weak hb⟩
theorem src_own {w : World} {base : Nat} {e : TypeId} {size n c : Nat} {A : Option Addr} {xs : List Value} (h : w.ownsRow base e size (.slice A n c) n xs) (h1 : ∀ u ∈ xs, u.oneCell' = true) : Src w size A n xs := by
  refine ⟨h.1, ?_, ?_, h1⟩
  · intro hA
    rcases h.2 with ⟨_, h0⟩ | ⟨g, cap, cur, e1, _⟩
    · exact h0
    · rw [hA] at e1; injection e1 with e1; cases e1
  · intro a ha j u hu
    rcases h.2 with ⟨_, h0⟩ | ⟨g, cap, cur, e1, _⟩
    · exfalso
      have := h.1
      rw [h0, Nat.zero_mul] at this
      rw [List.eq_nil_of_length_eq_zero this] at hu
      simp at hu
    · injection e1 with e2
      rw [ha] at e2
      injection e2 with e2
      subst e2
      exact h.cells (by rw [ha]; rfl) j u hu
/-- A path's row put behind a path's row. -/
theorem Pown.cat {w w' : World} {B : Nat} {p v' : Value} {l m : List Seg} {xs ys : List Value} (op : w.ownsRow B 61 2 p l.length xs) (hp : Rws w B xs l) (hq : Rws w B ys m) (hg : w.grownBy w' p.ownBlock)
    (ho : w'.ownsRow B 61 2 v' (l.length + m.length) (xs ++ ys)) : Pown w' B v' (l ++ m) := by
  have kg : Kept (fun k => p.ownBlock = some k) w w' := (Kept.refl _ w).grown hg (fun _ hk _ => hk)
  have hs : ∀ g cs, p.ownBlock = some g → w.heap[g]? ≠ some (.cells cs 25 (0, 0)) := fun g cs x e => by
    obtain ⟨cs', hh⟩ := ow_lt op x
    rw [hh] at e
    injection e with e
    injection e with _ e2
    exact absurd e2 (by decide)
  exact ⟨xs ++ ys, by rw [List.length_append]; exact ho, (hq.kept kg hs).join (hp.kept kg hs)⟩

theorem brF_may (l m : List Seg) : Pt.may (brF l ++ brF m) = true := by
  unfold Pt.may
  rw [Bool.and_eq_true]
  refine ⟨List.all_eq_true.2 fun s hs => ?_, by
    have := brF_len l; have := brF_len m
    rw [decide_eq_true_eq, List.length_append]; omega⟩
  obtain ⟨h1, h2, h3, h4⟩ : s.2.length ≤ 40 ∧ s.2 ≠ [] ∧ 1 ≤ s.1.toNat ∧ s.1.toNat ≤ 4 := (List.mem_append.1 hs).elim brF_num brF_num
  have := List.length_pos_iff.2 h2
  unfold Pt.may1
  simp
  refine ⟨⟨⟨?_, ?_⟩, ?_⟩, ?_⟩ <;> first | omega | (rw [UInt8.le_iff_toNat_le]; simpa using h3) | (rw [UInt8.le_iff_toNat_le]; simpa using h4)
theorem brF_may1 (l : List Seg) : Pt.may (brF l) = true := by
  have := brF_may l []
  rwa [brF_nil, List.append_nil] at this
theorem bytes_of_may {l : List Seg} (h : Pt.may l = true) : Pt.bytes l true = (Pt.form true l, 0) := by
  unfold Pt.bytes
  rw [if_neg (by rw [h]; simp), if_neg (by simp)]
end Go.Proofs.YtdeblmolgmadiaaDoor
