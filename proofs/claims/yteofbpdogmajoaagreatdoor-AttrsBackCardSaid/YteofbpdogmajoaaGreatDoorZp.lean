
/-
  slices.DeleteFunc of a path of the call's own, by what Strip asks.
-/
import Derived.Test.YteofbpdogmajoaaGreatDoorZo
import Derived.Laws.EntriesVeiled
import Derived.Test.YteofbpdogmajoaaGreatDoorZjp
import Derived.Test.YteofbpdogmajoaaGreatDoorZjt
namespace Go.Proofs.YteofbpdogmajoaaGreatDoor
open Go.RowKit Go.Shelf
attribute [local go_sem] Oper.semAt_some

end Go.Proofs.YteofbpdogmajoaaGreatDoor
namespace Go.Proofs.YteofbpdogmajoaaGreatDoor
open Go.RowKit Go.Shelf

namespace Wk
/-- Is a segment of this kind confed? -/
def confed (k : UInt8) : Bool := decide (k.toNat = 3) || decide (k.toNat = 4)
def has (l : List Seg) (n : Nat) : Bool := Pt.may l && (Pt.all l).any (fun x => x.2 == n)
def loops (l : List Seg) (m c : Nat) : Bool := Pt.may l && (Pt.all l).any (fun x => if confed x.1 then x.2 == m else x.2 == c)
/-- Has a plain number come up, and a confed one behind it? -/
def st (s : Bool × Bool) (x : UInt8 × Nat) : Bool × Bool := if confed x.1 then (s.1, s.2 || s.1) else (true, s.2)
def sts (a : List (UInt8 × Nat)) : Bool × Bool := a.foldl st (false, false)
def ordered (l : List Seg) : Bool := Pt.may l && !(sts (Pt.all l)).2
theorem sts_snoc (a : List (UInt8 × Nat)) (x : UInt8 × Nat) : sts (a ++ [x]) = st (sts a) x := by unfold sts; rw [List.foldl_append]; rfl
theorem bad_stays (b : List (UInt8 × Nat)) : ∀ s : Bool × Bool, s.2 = true → (b.foldl st s).2 = true := by
  induction b with
  | nil => exact fun s h => h
  | cons x b ih =>
    intro s h
    refine ih _ ?_
    unfold st
    split
    · simp [h]
    · exact h
theorem bad_prefix {a b : List (UInt8 × Nat)} (h : a <+: b) (hb : (sts a).2 = true) : (sts b).2 = true := by
  obtain ⟨r, rfl⟩ := h
  unfold sts
  rw [List.foldl_append]
  exact bad_stays r _ hb
/-- The number of a plain one. -/
def nbv (x : Option (UInt8 × Nat)) : Nat := match x with
  | some x => if x.1.toNat = 2 then x.2 else 0
  | none => 0
def neighbour (l : List Seg) : Nat := if Pt.may l then nbv ((Pt.all l).find? (fun x => !confed x.1)) else 0
def origin (l : List Seg) : Nat := if Pt.may l then nbv (Pt.all l).getLast? else 0
theorem find_prefix {a b : List (UInt8 × Nat)} {p : UInt8 × Nat → Bool} (h : a <+: b) {x : UInt8 × Nat} (hf : a.find? p = some x) : b.find? p = some x := by
  obtain ⟨r, rfl⟩ := h
  rw [List.find?_append, hf]; rfl
end Wk
theorem nat_beq (m n : Nat) : ((m : Int) == (n : Int)) = (m == n) := by rw [Bool.eq_iff_iff]; simp; omega
theorem app3 (a b c : Value) : (#[a, b] ++ #[c] : Array Value) = #[a, b, c] := by simp
theorem app4 (a b c d : Value) : (#[a, b] ++ #[c, d] : Array Value) = #[a, b, c, d] := by simp

theorem confed_any (k : UInt8) (w : World) : Calls Tryz.prog 99 #[.int .u8 (k.toNat : Int)] w fun e w' => e = .returned (.bool (Wk.confed k)) ∧ w = w' := by
  unfold Wk.confed
  generalize k.toNat = n
  by_cases h3 : n = 3
  · subst h3
    go_enter Tryz.func99, Tryz.ntmps99
    go_wp2
    go_ret
    exact ⟨rfl, rfl⟩
  · have h3b : ((n : Int) == 3) = false := by simp; omega
    by_cases h4 : n = 4
    · subst h4
      go_enter Tryz.func99, Tryz.ntmps99
      go_wp2
      go_ret
      exact ⟨rfl, rfl⟩
    · have h4b : ((n : Int) == 4) = false := by simp; omega
      have e : (decide (n = 3) || decide (n = 4)) = false := by simp [h3, h4]
      rw [e]
      clear e h3 h4
      go_enter Tryz.func99, Tryz.ntmps99
      go_wp2
      go_ret
      exact ⟨rfl, rfl⟩

theorem Wk.confed_seq {k : UInt8} (h : k.toNat = 2) : Wk.confed k = false := by unfold Wk.confed; simp [h]

end Go.Proofs.YteofbpdogmajoaaGreatDoor
namespace Go.Proofs.YteofbpdogmajoaaGreatDoor
open Go.RowKit

section
variable {P : Program} (w : World)
/-- As run_app; and what the elder value reads stays. -/
theorem run_app2 (base : Nat) (t ty e : TypeId) (i : TypeInfo) (z : Value) (size bytes : Nat) (ht : P.underlying t = some (.slice e)) (hi : P.info? e = some i) (hz : i.zero = some z)
    (hsize : i.size = size) (hby : i.bytes = bytes) (hzs : z.cells.size = size) (hsz : 0 < size)
    (v : Value) (n : Nat) (xs : List Value) (hown : w.ownsRow base e size v n xs)
    (A : Option Addr) (m c : Nat) (news : List Value) (hs : Src w size A m news)
    (h63 : n + m ≤ maxLen) (hbytes : (n + m) * bytes ≤ 140737488355328) (hbase : base ≤ w.heap.size) :
    ∃ v' w', (Builtin.append_ #[t, t] ty #[v, .slice A m c]).run P w = .ok v' w' ∧ w'.ownsRow base e size v' (n + m) (xs ++ news) ∧ w.grownBy w' v.ownBlock ∧
      (v'.ownBlock = v.ownBlock ∨ v'.ownBlock = some w.heap.size) ∧ (∀ g, v.ownBlock = some g → ∀ j u, xs[j]? = some u → w'.cell? ((⟨g, 0, none⟩ : Addr).add j) = some u) := by
  obtain ⟨v', w', hr, h2, h3, h4⟩ := run_app (P := P) w base t ty e i z size bytes ht hi hz hsize hby hzs hsz v n xs hown A m c news hs h63 hbytes hbase
  refine ⟨v', w', hr, h2, h3, h4, ?_⟩
  intro g hg j u hu
  have same : v'.ownBlock = some g → w'.cell? ((⟨g, 0, none⟩ : Addr).add j) = some u := fun e => h2.cells e j u (by
    rw [List.getElem?_append_left (List.getElem?_eq_some_iff.1 hu).1]; exact hu)
  have hlt := (hown.lt g hg).2
  rcases h4 with h4 | h4
  · exact same (h4.trans hg)
  · obtain ⟨h1, hn2, hn3, hn4⟩ := hs
    rcases hown.2 with ⟨rfl, rfl⟩ | ⟨g', cap, cur, rfl, hbg, hgg, hnc, hcm, hcs, htake⟩
    · simp [Value.ownBlock] at hg
    · obtain rfl : g' = g := by simpa [Value.ownBlock] using hg
      subst hsize hby
      cases A with
      | none =>
        obtain rfl : m = 0 := hn2 rfl
        exfalso
        have : (Builtin.append_ #[t, t] ty #[.slice (some ⟨g', 0, none⟩) n cap, .slice none 0 c]).run P w = .ok (.slice (some ⟨g', 0, none⟩) n cap) w := by
          simp [Builtin.append_, run_underlying ht, sizeOf, typeInfo, hi, Builtin.lenOf, Builtin.firstCells, hnc, storeCells]
        rw [this] at hr
        injection hr with e1 e2
        rw [← e1] at h4
        simp [Value.ownBlock] at h4
        omega
      | some a =>
        by_cases hroom : n + m ≤ cap
        · exfalso
          have hfit : n * i.size + news.length ≤ cur.size := by rw [h1, hcs, ← Nat.add_mul]; exact Nat.mul_le_mul_right _ hroom
          have hr2 := run_append_room (P := P) w t ty e i ht hi g' n cap cur hgg a m c news h1 (hn3 a rfl) hn4 hroom hfit
          rw [hr2] at hr
          injection hr with e1 e2
          rw [← e1] at h4
          simp [Value.ownBlock] at h4
          omega
        · have hsmall : n + m ≤ 9223372036854775807 := by simp only [maxLen] at h63; omega
          have hr2 := run_append_grow (P := P) w t ty e i z ht hi hz ⟨g', 0, none⟩ n cap xs hown.1 (hown.cells rfl) a m c news h1 (hn3 a rfl) (by omega) (by omega) (growslice_fits (by omega) hbytes)
          rw [hr2] at hr
          injection hr with e1 e2
          rw [← e2]
          exact Go.Lib.cell?_alloc_some _ (hown.cells rfl j u hu)
theorem wp_app2 {o : Oper} {a : Act} {K : Act → World → Prop} {Q : Exit → Act → World → Prop} (s x : Operand) (t : TypeId)
    (ho : o.op = .call { callee := .builtin .append, args := #[s, x], argTypes := #[t, t] })
    (base : Nat) (e : TypeId) (i : TypeInfo) (z : Value) (size bytes : Nat) (ht : P.underlying t = some (.slice e)) (hi : P.info? e = some i) (hz : i.zero = some z)
    (hsize : i.size = size) (hby : i.bytes = bytes) (hzs : z.cells.size = size) (hsz : 0 < size)
    (v : Value) (n : Nat) (xs : List Value) (hv : a.eval s = v) (hown : w.ownsRow base e size v n xs)
    (A : Option Addr) (m c : Nat) (news : List Value) (hx : a.eval x = .slice A m c) (hs : Src w size A m news)
    (h63 : n + m ≤ maxLen) (hbytes : (n + m) * bytes ≤ 140737488355328) (hbase : base ≤ w.heap.size)
    (h : ∀ v' w', w'.ownsRow base e size v' (n + m) (xs ++ news) → w.grownBy w' v.ownBlock → (∀ g, v.ownBlock = some g → ∀ j u, xs[j]? = some u → w'.cell? ((⟨g, 0, none⟩ : Addr).add j) = some u) → K (a.put o.dst v') w') : o.wp P a w K Q := by
  obtain ⟨v', w', hr, h2, h3, h4, h5⟩ := run_app2 (P := P) w base t o.type e i z size bytes ht hi hz hsize hby hzs hsz v n xs hown A m c news hs h63 hbytes hbase
  unfold Oper.wp execOp
  simp only [ho, resolve, invoke, builtin, Sem.run_bind, Sem.run_pure, Result.andThen_ok, List.map_toArray, List.map_cons, List.map_nil, hv, hx, hr]
  exact h v' w' h2 h3 h5
/-- At a plain region's list, the operation guarded or not. -/
theorem wpList_app2 {ops : Array Oper} {rest : List Oper} {o : Oper} {a : Act} {Q : Exit → Act → World → Prop} (hw : Region.wanted o (yielded ops a.tmps) = true) (s x : Operand) (t : TypeId)
    (ho : o.op = .call { callee := .builtin .append, args := #[s, x], argTypes := #[t, t] })
    (base : Nat) (e : TypeId) (i : TypeInfo) (z : Value) (size bytes : Nat) (ht : P.underlying t = some (.slice e)) (hi : P.info? e = some i) (hz : i.zero = some z)
    (hsize : i.size = size) (hby : i.bytes = bytes) (hzs : z.cells.size = size) (hsz : 0 < size)
    (v : Value) (n : Nat) (xs : List Value) (hv : a.eval s = v) (hown : w.ownsRow base e size v n xs)
    (A : Option Addr) (m c : Nat) (news : List Value) (hx : a.eval x = .slice A m c) (hs : Src w size A m news)
    (h63 : n + m ≤ maxLen) (hbytes : (n + m) * bytes ≤ 140737488355328) (hbase : base ≤ w.heap.size)
    (h : ∀ v' w', w'.ownsRow base e size v' (n + m) (xs ++ news) → w.grownBy w' v.ownBlock → (∀ g, v.ownBlock = some g → ∀ j u, xs[j]? = some u → w'.cell? ((⟨g, 0, none⟩ : Addr).add j) = some u) → wpList P ops Q rest (a.put o.dst v') w') : wpList P ops Q (o :: rest) a w :=
  wpList_step fun K hK => by
    rw [if_pos hw]
    exact wp_app2 w s x t ho base e i z size bytes ht hi hz hsize hby hzs hsz v n xs hv hown A m c news hx hs h63 hbytes hbase fun v' w' h2 h3 h4 => hK _ _ (h v' w' h2 h3 h4)
end

/-- A row of bytes of the call's own, read behind such an append. -/
theorem bs_elder {w w' : World} {base n c : Nat} {A : Option Addr} {l : List UInt8} (h : w.ownsRow base 5 1 (.slice A l.length c) l.length (bys l)) (hn : n = l.length)
    (hc : ∀ g, (Value.slice A n c).ownBlock = some g → ∀ j u, (bys l)[j]? = some u → w'.cell? ((⟨g, 0, none⟩ : Addr).add j) = some u) : By w' (.slice A n c) l := by
  subst hn
  obtain ⟨A', c', e, h1, h2, s1, s2, s3, s4⟩ := (Bs.of_own h).by
  injection e with e1 _ e3
  subst e1 e3
  refine ⟨A, c, rfl, h1, h2, s1, s2, fun a ha j u hu => ?_, s4⟩
  rcases h.2 with ⟨e1, _⟩ | ⟨g, cap, cur, e1, _⟩
  · rw [ha] at e1; injection e1 with e1; cases e1
  · injection e1 with e1
    rw [ha] at e1
    injection e1 with e1
    subst e1
    exact hc g (by rw [ha]; rfl) j u hu
theorem Rws.join {w : World} {B : Nat} {ys : List Value} {m : List Seg} (hm : Rws w B ys m) : ∀ {xs : List Value} {l : List Seg}, Rws w B xs l → Rws w B (xs ++ ys) (l ++ m)
  | [], [], _ => hm
  | _ :: _ :: _, _ :: _, ⟨h1, h2, h3, h4⟩ => ⟨h1, h2, h3, Rws.join hm h4⟩
  | [], _ :: _, h => h.elim
  | [_], _, h => by unfold Rws at h; exact h.elim
  | _ :: _ :: _, [], h => by unfold Rws at h; exact h.elim
theorem Rws.one {w : World} {B : Nat} : ∀ {xs : List Value} {l : List Seg}, Rws w B xs l → ∀ u ∈ xs, u.oneCell' = true
  | [], [], _ => fun u hu => by cases hu
  | a :: v :: xs, _ :: _, ⟨h1, h2, h3, h4⟩ => fun u hu => by
    obtain ⟨A, c, rfl, _, _⟩ := ow_form h2
    subst h1
    rcases List.mem_cons.1 hu with rfl | hu
    · rfl
    · rcases List.mem_cons.1 hu with rfl | hu
      · rfl
      · exact Rws.one h4 u hu
  | [], _ :: _, h => h.elim
  | [_], _, h => by unfold Rws at h; exact h.elim
  | _ :: _ :: _, [], h => by unfold Rws at h; exact h.elim
theorem Rws.weak {w : World} {B B' : Nat} (hb : B' ≤ B) : ∀ {xs : List Value} {l : List Seg}, Rws w B xs l → Rws w B' xs l
  | [], [], _ => trivial
  | _ :: _ :: _, _ :: _, ⟨h1, h2, h3, h4⟩ => ⟨h1, own_weakA h2 hb, h3, Rws.weak hb h4⟩
  | [], _ :: _, h => h.elim
  | [_], _, h => by unfold Rws at h; exact h.elim
  | _ :: _ :: _, [], h => by unfold Rws at h; exact h.elim
theorem Pown.weak {w : World} {B B' : Nat} {v : Value} {l : List Seg} (h : Pown w B v l) (hb : B' ≤ B) : Pown w B' v l := by
  obtain ⟨xs, h1, h2⟩ := h
  exact ⟨xs, own_weakA h1 hb, h2.weak hb⟩
theorem src_own {w : World} {base : Nat} {e : TypeId} {size n c : Nat} {A : Option Addr} {xs : List Value} (h : w.ownsRow base e size (.slice A n c) n xs) (h1 : ∀ u ∈ xs, u.oneCell' = true) : Src w size A n xs := by
  refine ⟨h.1, ?_, ?_, h1⟩
  · intro hA
    rcases h.2 with ⟨_, h0⟩ | ⟨g, cap, cur, e1, _⟩
    · exact h0
    · rw [hA] at e1; injection e1 with e1; cases e1
  · intro a ha j u hu
    rcases h.2 with ⟨_, h0⟩ | ⟨g, cap, cur, e1, _⟩
    · exfalso
      have := h.1
      rw [h0, Nat.zero_mul] at this
      rw [List.eq_nil_of_length_eq_zero this] at hu
      simp at hu
    · injection e1 with e2
      rw [ha] at e2
      injection e2 with e2
      subst e2
      exact h.cells (by rw [ha]; rfl) j u hu
/-- A path's row put behind a path's row. -/
theorem Pown.cat {w w' : World} {B : Nat} {p v' : Value} {l m : List Seg} {xs ys : List Value} (op : w.ownsRow B 71 2 p l.length xs) (hp : Rws w B xs l) (hq : Rws w B ys m) (hg : w.grownBy w' p.ownBlock)
    (ho : w'.ownsRow B 71 2 v' (l.length + m.length) (xs ++ ys)) : Pown w' B v' (l ++ m) := by
  have kg : Kept (fun k => p.ownBlock = some k) w w' := (Kept.refl _ w).grown hg (fun _ hk _ => hk)
  have hs : ∀ g cs, p.ownBlock = some g → w.heap[g]? ≠ some (.cells cs 27 (0, 0)) := fun g cs x e => by
    obtain ⟨cs', hh⟩ := ow_lt op x
    rw [hh] at e
    injection e with e
    injection e with _ e2
    exact absurd e2 (by decide)
  exact ⟨xs ++ ys, by rw [List.length_append]; exact ho, (hq.kept kg hs).join (hp.kept kg hs)⟩

theorem brF_may (l m : List Seg) : Pt.may (brF l ++ brF m) = true := by
  unfold Pt.may
  rw [Bool.and_eq_true]
  refine ⟨List.all_eq_true.2 fun s hs => ?_, by
    have := brF_len l; have := brF_len m
    rw [decide_eq_true_eq, List.length_append]; omega⟩
  obtain ⟨h1, h2, h3, h4⟩ : s.2.length ≤ 40 ∧ s.2 ≠ [] ∧ 1 ≤ s.1.toNat ∧ s.1.toNat ≤ 4 := (List.mem_append.1 hs).elim brF_num brF_num
  have := List.length_pos_iff.2 h2
  unfold Pt.may1
  simp
  refine ⟨⟨⟨?_, ?_⟩, ?_⟩, ?_⟩ <;> first | omega | (rw [UInt8.le_iff_toNat_le]; simpa using h3) | (rw [UInt8.le_iff_toNat_le]; simpa using h4)
theorem brF_may1 (l : List Seg) : Pt.may (brF l) = true := by
  have := brF_may l []
  rwa [brF_nil, List.append_nil] at this
theorem bytes_of_may {l : List Seg} (h : Pt.may l = true) : Pt.bytes l true = (Pt.form true l, 0) := by
  unfold Pt.bytes
  rw [if_neg (by rw [h]; simp), if_neg (by simp)]
end Go.Proofs.YteofbpdogmajoaaGreatDoor
namespace Go.Proofs.YteofbpdogmajoaaGreatDoor
open Go.RowKit Go.Shelf

theorem strip_1 (k : UInt8) (A : Option Addr) (n c : Nat) (w : World) : Calls Tryz.prog 98 #[.agg #[.int .u8 (k.toNat : Int), .slice A n c]] w fun e w' => e = .returned (.bool (Wk.confed k)) ∧ Kept Nothing w w' := by
  have b := Blk.fresh w 71 #[.int .u8 (k.toNat : Int), .slice A n c]
  have c0 := b.cell 0
  have HC := Lib.hid (fun w => confed_any k w)
  have KK := Lib.hid ((Kept.refl Nothing w).alloc (.cells #[.int .u8 (k.toNat : Int), .slice A n c] 71))
  clear b
  go_enter Tryz.func98, Tryz.ntmps98
  go_wp2_with (go_at_call 99; refine (HC.out _).mono ?_; rintro e w2 ⟨rfl, rfl⟩)
  go_ret
  exact ⟨rfl, KK.out⟩

set_option maxHeartbeats 800000 in
/-- The first confed segment. -/
theorem idx_func (v : Value) (l : List Seg) (w : World) (h : Pts w v l) (hl : l.length ≤ 1000000) :
    Calls Tryz.prog 140 #[v, .func (.func 98) #[] #[]] w fun e w' => Kept Nothing w w' ∧ ((e = .returned (.int .i64 (-1)) ∧ ∀ s ∈ l, Wk.confed s.1 = false) ∨ ∃ k : Nat, e = .returned (.int .i64 (k : Int)) ∧ k < l.length ∧ (∀ s ∈ l.take k, Wk.confed s.1 = false) ∧ Wk.confed (l.getD k (0, [])).1 = true) := by
  obtain ⟨A, c, rfl, hc, hm⟩ := h.form
  have HV := Lib.hid h
  have en : ∀ args w, (callFunc 98 args).run Tryz.prog w = .ok (.enter 98 args) w := enters_of Tryz.func98 (by kernel_rfl) rfl
  clear h
  go_enter Tryz.func140, Tryz.ntmps140
  go_upto_region 2 with fail
  go_loopw [8] (fun i wr => ∃ k : Nat, i = .int .i64 (k : Int) ∧ k ≤ l.length ∧ Hid (Kept Nothing w wr) ∧ Hid (∀ s ∈ l.take k, Wk.confed s.1 = false)) (fun i _ => l.length - (intOf i).toNat)
  case atStart => exact ⟨0, rfl, Nat.zero_le _, Lib.hid (Kept.refl _ _), Lib.hid (fun s hs => by simp at hs)⟩
  case round =>
    obtain ⟨k, rfl, hk, KK, HA⟩ := hrel
    by_cases hlt : k < l.length
    · obtain ⟨b, o, Au, cu, rfl, p0w, p1w, hp⟩ := HV.out.at2 hlt
      have p0 := KK.out.cell_some p0w (fun x => x)
      have p1 := KK.out.cell_some p1w (fun x => x)
      have i1 : (0 : Int) ≤ (k : Int) := by omega
      have i2 : (k : Int) < (l.length : Int) := by omega
      have HT : Hid (Wk.confed (l.getD k (0, [])).1 = false → ∀ s ∈ l.take (k + 1), Wk.confed s.1 = false) := Lib.hid (fun e s hs => by
        rw [List.take_succ_eq_append_getElem hlt] at hs
        rcases List.mem_append.1 hs with hs | hs
        · exact HA.out s hs
        · obtain rfl := List.mem_singleton.1 hs
          rwa [getD_get hlt] at e)
      have HS := Lib.hid (fun w => strip_1 (l.getD k (0, [])).1 Au (l.getD k (0, [])).2.length cu w)
      have HE : Hid (Wk.confed (l.getD k (0, [])).1 = Wk.confed (l.getD k (0, [])).1) := Lib.hid rfl
      clear hp p0w p1w
      generalize hcf : Wk.confed (l.getD k (0, [])).1 = cf at *
      have HCF := Lib.hid hcf
      clear hcf
      generalize (l.getD k (0, [])).1.toNat = kn at *
      generalize (l.getD k (0, [])).2.length = nl at *
      cases cf with
      | false =>
        go_wp2_with (go_at_call 98; refine (HS.out _).mono ?_; rintro e w2 ⟨rfl, k2⟩)
        go_roundw
        case rel => exact ⟨k + 1, by go_num, by omega, Lib.hid (KK.out.trans k2), Lib.hid (HT.out (by trivial))⟩
        case measure => simp [intOf]; omega
      | true =>
        go_wp2_with (go_at_call 98; refine (HS.out _).mono ?_; rintro e w2 ⟨rfl, k2⟩)
        go_ret
        exact ⟨KK.out.trans k2, .inr ⟨k, rfl, hlt, HA.out, HCF.out⟩⟩
    · obtain rfl : k = l.length := by omega
      rw [List.take_of_length_le (Nat.le_refl _)] at HA
      go_wp2
      go_ret
      exact ⟨KK.out, .inl ⟨rfl, HA.out⟩⟩

/-- The cells of the segments that are not confed. -/
def cutC : List Value → List Seg → List Value
  | a :: v :: xs, s :: l => if Wk.confed s.1 then cutC xs l else a :: v :: cutC xs l
  | _, _ => []
def plains (l : List Seg) : List Seg := l.filter fun s => !Wk.confed s.1
theorem plains_snoc (l : List Seg) (s : Seg) : plains (l ++ [s]) = plains l ++ (if Wk.confed s.1 then [] else [s]) := by
  unfold plains
  rw [List.filter_append]
  cases h : Wk.confed s.1 <;> simp [h]
theorem plains_len (l : List Seg) : (plains l).length ≤ l.length := List.length_filter_le _ _
theorem cutC_snoc {w : World} {B : Nat} (a v : Value) (s : Seg) : ∀ {xs : List Value} {l : List Seg}, Rws w B xs l → cutC (xs ++ [a, v]) (l ++ [s]) = cutC xs l ++ (if Wk.confed s.1 then [] else [a, v])
  | [], [], _ => by
    show (if Wk.confed s.1 then cutC [] [] else a :: v :: cutC [] []) = _
    cases Wk.confed s.1 <;> simp [cutC]
  | b :: u :: xs, t :: l, ⟨_, _, _, h⟩ => by
    have ih := cutC_snoc a v s h
    show (if Wk.confed t.1 then cutC (xs ++ [a, v]) (l ++ [s]) else b :: u :: cutC (xs ++ [a, v]) (l ++ [s])) = (if Wk.confed t.1 then cutC xs l else b :: u :: cutC xs l) ++ _
    rw [ih]
    cases Wk.confed t.1 <;> simp
  | [], _ :: _, h => h.elim
  | [_], _, h => by unfold Rws at h; exact h.elim
  | _ :: _ :: _, [], h => by unfold Rws at h; exact h.elim
theorem cutC_rws {w : World} {B : Nat} : ∀ {xs : List Value} {l : List Seg}, Rws w B xs l → Rws w B (cutC xs l) (plains l)
  | [], [], _ => trivial
  | b :: u :: xs, t :: l, ⟨h1, h2, h3, h⟩ => by
    have ih := cutC_rws h
    show Rws w B (if Wk.confed t.1 then cutC xs l else b :: u :: cutC xs l) (plains (t :: l))
    unfold plains at ih ⊢
    cases hc : Wk.confed t.1 with
    | true => simpa [hc] using ih
    | false =>
      rw [List.filter_cons_of_pos (by simp [hc])]
      exact ⟨h1, h2, h3, ih⟩
  | [], _ :: _, h => h.elim
  | [_], _, h => by unfold Rws at h; exact h.elim
  | _ :: _ :: _, [], h => by unfold Rws at h; exact h.elim
theorem Rws.len2 {w : World} {B : Nat} : ∀ {xs : List Value} {l : List Seg}, Rws w B xs l → xs.length = l.length * 2
  | [], [], _ => rfl
  | _ :: _ :: xs, _ :: l, ⟨_, _, _, h⟩ => by have := Rws.len2 h; simp [this]; omega
  | [], _ :: _, h => h.elim
  | [_], _, h => by unfold Rws at h; exact h.elim
  | _ :: _ :: _, [], h => by unfold Rws at h; exact h.elim
theorem Rws.first {w : World} {B : Nat} : ∀ {xs : List Value} {l : List Seg} (k : Nat), Rws w B xs l → Rws w B (xs.take (k * 2)) (l.take k)
  | xs, l, 0, _ => by simp; trivial
  | [], [], k + 1, _ => by simp; trivial
  | a :: v :: xs, s :: l, k + 1, ⟨h1, h2, h3, h⟩ => by
    rw [show (k + 1) * 2 = k * 2 + 1 + 1 from by omega]
    exact ⟨h1, h2, h3, Rws.first k h⟩
  | [], _ :: _, _ + 1, h => h.elim
  | [_], _, _ + 1, h => by unfold Rws at h; exact h.elim
  | _ :: _ :: _, [], _ + 1, h => by unfold Rws at h; exact h.elim
theorem take_two (xs : List Value) (k : Nat) (a v : Value) (h1 : xs[k * 2]? = some a) (h2 : xs[k * 2 + 1]? = some v) : xs.take ((k + 1) * 2) = xs.take (k * 2) ++ [a, v] := by
  rw [show (k + 1) * 2 = k * 2 + 1 + 1 by omega, List.take_add_one, List.take_add_one, h1, h2]
  simp

/-- Cells stored into a block, from o on. -/
theorem Blk.setCells {t : TypeId} {g : Nat} : ∀ (vs : List Value) (o : Nat) (w : World) (cur : Array Value), Blk w g t cur → ∃ cur', Blk (w.setCells g o vs) g t cur' ∧ cur'.size = cur.size ∧ cur'.toList.take o = cur.toList.take o ∧ Kept (Only g) w (w.setCells g o vs)
  | [], o, w, cur, h => ⟨cur, h, rfl, rfl, Kept.refl _ _⟩
  | v :: vs, o, w, cur, h => by
    obtain ⟨cur', h1, h2, h3, h4⟩ := Blk.setCells vs (o + 1) (w.setCell ⟨g, o, none⟩ v) (cur.setIfInBounds o v) (h.put o v)
    refine ⟨cur', h1, by rw [h2]; simp, ?_, (Kept.own w g o v).trans h4⟩
    have h5 : cur'.toList.take o = ((cur'.toList).take (o + 1)).take o := by rw [List.take_take]; congr 1; omega
    rw [h5, h3, List.take_take, show min o (o + 1) = o by omega]
    simp [List.take_set_of_le]
theorem run_clear_seg (w : World) (b o n c : Nat) (hn : 0 < n)
    (hc : ∀ j, j < n * 2 → (w.cell? ⟨b, o + j, none⟩).isSome = true) (hf : ∀ j, j < n * 2 → w.frozen? ⟨b, o + j, none⟩ = false) :
    ∃ vs, ∀ ty, (Builtin.clear_ #[25] ty #[.slice (some ⟨b, o, none⟩) n c]).run Tryz.prog w = .ok (.tuple #[]) (w.setCells b o vs) := by
  refine ⟨(Builtin.zeroCells #[.int .u8 0, .slice none 0 0] n).toList, fun ty => ?_⟩
  have hl : (Builtin.zeroCells #[.int .u8 0, .slice none 0 0] n).toList.length = n * 2 := by simp [Builtin.zeroCells]
  have h1 : ∀ v ∈ (Builtin.zeroCells #[.int .u8 0, .slice none 0 0] n).toList, v.oneCell' = true := by
    intro v hv
    simp only [Builtin.zeroCells, Array.toList_map, List.mem_map] at hv
    obtain ⟨i, _, rfl⟩ := hv
    have h2 : i % 2 = 0 ∨ i % 2 = 1 := by omega
    show Value.oneCell' ((#[Value.int .u8 0, .slice none 0 0] : Array Value)[i % 2]!) = true
    rcases h2 with h2 | h2 <;> rw [h2] <;> rfl
  have hst := run_storeCells_cells (P := Tryz.prog) b o (Builtin.zeroCells #[.int .u8 0, .slice none 0 0] n).toList 0 w (by rw [hl]; simpa using hc) (by rw [hl]; simpa using hf) h1
  simp only [Nat.add_zero] at hst
  obtain ⟨m, rfl⟩ : ∃ m, n = m + 1 := ⟨n - 1, by omega⟩
  have hz := Tryz.zeroValue71
  simp [Builtin.clear_, run_underlying Tryz.underlying25, hz, Value.cells, hst]

theorem cutC_all {w : World} {B : Nat} : ∀ {xs : List Value} {l : List Seg}, Rws w B xs l → (∀ s ∈ l, Wk.confed s.1 = false) → cutC xs l = xs ∧ plains l = l
  | [], [], _, _ => ⟨rfl, rfl⟩
  | b :: u :: xs, t :: l, ⟨_, _, _, h⟩, hc => by
    have ih := cutC_all h (fun s hs => hc s (List.mem_cons_of_mem _ hs))
    have h0 := hc t (List.mem_cons_self ..)
    refine ⟨?_, ?_⟩
    · show (if Wk.confed t.1 then cutC xs l else b :: u :: cutC xs l) = _
      rw [h0, ih.1]; rfl
    · unfold plains at ih ⊢
      rw [List.filter_cons_of_pos (by simp [h0]), ih.2]
  | [], _ :: _, h, _ => h.elim
  | [_], _, h, _ => by unfold Rws at h; exact h.elim
  | _ :: _ :: _, [], h, _ => by unfold Rws at h; exact h.elim
theorem slice_loP (g n c k : Nat) (hk : k < n) (hn : n ≤ c) (w : World) :
    (Instr.slice 25 (.slice (some ⟨g, 0, none⟩) n c) (some (.int .i64 (k : Int))) none none).run Tryz.prog w = .ok (.slice (some ⟨g, k * 2, none⟩) (n - k) (c - k)) w := by
  have hz := Tryz.sizeOf71
  have he : Tryz.prog.elem 25 = 71 := by kernel_rfl
  rw [run_slice_l w 25 _ n c (by kernel_rfl) .i64 k (by omega) (by omega), he, hz]
  have hck : ¬ c = k := by omega
  simp [sliced, hck, add_none]
theorem slice_hiP (g n c k : Nat) (hk : k ≤ c) (w : World) :
    (Instr.slice 25 (.slice (some ⟨g, 0, none⟩) n c) none (some (.int .i64 (k : Int))) none).run Tryz.prog w = .ok (.slice (some ⟨g, 0, none⟩) k c) w := by
  have hz := Tryz.sizeOf71
  have he : Tryz.prog.elem 25 = 71 := by kernel_rfl
  rw [run_slice_h w 25 _ n c (by kernel_rfl) .i64 k (by omega) (by omega), he, hz]
  simp [sliced, Addr.add]
/-- Two cells stored. -/
theorem take_put2 (cur : Array Value) (k : Nat) (a v : Value) (h : k * 2 + 1 < cur.size) : ((cur.setIfInBounds (k * 2) a).setIfInBounds (k * 2 + 1) v).toList.take ((k + 1) * 2) = cur.toList.take (k * 2) ++ [a, v] := by
  rw [take_two _ k a v]
  · congr 1
    simp [List.take_set_of_le]
  · rw [Array.toList_setIfInBounds, Array.toList_setIfInBounds, List.getElem?_set_ne (by omega), List.getElem?_set_self (by simp; omega)]
  · rw [Array.toList_setIfInBounds, Array.toList_setIfInBounds, List.getElem?_set_self (by simp; omega)]

set_option maxRecDepth 20000 in
set_option maxHeartbeats 2000000 in
theorem del_func (B : Nat) (v : Value) (xs : List Value) (l : List Seg) (w : World) (ho : w.ownsRow B 71 2 v l.length xs) (hr : Rws w B xs l) (hl : l.length ≤ 1000000) :
    Calls Tryz.prog 96 #[v, .func (.func 98) #[] #[]] w fun e w' => ∃ v', e = .returned v' ∧ Pown w' B v' (plains l) ∧ Kept (fun k => v.ownBlock = some k) w w' := by
  have HI := Lib.hid (idx_func v l w (Pts.of_own ho hr.cells) hl)
  have en : ∀ args w, (callFunc 98 args).run Tryz.prog w = .ok (.enter 98 args) w := enters_of Tryz.func98 (by kernel_rfl) rfl
  obtain ⟨A, c, rfl, hc, hm⟩ := ow_form ho
  have HO := Lib.hid ho
  have HR := Lib.hid hr
  clear ho hr
  go_enter Tryz.func96, Tryz.ntmps96
  go_wp2_with fail
  refine (HI.out).mono ?_
  rintro e w1 ⟨k1, (⟨rfl, hall⟩ | ⟨k, rfl, hk, hpre, hck⟩)⟩
  · go_wp2
    go_ret
    have h1 := cutC_all HR.out hall
    refine ⟨_, rfl, ⟨xs, ?_, ?_⟩, k1.mono (fun _ x => x.elim)⟩
    · rw [h1.2]; exact ow_kept HO.out k1 (fun _ _ x => x)
    · rw [h1.2]; exact HR.out.old k1
  · obtain ⟨g, cg, cur, hv, hge, hcg, hbg, hcz, htk⟩ : ∃ g cg cur, Value.slice A l.length c = .slice (some ⟨g, 0, none⟩) l.length cg ∧ B ≤ g ∧ l.length ≤ cg ∧ Blk w g 71 cur ∧ cur.size = cg * 2 ∧ cur.toList.take (l.length * 2) = xs := by
      rcases HO.out.2 with ⟨_, h0⟩ | ⟨g, cap, cur, e, hb, hh, hn, _, hs, ht⟩
      · omega
      · exact ⟨g, cap, cur, e, hb, hn, hh, hs, ht⟩
    injection hv with hA _ hc2
    subst hA hc2
    have hki : ((k : Int) == -1) = false := by simp
    have hxl := HR.out.len2
    have J0 : Hid (∃ cur1, Blk w1 g 71 cur1 ∧ cur1.size = c * 2 ∧ cur1.toList.take (k * 2) = cutC (xs.take ((k + 1) * 2)) (l.take (k + 1)) ∧ (∀ m, (k + 1) * 2 ≤ m → m < l.length * 2 → cur1[m]? = xs[m]?) ∧ k = (plains (l.take (k + 1))).length ∧ Kept (Only g) w w1) := Lib.hid (by
      obtain ⟨nv, e0, e1, _, _⟩ := HR.out.at k hk
      have h1 := take_two xs k _ _ e0 e1
      have h2 : l.take (k + 1) = l.take k ++ [l.getD k (0, [])] := by rw [List.take_succ_eq_append_getElem hk, getD_get hk]
      have h3 := cutC_all (HR.out.first k) hpre
      refine ⟨cur, hbg.kept k1 (fun x => x), hcz, ?_, ?_, ?_, k1.mono (fun _ x => x.elim)⟩
      · rw [h1, h2, cutC_snoc _ _ _ (HR.out.first k), hck, h3.1]
        simp only [if_true, List.append_nil]
        rw [← htk, List.take_take]
        congr 1
        omega
      · intro m hm1 hm2
        rw [← htk, List.getElem?_take_of_lt hm2, Array.getElem?_toList]
      · rw [h2, plains_snoc, hck, h3.2]
        simp [List.length_take]
        omega)
    have HX := Lib.hid htk
    clear htk hcz hbg hpre hck k1 HI
    go_upto_region 5 with fail
    go_loopw [5, 6] (fun u5 u6 wr => ∃ i j : Nat, u5 = .int .i64 (i : Int) ∧ u6 = .int .i64 (j : Int) ∧ i < j ∧ j ≤ l.length ∧ Hid (∃ cur1, Blk wr g 71 cur1 ∧ cur1.size = c * 2 ∧ cur1.toList.take (i * 2) = cutC (xs.take (j * 2)) (l.take j) ∧ (∀ m, j * 2 ≤ m → m < l.length * 2 → cur1[m]? = xs[m]?) ∧ i = (plains (l.take j)).length ∧ Kept (Only g) w wr)) (fun _ u6 _ => l.length - (intOf u6).toNat)
    case atStart => exact ⟨k, k + 1, rfl, by go_num, by omega, by omega, J0⟩
    case round =>
      clear J0
      obtain ⟨i, j, rfl, rfl, hij, hj, HJ⟩ := hrel
      by_cases hlt : j < l.length
      · obtain ⟨cur1, hb, hs, ht, hrest, hi, hkw⟩ := HJ.out
        obtain ⟨nv, e0, e1, no, -⟩ := HR.out.at j hlt
        obtain ⟨An, cn, rfl, _, _⟩ := ow_form no
        have p0 := hb.cell (j * 2)
        rw [hrest _ (by omega) (by omega), e0] at p0
        have p1 := hb.cell (j * 2 + 1)
        rw [hrest _ (by omega) (by omega), e1] at p1
        have hgz := hb.lt
        have i1 : (0 : Int) ≤ (j : Int) := by omega
        have i2 : (j : Int) < (l.length : Int) := by omega
        have i3 : (0 : Int) ≤ (i : Int) := by omega
        have i4 : (i : Int) < (l.length : Int) := by omega
        have h2 : l.take (j + 1) = l.take j ++ [l.getD j (0, [])] := by rw [List.take_succ_eq_append_getElem hlt, getD_get hlt]
        have HC := Lib.hid (cutC_snoc (by8 (l.getD j (0, [])).1) (.slice An (l.getD j (0, [])).2.length cn) (l.getD j (0, [])) (HR.out.first j))
        have HC1 := Lib.hid (take_two xs j _ _ e0 e1)
        have HP := Lib.hid (plains_snoc (l.take j) (l.getD j (0, [])))
        have HS := Lib.hid (fun w => strip_1 (l.getD j (0, [])).1 An (l.getD j (0, [])).2.length cn w)
        have H2 := Lib.hid h2
        rw [show by8 (l.getD j (0, [])).1 = .int .u8 ((l.getD j (0, [])).1.toNat : Int) from rfl] at p0 HC HC1
        clear e0 e1 no h2
        generalize hsg : l.getD j (0, []) = sg at *
        obtain ⟨sk, sn⟩ := sg
        simp only at p0 p1
        replace HS : Hid (∀ w, Calls Tryz.prog 98 #[.agg #[.int .u8 (sk.toNat : Int), .slice An sn.length cn]] w fun e w' => e = .returned (.bool (Wk.confed sk)) ∧ Kept Nothing w w') := HS
        replace HC : Hid (cutC (xs.take (j * 2) ++ [.int .u8 (sk.toNat : Int), .slice An sn.length cn]) (l.take j ++ [(sk, sn)]) = cutC (xs.take (j * 2)) (l.take j) ++ (if Wk.confed sk then [] else [.int .u8 (sk.toNat : Int), .slice An sn.length cn])) := HC
        replace HP : Hid (plains (l.take j ++ [(sk, sn)]) = plains (l.take j) ++ (if Wk.confed sk then [] else [(sk, sn)])) := HP
        replace HC1 : Hid (xs.take ((j + 1) * 2) = xs.take (j * 2) ++ [.int .u8 (sk.toNat : Int), .slice An sn.length cn]) := HC1
        clear hsg
        have HB := Lib.hid hb
        have HKW := Lib.hid hkw
        have HSZ : Hid (cur1.size = c * 2) := Lib.hid hs
        have HT := Lib.hid ht
        have HRS := Lib.hid hrest
        have HIL := Lib.hid hi
        have KB := Lib.hid ((Kept.refl Nothing wr).alloc (.cells #[.int .u8 (sk.toNat : Int), .slice An sn.length cn] 71))
        have BX := Lib.hid (Blk.fresh wr 71 #[.int .u8 (sk.toNat : Int), .slice An sn.length cn])
        clear hb hs ht hrest hi hkw
        cases hcf : Wk.confed sk with
        | true =>
          rw [hcf] at HS HC HP
          have HN : Hid (∀ w2, Kept Nothing wr w2 → ∃ cur1, Blk w2 g 71 cur1 ∧ cur1.size = c * 2 ∧ cur1.toList.take (i * 2) = cutC (xs.take ((j + 1) * 2)) (l.take (j + 1)) ∧ (∀ m, (j + 1) * 2 ≤ m → m < l.length * 2 → cur1[m]? = xs[m]?) ∧ i = (plains (l.take (j + 1))).length ∧ Kept (Only g) w w2) := Lib.hid (fun w2 k2 =>
            ⟨cur1, HB.out.kept k2 (fun x => x), HSZ.out, by rw [HC1.out, H2.out, HC.out, HT.out]; simp, fun m h1 h2 => HRS.out m (by omega) h2, by rw [H2.out, HP.out]; simpa using HIL.out, HKW.out.trans (k2.mono (fun _ x => x.elim))⟩)
          clear hcf HJ
          go_wp2_with (go_at_call 98; refine (HS.out _).mono ?_; rintro e w2 ⟨rfl, k2⟩)
          go_roundw
          case rel => exact ⟨i, j + 1, rfl, by go_num, by omega, by omega, Lib.hid (HN.out _ (KB.out.trans k2))⟩
          case measure => simp [intOf]; omega
        | false =>
          rw [hcf] at HS HC HP
          clear hcf HJ
          have hsz2 : i * 2 + 1 < cur1.size := by rw [HSZ.out]; omega
          have HN : Hid (∀ w2 a v, Kept Nothing wr w2 → a = .int .u8 (sk.toNat : Int) → v = .slice An sn.length cn → ∃ cur1, Blk ((w2.setCell ⟨g, i * 2, none⟩ a).setCell ⟨g, i * 2 + 1, none⟩ v) g 71 cur1 ∧ cur1.size = c * 2 ∧ cur1.toList.take ((i + 1) * 2) = cutC (xs.take ((j + 1) * 2)) (l.take (j + 1)) ∧ (∀ m, (j + 1) * 2 ≤ m → m < l.length * 2 → cur1[m]? = xs[m]?) ∧ i + 1 = (plains (l.take (j + 1))).length ∧ Kept (Only g) w ((w2.setCell ⟨g, i * 2, none⟩ a).setCell ⟨g, i * 2 + 1, none⟩ v)) := Lib.hid (fun w2 a v k2 ha hv =>
            ⟨(cur1.setIfInBounds (i * 2) a).setIfInBounds (i * 2 + 1) v, ((HB.out.kept k2 (fun x => x)).put _ _).put _ _, by simp [HSZ.out], by rw [take_put2 _ _ _ _ hsz2, HC1.out, H2.out, HC.out, HT.out, ha, hv]; rfl, fun m h1 h2 => by rw [Array.getElem?_setIfInBounds_ne (by omega), Array.getElem?_setIfInBounds_ne (by omega)]; exact HRS.out m (by omega) h2, by rw [H2.out, HP.out]; simp; exact HIL.out, ((HKW.out.trans (k2.mono (fun _ x => x.elim))).trans (Kept.own _ _ _ _)).trans (Kept.own _ _ _ _)⟩)
          go_upto_region 9 with (go_at_call 98; refine (HS.out _).mono ?_; rintro e w2 ⟨rfl, k2⟩; (have K2 := Lib.hid k2); clear k2)
          have hb2 := HB.out.kept (KB.out.trans K2.out) (fun x => x)
          have r0 := (hb2.cell (i * 2)).trans (Array.getElem?_eq_getElem (by omega))
          have r1 := (hb2.cell (i * 2 + 1)).trans (Array.getElem?_eq_getElem (by omega))
          have f0 := hb2.free (i * 2)
          have f1 := hb2.free (i * 2 + 1)
          have y0 := (BX.out.kept K2.out (fun x => x)).cell 0
          have y1 := (BX.out.kept K2.out (fun x => x)).cell 1
          clear hb2 p0 p1
          go_wp2
          go_roundw
          case rel => exact ⟨i + 1, j + 1, by go_num, by go_num, by omega, by omega, Lib.hid (HN.out _ _ _ (KB.out.trans K2.out) rfl rfl)⟩
          case measure => simp [intOf]; omega
      · obtain rfl : j = l.length := by omega
        obtain ⟨cur1, hb, hs, ht, -, hi, hkw⟩ := HJ.out
        rw [List.take_of_length_le (Nat.le_refl _)] at hi ht
        rw [show xs.take (l.length * 2) = xs from List.take_of_length_le (by rw [hxl]; exact Nat.le_refl _)] at ht
        have hsl := slice_loP g l.length c i hij hcg
        have hsh := slice_hiP g l.length c i (by omega)
        obtain ⟨vs, hcl⟩ := run_clear_seg wr g (i * 2) (l.length - i) (c - i) (by omega) (fun t ht => by rw [hb.cell, Array.getElem?_eq_getElem (by omega)]; rfl) (fun t ht => hb.free _)
        obtain ⟨cur2, hb2, hs2, ht2, hk2⟩ := hb.setCells vs (i * 2) wr cur1
        have FIN : Hid (Pown (wr.setCells g (i * 2) vs) B (.slice (some ⟨g, 0, none⟩) i c) (plains l) ∧ Kept (fun k => (Value.slice (some ⟨g, 0, none⟩) l.length c).ownBlock = some k) w (wr.setCells g (i * 2) vs)) := Lib.hid (by
          have kz := hkw.trans hk2
          have hrw := cutC_rws HR.out
          have hlc := hrw.len2
          refine ⟨⟨cutC xs l, ⟨by rw [hlc], .inr ⟨g, c, cur2, by rw [← hi], hge, hb2, by omega, hm, by rw [hs2, hs], ?_⟩⟩, hrw.kept kz (fun g' cs (e : g' = g) x => ?_)⟩, kz.mono (fun k (e : k = g) => by rw [e]; rfl)⟩
          · rw [← hi, ht2, ht]
          · subst e
            obtain ⟨cs', hh⟩ := ow_lt HO.out (g := g') rfl
            rw [hh] at x
            injection x with x
            injection x with _ e2
            exact absurd e2 (by decide))
        clear hb hs ht hi hkw hb2 hs2 ht2 hk2 HJ
        go_wp2
        go_ret
        exact ⟨_, rfl, FIN.out.1, FIN.out.2⟩
end Go.Proofs.YteofbpdogmajoaaGreatDoor
