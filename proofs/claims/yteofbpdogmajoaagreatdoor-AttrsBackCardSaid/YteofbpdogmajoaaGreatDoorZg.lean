
/-
  Paths: Same, Copy, in whatever memory.
-/
import Derived.Test.YteofbpdogmajoaaGreatDoorZf
import Derived.Lib.SliceRun
import Derived.BigQuiet
import Derived.Deep.RegionLaw
import Derived.Test.YteofbpdogmajoaaGreatDoorZc
import Derived.Deep.DeepCutAuto
import Derived.Deep.CutBlock
import Derived.Outline
namespace Go.Proofs.YteofbpdogmajoaaGreatDoor
open Go.RowKit

/-- A segment: its kind, its numbers. -/
abbrev Seg := UInt8 × List Nat

namespace Pt
def may1 (s : Seg) : Bool := decide (1 ≤ s.1.toNat) && decide (s.1.toNat ≤ 4) && decide (0 < s.2.length) && decide (s.2.length ≤ 255)
def may (p : List Seg) : Bool := p.all may1 && decide (p.length ≤ 32)
def cnt (p : List Seg) : Nat := (p.map (fun s => s.2.length)).sum
/-- Each number, and its segment's kind. -/
def all (p : List Seg) : List (UInt8 × Nat) := p.flatMap fun s => s.2.map fun n => (s.1, n)
theorem all_append (a b : List Seg) : all (a ++ b) = all a ++ all b := List.flatMap_append
theorem length_all (p : List Seg) : (all p).length = cnt p := by
  unfold all cnt
  induction p with
  | nil => rfl
  | cons s p ih => rw [List.flatMap_cons, List.length_append, ih, List.length_map]; simp
theorem cnt_append (a b : List Seg) : cnt (a ++ b) = cnt a + cnt b := by unfold cnt; rw [List.map_append, List.sum_append]
/-- Its numbers are numbers of ASes. -/
def fits (p : List Seg) : Prop := ∀ s ∈ p, ∀ n ∈ s.2, n < 4294967296
end Pt

/-- Numbers as the model has them. -/
def ass (l : List Nat) : List Value := l.map fun (n : Nat) => .int .u32 (n : Int)
theorem length_ass (l : List Nat) : (ass l).length = l.length := List.length_map _
theorem ass_append (a b : List Nat) : ass (a ++ b) = ass a ++ ass b := List.map_append
theorem getD_ass (l : List Nat) (i : Nat) (h : i < l.length) : (ass l)[i]? = some (.int .u32 ((l.getD i 0 : Nat) : Int)) := by
  unfold ass
  rw [List.getElem?_map, List.getElem?_eq_getElem h, List.getD_eq_getElem?_getD, List.getElem?_eq_getElem h]
  rfl
/-- The slice value v reads as the numbers l. -/
def As (w : World) (v : Value) (l : List Nat) : Prop := (∀ n ∈ l, n < 4294967296) ∧ ∃ A c, v = .slice A l.length c ∧ l.length ≤ c ∧ c ≤ maxLen ∧ Src w 1 A l.length (ass l)
theorem As.form {w : World} {v : Value} {l : List Nat} (h : As w v l) : ∃ A c, v = .slice A l.length c ∧ l.length ≤ c ∧ c ≤ maxLen := by
  obtain ⟨_, A, c, hv, hc, hm, _⟩ := h; exact ⟨A, c, hv, hc, hm⟩
theorem As.src {w : World} {A : Option Addr} {n c : Nat} {l : List Nat} (h : As w (.slice A n c) l) : Src w 1 A l.length (ass l) := by
  obtain ⟨_, A', c', hv, _, _, hs⟩ := h
  injection hv with h1 h2 h3
  subst h1
  exact hs
theorem As.old {w w' : World} {v : Value} {l : List Nat} (h : As w v l) (k : Kept Nothing w w') : As w' v l := by
  obtain ⟨h0, A, c, hv, hc, hm, hr⟩ := h
  exact ⟨h0, A, c, hv, hc, hm, hr.kept k⟩
theorem As.kept {S : Nat → Prop} {w w' : World} {v : Value} {l : List Nat} (h : As w v l) (k : Kept S w w') (hs : ∀ a n c, v = .slice (some a) n c → 0 < n → ¬ S a.block) : As w' v l := by
  obtain ⟨h0, A, c, hv, hc, hm, hr⟩ := h
  exact ⟨h0, A, c, hv, hc, hm, hr.kept_if k (fun a ha h0 => hs a l.length c (by rw [hv, ha]) h0)⟩
theorem As.at {w : World} {A : Option Addr} {n c : Nat} {l : List Nat} (h : As w (.slice A n c) l) (h0 : 0 < n) : ∃ b o, A = some ⟨b, o, none⟩ ∧ ∀ i, i < n → w.cell? ⟨b, o + i, none⟩ = some (.int .u32 ((l.getD i 0 : Nat) : Int)) := by
  obtain ⟨_, A', c', hv, _, _, hs⟩ := h
  injection hv with h1 h2 h3
  subst h1 h2 h3
  cases A with
  | none => have := hs.2.1 rfl; omega
  | some a =>
    have h1 : ∀ i, i < l.length → w.cell? (a.add i) = some (.int .u32 ((l.getD i 0 : Nat) : Int)) := fun i hi => hs.2.2.1 a rfl i _ (getD_ass l i hi)
    obtain ⟨b, o, spot⟩ := a
    have hsp : spot = none := by simpa [Addr.add] using World.cell?_spot (h1 0 h0)
    subst hsp
    exact ⟨b, o, rfl, fun i hi => by have := h1 i hi; rwa [add_none] at this⟩
theorem As.nil (w : World) : As w (.slice none 0 0) [] := ⟨(fun _ h => by cases h), none, 0, rfl, Nat.le_refl _, by simp [maxLen], rfl, fun _ => rfl, (fun a h => by cases h), (fun u h => by cases h)⟩
theorem As.of_own {w : World} {base : Nat} {e : TypeId} {v : Value} {l : List Nat} (h : w.ownsRow base e 1 v l.length (ass l)) (hx : ∀ n ∈ l, n < 4294967296) : As w v l := by
  obtain ⟨A, c, hv, hn, hm⟩ := ow_form h
  refine ⟨hx, A, c, hv, hn, hm, by rw [length_ass, Nat.mul_one], fun hA => ?_, fun a ha j u hu => ?_, fun u hu => ?_⟩
  · rcases h.2 with ⟨e1, h0⟩ | ⟨g, cap, cur, e1, _⟩
    · exact h0
    · rw [hv] at e1; injection e1 with e1; rw [hA] at e1; cases e1
  · have hj : j < l.length := by
      have := (List.getElem?_eq_some_iff.1 hu).1
      rwa [length_ass] at this
    rcases h.2 with ⟨e1, h0⟩ | ⟨g, cap, cur, e1, _, hg, _, _, _, ht⟩
    · omega
    · rw [hv] at e1
      injection e1 with e1
      rw [ha] at e1
      injection e1 with e1
      subst e1
      rw [add_none, cell_of_row w g _ cur _ _ hg, Nat.zero_add, ← hu, ← ht, List.getElem?_take_of_lt (by omega), Array.getElem?_toList]
  · unfold ass at hu
    obtain ⟨n, _, rfl⟩ := List.mem_map.1 hu
    rfl
/-- Its first numbers. -/
theorem As.pre {w : World} {A : Option Addr} {n c : Nat} {l : List Nat} (h : As w (.slice A n c) l) {m : Nat} (hm : m ≤ n) : As w (.slice A m c) (l.take m) := by
  obtain ⟨h0, A', c', hv, hc, hx, s1, s2, s3, s4⟩ := h
  injection hv with h1 h2 h3
  subst h1 h2 h3
  have hl : (l.take m).length = m := by rw [List.length_take]; omega
  refine ⟨fun n hn => h0 n (List.mem_of_mem_take hn), A, c, by rw [hl], by omega, hx, by rw [length_ass, Nat.mul_one], fun e => by have := s2 e; omega, fun a ha j u hu => ?_, fun u hu => ?_⟩
  · have hj : j < (l.take m).length := by
      have := (List.getElem?_eq_some_iff.1 hu).1
      rwa [length_ass] at this
    refine s3 a ha j u ?_
    rw [← hu]
    unfold ass
    rw [List.getElem?_map, List.getElem?_map, List.getElem?_take_of_lt (by omega)]
  · refine s4 u ?_
    unfold ass at hu ⊢
    obtain ⟨n, hn, rfl⟩ := List.mem_map.1 hu
    exact List.mem_map.2 ⟨n, List.mem_of_mem_take hn, rfl⟩

/-- The cells read as segments, their values by B. -/
def PCells (B : Value → List Nat → Prop) : List Value → List Seg → Prop
  | [], [] => True
  | a :: v :: xs, c :: l => a = by8 c.1 ∧ B v c.2 ∧ PCells B xs l
  | _, _ => False

theorem PCells.mono {B C : Value → List Nat → Prop} (h : ∀ v l, B v l → C v l) : ∀ {xs : List Value} {l : List Seg}, PCells B xs l → PCells C xs l
  | [], [], _ => trivial
  | _ :: _ :: _, _ :: _, ⟨h1, h2, h3⟩ => ⟨h1, h _ _ h2, PCells.mono h h3⟩
  | [], _ :: _, h => h.elim
  | [_], _, h => by unfold PCells at h; exact h.elim
  | _ :: _ :: _, [], h => by unfold PCells at h; exact h.elim
theorem PCells.snoc {B : Value → List Nat → Prop} {c : Seg} {v : Value} (hv : B v c.2) : ∀ {xs : List Value} {l : List Seg}, PCells B xs l → PCells B (xs ++ [by8 c.1, v]) (l ++ [c])
  | [], [], _ => ⟨rfl, hv, trivial⟩
  | _ :: _ :: _, _ :: _, ⟨h1, h2, h3⟩ => ⟨h1, h2, PCells.snoc hv h3⟩
  | [], _ :: _, h => h.elim
  | [_], _, h => by unfold PCells at h; exact h.elim
  | _ :: _ :: _, [], h => by unfold PCells at h; exact h.elim
theorem PCells.at {B : Value → List Nat → Prop} : ∀ {xs : List Value} {l : List Seg} (_ : PCells B xs l) (i : Nat) (h : i < l.length), xs[i * 2]? = some (by8 l[i].1) ∧ ∃ u, xs[i * 2 + 1]? = some u ∧ B u l[i].2
  | [], [], _, i, h => by simp at h
  | a :: v :: xs, c :: l, ⟨h1, h2, h3⟩, 0, _ => ⟨by simp [h1], v, by simp, h2⟩
  | a :: v :: xs, c :: l, ⟨h1, h2, h3⟩, i + 1, h => by
    have := PCells.at h3 i (by simp at h; omega)
    rw [show (i + 1) * 2 = i * 2 + 1 + 1 from by omega]
    simpa using this
  | [], _ :: _, h, _, _ => h.elim
  | [_], _, h, _, _ => by unfold PCells at h; exact h.elim
  | _ :: _ :: _, [], h, _, _ => by unfold PCells at h; exact h.elim

/-- The slice value v reads as the segments l. -/
def Pts (w : World) (v : Value) (l : List Seg) : Prop :=
  ∃ A c, v = .slice A l.length c ∧ l.length ≤ c ∧ c ≤ maxLen ∧ (0 < l.length → ∃ b o, A = some ⟨b, o, none⟩ ∧ ∀ i (h : i < l.length), w.cell? ⟨b, o + i * 2, none⟩ = some (by8 l[i].1) ∧ ∃ u, w.cell? ⟨b, o + i * 2 + 1, none⟩ = some u ∧ As w u l[i].2)
theorem Pts.old {w w' : World} {v : Value} {l : List Seg} (h : Pts w v l) (k : Kept Nothing w w') : Pts w' v l := by
  obtain ⟨A, c, hv, hc, hm, hr⟩ := h
  refine ⟨A, c, hv, hc, hm, fun h0 => ?_⟩
  obtain ⟨b, o, hA, hi⟩ := hr h0
  refine ⟨b, o, hA, fun i hl => ⟨k.cell_some (hi i hl).1 (fun x => x), ?_⟩⟩
  obtain ⟨u, h1, h2⟩ := (hi i hl).2
  exact ⟨u, k.cell_some h1 (fun x => x), h2.old k⟩
theorem Pts.form {w : World} {v : Value} {l : List Seg} (h : Pts w v l) : ∃ A c, v = .slice A l.length c ∧ l.length ≤ c ∧ c ≤ maxLen := by
  obtain ⟨A, c, hv, hc, hm, _⟩ := h; exact ⟨A, c, hv, hc, hm⟩
theorem Pts.nil (w : World) : Pts w (.slice none 0 0) [] := ⟨none, 0, rfl, Nat.le_refl _, by simp [maxLen], fun h => absurd h (by simp)⟩
theorem Pts.at {w : World} {A : Option Addr} {n c : Nat} {l : List Seg} (h : Pts w (.slice A n c) l) (h0 : 0 < n) :
    ∃ b o, A = some ⟨b, o, none⟩ ∧ ∀ i (h : i < l.length), w.cell? ⟨b, o + i * 2, none⟩ = some (by8 l[i].1) ∧ ∃ u, w.cell? ⟨b, o + i * 2 + 1, none⟩ = some u ∧ As w u l[i].2 := by
  obtain ⟨A', c', hv, _, _, hr⟩ := h
  injection hv with h1 h2 h3
  subst h1 h2
  exact hr h0
theorem Pts.of_own {w : World} {base : Nat} {e : TypeId} {v : Value} {l : List Seg} {xs : List Value} (h : w.ownsRow base e 2 v l.length xs) (hx : PCells (As w) xs l) : Pts w v l := by
  obtain ⟨A, c, hv0, hn, hm⟩ := ow_form h
  obtain ⟨_, h2⟩ := h
  refine ⟨A, c, hv0, hn, hm, fun h0 => ?_⟩
  rcases h2 with ⟨rfl, h0'⟩ | ⟨g, cap, cur, hv, _, hg, _, _, _, ht⟩
  · omega
  · rw [hv] at hv0
    injection hv0 with hA
    refine ⟨g, 0, hA.symm, fun i hi => ?_⟩
    obtain ⟨h1, u, h2, h3⟩ := hx.at i hi
    have cell : ∀ j, j < l.length * 2 → w.cell? ⟨g, 0 + j, none⟩ = xs[j]? := fun j hj => by
      rw [cell_of_row w g _ cur e (0, 0) hg, ← ht, List.getElem?_take_of_lt hj, Array.getElem?_toList, Nat.zero_add]
    have e1 := cell (i * 2) (by omega)
    have e2 := cell (i * 2 + 1) (by omega)
    exact ⟨by rw [e1, h1], u, by rw [Nat.add_assoc, e2, h2], h3⟩
/-- The first ones. -/
theorem Pts.pre {w : World} {A : Option Addr} {n c : Nat} {l : List Seg} (h : Pts w (.slice A n c) l) {m : Nat} (hm : m ≤ n) : Pts w (.slice A m c) (l.take m) := by
  obtain ⟨A', c', hv, hc, hx, hr⟩ := h
  injection hv with h1 h2 h3
  subst h1 h2 h3
  have hl : (l.take m).length = m := by rw [List.length_take]; omega
  refine ⟨A, c, by rw [hl], by omega, hx, fun h0 => ?_⟩
  obtain ⟨b, o, hA, hi⟩ := hr (by omega)
  refine ⟨b, o, hA, fun i hil => ?_⟩
  have := hi i (by omega)
  rwa [show (l.take m)[i] = l[i]'(by omega) from List.getElem_take]
theorem Pts.fits {w : World} {v : Value} {l : List Seg} (h : Pts w v l) : Pt.fits l := by
  obtain ⟨A, c, _, _, _, hr⟩ := h
  intro s hs n hn
  obtain ⟨i, hi, rfl⟩ := List.getElem_of_mem hs
  obtain ⟨b, o, _, hc⟩ := hr (by omega)
  obtain ⟨_, u, _, hu⟩ := hc i hi
  exact hu.1 n hn
end Go.Proofs.YteofbpdogmajoaaGreatDoor
namespace Go.Proofs.YteofbpdogmajoaaGreatDoor
open Go.RowKit

theorem as_info : (Tryz.prog.info? 27).map (fun i => (i.zero, i.size, i.bytes)) = some (some (.int .u32 0), 1, 4) := by kernel_rfl
theorem sg_info : (Tryz.prog.info? 71).map (fun i => (i.zero, i.size, i.bytes)) = some (some (.agg #[.int .u8 0, .slice none 0 0]), 2, 32) := by kernel_rfl

theorem as_clone (v : Value) (l : List Nat) (w : World) (h : As w v l) (hl : l.length ≤ 1099511627776) :
    Calls Tryz.prog 63 #[v] w fun r w' => ∃ v', r = .returned v' ∧ w'.ownsRow w.heap.size 27 1 v' l.length (ass l) ∧ Kept Nothing w w' := by
  obtain ⟨i0, hi, hz0, hz1, hz2⟩ := info_parts as_info
  have hq := fun (u : World) (a : Option Addr) (n c : Nat) => Lib.run_eql_slice_nil (P := Tryz.prog) u 69 27 a n c 0 0 Tryz.underlying69
  obtain ⟨A, c, rfl, hc, hm⟩ := h.form
  have HS := Lib.hid (h.src)
  cases A with
  | none =>
    obtain rfl : l = [] := List.eq_nil_of_length_eq_zero (HS.out.2.1 rfl)
    clear h hc hm
    go_enter Tryz.func63, Tryz.ntmps63
    go_wp2
    go_ret
    exact ⟨_, rfl, World.ownsRow_nil _ _ _ _, Kept.refl _ _⟩
  | some ad =>
    clear h hc hm
    have HL : Hid (0 + l.length ≤ maxLen ∧ (0 + l.length) * 4 ≤ 140737488355328) := ⟨by unfold maxLen; omega, by omega⟩
    go_enter Tryz.func63, Tryz.ntmps63
    go_wp2_with (at_builtin; refine wpList_app _ rfl _ _ 69 rfl w.heap.size 27 i0 (.int .u32 0) 1 4 Tryz.underlying69 hi hz0 hz1 hz2 rfl (by decide) (.slice (some ⟨w.heap.size, 0, none⟩) 0 0) 0 [] rfl (World.ownsRow_made w #[] 0 (Nat.le_refl _) (by simp [maxLen]) rfl) (some ad) l.length c (ass l) rfl (HS.out.kept ((Kept.refl _ w).alloc _)) HL.out.1 HL.out.2 (by simp) ?_; intro v' w' hown hg _)
    go_ret
    refine ⟨v', rfl, ?_, ((Kept.refl _ w).alloc _).grown hg (fun k hk hlt => ?_)⟩
    · simpa using hown
    · simp only [Value.ownBlock, Option.some.injEq] at hk
      omega

theorem seg_may (k : Nat) (A : Option Addr) (n c : Nat) (w : World) :
    Calls Tryz.prog 114 #[.agg #[.int .u8 (k : Int), .slice A n c]] w fun e w' => e = .returned (.bool (decide (1 ≤ k) && decide (k ≤ 4) && decide (0 < n) && decide (n ≤ 255))) ∧ Kept Nothing w w' := by
  go_enter Tryz.func114, Tryz.ntmps114
  go_wp2
  all_goals go_ret
  all_goals exact ⟨ret_bool (by rw [Bool.eq_iff_iff]; simp; try omega), (Kept.refl _ w).alloc _⟩

/-- The i-th segment in memory. -/
theorem Pts.at2 {w : World} {A : Option Addr} {n c : Nat} {l : List Seg} (h : Pts w (.slice A n c) l) {i : Nat} (hi : i < n) :
    ∃ b o Au cu, A = some ⟨b, o, none⟩ ∧ w.cell? ⟨b, o + i * 2, none⟩ = some (.int .u8 ((l.getD i (0, [])).1.toNat : Int)) ∧ w.cell? ⟨b, o + i * 2 + 1, none⟩ = some (.slice Au (l.getD i (0, [])).2.length cu) ∧ As w (.slice Au (l.getD i (0, [])).2.length cu) (l.getD i (0, [])).2 := by
  obtain ⟨A', c', hv, _⟩ := h.form
  injection hv with _ e2 _
  obtain ⟨b, o, rfl, hc⟩ := h.at (by omega)
  have hl : i < l.length := by omega
  obtain ⟨h1, u, h2, h3⟩ := hc i hl
  have hd : l.getD i (0, []) = l[i] := by rw [List.getD_eq_getElem?_getD, List.getElem?_eq_getElem hl]; rfl
  rw [hd]
  obtain ⟨Au, cu, rfl, _, _⟩ := h3.form
  exact ⟨b, o, Au, cu, rfl, h1, h2, h3⟩

set_option maxHeartbeats 800000 in
theorem path_may (v : Value) (l : List Seg) (w : World) (h : Pts w v l) (hl : l.length ≤ 1099511627776) :
    Calls Tryz.prog 64 #[v] w fun e w' => e = .returned (.bool (Pt.may l)) ∧ Kept Nothing w w' := by
  obtain ⟨A, c, rfl, hc, hm⟩ := h.form
  have HV := Lib.hid h
  clear h
  go_enter Tryz.func64, Tryz.ntmps64
  go_wp2
  go_loopw [7] (fun i wr => ∃ k : Nat, i = .int .i64 (k : Int) ∧ k ≤ l.length ∧ Hid (∀ j, j < k → Pt.may1 (l.getD j (0, [])) = true) ∧ Kept Nothing w wr) (fun i _ => l.length - (intOf i).toNat)
  case atStart => exact ⟨0, rfl, Nat.zero_le _, Lib.hid (fun j hj => absurd hj (Nat.not_lt_zero _)), Kept.refl _ _⟩
  case round =>
    obtain ⟨k, rfl, hk, HM, hkk⟩ := hrel
    have KK := Lib.hid hkk
    clear hkk
    by_cases hlt : k < l.length
    · obtain ⟨b, o, Au, cu, rfl, p0, p1, -⟩ := (HV.out.old KK.out).at2 hlt
      have i1 : (0 : Int) ≤ (k : Int) := by omega
      have i2 : (k : Int) < (l.length : Int) := by omega
      have EM : Hid (Pt.may1 (l.getD k (0, [])) = (decide (1 ≤ (l.getD k (0, [])).1.toNat) && decide ((l.getD k (0, [])).1.toNat ≤ 4) && decide (0 < (l.getD k (0, [])).2.length) && decide ((l.getD k (0, [])).2.length ≤ 255))) := Lib.hid rfl
      have EA : Hid (Pt.may1 (l.getD k (0, [])) = false → Pt.may l = false) := Lib.hid (fun e => by
        unfold Pt.may
        rw [Bool.and_eq_false_iff]
        left
        rw [List.all_eq_false]
        refine ⟨l.getD k (0, []), ?_, by rw [e]; simp⟩
        rw [List.getD_eq_getElem?_getD, List.getElem?_eq_getElem hlt]
        exact List.getElem_mem _)
      have EN : Hid (Pt.may1 (l.getD k (0, [])) = true → ∀ j, j < k + 1 → Pt.may1 (l.getD j (0, [])) = true) := Lib.hid (fun e j hj => by
        by_cases hjk : j = k
        · subst hjk; exact e
        · exact HM.out j (by omega))
      have HS := Lib.hid (fun w => seg_may (l.getD k (0, [])).1.toNat Au (l.getD k (0, [])).2.length cu w)
      rw [← EM.out] at HS
      clear EM HM
      generalize Pt.may1 (l.getD k (0, [])) = mb at *
      generalize (l.getD k (0, [])).1.toNat = kn at *
      generalize (l.getD k (0, [])).2.length = nn at *
      cases hb : mb with
      | true =>
        have HN := Lib.hid (EN.out hb)
        rw [hb] at HS
        clear hb EN EA
        go_wp2_with (go_at_call 114; refine (HS.out _).mono ?_; rintro e w2 ⟨rfl, k2⟩)
        go_roundw
        case rel => exact ⟨k + 1, by go_num, by omega, HN, (KK.out.alloc _).trans k2⟩
        case measure => simp [intOf]; omega
      | false =>
        have HN := Lib.hid (EA.out hb)
        rw [hb] at HS
        clear hb EN EA
        go_wp2_with (go_at_call 114; refine (HS.out _).mono ?_; rintro e w2 ⟨rfl, k2⟩)
        go_ret
        exact ⟨by rw [HN.out]; rfl, (KK.out.alloc _).trans k2⟩
    · obtain rfl : k = l.length := by omega
      have hall : l.all Pt.may1 = true := by
        rw [List.all_eq_true]
        intro s hs
        obtain ⟨i, hi, rfl⟩ := List.getElem_of_mem hs
        have := HM.out i hi
        rwa [List.getD_eq_getElem?_getD, List.getElem?_eq_getElem hi] at this
      have HE : Hid (Pt.may l = decide (l.length ≤ 32)) := Lib.hid (by unfold Pt.may; rw [hall]; rfl)
      clear hall HM
      go_wp2
      go_ret
      exact ⟨by rw [HE.out]; exact ret_bool (by rw [Bool.eq_iff_iff]; simp; try omega), KK.out⟩

set_option maxHeartbeats 800000 in
theorem as_equal (a b : Value) (l m : List Nat) (w : World) (ha : As w a l) (hb : As w b m) :
    Calls Tryz.prog 148 #[a, b] w fun e w' => e = .returned (.bool (l == m)) ∧ Kept Nothing w w' := by
  obtain ⟨A, c, rfl, _, hm1⟩ := ha.form
  obtain ⟨B, d, rfl, _, hm2⟩ := hb.form
  unfold maxLen at hm1 hm2
  have HA := Lib.hid ha
  have HB := Lib.hid hb
  clear ha hb
  by_cases hlen : l.length = m.length
  · have hli : (l.length : Int) = (m.length : Int) := by omega
    have HLE := Lib.hid hlen
    rw [← hlen]
    rw [← hlen] at HB
    clear hlen hli
    go_enter Tryz.func148, Tryz.ntmps148
    go_wp2
    go_loopw [13] (fun i wr => ∃ k : Nat, i = .int .i64 (k : Int) ∧ k ≤ l.length ∧ Hid (l.take k = m.take k) ∧ Kept Nothing w wr) (fun i _ => l.length - (intOf i).toNat)
    case atStart => exact ⟨0, rfl, Nat.zero_le _, Lib.hid (by simp), Kept.refl _ _⟩
    case round =>
      obtain ⟨k, rfl, hk, HM, hkk⟩ := hrel
      have KK := Lib.hid hkk
      clear hkk
      by_cases hlt : k < l.length
      · obtain ⟨b1, o1, rfl, hc1⟩ := HA.out.at (by omega)
        obtain ⟨b2, o2, rfl, hc2⟩ := HB.out.at (by omega)
        have c1 := KK.out.cell_some (hc1 k hlt) (fun x => x)
        have c2 := KK.out.cell_some (hc2 k hlt) (fun x => x)
        have i1 : (0 : Int) ≤ (k : Int) := by omega
        have i2 : (k : Int) < (l.length : Int) := by omega
        have EN : Hid (l.getD k 0 = m.getD k 0 → l.take (k + 1) = m.take (k + 1)) := Lib.hid (fun e => by
          have h1 : l.take (k + 1) = l.take k ++ [l.getD k 0] := by
            rw [List.take_succ_eq_append_getElem hlt, List.getD_eq_getElem?_getD, List.getElem?_eq_getElem hlt]; rfl
          have hlt2 : k < m.length := by have := HLE.out; omega
          have h2 : m.take (k + 1) = m.take k ++ [m.getD k 0] := by
            rw [List.take_succ_eq_append_getElem hlt2, List.getD_eq_getElem?_getD, List.getElem?_eq_getElem hlt2]; rfl
          rw [h1, h2, HM.out, e])
        have EF : Hid (l.getD k 0 ≠ m.getD k 0 → (l == m) = false) := Lib.hid (fun e => by
          rw [beq_eq_false_iff_ne]
          intro x
          exact e (by rw [x]))
        generalize l.getD k 0 = x at *
        generalize m.getD k 0 = y at *
        clear hc1 hc2 HM
        by_cases hxy : x = y
        · have HN := Lib.hid (EN.out hxy)
          subst hxy
          clear EN EF
          go_wp2
          go_quiet (fail)
          go_wp2
          go_roundw
          case rel => exact ⟨k + 1, by go_num, by omega, HN, KK.out.drewN _⟩
          case measure => simp [intOf]; omega
        · have HN := Lib.hid (EF.out hxy)
          have hne : ((x : Int) == (y : Int)) = false := by simp; omega
          clear EN EF hxy
          go_wp2
          go_quiet (fail)
          go_wp2
          go_ret
          exact ⟨by rw [HN.out]; rfl, KK.out.drewN _⟩
      · obtain rfl : k = l.length := by omega
        have HE : Hid ((l == m) = true) := Lib.hid (by
          have h1 := HM.out
          rw [List.take_of_length_le (Nat.le_refl _), List.take_of_length_le (by have := HLE.out; omega)] at h1
          rw [h1]; simp)
        clear HM
        go_wp2
        go_ret
        exact ⟨by rw [HE.out]; rfl, KK.out⟩
  · have hne : ((l.length : Int) == (m.length : Int)) = false := by simp; omega
    have HN : Hid ((l == m) = false) := Lib.hid (by
      rw [beq_eq_false_iff_ne]
      intro x
      exact hlen (by rw [x]))
    clear hlen
    go_enter Tryz.func148, Tryz.ntmps148
    go_wp2
    go_ret
    exact ⟨by rw [HN.out]; rfl, Kept.refl _ _⟩

theorem seg_same (x y : Nat) (u v : Value) (l m : List Nat) (w : World) (hu : As w u l) (hv : As w v m) :
    Calls Tryz.prog 112 #[.agg #[.int .u8 (x : Int), u], .agg #[.int .u8 (y : Int), v]] w fun e w' => e = .returned (.bool (decide (x = y) && (l == m))) ∧ Kept Nothing w w' := by
  obtain ⟨A, c, rfl, _, _⟩ := hu.form
  obtain ⟨B, d, rfl, _, _⟩ := hv.form
  have kk := ((Kept.refl Nothing w).alloc (.cells #[.int .u8 (x : Int), .slice A l.length c] 71)).alloc (.cells #[.int .u8 (y : Int), .slice B m.length d] 71)
  have HC := Lib.hid (as_equal _ _ l m _ (hu.old kk) (hv.old kk))
  have KK := Lib.hid kk
  clear hu hv kk
  by_cases hxy : x = y
  · subst hxy
    have hd : decide (x = x) = true := by simp
    rw [hd, Bool.true_and]
    clear hd
    go_enter Tryz.func112, Tryz.ntmps112
    go_wp2_with (go_at_call 148; refine (HC.out).mono ?_; rintro e w2 ⟨rfl, k2⟩)
    go_ret
    exact ⟨rfl, KK.out.trans k2⟩
  · have hd : decide (x = y) = false := by simp [hxy]
    have hne : ((x : Int) == (y : Int)) = false := by simp; omega
    rw [hd, Bool.false_and]
    clear hd hxy
    go_enter Tryz.func112, Tryz.ntmps112
    go_wp2_with (fail)
    go_ret
    exact ⟨rfl, KK.out⟩
end Go.Proofs.YteofbpdogmajoaaGreatDoor
namespace Go.Proofs.YteofbpdogmajoaaGreatDoor
open Go.RowKit

theorem take_next {α : Type} {l m : List α} {k : Nat} (h : l.take k = m.take k) (h1 : k < l.length) (h2 : k < m.length) (e : l[k] = m[k]) : l.take (k + 1) = m.take (k + 1) := by
  rw [List.take_succ_eq_append_getElem h1, List.take_succ_eq_append_getElem h2, h, e]
theorem getD_get {α : Type} {l : List α} {k : Nat} (h : k < l.length) (d : α) : l.getD k d = l[k] := by
  rw [List.getD_eq_getElem?_getD, List.getElem?_eq_getElem h]; rfl

set_option maxHeartbeats 1600000 in
theorem eq_func (a b : Value) (l m : List Seg) (w : World) (ha : Pts w a l) (hb : Pts w b m) :
    Calls Tryz.prog 111 #[a, b, .func (.func 112) #[] #[]] w fun e w' => e = .returned (.bool (decide (l = m))) ∧ Kept Nothing w w' := by
  obtain ⟨A, c, rfl, hc1, hm1⟩ := ha.form
  obtain ⟨B, d, rfl, hc2, hm2⟩ := hb.form
  unfold maxLen at hm1 hm2
  have HA := Lib.hid ha
  have HB := Lib.hid hb
  clear ha hb
  by_cases hlen : l.length = m.length
  · have HLE := Lib.hid hlen
    rw [← hlen]
    rw [← hlen] at HB
    clear hlen
    go_enter Tryz.func111, Tryz.ntmps111
    go_wp2
    go_loopw [17] (fun i wr => ∃ k : Nat, i = .int .i64 (k : Int) ∧ k ≤ l.length ∧ Hid (l.take k = m.take k) ∧ Kept Nothing w wr) (fun i _ => l.length - (intOf i).toNat)
    case atStart => exact ⟨0, rfl, Nat.zero_le _, Lib.hid (by simp), Kept.refl _ _⟩
    case round =>
      obtain ⟨k, rfl, hk, HM, hkk⟩ := hrel
      have KK := Lib.hid hkk
      clear hkk
      by_cases hlt : k < l.length
      · have hlt2 : k < m.length := by have := HLE.out; omega
        obtain ⟨b1, o1, A1, d1, rfl, p0, p1, hp⟩ := (HA.out.old KK.out).at2 hlt
        obtain ⟨b2, o2, A2, d2, rfl, q0, q1, hq⟩ := (HB.out.old KK.out).at2 hlt
        have i1 : (0 : Int) ≤ (k : Int) := by omega
        have i2 : (k : Int) < (l.length : Int) := by omega
        have hls : b1 < wr.heap.size := World.block_lt_of_cell? _ _ p0
        have hms : b2 < wr.heap.size := World.block_lt_of_cell? _ _ q0
        have ES : Hid (decide (l[k] = m[k]) = (decide ((l.getD k (0, [])).1.toNat = (m.getD k (0, [])).1.toNat) && ((l.getD k (0, [])).2 == (m.getD k (0, [])).2))) := Lib.hid (by
          rw [getD_get hlt, getD_get hlt2, Bool.eq_iff_iff]
          simp only [decide_eq_true_eq, Bool.and_eq_true, beq_iff_eq]
          constructor
          · intro e; rw [e]; exact ⟨rfl, rfl⟩
          · rintro ⟨e1, e2⟩
            exact Prod.ext (UInt8.toNat_inj.1 e1) e2)
        have EN : Hid (decide (l[k] = m[k]) = true → l.take (k + 1) = m.take (k + 1)) := Lib.hid (fun e => take_next HM.out hlt hlt2 (by simpa using e))
        have EF : Hid (decide (l[k] = m[k]) = false → decide (l = m) = false) := Lib.hid (fun e => by
          have : ¬ l[k] = m[k] := by simpa using e
          simp only [decide_eq_false_iff_not]
          intro x
          subst x
          exact this rfl)
        have HS := Lib.hid (fun w' (k' : Kept Nothing wr w') => seg_same (l.getD k (0, [])).1.toNat (m.getD k (0, [])).1.toNat _ _ (l.getD k (0, [])).2 (m.getD k (0, [])).2 w' (hp.old k') (hq.old k'))
        rw [← ES.out] at HS
        have kk := ((Kept.refl Nothing wr).alloc (.cells #[.int .u8 ((l.getD k (0, [])).1.toNat : Int), .slice A1 (l.getD k (0, [])).2.length d1] 71)).alloc (.cells #[.int .u8 ((m.getD k (0, [])).1.toNat : Int), .slice A2 (m.getD k (0, [])).2.length d2] 71)
        have KA := Lib.hid kk
        clear ES HM hp hq kk
        generalize decide (l[k] = m[k]) = mb at *
        generalize (l.getD k (0, [])).1.toNat = kn at *
        generalize (l.getD k (0, [])).2.length = nn at *
        generalize (m.getD k (0, [])).1.toNat = km at *
        generalize (m.getD k (0, [])).2.length = nm at *
        cases hbb : mb with
        | true =>
          have HN := Lib.hid (EN.out hbb)
          rw [hbb] at HS
          clear hbb EN EF
          go_wp2_with (refine (HS.out _ KA.out).mono ?_; rintro e w2 ⟨rfl, k2⟩)
          go_roundw
          case rel => exact ⟨k + 1, by go_num, by omega, HN, (KK.out.trans KA.out).trans k2⟩
          case measure => simp [intOf]; omega
        | false =>
          have HN := Lib.hid (EF.out hbb)
          rw [hbb] at HS
          clear hbb EN EF
          go_wp2_with (refine (HS.out _ KA.out).mono ?_; rintro e w2 ⟨rfl, k2⟩)
          go_ret
          exact ⟨by rw [HN.out]; rfl, (KK.out.trans KA.out).trans k2⟩
      · obtain rfl : k = l.length := by omega
        have HE : Hid (decide (l = m) = true) := Lib.hid (by
          have h1 := HM.out
          rw [List.take_of_length_le (Nat.le_refl _), List.take_of_length_le (by have := HLE.out; omega)] at h1
          simp [h1])
        clear HM
        go_wp2
        go_ret
        exact ⟨by rw [HE.out]; rfl, KK.out⟩
  · have hne : ((l.length : Int) == (m.length : Int)) = false := by simp; omega
    have HN : Hid (decide (l = m) = false) := Lib.hid (by
      simp only [decide_eq_false_iff_not]
      intro x
      exact hlen (by rw [x]))
    clear hlen
    go_enter Tryz.func111, Tryz.ntmps111
    go_wp2
    go_ret
    exact ⟨by rw [HN.out]; rfl, Kept.refl _ _⟩
theorem path_same (a b : Value) (l m : List Seg) (w : World) (ha : Pts w a l) (hb : Pts w b m) :
    Calls Tryz.prog 57 #[a, b] w fun e w' => e = .returned (.bool (decide (l = m))) ∧ Kept Nothing w w' := by
  have HE := Lib.hid (eq_func a b l m w ha hb)
  go_enter Tryz.func57, Tryz.ntmps57
  go_wp2_with (refine (HE.out).mono ?_; rintro e w2 ⟨rfl, k2⟩)
  go_ret
  exact ⟨rfl, k2⟩
end Go.Proofs.YteofbpdogmajoaaGreatDoor
