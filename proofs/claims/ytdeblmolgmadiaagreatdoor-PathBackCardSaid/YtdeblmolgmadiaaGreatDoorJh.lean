
/-
  Paths: Count, hasWide: ranges over All.
-/
import Derived.Test.YtdeblmolgmadiaaGreatDoorJg
import Derived.Shelf.Abstract
namespace Go.Proofs.YtdeblmolgmadiaaGreatDoor
open Go.RowKit Go.Shelf
attribute [local go_sem] Oper.semAt_some

theorem run_mkFunc (fn : Fn) (first cap : Array Value) (w : World) : (Instr.makeFunc fn first cap).run Tryz.prog w = .ok (.func fn first cap) w := by
  simp [Instr.makeFunc, Sem.run_pure]

theorem zip_two (a b : Tmp) (u v : Value) : (#[a, b] : Array Tmp).zip #[u, v] = #[(a, u), (b, v)] := by
  apply Array.ext'
  simp
theorem fold_two (a b : Tmp) (u v : Value) (t : Array Value) : (#[a, b].zip #[u, v]).foldl (fun t x => t.setIfInBounds x.1 x.2) t = (t.setIfInBounds a u).setIfInBounds b v := by
  rw [zip_two]; rfl
theorem Pt.cnt_le (l : List Seg) (hn : ∀ s ∈ l, s.2.length ≤ 1000000) : Pt.cnt l ≤ 1000000 * l.length := by
  unfold Pt.cnt
  induction l with
  | nil => simp
  | cons s l ih =>
    have h1 := ih (fun x hx => hn x (List.mem_cons_of_mem _ hx))
    have h3 := hn s (List.mem_cons_self ..)
    rw [List.map_cons, List.sum_cons, List.length_cons, Nat.mul_add]
    omega

set_option maxHeartbeats 1600000 in
theorem path_count (v : Value) (l : List Seg) (w : World) (h : Pts w v l) (hl : l.length ≤ 1000000) (hn : ∀ s ∈ l, s.2.length ≤ 1000000) :
    Calls Tryz.prog 21 #[v] w fun e w' => e = .returned (.int .i64 (Pt.cnt l : Int)) ∧ Kept Nothing w w' := by
  obtain ⟨A, c, rfl, hc, hm⟩ := h.form
  have hmf := run_mkFunc
  refine (callsIn_wide (n := 4)).1 (callsIn_of_wp_marks Tryz.func21 rfl trivial ?_ rfl)
  rw [wpIn_wide]
  simp only [Tryz.ntmps21, List.size_toArray, List.length_cons, List.length_nil, Nat.reduceAdd, Nat.reduceSub, Array.replicate_succ, Array.replicate_zero, List.push_toArray, List.append_toArray, List.nil_append, List.cons_append]
  go_wp2_with fail
  have hb1 := Blk.fresh w 3 #[.int .i64 0]
  have k1 := (Kept.refl Nothing w).alloc (.cells #[.int .i64 0] 3)
  have hz1 : (w.alloc (.cells #[.int .i64 0] 3)).heap.size = w.heap.size + 1 := World.size_alloc _ _
  generalize w.alloc (.cells #[.int .i64 0] 3) = w1 at hb1 k1 hz1 ⊢
  refine wp_rf (gf := 30) (fs := #[.slice A l.length c]) (encs := encA) (xs := Pt.all l) (S := Only w.heap.size) rfl (enters_of Tryz.func30 (by kernel_rfl) rfl) (fun k (e : k = w.heap.size) => by omega)
    (all_seq w _ l _ w1 h k1 (fun k (e : k = w.heap.size) => by omega) (fun k (e : k = w.heap.size) => by omega) hl hn) (fun _ => rfl)
    (fun pre W => Kept Nothing w W ∧ Blk W w.heap.size 3 #[.int .i64 (pre.length : Int)] ∧ pre <+: Pt.all l) (fun _ _ _ => False)
    (fun s X Y hs hX hk => ⟨hs.1.trans_new hk (fun i hi x => by omega), hs.2.1.kept hk (by omega), hs.2.2⟩) (fun _ _ _ _ hs _ _ => hs) ⟨k1, hb1, List.nil_prefix⟩
    (fun x => { tmps := #[.slice A l.length c, undef, .int .i64 0, .pointer (some ⟨w.heap.size, 0, none⟩), .slice A l.length c, .func (.func 30) #[.slice A l.length c] #[], .int .u8 (x.1.toNat : Int), .int .u32 (x.2 : Int), undef, undef, undef], defers := [] }) ?assign ?body ?done ?stop
  case assign =>
    intro q x W K hK
    simp only [encA, fold_two]
    gi_wp2
    exact hK
  case body =>
    rintro q pre x W ⟨hk, hb, hp⟩ hp2 hz
    have hln : (pre.length : Int) < 1000000000000 := by
      have h1 := hp2.length_le
      rw [Pt.length_all, List.length_append] at h1
      have := Pt.cnt_le l hn
      simp only [List.length_cons, List.length_nil] at h1
      omega
    have c0 := hb.cell 0
    have f0 := hb.free 0
    gi_wp2
    refine ⟨Kept.own W w.heap.size 0 _, hk.setCell (p := ⟨w.heap.size, 0, none⟩) (fun h => absurd h (Nat.lt_irrefl _)) _, ?_, hp2⟩
    have := hb.put 0 (.int .i64 ((pre.length : Int) + 1))
    rw [List.length_append]
    exact this
  case done =>
    rintro D W hD ⟨hk, hb, -⟩ hd
    rw [Pt.length_all] at hb
    have c0 := hb.cell 0
    go_wp2
    refine ⟨by simp, .inl ⟨_, _, rfl, run_takeDeferred hd, ?_⟩⟩
    exact ⟨_, results_tmp rfl _ _ _, rfl, hk.trans_new ((Kept.putObj W D _).mono (fun k (e : k = D) => e)) (fun i hi (e : i = D) => by omega)⟩
  case stop =>
    rintro D c pre W _ _ h _
    exact h.elim

theorem Blk.putObj {W : World} {g D : Nat} {t : TypeId} {cs : Array Value} (h : Blk W g t cs) (hne : g ≠ D) (o : Obj) : Blk (W.putObj D o) g t cs := h.kept (Kept.putObj W D o) (fun (e : g = D) => hne e)
theorem Pt.hasW_false {l : List Seg} (h : ∀ x ∈ Pt.all l, ¬ 65535 < x.2) : Pt.hasW l = false := by
  unfold Pt.hasW
  rw [List.any_eq_false]
  intro x hx
  simpa using h x hx
theorem Pt.hasW_true {l : List Seg} {pre : List (UInt8 × Nat)} (hp : pre <+: Pt.all l) {x : UInt8 × Nat} (hx : x ∈ pre) (h : 65535 < x.2) : Pt.hasW l = true := by
  unfold Pt.hasW
  rw [List.any_eq_true]
  exact ⟨x, hp.subset hx, by simpa using h⟩

set_option maxHeartbeats 1600000 in
theorem path_hasWide (v : Value) (l : List Seg) (w : World) (h : Pts w v l) (hl : l.length ≤ 1000000) (hn : ∀ s ∈ l, s.2.length ≤ 1000000) :
    Calls Tryz.prog 44 #[v] w fun e w' => e = .returned (.bool (Pt.hasW l)) ∧ Kept Nothing w w' := by
  obtain ⟨A, c, rfl, hc, hm⟩ := h.form
  have hmf := run_mkFunc
  refine (callsIn_wide (n := 4)).1 (callsIn_of_wp_marks Tryz.func44 rfl trivial ?_ rfl)
  rw [wpIn_wide]
  simp only [Tryz.ntmps44, List.size_toArray, List.length_cons, List.length_nil, Nat.reduceAdd, Nat.reduceSub, Array.replicate_succ, Array.replicate_zero, List.push_toArray, List.append_toArray, List.nil_append, List.cons_append]
  go_wp2_with fail
  have hb1 := Blk.fresh w 4 #[.bool false]
  have k1 := (Kept.refl Nothing w).alloc (.cells #[.bool false] 4)
  have hz1 : (w.alloc (.cells #[.bool false] 4)).heap.size = w.heap.size + 1 := World.size_alloc _ _
  generalize w.alloc (.cells #[.bool false] 4) = w1 at hb1 k1 hz1 ⊢
  refine wp_rf (gf := 30) (fs := #[.slice A l.length c]) (encs := encA) (xs := Pt.all l) (S := Only w.heap.size) rfl (enters_of Tryz.func30 (by kernel_rfl) rfl) (fun k (e : k = w.heap.size) => by omega)
    (all_seq w _ l _ w1 h k1 (fun k (e : k = w.heap.size) => by omega) (fun k (e : k = w.heap.size) => by omega) hl hn) (fun _ => rfl)
    (fun pre W => Kept Nothing w W ∧ Blk W w.heap.size 4 #[.bool false] ∧ ∀ x ∈ pre, ¬ 65535 < x.2) (fun c pre W => c = .ret ∧ Kept Nothing w W ∧ Blk W w.heap.size 4 #[.bool true] ∧ ∃ x ∈ pre, 65535 < x.2)
    (fun s X Y hs hX hk => ⟨hs.1.trans_new hk (fun i hi x => by omega), hs.2.1.kept hk (by omega), hs.2.2⟩) (fun c s X Y hs hX hk => ⟨hs.1, hs.2.1.trans_new hk (fun i hi x => by omega), hs.2.2.1.kept hk (by omega), hs.2.2.2⟩) ⟨k1, hb1, fun x hx => by cases hx⟩
    (fun x => { tmps := #[.slice A l.length c, undef, .pointer (some ⟨w.heap.size, 0, none⟩), undef, .int .u32 (x.2 : Int), .slice A l.length c, .func (.func 30) #[.slice A l.length c] #[], .int .u8 (x.1.toNat : Int), .int .u32 (x.2 : Int), undef, undef], defers := [] }) ?assign ?body ?done ?stop
  case assign =>
    intro q x W K hK
    simp only [encA, fold_two]
    gi_wp2
    exact hK
  case body =>
    rintro q pre x W ⟨hk, hb, hp⟩ hp2 hz
    have c0 := hb.cell 0
    have f0 := hb.free 0
    have HW := Lib.hid (fun w => pnum_wide x.2 w)
    by_cases hx : 65535 < x.2
    · rw [show decide (65535 < x.2) = true from by simpa using hx] at HW
      gi_wp2_with (refine ⟨trivial, ?_⟩; gi_at_call 97; refine (CallsIn.inRound q (callsIn_wide.2 (HW.out _))).mono ?_; rintro e w' ⟨rfl, rfl⟩)
      refine ⟨Kept.own W w.heap.size 0 _, rfl, hk.setCell (p := ⟨w.heap.size, 0, none⟩) (fun h => absurd h (Nat.lt_irrefl _)) _, hb.put 0 _, x, by simp, hx⟩
    · rw [show decide (65535 < x.2) = false from by simpa using hx] at HW
      gi_wp2_with (refine ⟨trivial, ?_⟩; gi_at_call 97; refine (CallsIn.inRound q (callsIn_wide.2 (HW.out _))).mono ?_; rintro e w' ⟨rfl, rfl⟩)
      refine ⟨Kept.refl _ _, hk, hb, fun y hy => ?_⟩
      rcases List.mem_append.1 hy with hy | hy
      · exact hp y hy
      · obtain rfl := List.mem_singleton.1 hy
        exact hx
  case done =>
    rintro D W hD ⟨hk, hb, hp⟩ hd
    have c0 := hb.cell 0
    have f0 := hb.free 0
    go_wp2
    have e0 := ((hb.put 0 (.bool false)).putObj (D := D) (by have := hb.lt; omega) (.deferred none)).cell 0
    have hd2 : (W.setCell ⟨w.heap.size, 0, none⟩ (.bool false)).heap[D]? = some (.deferred (some [])) := (Below.heap_setCell W ⟨w.heap.size, 0, none⟩ _ D (by show D ≠ w.heap.size; omega)).trans hd
    refine ⟨by simp, .inl ⟨_, _, rfl, run_takeDeferred hd2, ?_⟩⟩
    have hW := Pt.hasW_false hp
    exact ⟨.bool false, by simp [results, Tryz.results44, go_sem, e0], by rw [hW], (hk.setCell (p := ⟨w.heap.size, 0, none⟩) (fun h => absurd h (Nat.lt_irrefl _)) _).trans_new ((Kept.putObj _ D _).mono (fun k (e : k = D) => e)) (fun i hi (e : i = D) => by omega)⟩
  case stop =>
    rintro D c pre W hD hpre ⟨rfl, hk, hb, x, hx, hx2⟩ hd
    have c0 := hb.cell 0
    go_wp2
    have e0 := (hb.putObj (D := D) (by omega) (.deferred none)).cell 0
    refine ⟨by simp, .inl ⟨_, _, rfl, run_takeDeferred hd, ?_⟩⟩
    have hW := Pt.hasW_true hpre hx hx2
    exact ⟨.bool true, by simp [results, Tryz.results44, go_sem, e0], by rw [hW], hk.trans_new ((Kept.putObj W D _).mono (fun k (e : k = D) => e)) (fun i hi (e : i = D) => by omega)⟩
end Go.Proofs.YtdeblmolgmadiaaGreatDoor
