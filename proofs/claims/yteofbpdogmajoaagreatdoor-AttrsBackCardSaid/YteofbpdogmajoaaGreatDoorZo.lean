
/-
  Paths: Count, hasWide: ranges over All.
-/
import Derived.RangeFuncNested
import Derived.RangeFuncBound
import Derived.RangeFuncCalls
import Derived.RangeFuncLeaves
import Derived.WalkKit
import Derived.OwnWalkIn
import Derived.TacticsInMore
import Derived.LoopNIn
import Derived.LoopIn
import Derived.Test.YteofbpdogmajoaaGreatDoorZk
import Derived.Shelf.Abstract
namespace Go.Proofs.YteofbpdogmajoaaGreatDoor
open Go.RowKit

theorem Kept.putObj (W : World) (l : Nat) (o : Obj) : Kept (Only l) W (W.putObj l o) := ⟨rfl, rfl, rfl, by simp, fun _ _ hk => World.putObj_heap_other hk⟩

/-- Those blocks, and one more. -/
def Plus (S : Nat → Prop) (l : Nat) : Nat → Prop := fun k => S k ∨ k = l
/-- What an iterator with bound arguments fs does: it hands over xs, one by one, as long as it is told to go on. A round may change the blocks S, and the loop's record. -/
def SeqAll {α : Type} (P : Program) (gf : Nat) (fs : Array Value) (encs : α → Array Value) (xs : List α) (S : Nat → Prop) (w : World) : Prop :=
  ∀ (l : Nat) (J Jx : List α → World → Prop) (W : World), Kept Nothing w W → w.heap.size ≤ l → l < W.heap.size →
    (∀ s A B, J s A → W.heap.size ≤ A.heap.size → Kept (fun k => W.heap.size ≤ k) A B → J s B) →
    (∀ s A B, Jx s A → W.heap.size ≤ A.heap.size → Kept (fun k => W.heap.size ≤ k) A B → Jx s B) →
    (∀ pre x A, J pre A → pre ++ [x] <+: xs → YieldAt Fence.wide 2 P l (encs x) A fun e A' =>
      Kept (Plus S l) A A' ∧ ((e = .returned (.bool true) ∧ J (pre ++ [x]) A') ∨ (e = .returned (.bool false) ∧ Jx (pre ++ [x]) A'))) →
    J [] W →
    CallsIn Fence.wide 3 P gf (fs ++ #[.func (.yield l) #[] #[]]) W fun e W' => (∃ v, e = .returned v) ∧ (J xs W' ∨ ∃ pre, pre <+: xs ∧ Jx pre W')

/-- How a round's body may be left. -/
def RfPost {α : Type} (S : Nat → Prop) (I : List α → World → Prop) (Ix : Code → List α → World → Prop) (xs : List α) (W : World) : Exit → Act → World → Prop
  | .normal, _, W' => Kept S W W' ∧ I xs W'
  | .ret, _, W' => Kept S W W' ∧ Ix .ret xs W'
  | .exit id, _, W' => Kept S W W' ∧ Ix (.exit id) xs W'
  | .goto t, _, W' => Kept S W W' ∧ Ix (.goto t) xs W'
  | .panic _, _, _ => False
  | .outgrown, _, _ => False

theorem wp_rf {P : Program} {α : Type} {g : Operand} {ps : Array Tmp} {assign body : Code} {Q : Exit → Act → World → Prop} {a : Act} {w : World} {gf : Nat} {fs : Array Value}
    (hg : a.eval g = .func (.func gf) fs #[]) (eg : ∀ args w, (callFunc gf args).run P w = .ok (.enter gf args) w) {encs : α → Array Value} {xs : List α} {S : Nat → Prop} (hS : ∀ k, S k → k < w.heap.size)
    (hseq : SeqAll P gf fs encs xs S w) (hps : ∀ x, (encs x).size = ps.size)
    (I : List α → World → Prop) (Ix : Code → List α → World → Prop)
    (hI : ∀ s A B, I s A → w.heap.size ≤ A.heap.size → Kept (fun k => w.heap.size ≤ k) A B → I s B) (hIx : ∀ c s A B, Ix c s A → w.heap.size ≤ A.heap.size → Kept (fun k => w.heap.size ≤ k) A B → Ix c s B) (h0 : I [] w) (a₁ : α → Act)
    (hassign : ∀ (l : Nat) (x : α) (W : World) (K : Act → World → Prop), K (a₁ x) W →
      assign.wpIn (Fence.wide.inRound l) 2 P (Exit.then K (fun _ _ _ => False)) { tmps := (ps.zip (encs x)).foldl (fun t (p, v) => t.setIfInBounds p v) a.tmps, defers := [] } W)
    (hbody : ∀ (l : Nat) (pre : List α) (x : α) (W : World), I pre W → pre ++ [x] <+: xs → w.heap.size ≤ W.heap.size → body.wpIn (Fence.wide.inRound l) 2 P (RfPost S I Ix (pre ++ [x]) W) (a₁ x) W)
    (hdone : ∀ (D : Nat) (W : World), w.heap.size ≤ D → I xs W → W.heap[D]? = some (.deferred (some [])) → Q .normal { a with defers := { target := .collected D, args := #[] } :: a.defers } W)
    (hstop : ∀ (D : Nat) (c : Code) (pre : List α) (W : World), w.heap.size ≤ D → pre <+: xs → Ix c pre W → W.heap[D]? = some (.deferred (some [])) → c.wp P Q { a with defers := { target := .collected D, args := #[] } :: a.defers } W) :
    (Code.rangeFunc g ps assign body).wp P Q a w := by
  rw [← wpIn_wide (n := 4)]
  refine wpIn_rangeFunc (F := Fence.wide) ?_
  intro fn _
  obtain ⟨rec, hrec⟩ : ∃ rec : LoopState → Option Code → Loop, rec = fun st pe => { state := st, pending := pe, fn, tmps := a.tmps, params := ps, assign, body, defers := w.heap.size } := ⟨_, rfl⟩
  obtain ⟨W1, hW1⟩ : ∃ W1, (w.alloc (.deferred (some []))).alloc (.loop (rec .ready none)) = W1 := ⟨_, rfl⟩
  have hz1 : W1.heap.size = w.heap.size + 1 + 1 := by rw [← hW1, World.size_alloc, World.size_alloc]
  have hL1 : W1.heap[w.heap.size + 1]? = some (.loop (rec .ready none)) := by
    rw [← hW1]
    have := World.alloc_heap_new (w.alloc (.deferred (some []))) (.loop (rec .ready none))
    rwa [World.size_alloc] at this
  have hD1 : W1.heap[w.heap.size]? = some (.deferred (some [])) := by
    rw [← hW1]
    exact (Below.heap_alloc _ _ _ (by simp)).trans (World.alloc_heap_new w _)
  have k1 : Kept Nothing w W1 := by rw [← hW1]; exact ((Kept.refl Nothing w).alloc _).alloc _
  have hI1 : I [] W1 := hI _ _ _ h0 (Nat.le_refl _) (k1.mono (fun _ x => x.elim))
  -- what the record's turns leave of I, of Ix and of the marks
  have far : ∀ {A B : World} {r : Nat}, W1.heap.size ≤ A.heap.size → Kept (fun k => W1.heap.size ≤ k) A B → r < W1.heap.size → B.heap[r]? = A.heap[r]? := fun hA hk hr => hk.block _ (by omega) (by omega)
  have put : ∀ (A : World) (o : Obj), Kept (fun k => w.heap.size ≤ k) A (A.putObj (w.heap.size + 1) o) := fun A o => (Kept.putObj A (w.heap.size + 1) o).mono (fun k (e : k = _) => by omega)
  refine ⟨w.heap.size + 1, [{ target := .collected w.heap.size, args := #[] }], W1, { target := .fn (.func gf) #[], args := fs ++ #[.func (.yield (w.heap.size + 1)) #[] #[]] }, W1, gf, fs ++ #[.func (.yield (w.heap.size + 1)) #[] #[]], W1, ?_, ?_, (fun f' _ => trivial), ?_, (fun h => by cases h), ?_⟩
  · rw [← hW1, hrec]; exact run_enterLoop_outer _ _ _ _ _
  · simp only [resolve, hg]
    simp [go_sem]
  · simp [invoke, go_sem, eg]
  · refine (hseq (w.heap.size + 1)
      (fun pre W => I pre W ∧ W.heap[w.heap.size + 1]? = some (.loop (rec .ready none)) ∧ W.heap[w.heap.size]? = some (.deferred (some [])) ∧ w.heap.size ≤ W.heap.size)
      (fun pre W => ∃ c, Ix c pre W ∧ W.heap[w.heap.size + 1]? = some (.loop (rec .done (some c))) ∧ W.heap[w.heap.size]? = some (.deferred (some [])) ∧ w.heap.size ≤ W.heap.size)
      W1 k1 (by omega) (by omega)
      (fun s A B h hA hk => ⟨hI _ _ _ h.1 h.2.2.2 (hk.mono (fun k hk' => by omega)), (far hA hk (by omega)).trans h.2.1, (far hA hk (by omega)).trans h.2.2.1, Nat.le_trans h.2.2.2 hk.size⟩)
      (fun s A B h hA hk => by
        obtain ⟨c, h1, h2, h3, h4⟩ := h
        exact ⟨c, hIx _ _ _ _ h1 h4 (hk.mono (fun k hk' => by omega)), (far hA hk (by omega)).trans h2, (far hA hk (by omega)).trans h3, Nat.le_trans h4 hk.size⟩)
      ?_ ⟨hI1, hL1, hD1, by omega⟩).mono ?_
    · rintro pre x W ⟨hi, hl, hd, hz⟩ hpre
      have hlt : w.heap.size + 1 < W.heap.size := (Array.getElem?_eq_some_iff.1 hl).1
      have hy := run_yield (P := P) (args := encs x) hl (by rw [hrec]; exact hps x)
      rw [hrec] at hy
      refine ⟨fn, _, assign, body, hy, roundIn_of_wpIn trivial (hassign _ x W _ ⟨_, run_beginRound hl (by rw [hrec]), ?_⟩)⟩
      have hl2 : (W.putObj (w.heap.size + 1) (.loop { rec .ready none with state := .busy })).heap[w.heap.size + 1]? = some (.loop { rec .ready none with state := .busy }) := World.putObj_heap_same hlt
      have hd2 : (W.putObj (w.heap.size + 1) (.loop { rec .ready none with state := .busy })).heap[w.heap.size]? = some (.deferred (some [])) := (World.putObj_heap_other (by omega)).trans hd
      have p2 := Kept.putObj W (w.heap.size + 1) (.loop { rec .ready none with state := .busy })
      refine wpIn_mono (hbody _ pre x _ (hI _ _ _ hi hz (put W _)) hpre (by simp; omega)) ?_
      have fin : ∀ (jump : Option Code) (W3 : World), Kept S (W.putObj (w.heap.size + 1) (.loop { rec .ready none with state := .busy })) W3 →
          (Instr.endRound (w.heap.size + 1) jump).run P W3 = .ok (.bool jump.isNone) (W3.putObj (w.heap.size + 1) (.loop (rec (if jump.isNone then .ready else .done) jump))) ∧
          (W3.putObj (w.heap.size + 1) (.loop (rec (if jump.isNone then .ready else .done) jump))).heap[w.heap.size + 1]? = some (.loop (rec (if jump.isNone then .ready else .done) jump)) ∧
          (W3.putObj (w.heap.size + 1) (.loop (rec (if jump.isNone then .ready else .done) jump))).heap[w.heap.size]? = some (.deferred (some [])) ∧
          Kept (Plus S (w.heap.size + 1)) W (W3.putObj (w.heap.size + 1) (.loop (rec (if jump.isNone then .ready else .done) jump))) ∧ w.heap.size ≤ W3.heap.size := fun jump W3 hk3 => by
        have hz2 : w.heap.size + 1 < (W.putObj (w.heap.size + 1) (.loop { rec .ready none with state := .busy })).heap.size := by simp; omega
        have hl3 := (hk3.block (w.heap.size + 1) hz2 (fun x => by have := hS _ x; omega)).trans hl2
        have hd3 := (hk3.block w.heap.size (by omega) (fun x => by have := hS _ x; omega)).trans hd2
        have := run_endRound (P := P) jump hl3
        rw [hrec] at this ⊢
        refine ⟨this, World.putObj_heap_same (Array.getElem?_eq_some_iff.1 hl3).1, (World.putObj_heap_other (by omega)).trans hd3, ?_, by have := hk3.size; omega⟩
        exact ((p2.mono (fun k e => .inr e)).trans (hk3.mono (fun k e => .inl e))).trans ((Kept.putObj W3 _ _).mono (fun k e => .inr e))
      rintro e a3 W3 hp
      cases e with
      | normal =>
        obtain ⟨hk3, hi3⟩ := hp
        obtain ⟨hr, hl4, hd4, hk4, hz3⟩ := fin none W3 hk3
        exact ⟨_, _, hr, hk4, .inl ⟨rfl, hI _ _ _ hi3 hz3 (put W3 _), hl4, hd4, by simp; omega⟩⟩
      | ret =>
        obtain ⟨hk3, hi3⟩ := hp
        obtain ⟨hr, hl4, hd4, hk4, hz3⟩ := fin (some .ret) W3 hk3
        exact ⟨_, _, hr, hk4, .inr ⟨rfl, .ret, hIx _ _ _ _ hi3 hz3 (put W3 _), hl4, hd4, by simp; omega⟩⟩
      | exit id =>
        obtain ⟨hk3, hi3⟩ := hp
        obtain ⟨hr, hl4, hd4, hk4, hz3⟩ := fin (some (.exit id)) W3 hk3
        exact ⟨_, _, hr, hk4, .inr ⟨rfl, .exit id, hIx _ _ _ _ hi3 hz3 (put W3 _), hl4, hd4, by simp; omega⟩⟩
      | goto t =>
        obtain ⟨hk3, hi3⟩ := hp
        obtain ⟨hr, hl4, hd4, hk4, hz3⟩ := fin (some (.goto t)) W3 hk3
        exact ⟨_, _, hr, hk4, .inr ⟨rfl, .goto t, hIx _ _ _ _ hi3 hz3 (put W3 _), hl4, hd4, by simp; omega⟩⟩
      | panic ch => exact hp.elim
      | outgrown => exact hp.elim
    · rintro e W2 ⟨⟨v, rfl⟩, (⟨hi, hl, hd, hz⟩ | ⟨pre, hpre, c, hi, hl, hd, hz⟩)⟩
      · exact ⟨none, _, by have := run_endLoop (P := P) hl (by rw [hrec]; simp); rw [hrec] at this; exact this, hdone _ _ (Nat.le_refl _) (hI _ _ _ hi hz (put W2 _)) ((World.putObj_heap_other (by omega)).trans hd)⟩
      · refine ⟨some c, _, by have := run_endLoop (P := P) hl (by rw [hrec]; simp); rw [hrec] at this; exact this, ?_⟩
        exact wpIn_wide.2 (hstop _ c pre _ (Nat.le_refl _) hpre (hIx _ _ _ _ hi hz (put W2 _)) ((World.putObj_heap_other (by omega)).trans hd))
end Go.Proofs.YteofbpdogmajoaaGreatDoor
namespace Go.Proofs.YteofbpdogmajoaaGreatDoor
open Go.RowKit
attribute [local go_sem] Oper.semAt_some

namespace Pt
theorem all_take_succ (l : List Seg) (i : Nat) (h : i < l.length) : all (l.take (i + 1)) = all (l.take i) ++ (l[i]).2.map fun n => ((l[i]).1, n) := by
  rw [List.take_succ_eq_append_getElem h, all_append]
  simp [all]
theorem all_prefix (l : List Seg) (i j : Nat) (h : i < l.length) (hj : j < (l[i]).2.length) : (all (l.take i) ++ ((l[i]).2.take j).map (fun n => ((l[i]).1, n))) ++ [((l[i]).1, (l[i]).2[j])] <+: all l := by
  have e1 : ((l[i]).2.take j).map (fun n => ((l[i]).1, n)) ++ [((l[i]).1, (l[i]).2[j])] = ((l[i]).2.take (j + 1)).map (fun n => ((l[i]).1, n)) := by
    rw [List.take_succ_eq_append_getElem hj, List.map_append]; rfl
  rw [List.append_assoc, e1]
  have h1 : ((l[i]).2.take (j + 1)).map (fun n => ((l[i]).1, n)) <+: (l[i]).2.map (fun n => ((l[i]).1, n)) := by
    exact (List.take_prefix _ _).map _
  have h2 : all (l.take i) ++ ((l[i]).2.take (j + 1)).map (fun n => ((l[i]).1, n)) <+: all (l.take (i + 1)) := by
    rw [all_take_succ l i h]
    exact (List.prefix_append_right_inj _).2 h1
  have h3 : all (l.take (i + 1)) <+: all l := by
    conv => rhs; rw [← List.take_append_drop (i + 1) l, all_append]
    exact List.prefix_append _ _
  exact h2.trans h3
end Pt

def encA (x : UInt8 × Nat) : Array Value := #[.int .u8 (x.1.toNat : Int), .int .u32 (x.2 : Int)]

theorem run_eqIn_yield (u : World) (n q : Nat) : (Op.equalIn (n + 1) 225 (.func (.yield q) #[] #[]) .nilFunc).run Tryz.prog u = .ok false u := by
  simp [Op.equalIn, run_underlying Tryz.underlying225]
theorem run_eql_yield (u : World) (q : Nat) : (binOp .eql 225 (.func (.yield q) #[] #[]) .nilFunc).run Tryz.prog u = .ok (.bool false) u := by
  simp only [binOp]
  simp [Op.equal, Op.maxDepth, run_eqIn_yield u 9999 q]

set_option maxRecDepth 100000 in
set_option maxHeartbeats 4000000 in
theorem all_seq (w0 : World) (v : Value) (l : List Seg) (S : Nat → Prop) (w : World) (h : Pts w0 v l) (k0 : Kept Nothing w0 w) (hS : ∀ k, S k → w0.heap.size ≤ k) (hS2 : ∀ k, S k → k < w.heap.size) (hl : l.length ≤ 1000000) (hn : ∀ s ∈ l, s.2.length ≤ 1000000) :
    SeqAll Tryz.prog 159 #[v] encA (Pt.all l) S w := by
  intro q J Jx W kW hq1 hq2 hJ hJx hY h00
  obtain ⟨A, c, rfl, hc, hm⟩ := h.form
  have HV := Lib.hid h
  have HN := Lib.hid hn
  have HY := Lib.hid hY
  have HJ := Lib.hid hJ
  have KW := Lib.hid (k0.trans kW)
  have HK : Hid (∀ {X Y : World}, Kept Nothing w0 X → Kept (Plus S q) X Y → Kept Nothing w0 Y) := Lib.hid (fun hx hy => hx.trans_new hy (fun i hi x => by
    rcases x with x | x
    · have := hS i x; omega
    · have := k0.size; omega))
  have HP : Hid (∀ k, W.heap.size ≤ k → ¬ Plus S q k) := Lib.hid (fun k hk x => by
    rcases x with x | x
    · have := hS2 k x; have := kW.size; omega
    · omega)
  have H0 := Lib.hid h00
  clear h hn hY hJ hJx k0 hS hS2 kW h00
  refine callsIn_of_wp Tryz.func159 rfl trivial ?_ rfl
  simp only [Tryz.ntmps159, List.size_toArray, List.length_cons, List.length_nil, Nat.reduceAdd, Nat.reduceSub, Array.replicate_succ, Array.replicate_zero, List.push_toArray, List.append_toArray, List.nil_append, List.cons_append]
  have hnil := fun u => run_eql_yield u q
  gi_wp2
  gi_loopw [12] (fun i wr => ∃ k : Nat, i = .int .i64 (k : Int) ∧ k ≤ l.length ∧ Hid (J (Pt.all (l.take k)) wr) ∧ Hid (Kept Nothing w0 wr) ∧ W.heap.size ≤ wr.heap.size) (fun i _ => l.length - (intOf i).toNat)
  case atStart => exact ⟨0, rfl, Nat.zero_le _, H0, KW, Nat.le_refl _⟩
  case round =>
    clear H0 KW
    obtain ⟨k, rfl, hk, JK, KK, hz⟩ := hrel
    by_cases hlt : k < l.length
    · obtain ⟨b, o, Au, cu, rfl, p0, p1, hp⟩ := HV.out.at2 hlt
      have i1 : (0 : Int) ≤ (k : Int) := by omega
      have i2 : (k : Int) < (l.length : Int) := by omega
      have q0 := KK.out.cell_some p0 (fun x => x)
      have q1 := KK.out.cell_some p1 (fun x => x)
      have hmem : l.getD k (0, []) ∈ l := by rw [getD_get hlt]; exact List.getElem_mem _
      have hsn := HN.out _ hmem
      have ET : Hid (Pt.all (l.take (k + 1)) = Pt.all (l.take k) ++ (l.getD k (0, [])).2.map (fun n => ((l.getD k (0, [])).1, n))) := Lib.hid (by rw [getD_get hlt]; exact Pt.all_take_succ l k hlt)
      have EP : Hid (∀ m, m < (l.getD k (0, [])).2.length → (Pt.all (l.take k) ++ ((l.getD k (0, [])).2.take m).map (fun n => ((l.getD k (0, [])).1, n))) ++ [((l.getD k (0, [])).1, (l.getD k (0, [])).2.getD m 0)] <+: Pt.all l) := Lib.hid (fun m hm => by
        have := Pt.all_prefix l k m hlt (by rw [getD_get hlt] at hm; exact hm)
        rw [getD_get hlt, getD_get (by rw [getD_get hlt] at hm; exact hm)]
        exact this)
      generalize hsg : l.getD k (0, []) = sg at *
      obtain ⟨sk, sn⟩ := sg
      clear hsg hmem
      simp only at q0 q1 hp hsn
      have HPN := Lib.hid hp
      have J1 := Lib.hid (HJ.out _ wr (wr.alloc (.cells #[.int .u8 (sk.toNat : Int), .slice Au sn.length cu] 71)) JK.out hz (((Kept.refl Nothing wr).alloc _).mono (fun _ x => x.elim)))
      have K1 := Lib.hid (KK.out.alloc (.cells #[.int .u8 (sk.toNat : Int), .slice Au sn.length cu] 71))
      have B1 := Lib.hid (Blk.fresh wr 71 #[.int .u8 (sk.toNat : Int), .slice Au sn.length cu])
      have hz1 : W.heap.size ≤ (wr.alloc (.cells #[.int .u8 (sk.toNat : Int), .slice Au sn.length cu] 71)).heap.size := by rw [World.size_alloc]; omega
      clear hp p0 p1 JK KK
      gi_wp2
      generalize hbx : wr.heap.size = bx at *
      have hbz : W.heap.size ≤ bx := hz
      clear hbx
      gi_loopw [19] (fun i wq => ∃ m : Nat, i = .int .i64 (m : Int) ∧ m ≤ sn.length ∧ Hid (J (Pt.all (l.take k) ++ (sn.take m).map (fun n => (sk, n))) wq) ∧ Hid (Kept Nothing w0 wq) ∧ W.heap.size ≤ wq.heap.size ∧ Hid (Blk wq bx 71 #[.int .u8 (sk.toNat : Int), .slice Au sn.length cu])) (fun i _ => sn.length - (intOf i).toNat)
      case atStart => exact ⟨0, rfl, Nat.zero_le _, by simpa using J1, K1, hz1, B1⟩
      case round =>
        clear J1 K1 B1 hz1
        obtain ⟨m, rfl, hm', JM, KM, hzm, BM⟩ := hrel
        by_cases hml : m < sn.length
        · obtain ⟨b2, o2, rfl, hc2⟩ := HPN.out.at (by omega)
          have cm := KM.out.cell_some (hc2 m hml) (fun x => x)
          have cb := BM.out.cell 0
          have j1 : (0 : Int) ≤ (m : Int) := by omega
          have j2 : (m : Int) < (sn.length : Int) := by omega
          have EX : Hid ((Pt.all (l.take k) ++ (sn.take m).map (fun n => (sk, n))) ++ [(sk, sn.getD m 0)] <+: Pt.all l) := Lib.hid (EP.out m hml)
          have EM : Hid (sn.take (m + 1) = sn.take m ++ [sn.getD m 0]) := Lib.hid (by rw [List.take_succ_eq_append_getElem hml, getD_get hml])
          generalize sn.getD m 0 = n at *
          obtain ⟨fn, tmps, assign, body, hy, hR⟩ := HY.out _ (sk, n) wr JM.out EX.out
          simp only [encA] at hy
          have HR := Lib.hid hR
          clear hc2 hR
          gi_wp2
          refine HR.out.mono ?_
          rintro e W3 ⟨hk3, (⟨rfl, hJ3⟩ | ⟨rfl, hJx3⟩)⟩
          · have hb3 := BM.out.kept hk3 (HP.out bx hbz)
            have K3 := Lib.hid (HK.out KM.out hk3)
            have hz3 := Nat.le_trans hzm hk3.size
            have J3 : Hid (J (Pt.all (l.take k) ++ (sn.take (m + 1)).map (fun n => (sk, n))) W3) := Lib.hid (by rw [EM.out, List.map_append, ← List.append_assoc]; exact hJ3)
            have B3 := Lib.hid hb3
            clear hb3 hJ3 hk3
            gi_wp2
            go_roundw
            case rel => exact ⟨m + 1, by go_num, by omega, J3, K3, hz3, B3⟩
            case measure => simp [intOf]; omega
          · clear hk3
            gi_wp2
            refine bodyPost_ret (results_none rfl _ _ _) rfl ?_
            exact ⟨⟨_, rfl⟩, .inr ⟨_, EX.out, hJx3⟩⟩
        · obtain rfl : m = sn.length := by omega
          rw [List.take_of_length_le (Nat.le_refl _)] at JM
          have J4 : Hid (J (Pt.all (l.take (k + 1))) wr) := Lib.hid (by rw [ET.out]; exact JM.out)
          clear JM BM
          gi_wp2
          go_roundw
          case rel => exact ⟨k + 1, by go_num, by omega, J4, KM, hzm⟩
          case measure => simp [intOf]; omega
    · obtain rfl : k = l.length := by omega
      rw [List.take_of_length_le (Nat.le_refl _)] at JK
      gi_wp2
      go_end0
      exact ⟨⟨_, rfl⟩, .inl JK.out⟩
end Go.Proofs.YteofbpdogmajoaaGreatDoor
namespace Go.Proofs.YteofbpdogmajoaaGreatDoor
open Go.RowKit Go.Shelf
attribute [local go_sem] Oper.semAt_some

theorem run_mkFunc (fn : Fn) (first cap : Array Value) (w : World) : (Instr.makeFunc fn first cap).run Tryz.prog w = .ok (.func fn first cap) w := by
  simp [Instr.makeFunc, Sem.run_pure]

theorem zip_two (a b : Tmp) (u v : Value) : (#[a, b] : Array Tmp).zip #[u, v] = #[(a, u), (b, v)] := by
  apply Array.ext'
  simp
theorem fold_two (a b : Tmp) (u v : Value) (t : Array Value) : (#[a, b].zip #[u, v]).foldl (fun t x => t.setIfInBounds x.1 x.2) t = (t.setIfInBounds a u).setIfInBounds b v := by
  rw [zip_two]; rfl
theorem Pt.cnt_le (l : List Seg) (hn : ∀ s ∈ l, s.2.length ≤ 1000000) : Pt.cnt l ≤ 1000000 * l.length := by
  unfold Pt.cnt
  induction l with
  | nil => simp
  | cons s l ih =>
    have h1 := ih (fun x hx => hn x (List.mem_cons_of_mem _ hx))
    have h3 := hn s (List.mem_cons_self ..)
    rw [List.map_cons, List.sum_cons, List.length_cons, Nat.mul_add]
    omega

theorem Blk.putObj {W : World} {g D : Nat} {t : TypeId} {cs : Array Value} (h : Blk W g t cs) (hne : g ≠ D) (o : Obj) : Blk (W.putObj D o) g t cs := h.kept (Kept.putObj W D o) (fun (e : g = D) => hne e)
theorem Pt.hasW_false {l : List Seg} (h : ∀ x ∈ Pt.all l, ¬ 65535 < x.2) : Pt.hasW l = false := by
  unfold Pt.hasW
  rw [List.any_eq_false]
  intro x hx
  simpa using h x hx
theorem Pt.hasW_true {l : List Seg} {pre : List (UInt8 × Nat)} (hp : pre <+: Pt.all l) {x : UInt8 × Nat} (hx : x ∈ pre) (h : 65535 < x.2) : Pt.hasW l = true := by
  unfold Pt.hasW
  rw [List.any_eq_true]
  exact ⟨x, hp.subset hx, by simpa using h⟩

set_option maxHeartbeats 1600000 in
theorem path_hasWide (v : Value) (l : List Seg) (w : World) (h : Pts w v l) (hl : l.length ≤ 1000000) (hn : ∀ s ∈ l, s.2.length ≤ 1000000) :
    Calls Tryz.prog 142 #[v] w fun e w' => e = .returned (.bool (Pt.hasW l)) ∧ Kept Nothing w w' := by
  obtain ⟨A, c, rfl, hc, hm⟩ := h.form
  have hmf := run_mkFunc
  refine (callsIn_wide (n := 4)).1 (callsIn_of_wp_marks Tryz.func142 rfl trivial ?_ rfl)
  rw [wpIn_wide]
  simp only [Tryz.ntmps142, List.size_toArray, List.length_cons, List.length_nil, Nat.reduceAdd, Nat.reduceSub, Array.replicate_succ, Array.replicate_zero, List.push_toArray, List.append_toArray, List.nil_append, List.cons_append]
  go_wp2_with fail
  have hb1 := Blk.fresh w 4 #[.bool false]
  have k1 := (Kept.refl Nothing w).alloc (.cells #[.bool false] 4)
  have hz1 : (w.alloc (.cells #[.bool false] 4)).heap.size = w.heap.size + 1 := World.size_alloc _ _
  generalize w.alloc (.cells #[.bool false] 4) = w1 at hb1 k1 hz1 ⊢
  refine wp_rf (gf := 159) (fs := #[.slice A l.length c]) (encs := encA) (xs := Pt.all l) (S := Only w.heap.size) rfl (enters_of Tryz.func159 (by kernel_rfl) rfl) (fun k (e : k = w.heap.size) => by omega)
    (all_seq w _ l _ w1 h k1 (fun k (e : k = w.heap.size) => by omega) (fun k (e : k = w.heap.size) => by omega) hl hn) (fun _ => rfl)
    (fun pre W => Kept Nothing w W ∧ Blk W w.heap.size 4 #[.bool false] ∧ ∀ x ∈ pre, ¬ 65535 < x.2) (fun c pre W => c = .ret ∧ Kept Nothing w W ∧ Blk W w.heap.size 4 #[.bool true] ∧ ∃ x ∈ pre, 65535 < x.2)
    (fun s X Y hs hX hk => ⟨hs.1.trans_new hk (fun i hi x => by omega), hs.2.1.kept hk (by omega), hs.2.2⟩) (fun c s X Y hs hX hk => ⟨hs.1, hs.2.1.trans_new hk (fun i hi x => by omega), hs.2.2.1.kept hk (by omega), hs.2.2.2⟩) ⟨k1, hb1, fun x hx => by cases hx⟩
    (fun x => { tmps := #[.slice A l.length c, undef, .pointer (some ⟨w.heap.size, 0, none⟩), undef, .int .u32 (x.2 : Int), .slice A l.length c, .func (.func 159) #[.slice A l.length c] #[], .int .u8 (x.1.toNat : Int), .int .u32 (x.2 : Int), undef, undef], defers := [] }) ?assign ?body ?done ?stop
  case assign =>
    intro q x W K hK
    simp only [encA, fold_two]
    gi_wp2
    exact hK
  case body =>
    rintro q pre x W ⟨hk, hb, hp⟩ hp2 hz
    have c0 := hb.cell 0
    have f0 := hb.free 0
    have HW := Lib.hid (fun w => pnum_wide x.2 w)
    by_cases hx : 65535 < x.2
    · rw [show decide (65535 < x.2) = true from by simpa using hx] at HW
      gi_wp2_with (refine ⟨trivial, ?_⟩; gi_at_call 144; refine (CallsIn.inRound q (callsIn_wide.2 (HW.out _))).mono ?_; rintro e w' ⟨rfl, rfl⟩)
      refine ⟨Kept.own W w.heap.size 0 _, rfl, hk.setCell (p := ⟨w.heap.size, 0, none⟩) (fun h => absurd h (Nat.lt_irrefl _)) _, hb.put 0 _, x, by simp, hx⟩
    · rw [show decide (65535 < x.2) = false from by simpa using hx] at HW
      gi_wp2_with (refine ⟨trivial, ?_⟩; gi_at_call 144; refine (CallsIn.inRound q (callsIn_wide.2 (HW.out _))).mono ?_; rintro e w' ⟨rfl, rfl⟩)
      refine ⟨Kept.refl _ _, hk, hb, fun y hy => ?_⟩
      rcases List.mem_append.1 hy with hy | hy
      · exact hp y hy
      · obtain rfl := List.mem_singleton.1 hy
        exact hx
  case done =>
    rintro D W hD ⟨hk, hb, hp⟩ hd
    have c0 := hb.cell 0
    have f0 := hb.free 0
    go_wp2
    have e0 := ((hb.put 0 (.bool false)).putObj (D := D) (by have := hb.lt; omega) (.deferred none)).cell 0
    have hd2 : (W.setCell ⟨w.heap.size, 0, none⟩ (.bool false)).heap[D]? = some (.deferred (some [])) := (Below.heap_setCell W ⟨w.heap.size, 0, none⟩ _ D (by show D ≠ w.heap.size; omega)).trans hd
    refine ⟨by simp, .inl ⟨_, _, rfl, run_takeDeferred hd2, ?_⟩⟩
    have hW := Pt.hasW_false hp
    exact ⟨.bool false, by simp [results, Tryz.results142, go_sem, e0], by rw [hW], (hk.setCell (p := ⟨w.heap.size, 0, none⟩) (fun h => absurd h (Nat.lt_irrefl _)) _).trans_new ((Kept.putObj _ D _).mono (fun k (e : k = D) => e)) (fun i hi (e : i = D) => by omega)⟩
  case stop =>
    rintro D c pre W hD hpre ⟨rfl, hk, hb, x, hx, hx2⟩ hd
    have c0 := hb.cell 0
    go_wp2
    have e0 := (hb.putObj (D := D) (by omega) (.deferred none)).cell 0
    refine ⟨by simp, .inl ⟨_, _, rfl, run_takeDeferred hd, ?_⟩⟩
    have hW := Pt.hasW_true hpre hx hx2
    exact ⟨.bool true, by simp [results, Tryz.results142, go_sem, e0], by rw [hW], hk.trans_new ((Kept.putObj W D _).mono (fun k (e : k = D) => e)) (fun i hi (e : i = D) => by omega)⟩
end Go.Proofs.YteofbpdogmajoaaGreatDoor
