
/-
  What is fused: its weight, its confed segments, its numbers, as plain data.
-/
import Derived.Test.YthjljamngpddmaaGreatDoorY09
import Derived.Test.YthjljamngpddmaaGreatDoorY24
import Derived.Test.YthjljamngpddmaaGreatDoorY22
namespace Go.Proofs.YthjljamngpddmaaGreatDoor
open Go.RowKit

/-- Those blocks, and the rows of numbers that lie from B on in A. -/
def ChS (S : Nat → Prop) (B : Nat) (A : World) : Nat → Prop := fun k => S k ∨ (B ≤ k ∧ ∃ cs, A.heap[k]? = some (.cells cs 54 (0, 0)))
theorem Kept.chg {S : Nat → Prop} {B : Nat} {a b c : World} (h : Kept (ChS S B a) a b) (k : Kept (ChS S B b) b c) : Kept (ChS S B a) a c :=
  ⟨k.os.trans h.os, k.tape.trans h.tape, k.output.trans h.output, Nat.le_trans h.size k.size, fun i hi hs => by
    have e := h.block i hi hs
    refine (k.block i (Nat.lt_of_lt_of_le hi h.size) (fun x => hs ?_)).trans e
    rcases x with x | ⟨hB, cs, hc⟩
    · exact .inl x
    · exact .inr ⟨hB, cs, by rw [← e]; exact hc⟩⟩
theorem Kept.toS {S : Nat → Prop} {B : Nat} {a b : World} (h : Kept S a b) : Kept (ChS S B a) a b := h.mono (fun _ x => .inl x)

/-- What an iterator with bound arguments fs does: it hands over xs, one by one, as long as it is told to go on. A round may change the blocks S, and the loop's record. -/
def SeqAllN {α : Type} (P : Program) (gf : Nat) (fs : Array Value) (encs : α → Array Value) (xs : List α) (S : Nat → Prop) (B : Nat) (w : World) : Prop :=
  ∀ (l : Nat) (J Jx : List α → World → Prop) (W : World), Kept Nothing w W → w.heap.size ≤ l → l < W.heap.size →
    (∀ s A A', J s A → Kept Nothing A A' → J s A') →
    (∀ pre x A, J pre A → pre ++ [x] <+: xs → YieldAt Fence.wide 2 P l (encs x) A fun e A' =>
      Kept (ChS (Plus S l) B A) A A' ∧ ((e = .returned (.bool true) ∧ J (pre ++ [x]) A') ∨ (e = .returned (.bool false) ∧ Jx (pre ++ [x]) A'))) →
    J [] W →
    CallsIn Fence.wide 3 P gf (fs ++ #[.func (.yield l) #[] #[]]) W fun e W' => (∃ v, e = .returned v) ∧ (J xs W' ∨ ∃ pre, pre <+: xs ∧ Jx pre W')

/-- How a round's body may be left. -/
def RfPostN {α : Type} (S : Nat → Prop) (B : Nat) (I : List α → World → Prop) (Ix : Code → List α → World → Prop) (xs : List α) (W : World) : Exit → Act → World → Prop
  | .normal, _, W' => Kept (ChS S B W) W W' ∧ I xs W'
  | .ret, _, W' => Kept (ChS S B W) W W' ∧ Ix .ret xs W'
  | .exit id, _, W' => Kept (ChS S B W) W W' ∧ Ix (.exit id) xs W'
  | .goto t, _, W' => Kept (ChS S B W) W W' ∧ Ix (.goto t) xs W'
  | .panic _, _, _ => False
  | .outgrown, _, _ => False

theorem wp_rfN {P : Program} {α : Type} {g : Operand} {ps : Array Tmp} {assign body : Code} {Q : Exit → Act → World → Prop} {a : Act} {w : World} {gf : Nat} {fs : Array Value}
    (hg : a.eval g = .func (.func gf) fs #[]) (eg : ∀ args w, (callFunc gf args).run P w = .ok (.enter gf args) w) {encs : α → Array Value} {xs : List α} {S : Nat → Prop} {B : Nat} (hS : ∀ k, S k → k < w.heap.size)
    (hseq : SeqAllN P gf fs encs xs S B w) (hps : ∀ x, (encs x).size = ps.size)
    (I : List α → World → Prop) (Ix : Code → List α → World → Prop)
    (hI : ∀ s A A', I s A → Kept (fun k => k = w.heap.size ∨ k = w.heap.size + 1) A A' → I s A') (hIx : ∀ c s A A', Ix c s A → Kept (fun k => k = w.heap.size ∨ k = w.heap.size + 1) A A' → Ix c s A') (h0 : I [] w) (a₁ : α → Act)
    (hassign : ∀ (l : Nat) (x : α) (W : World) (K : Act → World → Prop), K (a₁ x) W →
      assign.wpIn (Fence.wide.inRound l) 2 P (Exit.then K (fun _ _ _ => False)) { tmps := (ps.zip (encs x)).foldl (fun t (p, v) => t.setIfInBounds p v) a.tmps, defers := [] } W)
    (hbody : ∀ (l : Nat) (pre : List α) (x : α) (W : World), I pre W → pre ++ [x] <+: xs → w.heap.size + 2 ≤ W.heap.size → body.wpIn (Fence.wide.inRound l) 2 P (RfPostN S B I Ix (pre ++ [x]) W) (a₁ x) W)
    (hdone : ∀ (D : Nat) (W : World), w.heap.size ≤ D → I xs W → W.heap[D]? = some (.deferred (some [])) → Q .normal { a with defers := { target := .collected D, args := #[] } :: a.defers } W)
    (hstop : ∀ (D : Nat) (c : Code) (pre : List α) (W : World), w.heap.size ≤ D → pre <+: xs → Ix c pre W → W.heap[D]? = some (.deferred (some [])) → c.wp P Q { a with defers := { target := .collected D, args := #[] } :: a.defers } W) :
    (Code.rangeFunc g ps assign body).wp P Q a w := by
  rw [← wpIn_wide (n := 4)]
  refine wpIn_rangeFunc (F := Fence.wide) ?_
  intro fn _
  obtain ⟨rec, hrec⟩ : ∃ rec : LoopState → Option Code → Loop, rec = fun st pe => { state := st, pending := pe, fn, tmps := a.tmps, params := ps, assign, body, defers := w.heap.size } := ⟨_, rfl⟩
  obtain ⟨W1, hW1⟩ : ∃ W1, (w.alloc (.deferred (some []))).alloc (.loop (rec .ready none)) = W1 := ⟨_, rfl⟩
  have hz1 : W1.heap.size = w.heap.size + 1 + 1 := by rw [← hW1, World.size_alloc, World.size_alloc]
  have hL1 : W1.heap[w.heap.size + 1]? = some (.loop (rec .ready none)) := by
    rw [← hW1]
    have := World.alloc_heap_new (w.alloc (.deferred (some []))) (.loop (rec .ready none))
    rwa [World.size_alloc] at this
  have hD1 : W1.heap[w.heap.size]? = some (.deferred (some [])) := by
    rw [← hW1]
    exact (Below.heap_alloc _ _ _ (by simp)).trans (World.alloc_heap_new w _)
  have k1 : Kept Nothing w W1 := by rw [← hW1]; exact ((Kept.refl Nothing w).alloc _).alloc _
  have hI1 : I [] W1 := hI _ _ _ h0 (k1.mono (fun _ x => x.elim))
  -- what the record's turns leave of I
  have put : ∀ (A : World) (o : Obj), Kept (fun k => k = w.heap.size ∨ k = w.heap.size + 1) A (A.putObj (w.heap.size + 1) o) := fun A o => (Kept.putObj A (w.heap.size + 1) o).mono (fun k (e : k = _) => .inr e)
  refine ⟨w.heap.size + 1, [{ target := .collected w.heap.size, args := #[] }], W1, { target := .fn (.func gf) #[], args := fs ++ #[.func (.yield (w.heap.size + 1)) #[] #[]] }, W1, gf, fs ++ #[.func (.yield (w.heap.size + 1)) #[] #[]], W1, ?_, ?_, (fun f' _ => trivial), ?_, (fun h => by cases h), ?_⟩
  · rw [← hW1, hrec]; exact run_enterLoop_outer _ _ _ _ _
  · simp only [resolve, hg]
    simp [go_sem]
  · simp [invoke, go_sem, eg]
  · refine (hseq (w.heap.size + 1)
      (fun pre W => I pre W ∧ W.heap[w.heap.size + 1]? = some (.loop (rec .ready none)) ∧ W.heap[w.heap.size]? = some (.deferred (some [])) ∧ w.heap.size ≤ W.heap.size)
      (fun pre W => ∃ c, Ix c pre W ∧ W.heap[w.heap.size + 1]? = some (.loop (rec .done (some c))) ∧ W.heap[w.heap.size]? = some (.deferred (some [])) ∧ w.heap.size ≤ W.heap.size)
      W1 k1 (by omega) (by omega)
      (fun s A A' h hk => ⟨hI _ _ _ h.1 (hk.mono (fun k x => x.elim)), (hk.block _ (Array.getElem?_eq_some_iff.1 h.2.1).1 (fun x => x)).trans h.2.1, (hk.block _ (Array.getElem?_eq_some_iff.1 h.2.2.1).1 (fun x => x)).trans h.2.2.1, Nat.le_trans h.2.2.2 hk.size⟩)
      ?_ ⟨hI1, hL1, hD1, by omega⟩).mono ?_
    · rintro pre x W ⟨hi, hl, hd, hz⟩ hpre
      have hlt : w.heap.size + 1 < W.heap.size := (Array.getElem?_eq_some_iff.1 hl).1
      have hy := run_yield (P := P) (args := encs x) hl (by rw [hrec]; exact hps x)
      rw [hrec] at hy
      refine ⟨fn, _, assign, body, hy, roundIn_of_wpIn trivial (hassign _ x W _ ⟨_, run_beginRound hl (by rw [hrec]), ?_⟩)⟩
      have hl2 : (W.putObj (w.heap.size + 1) (.loop { rec .ready none with state := .busy })).heap[w.heap.size + 1]? = some (.loop { rec .ready none with state := .busy }) := World.putObj_heap_same hlt
      have hd2 : (W.putObj (w.heap.size + 1) (.loop { rec .ready none with state := .busy })).heap[w.heap.size]? = some (.deferred (some [])) := (World.putObj_heap_other (by omega)).trans hd
      have p2 := Kept.putObj W (w.heap.size + 1) (.loop { rec .ready none with state := .busy })
      refine wpIn_mono (hbody _ pre x _ (hI _ _ _ hi (put W _)) hpre (by simp; omega)) ?_
      have fin : ∀ (jump : Option Code) (W3 : World), Kept (ChS S B (W.putObj (w.heap.size + 1) (.loop { rec .ready none with state := .busy }))) (W.putObj (w.heap.size + 1) (.loop { rec .ready none with state := .busy })) W3 →
          (Instr.endRound (w.heap.size + 1) jump).run P W3 = .ok (.bool jump.isNone) (W3.putObj (w.heap.size + 1) (.loop (rec (if jump.isNone then .ready else .done) jump))) ∧
          (W3.putObj (w.heap.size + 1) (.loop (rec (if jump.isNone then .ready else .done) jump))).heap[w.heap.size + 1]? = some (.loop (rec (if jump.isNone then .ready else .done) jump)) ∧
          (W3.putObj (w.heap.size + 1) (.loop (rec (if jump.isNone then .ready else .done) jump))).heap[w.heap.size]? = some (.deferred (some [])) ∧
          Kept (ChS (Plus S (w.heap.size + 1)) B W) W (W3.putObj (w.heap.size + 1) (.loop (rec (if jump.isNone then .ready else .done) jump))) ∧ w.heap.size ≤ W3.heap.size := fun jump W3 hk3 => by
        have hz2 : w.heap.size + 1 < (W.putObj (w.heap.size + 1) (.loop { rec .ready none with state := .busy })).heap.size := by simp; omega
        have hl3 := (hk3.block (w.heap.size + 1) hz2 (fun x => by
          rcases x with x | ⟨_, cs, hc⟩
          · have := hS _ x; omega
          · rw [hl2] at hc; cases hc)).trans hl2
        have hd3 := (hk3.block w.heap.size (by omega) (fun x => by
          rcases x with x | ⟨_, cs, hc⟩
          · have := hS _ x; omega
          · rw [hd2] at hc; cases hc)).trans hd2
        have := run_endRound (P := P) jump hl3
        rw [hrec] at this ⊢
        refine ⟨this, World.putObj_heap_same (Array.getElem?_eq_some_iff.1 hl3).1, (World.putObj_heap_other (by omega)).trans hd3, ?_, by have := hk3.size; omega⟩
        exact (((p2.mono (T := Plus S (w.heap.size + 1)) (fun k e => .inr e)).toS).chg (hk3.mono (fun k e => e.elim (fun y => .inl (.inl y)) .inr))).chg (((Kept.putObj W3 _ _).mono (T := Plus S (w.heap.size + 1)) (fun k e => .inr e)).toS)
      rintro e a3 W3 hp
      cases e with
      | normal =>
        obtain ⟨hk3, hi3⟩ := hp
        obtain ⟨hr, hl4, hd4, hk4, hz3⟩ := fin none W3 hk3
        exact ⟨_, _, hr, hk4, .inl ⟨rfl, hI _ _ _ hi3 (put W3 _), hl4, hd4, by simp; omega⟩⟩
      | ret =>
        obtain ⟨hk3, hi3⟩ := hp
        obtain ⟨hr, hl4, hd4, hk4, hz3⟩ := fin (some .ret) W3 hk3
        exact ⟨_, _, hr, hk4, .inr ⟨rfl, .ret, hIx _ _ _ _ hi3 (put W3 _), hl4, hd4, by simp; omega⟩⟩
      | exit id =>
        obtain ⟨hk3, hi3⟩ := hp
        obtain ⟨hr, hl4, hd4, hk4, hz3⟩ := fin (some (.exit id)) W3 hk3
        exact ⟨_, _, hr, hk4, .inr ⟨rfl, .exit id, hIx _ _ _ _ hi3 (put W3 _), hl4, hd4, by simp; omega⟩⟩
      | goto t =>
        obtain ⟨hk3, hi3⟩ := hp
        obtain ⟨hr, hl4, hd4, hk4, hz3⟩ := fin (some (.goto t)) W3 hk3
        exact ⟨_, _, hr, hk4, .inr ⟨rfl, .goto t, hIx _ _ _ _ hi3 (put W3 _), hl4, hd4, by simp; omega⟩⟩
      | panic ch => exact hp.elim
      | outgrown => exact hp.elim
    · rintro e W2 ⟨⟨v, rfl⟩, (⟨hi, hl, hd, hz⟩ | ⟨pre, hpre, c, hi, hl, hd, hz⟩)⟩
      · exact ⟨none, _, by have := run_endLoop (P := P) hl (by rw [hrec]; simp); rw [hrec] at this; exact this, hdone _ _ (Nat.le_refl _) (hI _ _ _ hi (put W2 _)) ((World.putObj_heap_other (by omega)).trans hd)⟩
      · refine ⟨some c, _, by have := run_endLoop (P := P) hl (by rw [hrec]; simp); rw [hrec] at this; exact this, ?_⟩
        exact wpIn_wide.2 (hstop _ c pre _ (Nat.le_refl _) hpre (hIx _ _ _ _ hi (put W2 _)) ((World.putObj_heap_other (by omega)).trans hd))
attribute [local go_sem] Oper.semAt_some
/-- A path that lies off some blocks. -/
def POff (S : Nat → Prop) (w : World) (v : Value) (l : List Seg) : Prop :=
  Pts w v l ∧ (∀ a n c, v = .slice (some a) n c → 0 < n → ¬ S a.block) ∧ ∀ b o n c, v = .slice (some ⟨b, o, none⟩) n c → ∀ i, i < l.length → ∀ a m d, w.cell? ⟨b, o + i * 2 + 1, none⟩ = some (.slice (some a) m d) → 0 < m → ¬ S a.block
theorem Rws.offS {w : World} {B : Nat} {S : Nat → Prop} (hS : ∀ k, S k → ∃ cs t, w.heap[k]? = some (.cells cs t (0, 0)) ∧ t ≠ 72 ∧ t ≠ 54) : ∀ {xs : List Value} {l : List Seg}, Rws w B xs l → ∀ u ∈ xs, ∀ g, u.ownBlock = some g → ¬ S g
  | [], [], _ => fun u hu => by cases hu
  | a :: v :: xs, _ :: _, ⟨h1, h2, _, h4⟩ => fun u hu g hg => by
    subst h1
    rcases List.mem_cons.1 hu with rfl | hu
    · simp [by8, Value.ownBlock] at hg
    · rcases List.mem_cons.1 hu with rfl | hu
      · intro x
        obtain ⟨cs, t, hh, _, h6⟩ := hS g x
        obtain ⟨cs', hh'⟩ := ow_lt h2 hg
        rw [hh'] at hh
        injection hh with hh
        injection hh with _ e
        exact h6 e.symm
      · exact Rws.offS hS h4 u hu g hg
  | [], _ :: _, h => h.elim
  | [_], _, h => by unfold Rws at h; exact h.elim
  | _ :: _ :: _, [], h => by unfold Rws at h; exact h.elim
theorem POff.of_own {w : World} {B : Nat} {S : Nat → Prop} {v : Value} {l : List Seg} {xs : List Value} (ho : w.ownsRow B 72 2 v l.length xs) (hr : Rws w B xs l)
    (hS : ∀ k, S k → ∃ cs t, w.heap[k]? = some (.cells cs t (0, 0)) ∧ t ≠ 72 ∧ t ≠ 54) : POff S w v l := by
  refine ⟨Pts.of_own ho hr.cells, fun a n c hv hn x => ?_, fun b o n c hv i hi a m d hc hm x => ?_⟩
  · rcases ho.2 with ⟨e, _⟩ | ⟨g, cap, cur, e, _, hh, _⟩
    · rw [hv] at e; injection e with e; cases e
    · rw [hv] at e
      injection e with e _ _
      injection e with e
      subst e
      obtain ⟨cs, t, h1, h2, _⟩ := hS g x
      rw [hh] at h1
      injection h1 with h1
      injection h1 with _ e
      exact h2 e.symm
  · obtain ⟨g, cap, cur, e, _, hh⟩ := own_lies ho (by omega)
    rw [hv] at e
    injection e with e _ _
    injection e with e
    injection e with e1 e2 _
    subst e1 e2
    obtain ⟨nv, _, e1, no, _⟩ := hr.at i hi
    have h1 := ho.cells (g := b) (by rw [hv]; rfl) (i * 2 + 1) nv e1
    rw [add_none, Nat.zero_add] at h1
    rw [Nat.zero_add, h1] at hc
    have hc' := Option.some.inj hc
    subst hc'
    have hlie : ∃ g, a = ⟨g, 0, none⟩ := by
      rcases no.2 with ⟨e, _⟩ | ⟨g, cap, cur, e, _⟩
      · injection e with e; cases e
      · injection e with e _ _
        injection e with e
        exact ⟨g, e⟩
    obtain ⟨g, rfl⟩ := hlie
    exact Rws.offS hS hr _ (List.mem_of_getElem? e1) g rfl x

set_option maxRecDepth 100000 in
set_option maxHeartbeats 4000000 in
theorem all_seqN (w0 : World) (v : Value) (l : List Seg) (S : Nat → Prop) (B : Nat) (w : World) (h : POff S w0 v l) (k0 : Kept Nothing w0 w) (hS2 : ∀ k, S k → k < w.heap.size) (hB0 : w0.heap.size ≤ B) (hl : l.length ≤ 1000000) (hn : ∀ s ∈ l, s.2.length ≤ 1000000) :
    SeqAllN Tryz.prog 28 #[v] encA (Pt.all l) S B w := by
  intro q J Jx W kW hq1 hq2 hJ hY h00
  obtain ⟨h, ho1, ho2⟩ := h
  obtain ⟨A, c, rfl, hc, hm⟩ := h.form
  have HV := Lib.hid h
  have HO1 := Lib.hid ho1
  have HO2 := Lib.hid ho2
  have HN := Lib.hid hn
  have HY := Lib.hid hY
  have HJ := Lib.hid hJ
  have KW : Hid (Kept S w0 W) := Lib.hid ((k0.trans kW).mono (fun _ x => x.elim))
  have HK : Hid (∀ {X Y : World}, Kept S w0 X → Kept (ChS (Plus S q) B X) X Y → Kept S w0 Y) := Lib.hid (fun hx hy => hx.trans_new hy (fun i hi x => by
    rcases x with (x | x) | ⟨x, _⟩
    · exact x
    · have := k0.size; omega
    · omega))
  have HP : Hid (∀ k, W.heap.size ≤ k → ¬ Plus S q k) := Lib.hid (fun k hk x => by
    rcases x with x | x
    · have := hS2 k x; have := kW.size; omega
    · omega)
  have H0 := Lib.hid h00
  clear h ho1 ho2 hn hY hJ k0 hS2 kW h00
  refine callsIn_of_wp Tryz.func28 rfl trivial ?_ rfl
  simp only [Tryz.ntmps28, List.size_toArray, List.length_cons, List.length_nil, Nat.reduceAdd, Nat.reduceSub, Array.replicate_succ, Array.replicate_zero, List.push_toArray, List.append_toArray, List.nil_append, List.cons_append]
  have hnil := fun u => run_eql_yield u q
  gi_wp2
  gi_loopw [12] (fun i wr => ∃ k : Nat, i = .int .i64 (k : Int) ∧ k ≤ l.length ∧ Hid (J (Pt.all (l.take k)) wr) ∧ Hid (Kept S w0 wr) ∧ W.heap.size ≤ wr.heap.size) (fun i _ => l.length - (intOf i).toNat)
  case atStart => exact ⟨0, rfl, Nat.zero_le _, H0, KW, Nat.le_refl _⟩
  case round =>
    clear H0 KW
    obtain ⟨k, rfl, hk, JK, KK, hz⟩ := hrel
    by_cases hlt : k < l.length
    · obtain ⟨b, o, Au, cu, rfl, p0, p1, hp⟩ := HV.out.at2 hlt
      have i1 : (0 : Int) ≤ (k : Int) := by omega
      have i2 : (k : Int) < (l.length : Int) := by omega
      have hnb : ¬ S b := HO1.out ⟨b, o, none⟩ l.length c rfl (by omega)
      have hnu : ∀ a, Au = some a → 0 < (l.getD k (0, [])).2.length → ¬ S a.block := fun a ha hpos => HO2.out b o l.length c rfl k hlt a _ cu (by rw [← ha]; exact p1) hpos
      have q0 := KK.out.cell_some p0 hnb
      have q1 := KK.out.cell_some p1 hnb
      have hmem : l.getD k (0, []) ∈ l := by rw [getD_get hlt]; exact List.getElem_mem _
      have hsn := HN.out _ hmem
      have ET : Hid (Pt.all (l.take (k + 1)) = Pt.all (l.take k) ++ (l.getD k (0, [])).2.map (fun n => ((l.getD k (0, [])).1, n))) := Lib.hid (by rw [getD_get hlt]; exact Pt.all_take_succ l k hlt)
      have EP : Hid (∀ m, m < (l.getD k (0, [])).2.length → (Pt.all (l.take k) ++ ((l.getD k (0, [])).2.take m).map (fun n => ((l.getD k (0, [])).1, n))) ++ [((l.getD k (0, [])).1, (l.getD k (0, [])).2.getD m 0)] <+: Pt.all l) := Lib.hid (fun m hm => by
        have := Pt.all_prefix l k m hlt (by rw [getD_get hlt] at hm; exact hm)
        rw [getD_get hlt, getD_get (by rw [getD_get hlt] at hm; exact hm)]
        exact this)
      generalize hsg : l.getD k (0, []) = sg at *
      obtain ⟨sk, sn⟩ := sg
      clear hsg hmem
      simp only at q0 q1 hp hsn hnu
      have HNU := Lib.hid hnu
      clear hnb hnu
      have HPN := Lib.hid hp
      have J1 := Lib.hid (HJ.out _ wr (wr.alloc (.cells #[.int .u8 (sk.toNat : Int), .slice Au sn.length cu] 72)) JK.out ((Kept.refl Nothing wr).alloc _))
      have K1 := Lib.hid (KK.out.alloc (.cells #[.int .u8 (sk.toNat : Int), .slice Au sn.length cu] 72))
      have B1 := Lib.hid (Blk.fresh wr 72 #[.int .u8 (sk.toNat : Int), .slice Au sn.length cu])
      have hz1 : W.heap.size ≤ (wr.alloc (.cells #[.int .u8 (sk.toNat : Int), .slice Au sn.length cu] 72)).heap.size := by rw [World.size_alloc]; omega
      clear hp p0 p1 JK KK
      gi_wp2
      generalize hbx : wr.heap.size = bx at *
      have hbz : W.heap.size ≤ bx := hz
      clear hbx
      gi_loopw [19] (fun i wq => ∃ m : Nat, i = .int .i64 (m : Int) ∧ m ≤ sn.length ∧ Hid (J (Pt.all (l.take k) ++ (sn.take m).map (fun n => (sk, n))) wq) ∧ Hid (Kept S w0 wq) ∧ W.heap.size ≤ wq.heap.size ∧ Hid (Blk wq bx 72 #[.int .u8 (sk.toNat : Int), .slice Au sn.length cu])) (fun i _ => sn.length - (intOf i).toNat)
      case atStart => exact ⟨0, rfl, Nat.zero_le _, by simpa using J1, K1, hz1, B1⟩
      case round =>
        clear J1 K1 B1 hz1
        obtain ⟨m, rfl, hm', JM, KM, hzm, BM⟩ := hrel
        by_cases hml : m < sn.length
        · obtain ⟨b2, o2, rfl, hc2⟩ := HPN.out.at (by omega)
          have cm := KM.out.cell_some (hc2 m hml) (show ¬ S b2 from HNU.out ⟨b2, o2, none⟩ rfl (by omega))
          have cb := BM.out.cell 0
          have j1 : (0 : Int) ≤ (m : Int) := by omega
          have j2 : (m : Int) < (sn.length : Int) := by omega
          have EX : Hid ((Pt.all (l.take k) ++ (sn.take m).map (fun n => (sk, n))) ++ [(sk, sn.getD m 0)] <+: Pt.all l) := Lib.hid (EP.out m hml)
          have EM : Hid (sn.take (m + 1) = sn.take m ++ [sn.getD m 0]) := Lib.hid (by rw [List.take_succ_eq_append_getElem hml, getD_get hml])
          generalize sn.getD m 0 = n at *
          obtain ⟨fn, tmps, assign, body, hy, hR⟩ := HY.out _ (sk, n) wr JM.out EX.out
          simp only [encA] at hy
          have HR := Lib.hid hR
          clear hc2 hR
          gi_wp2
          refine HR.out.mono ?_
          rintro e W3 ⟨hk3, (⟨rfl, hJ3⟩ | ⟨rfl, hJx3⟩)⟩
          · have hb3 := BM.out.kept hk3 (fun x => x.elim (HP.out bx hbz) (fun y => by
              obtain ⟨_, cs, hc⟩ := y
              have := BM.out
              unfold Blk at this
              rw [this] at hc
              injection hc with hc
              injection hc with _ e2
              exact absurd e2 (by decide)))
            have K3 := Lib.hid (HK.out KM.out hk3)
            have hz3 := Nat.le_trans hzm hk3.size
            have J3 : Hid (J (Pt.all (l.take k) ++ (sn.take (m + 1)).map (fun n => (sk, n))) W3) := Lib.hid (by rw [EM.out, List.map_append, ← List.append_assoc]; exact hJ3)
            have B3 := Lib.hid hb3
            clear hb3 hJ3 hk3
            gi_wp2
            go_roundw
            case rel => exact ⟨m + 1, by go_num, by omega, J3, K3, hz3, B3⟩
            case measure => simp [intOf]; omega
          · clear hk3
            gi_wp2
            refine bodyPost_ret (results_none rfl _ _ _) rfl ?_
            exact ⟨⟨_, rfl⟩, .inr ⟨_, EX.out, hJx3⟩⟩
        · obtain rfl : m = sn.length := by omega
          rw [List.take_of_length_le (Nat.le_refl _)] at JM
          have J4 : Hid (J (Pt.all (l.take (k + 1))) wr) := Lib.hid (by rw [ET.out]; exact JM.out)
          clear JM BM
          gi_wp2
          go_roundw
          case rel => exact ⟨k + 1, by go_num, by omega, J4, KM, hzm⟩
          case measure => simp [intOf]; omega
    · obtain rfl : k = l.length := by omega
      rw [List.take_of_length_le (Nat.le_refl _)] at JK
      gi_wp2
      go_end0
      exact ⟨⟨_, rfl⟩, .inl JK.out⟩
end Go.Proofs.YthjljamngpddmaaGreatDoor
namespace Go.Proofs.YthjljamngpddmaaGreatDoor
open Go.RowKit

namespace Fz
/-- Set or Sequence. -/
def pln (k : UInt8) : Bool := decide (k.toNat = 1) || decide (k.toNat = 2)
def confs (l : List Seg) : List Seg := l.filter fun s => !pln s.1
def nums (l : List Seg) : List Nat := (Pt.all l).map (·.2)
theorem takn_whole {s : Seg} {n : Nat} (h : ¬ (takn s n).2.length < s.2.length) : takn s n = s := by
  unfold takn at h ⊢
  split
  · rename_i h2
    rw [if_pos h2] at h
    simp only [List.length_take] at h
    rw [List.take_of_length_le (by omega)]
  · rfl
section
variable {β : Type} {φ : List Seg → List β}
theorem joined_hom (h0 : ∀ a b, φ (a ++ b) = φ a ++ φ b) (h2 : ∀ (k : UInt8) (x y : List Nat), k.toNat = 2 → φ [(k, x)] ++ φ [(k, y)] = φ [(k, x ++ y)]) (a m : List Seg) : φ (joined a m) = φ a ++ φ m := by
  rcases List.eq_nil_or_concat a with rfl | ⟨i, x, rfl⟩
  · have h := h0 [] []
    have hn : φ [] = [] := by simpa using h
    rw [joined_l, hn]
    rfl
  · rw [List.concat_eq_append]
    cases m with
    | nil =>
      have h := h0 [] []
      have hn : φ [] = [] := by simpa using h
      rw [joined_r, hn, List.append_nil]
    | cons f r =>
      have c : ∀ (s : Seg) (l : List Seg), φ (s :: l) = φ [s] ++ φ l := fun s l => h0 [s] l
      by_cases hk : x.1.toNat = 2 ∧ f.1.toNat = 2
      · have hkk : x.1 = f.1 := UInt8.toNat_inj.1 (by rw [hk.1, hk.2])
        have hj0 := joined_0 (i := i) (r := r) hk
        have hjn := joined_n (i := i) (r := r) hk
        obtain ⟨xk, xn⟩ := x
        obtain ⟨fk, fn⟩ := f
        simp only at hkk hk hj0 hjn
        subst hkk
        generalize left (xk, xn) (xk, fn) = lf at *
        have key : φ [(xk, xn)] ++ φ [(xk, fn)] = φ [(xk, xn.take lf)] ++ φ [(xk, xn.drop lf ++ fn)] := by
          have e1 : φ [(xk, xn.take lf)] ++ φ [(xk, xn.drop lf)] = φ [(xk, xn)] := by rw [h2 xk _ _ hk.2, List.take_append_drop]
          rw [← h2 xk (xn.drop lf) fn hk.2, ← List.append_assoc, e1]
        have hemp : φ [(xk, ([] : List Nat))] = [] := by
          have := h2 xk [] [] hk.1
          simpa using this
        rw [h0 i [(xk, xn)], c (xk, fn) r]
        by_cases hl : lf = 0
        · rw [hj0 hl, h0 i, c (xk, _) r]
          rw [hl, List.take_zero, hemp, List.nil_append] at key
          rw [hl, List.append_assoc, ← List.append_assoc (φ [(xk, xn)]), key]
        · rw [hjn hl, h0, h0 i, c (xk, _) r, List.append_assoc, List.append_assoc, ← List.append_assoc (φ [(xk, xn)]), key, List.append_assoc]
      · rw [joined_k hk, h0]
theorem lead_hom (h0 : ∀ a b, φ (a ++ b) = φ a ++ φ b) (h1 : ∀ (k : UInt8) (x : List Nat) (n : Nat), k.toNat = 2 → φ [(k, x.take n)] <+: φ [(k, x)]) (l : List Seg) : ∀ n, φ (lead l n) <+: φ l := by
  have hn : φ [] = [] := by simpa using h0 [] []
  induction l with
  | nil => exact fun n => by rw [lead_nil]; exact List.prefix_refl _
  | cons s l ih =>
    intro n
    have hs : φ (s :: l) = φ [s] ++ φ l := h0 [s] l
    rw [lead_cons]
    split
    · rw [hn]; exact List.nil_prefix
    · split
      · rw [hs]
        refine List.IsPrefix.trans ?_ (List.prefix_append _ _)
        unfold takn
        split
        · rename_i h2; exact h1 s.1 s.2 n h2
        · exact List.prefix_refl _
      · rename_i hw
        rw [takn_whole hw, hs, show s :: lead l (n - wt1 s) = [s] ++ lead l (n - wt1 s) from rfl, h0]
        exact (List.prefix_append_right_inj _).2 (ih _)
end
theorem wt_lead (l : List Seg) : ∀ n, n ≤ wt l → wt (lead l n) = n := by
  induction l with
  | nil => intro n h; rw [lead_nil]; unfold wt at h ⊢; simp at h ⊢; omega
  | cons s l ih =>
    intro n h
    rw [wt_cons] at h
    rw [lead_cons]
    split
    · rename_i h0; rw [h0.1]; rfl
    · rename_i hst
      split
      · rename_i hc
        have h2 : s.1.toNat = 2 := by
          by_cases h2 : s.1.toNat = 2
          · exact h2
          · exfalso
            have e : takn s n = s := if_neg h2
            rw [e] at hc
            omega
        have e : takn s n = (s.1, s.2.take n) := if_pos h2
        rw [e] at hc ⊢
        simp only [List.length_take] at hc
        rw [wt_cons]
        unfold wt1
        simp only [h2, if_true, List.length_take]
        unfold wt
        simp
        omega
      · rename_i hc
        have hw := takn_whole hc
        have hle := takn_le (s := s) (n := n) hst
        rw [hw] at hle ⊢
        rw [wt_cons, ih _ (by omega)]
        omega
theorem wt_joined (a m : List Seg) : wt (joined a m) = wt a + wt m := by
  have h := joined_hom (φ := fun l => List.replicate (wt l) ()) (fun a b => by simp only [wt_append]; rw [List.replicate_append_replicate]) (fun k x y hk => by
    have e : ∀ z : List Nat, wt [(k, z)] = z.length := fun z => by unfold wt wt1; simp [hk]
    simp only [e, List.length_append]; rw [List.replicate_append_replicate]) a m
  have := congrArg List.length h
  simpa using this
theorem confs_app (a b : List Seg) : confs (a ++ b) = confs a ++ confs b := List.filter_append ..
theorem confs_seq {k : UInt8} {x : List Nat} (h : k.toNat = 2) : confs [(k, x)] = [] := by unfold confs pln; simp [h]
theorem np_app (a b : List Seg) : nums (plains (a ++ b)) = nums (plains a) ++ nums (plains b) := by
  unfold nums plains
  rw [List.filter_append, Pt.all_append, List.map_append]
theorem np_seq {k : UInt8} {x : List Nat} (h : k.toNat = 2) : nums (plains [(k, x)]) = x := by
  have : Wk.confed k = false := seq_plain h
  unfold nums plains Pt.all
  simp [this]
  exact List.map_id x
/-- What the law asks of what is fused. -/
theorem fuse_facts {P Q : List Seg} (hq : ∀ s ∈ plains Q, pln s.1 = true) (h : wt Q ≤ wt P) :
    wt (fuse P Q) = wt P ∧ confs (fuse P Q) <+: confs P ∧ ∃ N, nums (plains (fuse P Q)) = N ++ nums (plains Q) ∧ N <+: nums (plains P) := by
  have e : fuse P Q = joined (lead P (wt P - wt Q)) (plains Q) := by unfold fuse; rw [if_neg (by omega)]
  rw [e]
  refine ⟨by rw [wt_joined, wt_lead _ _ (by omega), wt_plains]; omega, ?_, nums (plains (lead P (wt P - wt Q))), ?_, ?_⟩
  · rw [joined_hom confs_app (fun k x y hk => by rw [confs_seq hk, confs_seq hk, confs_seq hk]; rfl)]
    have : confs (plains Q) = [] := List.filter_eq_nil_iff.2 (fun s hs => by simp [hq s hs])
    rw [this, List.append_nil]
    exact lead_hom confs_app (fun k x n hk => by rw [confs_seq hk, confs_seq hk]; exact List.prefix_refl _) P _
  · rw [joined_hom (φ := fun l => nums (plains l)) np_app (fun k x y hk => by simp only [np_seq hk]), plains_plains]
  · exact lead_hom (φ := fun l => nums (plains l)) np_app (fun k x n hk => by simp only [np_seq hk]; exact List.take_prefix _ _) P _
theorem fuse_less {P Q : List Seg} (h : wt P < wt Q) : fuse P Q = P := by unfold fuse; rw [if_pos h]
end Fz
end Go.Proofs.YthjljamngpddmaaGreatDoor
