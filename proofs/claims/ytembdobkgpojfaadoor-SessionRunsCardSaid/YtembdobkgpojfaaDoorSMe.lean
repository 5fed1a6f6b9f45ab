
/-
  A drawn region 'return m, []Action{..}' of the machine: the answer is laid in its cell before or behind the making of the row.
-/
import Derived.Test.YtembdobkgpojfaaDoorSMc
import Derived.Test.YtembdobkgpojfaaDoorIw
import Derived.WalkLawsBesides
import Derived.Deep.DeepCutAuto
import Derived.Deep.CutBlock
import Derived.Deep.RegionHeldLaw
namespace Go.Proofs.YtembdobkgpojfaaDoor
open Go.RowKit

/-- Each operation comes up at last: where each waits for earlier ones alone (but for those that bind nothing here). -/
theorem ready_nil2 {l : List Oper} (hB : (l.zipIdx.all fun x => x.1.after.all fun e => !Region.binds .any e || decide (e.on < x.2)) = true) : ∀ listed : Array Bool, listed.size = l.length → Region.ready .any l.toArray listed = [] → ∀ j, j < l.length → listed.getD j false = true := by
  intro listed hsz hr j
  induction j using Nat.strongRecOn with
  | _ j ih =>
    intro hj
    cases hc : listed.getD j false with
    | true => rfl
    | false =>
      exfalso
      have hjl : j < listed.size := by omega
      have : j ∈ Region.ready .any l.toArray listed := mem_ready.2 ⟨by
          rw [Array.getD_eq_getD_getElem?] at hc ⊢
          rw [Array.getElem?_eq_getElem hjl] at hc ⊢
          exact hc, l[j], by simp [hj], fun e he hbe => by
            have h1 := List.all_eq_true.1 hB (l[j], j) (by rw [List.mem_zipIdx_iff_getElem?]; simp [hj])
            have h2 := (Array.all_eq_true_iff_forall_mem.1 h1) e he
            have h3 : e.on < j := by simpa [hbe] using h2
            exact ih e.on h3 (by omega)⟩
      rw [hr] at this
      cases this
theorem getD_falseM {listed : Array Bool} {i n : Nat} (hs : listed.size = n) (hi : i < n) (h : listed.getD i true = false) : listed.getD i false = false := by
  have hlt : i < listed.size := by omega
  rw [Array.getD_eq_getD_getElem?, Array.getElem?_eq_getElem hlt] at h ⊢
  exact h

/-- What an operation leaves in its slot: a value, or the row that was made. -/
def Mf (KL : List (Option Value)) (bi ai g n : Nat) (cells : Array Value) (k : Nat) (v : Value) (u : World) : Prop :=
  (∀ x, KL[k]? = some (some x) → v = x) ∧ (k = bi ∨ k = ai → ∃ b, b ≠ g ∧ v = .slice (some ⟨b, 0, none⟩) n n ∧ Blk u b 109 cells)
theorem mf_val {KL : List (Option Value)} {bi ai g n : Nat} {cells : Array Value} {k : Nat} {x : Value} {u : World} (h : KL[k]? = some (some x)) (h1 : k ≠ bi) (h2 : k ≠ ai) : Mf KL bi ai g n cells k x u :=
  ⟨fun y hy => (by rw [h] at hy; injection hy with hy; injection hy with hy), fun e => e.elim (fun e => absurd e h1) (fun e => absurd e h2)⟩
theorem mf_none {KL : List (Option Value)} {bi ai g n : Nat} {cells : Array Value} {k : Nat} {x : Value} {u : World} (h : KL[k]? = some none) (h1 : k ≠ bi) (h2 : k ≠ ai) : Mf KL bi ai g n cells k x u :=
  ⟨fun y hy => (by rw [h] at hy; injection hy with hy; cases hy), fun e => e.elim (fun e => absurd e h1) (fun e => absurd e h2)⟩
theorem mf_row {KL : List (Option Value)} {bi ai g n b : Nat} {cells : Array Value} {k : Nat} {u : World} (h : KL[k]? = some none) (hb : b ≠ g) (hB : Blk u b 109 cells) : Mf KL bi ai g n cells k (.slice (some ⟨b, 0, none⟩) n n) u :=
  ⟨fun y hy => (by rw [h] at hy; injection hy with hy; cases hy), fun _ => ⟨b, hb, rfl, hB⟩⟩
/-- What an operation owes. -/
def OweM (P : Program) (Q : Exit → Act → World → Prop) (l : List Oper) (a0 : Act) (W : World) (mB g : Nat) (mcs : Array Value) (φ : Nat → Value → World → Prop) (i : Nat) (o : Oper) : Prop :=
  ∀ (u : World) (a : Act), Kept Nothing W u → Blk u mB 24 mcs → (∃ cs, Blk u g 24 cs) → FedG φ l o u a → (∀ t, t ∉ dsts l → a.tmps.getD t undef = a0.tmps.getD t undef) →
    o.wp P a u (fun a' u' => ∃ v, a' = a.put o.dst v ∧ Kept Nothing u u' ∧ φ i v u') Q
theorem oweM_cons {P : Program} {Q : Exit → Act → World → Prop} {l : List Oper} {a0 : Act} {W : World} {mB g : Nat} {mcs : Array Value} {φ : Nat → Value → World → Prop} {s k : Nat} {x : Oper} {r : List Oper}
    (h : k ≠ s → OweM P Q l a0 W mB g mcs φ k x) (t : ∀ i o, r[i]? = some o → k + 1 + i ≠ s → OweM P Q l a0 W mB g mcs φ (k + 1 + i) o) : ∀ i o, (x :: r)[i]? = some o → k + i ≠ s → OweM P Q l a0 W mB g mcs φ (k + i) o := fun i o hi hne => by
  cases i with
  | zero => obtain rfl : x = o := by simpa using hi
            exact h hne
  | succ i => have := t i o (by simpa using hi) (by omega); rwa [show k + 1 + i = k + (i + 1) by omega] at this
theorem oweM_nil {P : Program} {Q : Exit → Act → World → Prop} {l : List Oper} {a0 : Act} {W : World} {mB g : Nat} {mcs : Array Value} {φ : Nat → Value → World → Prop} {s k : Nat} : ∀ i o, ([] : List Oper)[i]? = some o → k + i ≠ s → OweM P Q l a0 W mB g mcs φ (k + i) o := fun i o h => by simp at h

theorem wp_mach {P : Program} {Q : Exit → Act → World → Prop} {id : Nat} {l : List Oper} {a0 : Act} {w0 : World} (W : World) (mB g s : Nat) (os : Oper) (x y x0 y0 : Int) (mcs : Array Value) (KL : List (Option Value)) (bi ai n : Nat) (cells : Array Value)
    (hos : l[s]? = some os) (hne : mB ≠ g)
    (hm : P.follows .mixedOrders = true) (hn : (dsts l).Nodup) (hz : ∀ d ∈ dsts l, d < a0.tmps.size) (hg : (l.all fun o => o.guard.isNone) = true)
    (hd : ∀ listed : Array Bool, listed.size = l.length → Region.ready .any l.toArray listed = [] → ∀ j, j < l.length → listed.getD j false = true)
    (hWg : W.heap.size ≤ g) (hW : Kept Nothing W w0) (hM : Blk w0 mB 24 mcs) (hR : Blk w0 g 24 #[.int .i64 x0, .int .i64 y0])
    (hsf : ∀ v u, Mf KL bi ai g n cells s v u)
    (owes : ∀ i o, l[i]? = some o → 0 + i ≠ s → OweM P Q l a0 W mB g mcs (Mf KL bi ai g n cells) (0 + i) o)
    (store : ∀ (u : World) (a : Act), Blk u g 24 #[.int .i64 x0, .int .i64 y0] → FedG (Mf KL bi ai g n cells) l os u a → (∀ t, t ∉ dsts l → a.tmps.getD t undef = a0.tmps.getD t undef) →
      os.wp P a u (fun a' u' => ∃ v, a' = a.put os.dst v ∧ u' = (u.setCell ⟨g, 0, none⟩ (.int .i64 x)).setCell ⟨g, 1, none⟩ (.int .i64 y)) Q)
    (fin : ∀ (vals : Nat → Value) u, Kept Nothing W u → Blk u g 24 #[.int .i64 x, .int .i64 y] → (∀ (k : Nat) (o : Oper) (d : Nat), l[k]? = some o → o.dst = some d → Mf KL bi ai g n cells k (vals k) u) → Q .normal (putAll l 0 vals a0) u) :
    (Code.region id l.toArray true).wp P Q a0 w0 := by
  have hs : s < l.length := (List.getElem?_eq_some_iff.1 hos).1
  let B : Bool → World → Prop := fun G u => Kept Nothing W u ∧ Blk u mB 24 mcs ∧ Blk u g 24 (if G = true then #[.int .i64 x, .int .i64 y] else #[.int .i64 x0, .int .i64 y0])
  let J : Array Bool → Bool → Prop := fun listed G => listed.getD s false = G
  let R : Bool → World → Bool → World → Prop := fun _ u _ u' => (∃ cs, Blk u g 24 cs) ∧ Kept (Only g) u u'
  refine wp_region_facts B J (fun k _ v u => Mf KL bi ai g n cells k v u) R hm hn hz hg hd ?_ ?_ ?_ ?_
  · rintro k G u G' u' v ⟨-, r2⟩ ⟨h1, h2⟩
    refine ⟨h1, fun e => ?_⟩
    obtain ⟨b, hb, hv, hB⟩ := h2 e
    exact ⟨b, hb, hv, hB.kept r2 hb⟩
  · refine ⟨false, ?_, hW.drew, hM.drew, ?_⟩
    · show (Array.replicate l.length false).getD s false = false
      rw [Array.getD_eq_getD_getElem?, Array.getElem?_replicate]
      split <;> rfl
    · exact hR.drew
  · intro i o hi listed G u a hsz hun haf hJ hB hK hfar
    rw [Nat.zero_add] at hun ⊢
    have hfed : FedG (Mf KL bi ai g n cells) l o u a := fun k o' d h1 h2 ⟨e, he, hb, hk⟩ => hK k o' d h1 h2 (by rw [← hk]; exact haf e he hb)
    obtain ⟨b1, b2, b3⟩ := hB
    by_cases his : i = s
    · subst his
      obtain rfl : o = os := by rw [hi] at hos; injection hos
      have hG : G = false := by
        have h0 : listed.getD i false = G := hJ
        rw [← h0]; exact getD_falseM hsz hs hun
      subst hG
      refine Oper.wp_mono ?_ (store u a b3 hfed hfar)
      rintro a' u' ⟨v, ha, rfl⟩
      have k1 := (Kept.own u g 0 (.int .i64 x)).trans (Kept.own (u.setCell ⟨g, 0, none⟩ (.int .i64 x)) g 1 (.int .i64 y))
      refine ⟨v, true, ha, ⟨⟨_, b3⟩, k1⟩, ⟨b1.trans_new k1 (fun i hi (e : i = g) => by omega), b2.kept k1 hne, fin_blk b3⟩, ?_, hsf _ _⟩
      show (listed.setIfInBounds i true).getD i false = true
      have hlt : i < listed.size := by omega
      simp [hlt]
    · have := owes i o hi (by omega) u a b1 b2 ⟨_, b3⟩ hfed hfar
      refine Oper.wp_mono ?_ this
      rintro a' u' ⟨v, ha, hk, hf⟩
      rw [Nat.zero_add] at hf
      refine ⟨v, G, ha, ⟨⟨_, b3⟩, hk.mono (fun _ e => e.elim)⟩, ⟨b1.trans hk, b2.kept hk (fun e => e), b3.kept hk (fun e => e)⟩, ?_, hf⟩
      show (listed.setIfInBounds i true).getD s false = G
      rw [getD_set_ne false his]
      exact hJ
  · intro vals G u hB hJ hV
    obtain ⟨b1, -, b3⟩ := hB
    have hG : G = true := by
      have h0 : (Array.replicate l.length true).getD s false = G := hJ
      rw [← h0, Array.getD_eq_getD_getElem?, Array.getElem?_replicate, if_pos hs]
      rfl
    subst hG
    exact fin vals u b1 b3 hV
end Go.Proofs.YtembdobkgpojfaaDoor
