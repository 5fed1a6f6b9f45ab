
/-
  attrs: the law's Made: attributes that may be, of any (printed by wip/gen_xi.py).
-/
import Derived.Test.YteofbpdogmajoaaGreatDoorZxg
import Derived.Test.YteofbpdogmajoaaGreatDoorZxh
import Derived.Test.YteofbpdogmajoaaGreatDoorZkf
namespace Go.Proofs.YteofbpdogmajoaaGreatDoor
open Go.RowKit

namespace Ax
def md (n : Nat) : Nat := n % 65536
def mdS (s : Seg) : Seg := (s.1, s.2.map md)
def mkO (k : Nat) (o : Ot) : Ot := ⟨224, UInt8.ofNat (100 + 7 * k), o.v⟩
def mkP (four : Bool) (a : At) : List Seg := if four then madeF a.path else (madeF a.path).map mdS
def mkQ (a : At) : List Seg := if Wk.strip (madeF a.path4) = [] then [(2, [9])] else Wk.strip (madeF a.path4)
/-- The first k segments replaced, and the first j numbers of the next. -/
def hlf (k j : Nat) (l : List Seg) : List Seg := (Wk.mix mdS k l).set k ((l.getD k (0, [])).1, Wk.mix md j (l.getD k (0, [])).2)
theorem hlf_len (k j : Nat) (l : List Seg) : (hlf k j l).length = l.length := by unfold hlf; rw [List.length_set, Wk.mix_len]
theorem hlf_at {k j : Nat} {l : List Seg} (hk : k < l.length) : (hlf k j l).getD k (0, []) = ((l.getD k (0, [])).1, Wk.mix md j (l.getD k (0, [])).2) := by
  unfold hlf
  rw [List.getD_eq_getElem?_getD, List.getElem?_set_self (by rw [Wk.mix_len]; exact hk)]
  rfl
theorem hlf_zero {k : Nat} {l : List Seg} (hk : k < l.length) : hlf k 0 l = Wk.mix mdS k l := by
  unfold hlf
  rw [Wk.mix_zero]
  have h := Wk.mix_at (f := mdS) (0, ([] : List Nat)) hk
  have hk2 : k < (Wk.mix mdS k l).length := by rw [Wk.mix_len]; exact hk
  have e : l.getD k (0, []) = (Wk.mix mdS k l)[k] := by rw [← h, List.getD_eq_getElem?_getD, List.getElem?_eq_getElem hk2]; rfl
  show (Wk.mix mdS k l).set k (l.getD k (0, [])) = _
  rw [e, List.set_getElem_self]
theorem hlf_full {k : Nat} {l : List Seg} (hk : k < l.length) : hlf k (l.getD k (0, [])).2.length l = Wk.mix mdS (k + 1) l := by
  unfold hlf
  rw [Wk.mix_all, Wk.mix_succ (0, []) hk]
  rfl
theorem hlf_succ {k j : Nat} {l : List Seg} (hj : j < (l.getD k (0, [])).2.length) : hlf k (j + 1) l = (hlf k j l).set k ((l.getD k (0, [])).1, (Wk.mix md j (l.getD k (0, [])).2).set j (md ((l.getD k (0, [])).2.getD j 0))) := by
  unfold hlf
  rw [Wk.mix_succ 0 hj, List.set_set]
/-- Attributes as they may be, but for those that are not there. -/
def mk1 (a : At) (four : Bool) : At :=
  { has := a.has &&& 393726, origin := a.origin % 3, path := mkP four a, nh := a.nh &&& 16777215 ||| 167772160, med := a.med, pref := a.pref, byA := if four then a.byA else a.byA % 65536, byI := a.byI,
    comms := if a.comms = [] then [7] else a.comms, path4 := mkQ a, by4A := a.by4A, by4I := a.by4I, others := a.others.mapIdx mkO }
def dropU (a : At) (ts : List UInt8) : At := ts.foldl (fun a t => if a.has.testBit t.toNat then a else drop a t) a
def tys : List UInt8 := [1, 2, 3, 4, 5, 6, 7, 8, 17, 18]
def tyA : Array Value := #[.int .u8 1, .int .u8 2, .int .u8 3, .int .u8 4, .int .u8 5, .int .u8 6, .int .u8 7, .int .u8 8, .int .u8 17, .int .u8 18]
theorem tys_at : ∀ (k : Nat) (_ : k < 10), tyA[k]? = some (.int .u8 ((tys.getD k 0).toNat : Int))
  | 0, _ => rfl
  | 1, _ => rfl
  | 2, _ => rfl
  | 3, _ => rfl
  | 4, _ => rfl
  | 5, _ => rfl
  | 6, _ => rfl
  | 7, _ => rfl
  | 8, _ => rfl
  | 9, _ => rfl
  | k + 10, h => absurd h (by omega)
theorem dropU_next (a : At) (k : Nat) (hk : k < 10) : dropU a (tys.take (k + 1)) = if (dropU a (tys.take k)).has.testBit (tys.getD k 0).toNat then dropU a (tys.take k) else drop (dropU a (tys.take k)) (tys.getD k 0) := by
  have hl : k < tys.length := hk
  unfold dropU
  rw [List.take_succ_eq_append_getElem hl, List.foldl_append, List.getD_eq_getElem?_getD, List.getElem?_eq_getElem hl]
  rfl
theorem tys_known (k : Nat) (hk : k < 10) : known (tys.getD k 0) = true ∧ (tys.getD k 0).toNat < 32 := by
  have : ∀ z : Fin 10, known (tys.getD z.val 0) = true ∧ (tys.getD z.val 0).toNat < 32 := by decide
  exact this ⟨k, hk⟩
theorem drop_ok {a : At} (t : UInt8) (h : small a ∧ a.comms.length ≤ 70) : small (drop a t) ∧ (drop a t).comms.length ≤ 70 := by
  obtain ⟨⟨h1, h2, h3, h4⟩, h5⟩ := h
  refine ⟨⟨?_, ?_, ?_, ?_⟩, ?_⟩
  · show (if t.toNat = 2 then [] else a.path).length ≤ 1000
    split
    · simp
    · exact h1
  · show (if t.toNat = 17 then [] else a.path4).length ≤ 1000
    split
    · simp
    · exact h2
  · show ∀ s ∈ (if t.toNat = 2 then [] else a.path), s.2.length ≤ 1000
    split
    · intro s hs; cases hs
    · exact h3
  · show ∀ s ∈ (if t.toNat = 17 then [] else a.path4), s.2.length ≤ 1000
    split
    · intro s hs; cases hs
    · exact h4
  · show (if t.toNat = 8 then [] else a.comms).length ≤ 70
    split
    · simp
    · exact h5
theorem dropU_ok : ∀ (a : At) (ts : List UInt8), small a ∧ a.comms.length ≤ 70 → small (dropU a ts) ∧ (dropU a ts).comms.length ≤ 70 ∧ (dropU a ts).others = a.others
  | a, [], h => ⟨h.1, h.2, rfl⟩
  | a, t :: ts, h => by
    show small (dropU (if a.has.testBit t.toNat then a else drop a t) ts) ∧ (dropU (if a.has.testBit t.toNat then a else drop a t) ts).comms.length ≤ 70 ∧ (dropU (if a.has.testBit t.toNat then a else drop a t) ts).others = a.others
    split
    · exact dropU_ok a ts h
    · obtain ⟨h1, h2, h3⟩ := dropU_ok (drop a t) ts (drop_ok t h)
      exact ⟨h1, h2, h3⟩
theorem bit_test (x : Nat) (hx : x < 4294967296) (n : Nat) (hn : n < 32) : (bits .and .u32 ((x : Int) / 2 ^ min n 32) 1 == 0) = !x.testBit n := by
  have e : ((x : Int) / 2 ^ min n 32) = ((x / 2 ^ n : Nat) : Int) := by
    rw [Nat.min_eq_left (by omega), Int.natCast_ediv, Int.natCast_pow]
    rfl
  have hd : x / 2 ^ n < 4294967296 := Nat.lt_of_le_of_lt (Nat.div_le_self _ _) hx
  have h1 := bits_and_u32_nat (x / 2 ^ n) 1 hd (by decide)
  rw [e, show bits .and .u32 ((x / 2 ^ n : Nat) : Int) 1 = _ from h1, Nat.and_one_is_mod, Nat.testBit_eq_decide_div_mod_eq]
  have := Nat.mod_lt (x / 2 ^ n) (show 0 < 2 by omega)
  generalize x / 2 ^ n % 2 = r at *
  rcases (show r = 0 ∨ r = 1 by omega) with rfl | rfl <;> decide
def made10 (a : At) (four : Bool) : At := dropU (mk1 (few a) four) [1, 2, 3, 4, 5, 6, 7, 8, 17, 18]
end Ax
theorem madeF_num {l : List Seg} {s : Seg} (h : s ∈ madeF l) : s.2.length ≤ 60 := by
  unfold madeF at h
  obtain ⟨i, hi, rfl⟩ := List.mem_mapIdx.1 h
  unfold mkS
  simp only
  split
  · simp
  · rw [List.length_take]; omega
theorem strip_small (l : List Seg) : (Wk.strip (madeF l)).length ≤ 12 ∧ ∀ s ∈ Wk.strip (madeF l), s.2.length ≤ 60 := by
  unfold Wk.strip
  split
  · exact ⟨Nat.le_trans (plains_lenQ _) (madeF_len l), fun s hs => madeF_num (plains_memQ hs)⟩
  · exact ⟨by simp, fun s hs => by cases hs⟩
theorem PownD.weak {w : World} {B B' : Nat} {v : Value} {l : List Seg} (h : PownD w B v l) (hb : B' ≤ B) : PownD w B' v l := by
  obtain ⟨xs, h1, h2, h3⟩ := h
  exact ⟨xs, own_weakA h1 hb, h2.weakA hb, h3⟩
theorem Ors.push2 {u1 w9 : World} {B B2 : Nat} {q v8 : Value} {l : List Ot} {c : Ot} {n : Nat} {xs : List Value} (oq : u1.ownsRow B2 73 3 q n xs) (hr : Ors u1 B xs l) (o8 : u1.ownsRow B 5 1 v8 c.v.length (bys c.v)) (hg : u1.grownBy w9 q.ownBlock) : Ors w9 B (xs ++ [by8 c.f, by8 c.t, v8]) (l ++ [c]) := by
  have kg : Kept (fun k => q.ownBlock = some k) u1 w9 := (Kept.refl _ u1).grown hg (fun _ hk _ => hk)
  have hs : ∀ g cs, q.ownBlock = some g → u1.heap[g]? ≠ some (.cells cs 5 (0, 0)) := fun g cs x e => by
    obtain ⟨cs', hh⟩ := ow_lt oq x
    rw [hh] at e
    injection e with e
    injection e with _ e2
    exact absurd e2 (by decide)
  exact (hr.kept kg hs).snoc (ow_kept o8 kg (fun g hg' x => by obtain ⟨cs, hh⟩ := ow_lt o8 hg'; exact hs g cs x hh))

theorem mkO_val {l : List Ot} (hl : l.length ≤ 6) (hv : ∀ o ∈ l, o.v.length ≤ 300) : ∀ o ∈ l.mapIdx Ax.mkO, o.v.length ≤ 300 ∧ Ax.known o.t = false := by
  intro o ho
  obtain ⟨i, hi, rfl⟩ := List.mem_mapIdx.1 ho
  refine ⟨hv l[i] (List.getElem_mem hi), ?_⟩
  have h6 : ∀ i : Fin 6, Ax.known (UInt8.ofNat (100 + 7 * i.val)) = false := by decide
  exact h6 ⟨i, by omega⟩
/-- What stands while attributes are made to be as they may. -/
structure MkI (w : World) (a : At) (pv cv qv ov : Value) (u : World) : Prop where
  kept : Kept Nothing w u
  blk : Blk u w.heap.size 33 (Ax.agg a pv cv qv ov)
  zero : Blk u (w.heap.size + 1) 33 z13
  own : AtO u w.heap.size a pv cv qv ov
theorem MkI.old {w u u' : World} {a : At} {pv cv qv ov : Value} (h : MkI w a pv cv qv ov u) (k : Kept Nothing u u') : MkI w a pv cv qv ov u' :=
  ⟨h.kept.trans k, h.blk.kept k (fun x => x), h.zero.kept k (fun x => x), h.own.off5 k (Off5.nothing _)⟩
theorem MkI.grown {w u u' : World} {a : At} {pv cv qv ov q : Value} {n : Nat} {xs : List Value} (h : MkI w a pv cv qv ov u) (oq : u.ownsRow w.heap.size 73 3 q n xs) (hg : u.grownBy u' q.ownBlock) (hne : ∀ g, q.ownBlock = some g → ov.ownBlock ≠ some g) : MkI w a pv cv qv ov u' := by
  have kg : Kept (fun k => q.ownBlock = some k) u u' := (Kept.refl _ u).grown hg (fun _ hk _ => hk)
  have ne : ∀ g cs t, t ≠ 73 → q.ownBlock = some g → u.heap[g]? ≠ some (.cells cs t (0, 0)) := fun g cs t ht hg e => by
    obtain ⟨cs', hh⟩ := ow_lt oq hg
    rw [hh] at e
    injection e with e
    injection e with _ e2
    exact ht e2.symm
  have low : ∀ {e size n v xs}, u.ownsRow w.heap.size e size v n xs → e ≠ 73 → u'.ownsRow w.heap.size e size v n xs := fun hr he => ow_kept hr kg (fun g hg x => by obtain ⟨cs, hh⟩ := ow_lt hr hg; exact ne g cs _ he x hh)
  have far : ∀ {g cs}, Blk u g 33 cs → Blk u' g 33 cs := fun hb => hb.kept kg (fun x => ne _ _ _ (by decide) x hb)
  have pw : ∀ {v l}, Pown u w.heap.size v l → Pown u' w.heap.size v l := fun ⟨xs, h1, h2⟩ => ⟨xs, low h1 (by decide), h2.kept kg (fun g cs x e => ne g cs _ (by decide) x e)⟩
  refine ⟨h.kept.own_grown oq (Nat.le_refl _) hg, far h.blk, far h.zero, pw h.own.1, ⟨low h.own.2.1.1 (by decide), h.own.2.1.2⟩, pw h.own.2.2.1, ?_, h.own.2.2.2.2⟩
  obtain ⟨ys, y1, y2⟩ := h.own.2.2.2.1
  exact ⟨ys, ow_kept y1 kg (fun g hg' x => hne g x hg'), y2.kept kg (fun g cs x e => ne g cs _ (by decide) x e)⟩
/-- A field of the block stored. -/
theorem MkI.set {w u : World} {a a' : At} {pv cv qv ov pv' cv' qv' ov' : Value} (h : MkI w a pv cv qv ov u) (i : Nat) (x : Value) (hagg : Ax.agg a' pv' cv' qv' ov' = (Ax.agg a pv cv qv ov).setIfInBounds i x) (ho : AtO u w.heap.size a' pv' cv' qv' ov') :
    MkI w a' pv' cv' qv' ov' (u.setCell ⟨w.heap.size, i, none⟩ x) :=
  have k := Kept.own u w.heap.size i x
  ⟨h.kept.trans_new k (fun j hj (e : j = w.heap.size) => by omega), by rw [hagg]; exact h.blk.put i x, h.zero.kept k (fun (e : w.heap.size + 1 = w.heap.size) => by omega), ho.off5 k (Off5.blk h.blk (by decide))⟩
/-- The whole block stored. -/
theorem MkI.row {w u : World} {a a' : At} {pv cv qv ov pv' cv' qv' ov' : Value} (h : MkI w a pv cv qv ov u) (ho : AtO u w.heap.size a' pv' cv' qv' ov') : MkI w a' pv' cv' qv' ov' (u.setRow w.heap.size (Ax.agg a' pv' cv' qv' ov')) :=
  have k : Kept (Only w.heap.size) u (u.setRow w.heap.size (Ax.agg a' pv' cv' qv' ov')) := Kept.setRow _ _
  ⟨h.kept.trans_new k (fun j hj (e : j = w.heap.size) => by omega), setRow_heap u _ _ _ _ _ h.blk, h.zero.kept k (fun (e : w.heap.size + 1 = w.heap.size) => by omega), ho.off5 k (Off5.blk h.blk (by decide))⟩
/-- The same, while a path's numbers are changed: the path's rows are older than T, the other path's younger. -/
structure MkJ (w : World) (T : Nat) (a : At) (pv cv qv ov : Value) (xs : List Value) (m : List Seg) (u : World) : Prop where
  kept : Kept Nothing w u
  blk : Blk u w.heap.size 33 (Ax.agg a pv cv qv ov)
  zero : Blk u (w.heap.size + 1) 33 z13
  x : u.ownsRow w.heap.size 71 2 pv m.length xs
  r : Rws u w.heap.size xs m
  c : u.ownsRow w.heap.size 23 1 cv a.comms.length (ass a.comms)
  q : Pown u T qv a.path4
  o : Oown u w.heap.size ov a.others
theorem MkJ.old {w u u' : World} {T : Nat} {a : At} {pv cv qv ov : Value} {xs : List Value} {m : List Seg} (h : MkJ w T a pv cv qv ov xs m u) (k : Kept Nothing u u') : MkJ w T a pv cv qv ov xs m u' :=
  ⟨h.kept.trans k, h.blk.kept k (fun x => x), h.zero.kept k (fun x => x), ow_kept h.x k (fun _ _ x => x), h.r.old k, ow_kept h.c k (fun _ _ x => x), h.q.old k, h.o.off5 k (Off5.nothing _)⟩
theorem Rws.ge {w : World} {B : Nat} : ∀ {xs : List Value} {l : List Seg}, Rws w B xs l → ∀ u ∈ xs, ∀ g, u.ownBlock = some g → B ≤ g
  | [], [], _ => fun u hu => by cases hu
  | a :: v :: xs, _ :: _, ⟨h1, h2, h3, h4⟩ => fun u hu g hg => by
    subst h1
    rcases List.mem_cons.1 hu with rfl | hu
    · simp [by8, Value.ownBlock] at hg
    · rcases List.mem_cons.1 hu with rfl | hu
      · exact (ow_ge h2 hg).1
      · exact Rws.ge h4 u hu g hg
  | [], _ :: _, h => h.elim
  | [_], _, h => by unfold Rws at h; exact h.elim
  | _ :: _ :: _, [], h => by unfold Rws at h; exact h.elim
theorem MkJ.put {w u : World} {T g j : Nat} {a : At} {pv cv qv ov x : Value} {xs : List Value} {m m' : List Seg} {cur : Array Value} (h : MkJ w T a pv cv qv ov xs m u) (hg : w.heap.size ≤ g) (hT : g < T) (hb : Blk u g 27 cur) (hl : m'.length = m.length)
    (hr : Rws (u.setCell ⟨g, j, none⟩ x) w.heap.size xs m') : MkJ w T a pv cv qv ov xs m' (u.setCell ⟨g, j, none⟩ x) := by
  have kk := Kept.own u g j x
  have ne : ∀ i cs' t, t ≠ 27 → Only g i → u.heap[i]? ≠ some (.cells cs' t (0, 0)) := fun i cs' t ht (hi : i = g) e => by
    subst hi
    unfold Blk at hb
    rw [hb] at e
    injection e with e
    injection e with _ e2
    exact ht e2.symm
  have low : ∀ {B e size n v xs}, u.ownsRow B e size v n xs → e ≠ 27 → (u.setCell ⟨g, j, none⟩ x).ownsRow B e size v n xs := fun hr he => ow_kept hr kk (fun i hg hi => by obtain ⟨cs, hh⟩ := ow_lt hr hg; exact ne i cs _ he hi hh)
  have far : ∀ {i cs}, Blk u i 33 cs → Blk (u.setCell ⟨g, j, none⟩ x) i 33 cs := fun hb2 => hb2.kept kk (fun hi => ne _ _ _ (by decide) hi hb2)
  refine ⟨h.kept.trans_new kk (fun i hi (e : i = g) => by omega), far h.blk, far h.zero, by rw [hl]; exact low h.x (by decide), hr, low h.c (by decide), ?_, ?_⟩
  · obtain ⟨ys, y1, y2⟩ := h.q
    exact ⟨ys, low y1 (by decide), y2.apart kk (fun v hv i hi (e : i = g) => by have := y2.ge v hv i hi; omega)⟩
  · obtain ⟨ys, y1, y2⟩ := h.o
    exact ⟨ys, low y1 (by decide), y2.kept kk (fun i cs hi e => ne i cs _ (by decide) hi e)⟩
theorem MkJ.mkI {w u : World} {T : Nat} {a : At} {pv cv qv ov : Value} {xs : List Value} {m : List Seg} (h : MkJ w T a pv cv qv ov xs m u) (hc : ∀ n ∈ a.comms, n < 4294967296) (hf : Ax.fit a) (hT : w.heap.size ≤ T) : MkI w { a with path := m } pv cv qv ov u :=
  ⟨h.kept, h.blk, h.zero, ⟨xs, h.x, h.r⟩, ⟨h.c, hc⟩, h.q.weak hT, h.o, hf⟩
theorem own_oneU (w : World) (x : Value) : (w.alloc (.cells #[x] 23)).ownsRow w.heap.size 23 1 (.slice (some ⟨w.heap.size, 0, none⟩) 1 1) 1 [x] :=
  ⟨rfl, .inr ⟨w.heap.size, 1, #[x], rfl, Nat.le_refl _, heap_alloc_new w _, Nat.le_refl _, by simp [maxLen], rfl, rfl⟩⟩
theorem org_wrap (k : UInt8) : IntKind.u8.wrap ((k.toNat : Int).tmod 3) = ((k % 3 : UInt8).toNat : Int) := by
  have h := k.toNat_lt
  have e : (k % 3 : UInt8).toNat = k.toNat % 3 := by rw [UInt8.toNat_mod]; rfl
  rw [e, Int.tmod_eq_emod_of_nonneg (by omega)]
  simp [IntKind.wrap, IntKind.bits, IntKind.signed]
  omega
theorem md_wrap (n : Nat) : IntKind.u32.wrap ((n : Int).tmod 65536) = ((n % 65536 : Nat) : Int) := by
  rw [Int.tmod_eq_emod_of_nonneg (by omega)]
  simp [IntKind.wrap, IntKind.bits, IntKind.signed]
  omega
def ksMk (B : Nat) (p : List Seg) : Nat → Value → World → Prop
  | 2, v, w => ∃ A c, v = .slice A (madeF p).length c ∧ PownD w B v (madeF p)
  | _, _, _ => True
theorem ksMk_stab (B : Nat) (p : List Seg) (k : Nat) (v : Value) (w w' : World) (kk : Kept Nothing w w') (h : ksMk B p k v w) : ksMk B p k v w' := by
  unfold ksMk at h ⊢
  split at h
  all_goals first
    | (obtain ⟨A, c, h1, h2⟩ := h; exact ⟨A, c, h1, h2.old kk⟩)
    | trivial

set_option maxRecDepth 20000 in
set_option maxHeartbeats 4000000 in
theorem at_made (a : At) (pv cv qv ov : Value) (four : Bool) (w : World) (h : Atp w a pv cv qv ov) (ht : Wtd w) :
    Calls Tryz.prog 13 #[.agg (Ax.agg a pv cv qv ov), .bool four] w fun e w' => ∃ pv' cv' qv' ov', e = .returned (.agg (Ax.agg (Ax.made10 a four) pv' cv' qv' ov')) ∧ AtO w' w.heap.size (Ax.made10 a four) pv' cv' qv' ov' ∧ Kept Nothing w w' := by
  have HT := Lib.hid ht
  have HFW := Lib.hid (fun u (k : Kept Nothing w u) => at_few a pv cv qv ov u (h.old k))
  obtain ⟨b, hb⟩ : ∃ b, Ax.few a = b := ⟨_, rfl⟩
  have HB : Hid (Ax.made10 a four = Ax.dropU (Ax.mk1 b four) [1, 2, 3, 4, 5, 6, 7, 8, 17, 18]) := Lib.hid (by rw [← hb]; rfl)
  have HBO : Hid (b.others.length ≤ 6) := Lib.hid (by rw [← hb]; show (Ax.fewO a.others).length ≤ 6; unfold Ax.fewO; rw [List.length_map, List.length_take]; omega)
  have HBV : Hid (∀ o ∈ b.others, o.v.length ≤ 300) := Lib.hid (by
    rw [← hb]
    intro o ho
    obtain ⟨x, _, rfl⟩ := List.mem_map.1 (show o ∈ (a.others.take 6).map Ax.cutO from ho)
    show (x.v.take 300).length ≤ 300
    rw [List.length_take]; omega)
  have HBC : Hid (b.comms.length ≤ 70) := Lib.hid (by rw [← hb]; show (a.comms.take 70).length ≤ 70; rw [List.length_take]; omega)
  rw [hb] at HFW
  rw [HB.out]
  obtain ⟨Bp, mp, rfl, -, -⟩ := (show ∃ A c, pv = .slice A a.path.length c ∧ _ ∧ _ from h.1.form)
  obtain ⟨Bc, mc, rfl, -, -⟩ := h.2.1.form
  obtain ⟨Bq, mq, rfl, -, -⟩ := (show ∃ A c, qv = .slice A a.path4.length c ∧ _ ∧ _ from h.2.2.1.form)
  obtain ⟨Bo, mo, rfl, -, -⟩ := h.2.2.2.1.form
  clear h ht hb HB
  go_enter Tryz.func13, Tryz.ntmps13
  go_upto_region 1 with fail
  obtain ⟨W0, hW0⟩ : ∃ W0, (w.alloc (.cells (Ax.agg a (.slice Bp a.path.length mp) (.slice Bc a.comms.length mc) (.slice Bq a.path4.length mq) (.slice Bo a.others.length mo)) 33)).alloc (.cells z13 33) = W0 := ⟨_, rfl⟩
  have K0 : Hid (Kept Nothing w W0) := Lib.hid (by rw [← hW0]; exact ((Kept.refl Nothing _).alloc _).alloc _)
  have B0 : Hid (Blk W0 w.heap.size 33 (Ax.agg a (.slice Bp a.path.length mp) (.slice Bc a.comms.length mc) (.slice Bq a.path4.length mq) (.slice Bo a.others.length mo))) := Lib.hid (by rw [← hW0]; exact (Blk.fresh w _ _).alloc _)
  have Z0 : Hid (Blk W0 (w.heap.size + 1) 33 z13) := Lib.hid (by
    have h := Blk.fresh (w.alloc (.cells (Ax.agg a (.slice Bp a.path.length mp) (.slice Bc a.comms.length mc) (.slice Bq a.path4.length mq) (.slice Bo a.others.length mo)) 33)) 33 z13
    rw [World.size_alloc] at h
    rw [← hW0]
    exact h)
  rw [show (#[.int .u32 0, .int .u8 0, .slice none 0 0, .int .u32 0, .int .u32 0, .int .u32 0, .int .u32 0, .int .u32 0, .slice none 0 0, .slice none 0 0, .int .u32 0, .int .u32 0, .slice none 0 0] : Array Value) = z13 from rfl, hW0]
  clear hW0
  go_upto_region 2 with (first
    | (refine wpList_store_row rfl 33 _ _ rfl w.heap.size (Ax.agg b pv1 cv1 qv1 ov1) rfl rfl 33 _ B1.out (by kernel_rfl) rfl AONE.out ?_)
    | (go_at_call 40; refine (HFW.out _ K0.out).mono ?_; rintro e w1 ⟨pv1, cv1, qv1, ov1, rfl, n1, k1⟩; (have N1 := Lib.hid (n1.weak K0.out.size)); (have B1 := Lib.hid (B0.out.kept k1 (fun x => x))); (have Z1 := Lib.hid (Z0.out.kept k1 (fun x => x))); (have K1 := Lib.hid (K0.out.trans k1)); (have AONE := Lib.hid (AtO.one N1.out)); clear n1 k1)
    | (refine wpList_load_row rfl 33 _ rfl w.heap.size rfl 33 _ (0, 0) _ B0.out Tryz.underlying33 rfl (by kernel_rfl) ?_))
  simp only [Act.put]
  have k3 : Kept (Only w.heap.size) w1 (w1.setRow w.heap.size (Ax.agg b pv1 cv1 qv1 ov1)) := Kept.setRow _ _
  have HI : Hid (MkI w b pv1 cv1 qv1 ov1 (w1.setRow w.heap.size (Ax.agg b pv1 cv1 qv1 ov1))) := Lib.hid ⟨K1.out.trans_new k3 (fun i hi (e : i = w.heap.size) => by omega), setRow_heap w1 _ _ _ _ _ B1.out, Z1.out.kept k3 (fun (e : w.heap.size + 1 = w.heap.size) => by omega), N1.out.off5 k3 (Off5.blk B1.out (by decide))⟩
  generalize w1.setRow w.heap.size (Ax.agg b pv1 cv1 qv1 ov1) = W1 at *
  clear k3 AONE N1 B1 Z1 K1 B0 Z0 K0 HFW
  obtain ⟨⟨Ap, np, rfl⟩, ⟨Ac, nc, rfl⟩, ⟨Aq, nq, rfl⟩, Ao, no, rfl⟩ := HI.out.own.forms
  have K1 := Lib.hid HI.out.kept
  have HMP := Lib.hid (fun u (k : Kept Nothing W1 u) => made_anyD (.slice Ap b.path.length np) b.path u (HI.out.own.1.pts.old k))
  have HMQ := Lib.hid (fun u (k : Kept Nothing W1 u) => made_anyD (.slice Aq b.path4.length nq) b.path4 u (HI.out.own.2.2.1.pts.old k))
  have HST := Lib.hid walk_strip
  have C2 : Hid (W1.cell? ⟨w.heap.size, 2, none⟩ = some (.slice Ap b.path.length np)) := Lib.hid (HI.out.blk.cell 2)
  have C9 : Hid (W1.cell? ⟨w.heap.size, 9, none⟩ = some (.slice Aq b.path4.length nq)) := Lib.hid (HI.out.blk.cell 9)
  refine wp_region_tailA W1 (Facts [some (.pointer (some ⟨w.heap.size, 2, none⟩)), some (.slice Ap b.path.length np), none, some (.pointer (some ⟨w.heap.size, 9, none⟩)), some (.slice Aq b.path4.length nq)] (ksMk w.heap.size b.path)) 5 (by decide) (by kernel_rfl) (by kernel_rfl) (by decide +kernel) (by intro d hd; simp [dsts] at hd ⊢; omega) (ready_nil (by kernel_rfl)) (fun _ => true) (by kernel_rfl) ?_ (Facts.stab (ksMk_stab w.heap.size b.path)) ((Kept.refl Nothing W1).drew) ?_ ?_
  · intro x hx; simp at hx
  · refine OweTo.cons ?_ (by rfl) ?_
    · intro u aa hk hf hfar
      have v2 : aa.tmps.getD 2 undef = .pointer (some ⟨w.heap.size, 0, none⟩) := hfar 2 (by decide)
      have w2 := v2
      rw [Array.getD_eq_getD_getElem?] at w2
      clear hf hfar
      go_simp
      exact ⟨_, rfl, Kept.refl _ _, rfl⟩
    refine OweTo.cons ?_ (by rfl) ?_
    · intro u aa hk hf hfar
      have v15 : aa.tmps.getD 15 undef = .pointer (some ⟨w.heap.size, 2, none⟩) := hf 0 _ 15 rfl rfl ⟨⟨0, .data⟩, Array.mem_of_getElem? (i := 0) rfl, rfl, rfl⟩
      have w15 := v15
      rw [Array.getD_eq_getD_getElem?] at w15
      have c2 := hk.cell_some C2.out (fun x => x)
      clear hf hfar
      go_simp
      exact ⟨_, rfl, Kept.refl _ _, rfl⟩
    refine OweTo.cons ?_ (by rfl) ?_
    · intro u aa hk hf hfar
      have v16 : aa.tmps.getD 16 undef = .slice Ap b.path.length np := hf 1 _ 16 rfl rfl ⟨⟨1, .data⟩, Array.mem_of_getElem? (i := 0) rfl, rfl, rfl⟩
      have w16 := v16
      rw [Array.getD_eq_getD_getElem?] at w16
      clear hf hfar
      go_simp
      refine (HMP.out _ hk).mono ?_
      rintro e u' ⟨v', rfl, p', hk'⟩
      obtain ⟨A', n', rfl, -, -⟩ := (show ∃ A c, v' = .slice A _ c ∧ _ ∧ _ from p'.pown.pts.form)
      exact ⟨_, rfl, hk', ⟨A', n', rfl, PownD.weak p' (K1.out.trans hk).size⟩⟩
    refine OweTo.cons ?_ (by rfl) ?_
    · intro u aa hk hf hfar
      have v2 : aa.tmps.getD 2 undef = .pointer (some ⟨w.heap.size, 0, none⟩) := hfar 2 (by decide)
      have w2 := v2
      rw [Array.getD_eq_getD_getElem?] at w2
      clear hf hfar
      go_simp
      exact ⟨_, rfl, Kept.refl _ _, rfl⟩
    refine OweTo.cons ?_ (by rfl) ?_
    · intro u aa hk hf hfar
      have v18 : aa.tmps.getD 18 undef = .pointer (some ⟨w.heap.size, 9, none⟩) := hf 3 _ 18 rfl rfl ⟨⟨3, .data⟩, Array.mem_of_getElem? (i := 0) rfl, rfl, rfl⟩
      have w18 := v18
      rw [Array.getD_eq_getD_getElem?] at w18
      have c9 := hk.cell_some C9.out (fun x => x)
      clear hf hfar
      go_simp
      exact ⟨_, rfl, Kept.refl _ _, rfl⟩
    exact OweTo.last (by decide)
  · intro AA u hk hsz hdef hfar hfacts
    have x15 : AA.tmps.getD 15 undef = .pointer (some ⟨w.heap.size, 2, none⟩) := hfacts 0 _ 15 (by decide) rfl rfl
    have x16 : AA.tmps.getD 16 undef = .slice Ap b.path.length np := hfacts 1 _ 16 (by decide) rfl rfl
    obtain ⟨A17, n17, x17, P17⟩ : ∃ A c, (AA.tmps.getD 17 undef) = .slice A (madeF b.path).length c ∧ PownD u w.heap.size (AA.tmps.getD 17 undef) (madeF b.path) := hfacts 2 _ 17 (by decide) rfl rfl
    have x18 : AA.tmps.getD 18 undef = .pointer (some ⟨w.heap.size, 9, none⟩) := hfacts 3 _ 18 (by decide) rfl rfl
    have x19 : AA.tmps.getD 19 undef = .slice Aq b.path4.length nq := hfacts 4 _ 19 (by decide) rfl rfl
    have hA := arr_put AA.tmps [15, 16, 17, 18, 19, 20, 21, 22, 23] _ hsz (fun t ht => hfar t ht)
    obtain ⟨At, Ad⟩ := AA
    simp only at hdef x15 x16 x17 x18 x19 hA
    subst hdef
    simp only [List.foldl_cons, List.foldl_nil, x15, x16, x17, x18, x19] at hA
    clear hfar hfacts hsz x15 x16 x17 x18 x19
    generalize At.getD 20 undef = y20 at hA
    generalize At.getD 21 undef = y21 at hA
    generalize At.getD 22 undef = y22 at hA
    generalize At.getD 23 undef = y23 at hA
    simp only [List.setIfInBounds_toArray, List.set_cons_succ, List.set_cons_zero] at hA
    subst hA
    refine wpAny_take (i := 7) (v := .pointer (some ⟨w.heap.size, 2, none⟩)) (fuel := 5) rfl (by kernel_rfl) (by kernel_rfl) (by kernel_rfl) (fun _ _ _ h => h) (Or.inl ⟨by rfl, fun _ => by rfl⟩) ?_
    refine wpAny_skip 5 2 [5, 6, 8, 9, 10] _ _ _ (by rfl) (by kernel_rfl) ?_
    simp only [List.drop_succ_cons, List.drop_zero, List.eraseIdx_cons_succ, List.eraseIdx_cons_zero, Act.put]
    have HU := Lib.hid (HI.out.old hk)
    have HK := Lib.hid hk
    have P17h : Hid (PownD u w.heap.size (.slice A17 (madeF b.path).length n17) (madeF b.path)) := Lib.hid P17
    clear P17 hk HMP C2 C9 K1
    go_upto_region 3 with (first
      | (go_at_call 42; refine (HST.out _ (madeF b.path4) x1 P20.out.pown.pts (by have := madeF_len b.path4; omega) (fun s hs => by have := madeF_num hs; omega)).mono ?_; rintro e x2 ⟨v21, rfl, p21, k21⟩; (obtain ⟨A21, n21, rfl, -, -⟩ := (show ∃ A c, v21 = .slice A (Wk.strip (madeF b.path4)).length c ∧ _ ∧ _ from p21.pts.form)); (have P21 : Hid (Pown x2 u.heap.size (.slice A21 (Wk.strip (madeF b.path4)).length n21) (Wk.strip (madeF b.path4))) := Lib.hid (p21.weak K20.out.size)); (have H21 := Lib.hid (H20.out.old k21)); (have K21 := Lib.hid (K20.out.trans k21)); (have g2 := H21.out.blk.free 2); (have g9 := H21.out.blk.free 9); (have h2 : x2.cell? ⟨w.heap.size, 2, none⟩ = some (.slice Ap b.path.length np) := H21.out.blk.cell 2); (have h9 : x2.cell? ⟨w.heap.size, 9, none⟩ = some (.slice Aq b.path4.length nq) := H21.out.blk.cell 9); clear p21 k21)
      | (go_at_call 41; refine (HMQ.out _ HK.out).mono ?_; rintro e x1 ⟨v20, rfl, p20, k20⟩; (obtain ⟨A20, n20, rfl, -, -⟩ := (show ∃ A c, v20 = .slice A (madeF b.path4).length c ∧ _ ∧ _ from p20.pown.pts.form)); (have P20 := Lib.hid p20); (have H20 := Lib.hid (HU.out.old k20)); (have K20 := Lib.hid k20); clear p20 k20))
    have hsz := K21.out.size
    obtain ⟨W2, hW2⟩ : ∃ W2, (x2.setCell ⟨w.heap.size, 2, none⟩ (.slice A17 (madeF b.path).length n17)).setCell ⟨w.heap.size, 9, none⟩ (.slice A21 (Wk.strip (madeF b.path4)).length n21) = W2 := ⟨_, rfl⟩
    have kU : Kept (Only w.heap.size) x2 W2 := by rw [← hW2]; exact (Kept.own x2 w.heap.size 2 _).trans (Kept.own _ w.heap.size 9 _)
    have hoff : Off5 x2 (Only w.heap.size) := Off5.blk H21.out.blk (by decide)
    have HPD : Hid (PownD W2 w.heap.size (.slice A17 (madeF b.path).length n17) (madeF b.path)) := Lib.hid (by
      obtain ⟨xs, y1, y2, y3⟩ := P17h.out.old K21.out
      exact ⟨xs, ow_off y1 kU hoff (by decide), y2.kept kU (fun g cs x e => (hoff g x cs _ _ e).2.1 rfl), y3⟩)
    have HP21 : Hid (Pown W2 u.heap.size (.slice A21 (Wk.strip (madeF b.path4)).length n21) (Wk.strip (madeF b.path4))) := Lib.hid (P21.out.off5 kU hoff)
    have HLT : Hid (∃ xs, W2.ownsRow w.heap.size 71 2 (.slice A17 (madeF b.path).length n17) (madeF b.path).length xs ∧ Rws W2 w.heap.size xs (madeF b.path) ∧ Dist xs ∧ ∀ y ∈ xs, ∀ g, y.ownBlock = some g → g < u.heap.size) := Lib.hid (by
      obtain ⟨xs, y1, y2, y3⟩ := P17h.out
      exact ⟨xs, ow_off (ow_kept y1 K21.out (fun _ _ x => x)) kU hoff (by decide), (y2.old K21.out).kept kU (fun g cs x e => (hoff g x cs _ _ e).2.1 rfl), y3, y2.lt⟩)
    have H2 : Hid (MkI w { b with path := madeF b.path, path4 := Wk.strip (madeF b.path4) } (.slice A17 (madeF b.path).length n17) (.slice Ac b.comms.length nc) (.slice A21 (Wk.strip (madeF b.path4)).length n21) (.slice Ao b.others.length no) W2) := Lib.hid
      ⟨H21.out.kept.trans_new kU (fun i hi (e : i = w.heap.size) => by omega), by rw [← hW2]; exact (H21.out.blk.put 2 _).put 9 _, H21.out.zero.kept kU (fun (e : w.heap.size + 1 = w.heap.size) => by omega),
       HPD.out.pown, ⟨ow_off H21.out.own.2.1.1 kU hoff (by decide), H21.out.own.2.1.2⟩, HP21.out.weak HU.out.kept.size, H21.out.own.2.2.2.1.off5 kU hoff, H21.out.own.2.2.2.2⟩
    rw [hW2]
    have HSU := Lib.hid HU.out.kept.size
    clear hW2 kU hoff HU P17h P21 g2 g9 h2 h9 hsz HMQ HST HK P20 H20 K20 H21 K21 HI HPD
    obtain ⟨Q, hQ⟩ : ∃ Q, Wk.strip (madeF b.path4) = Q := ⟨_, rfl⟩
    have HQ := Lib.hid hQ
    rw [hQ] at H2 HP21 ⊢
    clear hQ
    go_upto_if 25 with fail
    go_cut [] (fun wx => Hid (MkI w { b with path := Ax.mkP four b, path4 := Q, byA := if four then b.byA else b.byA % 65536 } (.slice A17 (madeF b.path).length n17) (.slice Ac b.comms.length nc) (.slice A21 Q.length n21) (.slice Ao b.others.length no) wx))
    case first =>
      cases four with
      | true =>
        go_wp2
        go_meet
        exact H2
      | false =>
        obtain ⟨xs, y1, y2, yd, ylt⟩ := HLT.out
        have HP : Hid (Ax.mkP false b = (madeF b.path).map Ax.mdS) := Lib.hid rfl
        have J0 : Hid (MkJ w u.heap.size { b with path4 := Q } (.slice A17 (madeF b.path).length n17) (.slice Ac b.comms.length nc) (.slice A21 Q.length n21) (.slice Ao b.others.length no) xs (Wk.mix Ax.mdS 0 (madeF b.path)) W2) := Lib.hid ⟨H2.out.kept, H2.out.blk, H2.out.zero, by rw [Wk.mix_zero]; exact y1, by rw [Wk.mix_zero]; exact y2, H2.out.own.2.1.1, HP21.out, H2.out.own.2.2.2.1⟩
        have HYD := Lib.hid yd
        have HYL := Lib.hid ylt
        have HCM := Lib.hid H2.out.own.2.1.2
        have HFI := Lib.hid H2.out.own.2.2.2.2
        have c2 : W2.cell? ⟨w.heap.size, 2, none⟩ = some (.slice A17 (madeF b.path).length n17) := H2.out.blk.cell 2
        have hML := madeF_len b.path
        have HTW : Hid (w.heap.size ≤ u.heap.size) := Lib.hid HSU.out
        have HNUM := Lib.hid (fun s (hs : s ∈ madeF b.path) => madeF_num hs)
        clear y1 y2 yd ylt HLT H2 HP21
        generalize madeF b.path = l at *
        generalize u.heap.size = T at *
        have hsl2 : l.length ≤ 9223372036854775807 := by omega
        go_wp2
        clear c2
        go_loopw [29] (fun i wx => ∃ k : Nat, i = .int .i64 (k : Int) ∧ k ≤ l.length ∧ Hid (MkJ w T { b with path4 := Q } (.slice A17 l.length n17) (.slice Ac b.comms.length nc) (.slice A21 Q.length n21) (.slice Ao b.others.length no) xs (Wk.mix Ax.mdS k l) wx)) (fun i _ => l.length - (intOf i).toNat)
        case atStart => exact ⟨0, rfl, Nat.zero_le _, J0⟩
        case round =>
          clear J0
          obtain ⟨k, rfl, hk, HX⟩ := hrel
          by_cases hlt : k < l.length
          · have hsl := HNUM.out (l.getD k (0, [])) (by rw [getD_get hlt]; exact List.getElem_mem _)
            have hx := HX.out
            rw [← Ax.hlf_zero hlt] at hx
            have hx1 := hx.x
            rw [Ax.hlf_len] at hx1
            obtain ⟨gt, cpt, _, hvt, _, _⟩ := own_lies hx1 (by omega)
            injection hvt with hvt _ hcc
            subst hvt
            subst hcc
            obtain ⟨nv, e0, e1, no1, nf⟩ := hx.r.at k (by rw [Ax.hlf_len]; exact hlt)
            rw [Ax.hlf_at hlt, Wk.mix_zero] at no1 nf
            have e0' : xs[k * 2]? = some (by8 (l.getD k (0, [])).1) := by rw [e0, Ax.hlf_at hlt]
            have p0 := hx1.cells (g := gt) rfl _ _ e0'
            have p1 := hx1.cells (g := gt) rfl _ _ e1
            rw [add_none, Nat.zero_add] at p0 p1
            have E1 := Lib.hid e1
            have hls : gt < wr.heap.size := World.block_lt_of_cell? _ _ p0
            have ES := Lib.hid (fun j (hj : j < (l.getD k (0, [])).2.length) => Ax.hlf_succ (k := k) hj)
            have EF := Lib.hid (Ax.hlf_full hlt)
            have EA := Lib.hid (fun j => Ax.hlf_at (j := j) hlt)
            generalize l.getD k (0, []) = sg at *
            obtain ⟨sk, sn⟩ := sg
            simp only at no1 nf hsl ES EF EA
            obtain ⟨Au, cu, rfl, _, _⟩ := ow_form no1
            replace p0 : wr.cell? ⟨gt, k * 2, none⟩ = some (.int .u8 (sk.toNat : Int)) := p0
            have i1 : (0 : Int) ≤ (k : Int) := by omega
            have i2 : (k : Int) < (l.length : Int) := by omega
            have ka := (Kept.refl Nothing wr).alloc (.cells #[.int .u8 (sk.toNat : Int), .slice Au sn.length cu] 71)
            have HY := Lib.hid (hx.old ka)
            have YS := Blk.fresh wr 71 #[.int .u8 (sk.toNat : Int), .slice Au sn.length cu]
            clear hx hx1 HX e0 e1 e0' no1 nf ka
            have hsl3 : sn.length ≤ 60 := hsl
            go_upto_region 8 with fail
            generalize wr.alloc (.cells #[.int .u8 (sk.toNat : Int), .slice Au sn.length cu] 71) = wA at *
            generalize wr.heap.size = bs at *
            clear p0 p1
            have hsl4 : sn.length ≤ 9223372036854775807 := by omega
            go_loopw [36] (fun i wq => ∃ j : Nat, i = .int .i64 (j : Int) ∧ j ≤ sn.length ∧ Hid (MkJ w T { b with path4 := Q } (.slice (some ⟨gt, 0, none⟩) l.length n17) (.slice Ac b.comms.length nc) (.slice A21 Q.length n21) (.slice Ao b.others.length no) xs (Ax.hlf k j l) wq ∧ Blk wq bs 71 #[.int .u8 (sk.toNat : Int), .slice Au sn.length cu])) (fun i _ => sn.length - (intOf i).toNat)
            case atStart => exact ⟨0, rfl, Nat.zero_le _, Lib.hid ⟨HY.out, YS⟩⟩
            case round =>
              clear HY YS
              obtain ⟨j, rfl, hj, HJ⟩ := hrel
              by_cases hlj : j < sn.length
              · obtain ⟨y, y4⟩ := HJ.out
                obtain ⟨nv2, _, f1, no2, nf2⟩ := y.r.at k (by rw [Ax.hlf_len]; exact hlt)
                have f1' := f1
                rw [E1.out] at f1'
                injection f1' with f1'
                subst f1'
                rw [EA.out j] at no2
                have hml : (Wk.mix Ax.md j sn).length = sn.length := Wk.mix_len
                have c1 := y4.cell 1
                simp only at no2
                obtain ⟨g, cg, cur, hv, hge, hbg⟩ := own_lies no2 (by omega)
                injection hv with hv _ _
                subst hv
                have hgT : g < T := HYL.out _ (List.mem_of_getElem? f1) g rfl
                have q0 := no2.cells (g := g) rfl j _ (ass_at (by omega))
                rw [add_none, Nat.zero_add, Wk.mix_at 0 hlj] at q0
                have qf := hbg.free j
                have j1 : (0 : Int) ≤ (j : Int) := by omega
                have j2 : (j : Int) < (sn.length : Int) := by omega
                have ES2 := ES.out j hlj
                have Y := Lib.hid y
                have HBG := Lib.hid hbg
                have HGE := Lib.hid hge
                have HGT := Lib.hid hgT
                have F1 := Lib.hid f1
                have Y4 : Hid (∀ u, Blk (wr.setCell ⟨g, j, none⟩ u) bs 71 #[.int .u8 (sk.toNat : Int), .slice (some ⟨g, 0, none⟩) sn.length cu]) := Lib.hid (fun u => y4.far (p := ⟨g, j, none⟩) (y4.apart hbg (by decide)) u)
                clear y y4 HJ f1 no2 nf2 hbg hge hgT E1
                have hxm : ((sn.getD j 0 : Nat) : Int) % 65536 = ((sn.getD j 0 % 65536 : Nat) : Int) := by omega
                have HXB : Hid (Ax.md (sn.getD j 0) < 4294967296) := Lib.hid (by unfold Ax.md; omega)
                have HXE : Hid (((sn.getD j 0 % 65536 : Nat) : Int) = (Ax.md (sn.getD j 0) : Int)) := Lib.hid rfl
                rw [HXE.out] at hxm
                have SX : Hid (Rws (wr.setCell ⟨g, j, none⟩ (.int .u32 (Ax.md (sn.getD j 0) : Int))) w.heap.size xs (Ax.hlf k (j + 1) l)) := Lib.hid (by
                  have SN := Rws.setN (w := wr) (g := g) HXB.out j Y.out.r HYD.out k (by rw [Ax.hlf_len]; exact hlt) F1.out rfl
                  rw [EA.out j] at SN
                  rw [ES2]
                  exact SN)
                clear ES2 HXB HXE EF EA ES hml F1
                generalize sn.getD j 0 = x at *
                generalize Ax.md x = xm at *
                go_wp2
                go_roundw
                case rel => exact ⟨j + 1, by go_num, by omega, Lib.hid ⟨Y.out.put HGE.out HGT.out HBG.out (by rw [Ax.hlf_len, Ax.hlf_len]) SX.out, Y4.out _⟩⟩
                case measure => simp [intOf]; omega
              · obtain rfl : j = sn.length := by omega
                have HJ2 := Lib.hid HJ.out
                clear HJ
                go_wp2
                go_roundw
                case rel => exact ⟨k + 1, by go_num, by omega, Lib.hid (by rw [← EF.out]; exact HJ2.out.1)⟩
                case measure => simp [intOf]; omega
          · obtain rfl : k = l.length := by omega
            rw [Wk.mix_all] at HX
            have c6 : wr.cell? ⟨w.heap.size, 6, none⟩ = some (.int .u32 (b.byA : Int)) := HX.out.blk.cell 6
            have f6 := HX.out.blk.free 6
            have hb6 : ((b.byA : Nat) : Int) % 65536 = ((b.byA % 65536 : Nat) : Int) := by omega
            have HM := Lib.hid (HX.out.mkI HCM.out HFI.out HTW.out)
            have HBA : Hid (b.byA % 65536 < 4294967296) := Lib.hid (by omega)
            clear HX
            generalize b.byA % 65536 = by6 at *
            go_wp2
            go_meet
            refine Lib.hid (HM.out.set 6 (.int .u32 (by6 : Int)) rfl ⟨by rw [HP.out]; exact HM.out.own.1, HM.out.own.2.1, HM.out.own.2.2.1, HM.out.own.2.2.2.1, ?_⟩)
            obtain ⟨f1, f2, f3, f4, f5, f6, f7, f8⟩ := HFI.out
            exact ⟨f1, f2, f3, f4, HBA.out, f6, f7, f8⟩
    case rest =>
      have HI := hcut
      clear hcut HLT HP21 H2
      have c0 : wc.cell? ⟨w.heap.size, 0, none⟩ = some (.int .u32 (b.has : Int)) := HI.out.blk.cell 0
      have f0 := HI.out.blk.free 0
      have hh1 := bits_and_u32_nat b.has 393726 HI.out.own.2.2.2.2.1 (by decide)
      have hh2 : b.has &&& 393726 < 4294967296 := Nat.lt_of_le_of_lt Nat.and_le_right (by decide)
      obtain ⟨hs, hhs⟩ : ∃ hs, b.has &&& 393726 = hs := ⟨_, rfl⟩
      rw [hhs] at hh1 hh2
      have HHS := Lib.hid hhs
      have HH2 := Lib.hid hh2
      replace hh1 : bits .and .u32 (b.has : Int) 393726 = (hs : Int) := hh1
      clear hhs hh2
      go_upto_region 15 with fail
      replace HI : Hid (MkI w { b with path := Ax.mkP four b, path4 := Q, byA := if four then b.byA else b.byA % 65536, has := hs } (.slice A17 (madeF b.path).length n17) (.slice Ac b.comms.length nc) (.slice A21 Q.length n21) (.slice Ao b.others.length no) (wc.setCell ⟨w.heap.size, 0, none⟩ (.int .u32 (hs : Int)))) := Lib.hid (HI.out.set 0 (.int .u32 (hs : Int)) rfl ⟨HI.out.own.1, HI.out.own.2.1, HI.out.own.2.2.1, HI.out.own.2.2.2.1, by obtain ⟨f1, f2, f3, f4, f5, f6, f7, f8⟩ := HI.out.own.2.2.2.2; exact ⟨HH2.out, f2, f3, f4, f5, f6, f7, f8⟩⟩)
      generalize wc.setCell ⟨w.heap.size, 0, none⟩ (.int .u32 (hs : Int)) = w_1 at *
      clear c0 f0
      have c1 : w_1.cell? ⟨w.heap.size, 1, none⟩ = some (.int .u8 (b.origin.toNat : Int)) := HI.out.blk.cell 1
      have f1 := HI.out.blk.free 1
      have ho1 : IntKind.u8.wrap ((b.origin.toNat : Int).tmod 3) = ((b.origin % 3 : UInt8).toNat : Int) := org_wrap b.origin
      have ho2 : (b.origin.toNat : Int) % 3 = ((b.origin % 3 : UInt8).toNat : Int) := by rw [UInt8.toNat_mod]; simp
      obtain ⟨og, hog⟩ : ∃ og, b.origin % 3 = og := ⟨_, rfl⟩
      rw [hog] at ho1 ho2
      have HOG := Lib.hid hog
      clear hog
      go_upto_region 16 with fail
      replace HI : Hid (MkI w { b with path := Ax.mkP four b, path4 := Q, byA := if four then b.byA else b.byA % 65536, has := hs, origin := og } (.slice A17 (madeF b.path).length n17) (.slice Ac b.comms.length nc) (.slice A21 Q.length n21) (.slice Ao b.others.length no) (w_1.setCell ⟨w.heap.size, 1, none⟩ (.int .u8 (og.toNat : Int)))) := Lib.hid (HI.out.set 1 (.int .u8 (og.toNat : Int)) rfl ⟨HI.out.own.1, HI.out.own.2.1, HI.out.own.2.2.1, HI.out.own.2.2.2.1, by obtain ⟨f1, f2, f3, f4, f5, f6, f7, f8⟩ := HI.out.own.2.2.2.2; exact ⟨f1, f2, f3, f4, f5, f6, f7, f8⟩⟩)
      generalize w_1.setCell ⟨w.heap.size, 1, none⟩ (.int .u8 (og.toNat : Int)) = w_2 at *
      clear c1 f1
      have c3 : w_2.cell? ⟨w.heap.size, 3, none⟩ = some (.int .u32 (b.nh : Int)) := HI.out.blk.cell 3
      have f3 := HI.out.blk.free 3
      have hn1 := bits_and_u32_nat b.nh 16777215 HI.out.own.2.2.2.2.2.1 (by decide)
      have hn2 : b.nh &&& 16777215 < 4294967296 := Nat.lt_of_le_of_lt Nat.and_le_right (by decide)
      have hn3 := bits_or_u32_nat (b.nh &&& 16777215) 167772160 hn2 (by decide)
      have hn4 : b.nh &&& 16777215 ||| 167772160 < 4294967296 := Nat.or_lt_two_pow (n := 32) hn2 (by decide)
      obtain ⟨na, hna⟩ : ∃ na, b.nh &&& 16777215 = na := ⟨_, rfl⟩
      rw [hna] at hn1 hn3 hn4
      obtain ⟨nx, hnx⟩ : ∃ nx, na ||| 167772160 = nx := ⟨_, rfl⟩
      rw [hnx] at hn3 hn4
      have HNX : Hid (b.nh &&& 16777215 ||| 167772160 = nx) := Lib.hid (by rw [hna]; exact hnx)
      have HN4 := Lib.hid hn4
      replace hn1 : bits .and .u32 (b.nh : Int) 16777215 = (na : Int) := hn1
      replace hn3 : bits .or .u32 (na : Int) 167772160 = (nx : Int) := hn3
      clear hna hnx hn2 hn4
      have c8 : w_2.cell? ⟨w.heap.size, 8, none⟩ = some (.slice Ac b.comms.length nc) := HI.out.blk.cell 8
      have HLC : Hid (((b.comms.length : Int) == 0) = decide (b.comms = [])) := Lib.hid (by rw [Bool.eq_iff_iff, beq_iff_eq, decide_eq_true_eq]; exact ⟨fun h => List.eq_nil_of_length_eq_zero (by omega), fun h => by rw [h]; rfl⟩)
      go_upto_if 70 with fail
      replace HI : Hid (MkI w { b with path := Ax.mkP four b, path4 := Q, byA := if four then b.byA else b.byA % 65536, has := hs, origin := og, nh := nx } (.slice A17 (madeF b.path).length n17) (.slice Ac b.comms.length nc) (.slice A21 Q.length n21) (.slice Ao b.others.length no) (w_2.setCell ⟨w.heap.size, 3, none⟩ (.int .u32 (nx : Int)))) := Lib.hid (HI.out.set 3 (.int .u32 (nx : Int)) rfl ⟨HI.out.own.1, HI.out.own.2.1, HI.out.own.2.2.1, HI.out.own.2.2.2.1, by obtain ⟨f1, f2, f3, f4, f5, f6, f7, f8⟩ := HI.out.own.2.2.2.2; exact ⟨f1, HN4.out, f3, f4, f5, f6, f7, f8⟩⟩)
      generalize w_2.setCell ⟨w.heap.size, 3, none⟩ (.int .u32 (nx : Int)) = w_3 at *
      clear c3 f3
      clear hh1 ho1 ho2 hn1 hn3 c8 HH2 HN4
      go_cut [] (fun wx => ∃ cv, Hid (MkI w { b with path := Ax.mkP four b, path4 := Q, byA := if four then b.byA else b.byA % 65536, has := hs, origin := og, nh := nx, comms := if b.comms = [] then [7] else b.comms } (.slice A17 (madeF b.path).length n17) cv (.slice A21 Q.length n21) (.slice Ao b.others.length no) wx))
      case first =>
        by_cases hc0 : b.comms = []
        · have hb0 : ((b.comms.length : Int) == 0) = true := by rw [HLC.out]; exact decide_eq_true hc0
          have HC0 := Lib.hid hc0
          have c8 : w_3.cell? ⟨w.heap.size, 8, none⟩ = some (.slice Ac b.comms.length nc) := HI.out.blk.cell 8
          have HX := Lib.hid (HI.out.old ((Kept.refl Nothing w_3).alloc (.cells #[.int .u32 7] 23)))
          have f8 := HX.out.blk.free 8
          have e8 : (w_3.alloc (.cells #[.int .u32 7] 23)).cell? ⟨w.heap.size, 8, none⟩ = some (.slice Ac b.comms.length nc) := HX.out.blk.cell 8
          have HOW := Lib.hid (own_weakA (own_oneU w_3 (.int .u32 7)) HI.out.kept.size)
          clear hc0 HI HLC
          generalize b.comms.length = bl at *
          go_wp2
          go_meet
          refine ⟨.slice (some ⟨w_3.heap.size, 0, none⟩) 1 1, Lib.hid ?_⟩
          rw [if_pos HC0.out]
          exact HX.out.set 8 _ rfl ⟨HX.out.own.1, ⟨HOW.out, fun n hn => by obtain rfl := List.mem_singleton.1 hn; decide⟩, HX.out.own.2.2.1, HX.out.own.2.2.2.1, HX.out.own.2.2.2.2⟩
        · have hb0 : ((b.comms.length : Int) == 0) = false := by rw [HLC.out]; exact decide_eq_false hc0
          have HC0 := Lib.hid hc0
          clear hc0 HLC
          generalize hbl : b.comms.length = bl at *
          go_wp2
          go_meet
          refine ⟨.slice Ac b.comms.length nc, Lib.hid ?_⟩
          rw [if_neg HC0.out, hbl]
          exact HI.out
      case rest =>
        obtain ⟨cv1, HI2⟩ := hcut
        clear HI HLC
        have HI := HI2
        clear HI2
        have c9 : wc.cell? ⟨w.heap.size, 9, none⟩ = some (.slice A21 Q.length n21) := HI.out.blk.cell 9
        have HLQ : Hid (((Q.length : Int) == 0) = decide (Q = [])) := Lib.hid (by rw [Bool.eq_iff_iff, beq_iff_eq, decide_eq_true_eq]; exact ⟨fun h => List.eq_nil_of_length_eq_zero (by omega), fun h => by rw [h]; rfl⟩)
        go_upto_if 76 with fail
        clear c9
        go_cut [] (fun wx => ∃ qv, Hid (MkI w { b with path := Ax.mkP four b, path4 := if Q = [] then [(2, [9])] else Q, byA := if four then b.byA else b.byA % 65536, has := hs, origin := og, nh := nx, comms := if b.comms = [] then [7] else b.comms } (.slice A17 (madeF b.path).length n17) cv1 qv (.slice Ao b.others.length no) wx))
        case first =>
          by_cases hc0 : Q = []
          · have hb0 : ((Q.length : Int) == 0) = true := by rw [HLQ.out]; exact decide_eq_true hc0
            have HC0 := Lib.hid hc0
            have k1 := (Kept.refl Nothing wc).alloc (.cells #[.int .u32 9] 27)
            have HX := Lib.hid (HI.out.old k1)
            have HOW : Hid (Calls Tryz.prog 19 #[.int .u8 2, .slice (some ⟨wc.heap.size, 0, none⟩) 1 1] (wc.alloc (.cells #[.int .u32 9] 27)) _) := Lib.hid (path_of1 2 9 (by decide) (.slice (some ⟨wc.heap.size, 0, none⟩) 1 1) (wc.alloc (.cells #[.int .u32 9] 27)) (As.of_own (own_oneA wc (.int .u32 9)) (fun n hn => by obtain rfl := List.mem_singleton.1 hn; decide)))
            have HSZ := Lib.hid (Nat.le_trans HI.out.kept.size k1.size)
            clear hc0 HI HLQ k1
            generalize Q.length = ql at *
            go_wp2_with (go_at_call 19; refine (HOW.out).mono ?_; rintro e w5 ⟨v5, xs5, rfl, o5, r5, k5⟩; (have HX5 := Lib.hid (HX.out.old k5)); (have f9 := HX5.out.blk.free 9); (have e9 : w5.cell? ⟨w.heap.size, 9, none⟩ = some (.slice A21 ql n21) := HX5.out.blk.cell 9); (obtain ⟨A5, c5, rfl, -, -⟩ := ow_form o5); (have HP5 : Hid (Pown w5 w.heap.size (.slice A5 1 c5) [(2, [9])]) := Lib.hid ⟨xs5, own_weakA o5 HSZ.out, r5.weakA HSZ.out⟩); clear o5 r5 k5)
            go_meet
            refine ⟨.slice A5 1 c5, Lib.hid ?_⟩
            rw [if_pos HC0.out]
            exact HX5.out.set 9 _ rfl ⟨HX5.out.own.1, HX5.out.own.2.1, HP5.out, HX5.out.own.2.2.2.1, HX5.out.own.2.2.2.2⟩
          · have hb0 : ((Q.length : Int) == 0) = false := by rw [HLQ.out]; exact decide_eq_false hc0
            have HC0 := Lib.hid hc0
            clear hc0 HLQ
            generalize hbl : Q.length = bl at *
            go_wp2
            go_meet
            refine ⟨.slice A21 bl n21, Lib.hid ?_⟩
            rw [if_neg HC0.out]
            exact HI.out
        case rest =>
          obtain ⟨qv1, HI2⟩ := hcut
          clear HI HLQ
          have HI := HI2
          clear HI2
          obtain ⟨bb, hbb⟩ : ∃ bb : At, { b with path := Ax.mkP four b, path4 := if Q = [] then [(2, [9])] else Q, byA := if four then b.byA else b.byA % 65536, has := hs, origin := og, nh := nx, comms := if b.comms = [] then [7] else b.comms } = bb := ⟨_, rfl⟩
          rw [hbb] at HI
          have HBB := Lib.hid hbb
          have HBO2 : Hid (bb.others = b.others) := Lib.hid (by rw [← hbb])
          clear hbb
          generalize (Value.slice A17 (madeF b.path).length n17) = pv1 at *
          have c12 : wc.cell? ⟨w.heap.size, 12, none⟩ = some (.slice Ao b.others.length no) := HI.out.blk.cell 12
          have hol : b.others.length ≤ 6 := HBO.out
          have hol2 : b.others.length ≤ 9223372036854775807 := by omega
          obtain ⟨l0, hl0, hx0, hx1, hx2⟩ := info_parts oth_infoF
          obtain ⟨TT, hTT⟩ : ∃ TT, wc.heap.size = TT := ⟨_, rfl⟩
          have HTW : Hid (w.heap.size ≤ TT) := Lib.hid (by rw [← hTT]; exact HI.out.kept.size)
          have HAO : Hid (∀ g, (Value.slice Ao b.others.length no).ownBlock = some g → g < TT) := Lib.hid (fun g hg => by
            rw [← hTT]
            obtain ⟨ys, z1, _⟩ := HI.out.own.2.2.2.1
            exact (ow_ge z1 hg).2)
          have HTS := Lib.hid (Nat.le_of_eq hTT.symm)
          clear hTT
          go_wp2
          clear c12
          go_loopw [8, 83] (fun q i wr => ∃ k : Nat, i = .int .i64 (k : Int) ∧ k ≤ b.others.length ∧ Hid (∃ xs, wr.ownsRow TT 73 3 q ((b.others.take k).mapIdx Ax.mkO).length xs ∧ Ors wr w.heap.size xs ((b.others.take k).mapIdx Ax.mkO)) ∧ Hid (MkI w bb pv1 cv1 qv1 (.slice Ao b.others.length no) wr) ∧ Hid (TT ≤ wr.heap.size)) (fun _ i _ => b.others.length - (intOf i).toNat)
          case atStart => exact ⟨0, rfl, Nat.zero_le _, Lib.hid ⟨[], World.ownsRow_nil _ _ _ _, trivial⟩, HI, HTS⟩
          case round =>
            obtain ⟨k, rfl, hk, HP, HR, HTR⟩ := hrel
            clear HI HTS
            have i1 : (0 : Int) ≤ (k : Int) := by omega
            by_cases hlt : k < b.others.length
            · have i2 : (k : Int) < (b.others.length : Int) := by omega
              have hoo := HR.out.own.2.2.2.1
              rw [HBO2.out] at hoo
              obtain ⟨xs0, o1, o2⟩ := hoo
              obtain ⟨-, hors⟩ := Ors.at o2
              obtain ⟨e0, e1, u0, e2, e3⟩ := hors k hlt
              obtain ⟨g, cg, cur, hv, -, -⟩ := own_lies o1 (by omega)
              injection hv with hv _ hcc
              subst hv
              subst hcc
              have q0 := o1.cells (g := g) rfl _ _ e0
              have q1 := o1.cells (g := g) rfl _ _ e1
              have q2 := o1.cells (g := g) rfl _ _ e2
              rw [add_none, Nat.zero_add] at q0 q1 q2
              obtain ⟨Au, cu, rfl, -, -⟩ := ow_form e3
              have HQ3 := Lib.hid e3
              have HN : Hid ((b.others.take (k + 1)).mapIdx Ax.mkO = (b.others.take k).mapIdx Ax.mkO ++ [Ax.mkO k b.others[k]]) := Lib.hid (by
                rw [List.take_succ_eq_append_getElem hlt, List.mapIdx_concat, List.length_take]
                congr 3
                all_goals omega)
              have HQL : Hid (((b.others.take k).mapIdx Ax.mkO).length = k) := Lib.hid (by rw [List.length_mapIdx, List.length_take]; omega)
              obtain ⟨xs, oq, hr⟩ := HP.out
              rw [HQL.out] at oq
              have OQ := Lib.hid oq
              have HRS := Lib.hid hr
              obtain ⟨Aq2, cq2, rfl, _, _⟩ := ow_form oq
              clear oq hr HP e0 e1 e2 e3 hors o1 o2
              generalize b.others[k] = P at *
              obtain ⟨pf, pt, pv⟩ := P
              simp only at q2
              replace q0 : wr.cell? ⟨g, k * 3, none⟩ = some (.int .u8 (pf.toNat : Int)) := q0
              replace q1 : wr.cell? ⟨g, k * 3 + 1, none⟩ = some (.int .u8 (pt.toNat : Int)) := q1
              replace HQ3 : Hid (wr.ownsRow w.heap.size 5 1 (.slice Au pv.length cu) pv.length (bys pv)) := HQ3
              replace HN : Hid ((b.others.take (k + 1)).mapIdx Ax.mkO = (b.others.take k).mapIdx Ax.mkO ++ [⟨224, UInt8.ofNat (100 + 7 * k), pv⟩]) := HN
              have hcv : IntKind.u8.wrap (100 + 7 * (k : Int)) = ((UInt8.ofNat (100 + 7 * k)).toNat : Int) := by
                rw [UInt8.toNat_ofNat']
                simp [IntKind.wrap, IntKind.bits, IntKind.signed] <;> omega
              generalize UInt8.ofNat (100 + 7 * k) = tk at *
              have KA := Lib.hid ((Kept.refl Nothing wr).alloc (.cells #[.int .u8 (pf.toNat : Int), .int .u8 (pt.toNat : Int), .slice Au pv.length cu] 73))
              have HL7 : Hid (k + 1 ≤ maxLen ∧ (k + 1) * 32 ≤ 140737488355328) := Lib.hid (by unfold maxLen; omega)
              go_wp2_with (at_builtin; refine wpList_app _ rfl _ _ 31 rfl TT 73 l0 _ 3 32 Tryz.underlying31 hl0 hx0 hx1 hx2 rfl (by decide) (.slice Aq2 k cq2) k xs rfl (ow_kept OQ.out (KA.out.alloc _) (fun _ _ x => x)) (some ⟨wr.heap.size + 1, 0, none⟩) 1 1 [.int .u8 224, .int .u8 (tk.toNat : Int), .slice Au pv.length cu] rfl (by have hsr := src_new (wr.alloc (.cells #[.int .u8 (pf.toNat : Int), .int .u8 (pt.toNat : Int), .slice Au pv.length cu] 73)) 73 #[.int .u8 224, .int .u8 (tk.toNat : Int), .slice Au pv.length cu] 3 1 rfl (by simp [Value.oneCell']); rw [World.size_alloc] at hsr; exact hsr) HL7.out.1 HL7.out.2 (Nat.le_trans HTR.out (KA.out.alloc (.cells #[.int .u8 224, .int .u8 (tk.toNat : Int), .slice Au pv.length cu] 73)).size) ?_; intro v9 w9 ho9 hg9 _)
              go_roundw
              case rel =>
                have k2 := KA.out.alloc (.cells #[.int .u8 224, .int .u8 (tk.toNat : Int), .slice Au pv.length cu] 73)
                have oq2 := ow_kept OQ.out k2 (fun _ _ x => x)
                refine ⟨k + 1, by go_num, by omega, Lib.hid ?_, Lib.hid ((HR.out.old k2).grown (own_weakA oq2 HTW.out) hg9 (fun g hg hg2 => by have := (ow_ge oq2 hg).1; have := HAO.out g hg2; omega)), Lib.hid (Nat.le_trans (Nat.le_trans HTR.out k2.size) hg9.size)⟩
                rw [HN.out]
                refine ⟨xs ++ [.int .u8 224, .int .u8 (tk.toNat : Int), .slice Au pv.length cu], ?_, ?_⟩
                · rw [List.length_append, HQL.out]; exact ho9
                · exact Ors.push2 (c := ⟨224, tk, pv⟩) oq2 (HRS.out.old k2) (ow_kept HQ3.out k2 (fun _ _ x => x)) hg9
              case measure => simp [intOf]; omega
            · obtain rfl : k = b.others.length := by omega
              rw [List.take_of_length_le (Nat.le_refl _)] at HP
              obtain ⟨xs, oq, hr⟩ := HP.out
              obtain ⟨Ar, cr, rfl, -, -⟩ := ow_form oq
              have HOO : Hid (Oown wr w.heap.size (.slice Ar (b.others.mapIdx Ax.mkO).length cr) (b.others.mapIdx Ax.mkO)) := Lib.hid ⟨xs, own_weakA oq HTW.out, hr⟩
              clear oq hr HP HAO HTR HTW
              have c12 : wr.cell? ⟨w.heap.size, 12, none⟩ = some (.slice Ao b.others.length no) := HR.out.blk.cell 12
              have f12 := HR.out.blk.free 12
              have HS : Hid (MkI w { bb with others := b.others.mapIdx Ax.mkO } pv1 cv1 qv1 (.slice Ar (b.others.mapIdx Ax.mkO).length cr) (wr.setCell ⟨w.heap.size, 12, none⟩ (.slice Ar (b.others.mapIdx Ax.mkO).length cr))) := Lib.hid (HR.out.set 12 _ rfl ⟨HR.out.own.1, HR.out.own.2.1, HR.out.own.2.2.1, HOO.out, HR.out.own.2.2.2.2⟩)
              have HOV : Hid (∀ o ∈ b.others.mapIdx Ax.mkO, o.v.length ≤ 300 ∧ Ax.known o.t = false) := Lib.hid (mkO_val HBO.out HBV.out)
              have HOL : Hid ((b.others.mapIdx Ax.mkO).length ≤ 6) := Lib.hid (by rw [List.length_mapIdx]; exact HBO.out)
              obtain ⟨ol, hol⟩ : ∃ ol, b.others.mapIdx Ax.mkO = ol := ⟨_, rfl⟩
              rw [hol] at HS HOV HOL ⊢
              have HOO2 := Lib.hid hol
              clear hol HOO HR
              go_upto_region 28 with fail
              clear c12 f12
              generalize wr.setCell ⟨w.heap.size, 12, none⟩ (.slice Ar ol.length cr) = wz at *
              have HZ : Hid (Blk (wz.alloc (.cells #[.int .u8 1, .int .u8 2, .int .u8 3, .int .u8 4, .int .u8 5, .int .u8 6, .int .u8 7, .int .u8 8, .int .u8 17, .int .u8 18] 5)) wz.heap.size 5 Ax.tyA) := Lib.hid (Blk.fresh _ _ _)
              have HS2 := Lib.hid (HS.out.old ((Kept.refl Nothing wz).alloc (.cells #[.int .u8 1, .int .u8 2, .int .u8 3, .int .u8 4, .int .u8 5, .int .u8 6, .int .u8 7, .int .u8 8, .int .u8 17, .int .u8 18] 5)))
              have HE : Hid (∃ pv cv qv ov, MkI w (Ax.dropU { bb with others := ol } (Ax.tys.take 0)) pv cv qv ov (wz.alloc (.cells #[.int .u8 1, .int .u8 2, .int .u8 3, .int .u8 4, .int .u8 5, .int .u8 6, .int .u8 7, .int .u8 8, .int .u8 17, .int .u8 18] 5))) := Lib.hid ⟨_, _, _, _, HS2.out⟩
              clear HS HS2
              obtain ⟨b5, hb5⟩ : ∃ b5 : At, { bb with others := ol } = b5 := ⟨_, rfl⟩
              rw [hb5] at HE
              have HB5 := Lib.hid hb5
              have HB5O : Hid (b5.others = ol) := Lib.hid (by rw [← hb5])
              have HSM : Hid (Ax.small b5 ∧ b5.comms.length ≤ 70) := Lib.hid (by
                rw [← hb5, ← HBB.out, ← HQ.out]
                refine ⟨⟨?_, ?_, ?_, ?_⟩, ?_⟩
                · show (Ax.mkP four b).length ≤ 1000
                  have := madeF_len b.path
                  unfold Ax.mkP
                  split
                  · omega
                  · rw [List.length_map]; omega
                · show (if Wk.strip (madeF b.path4) = [] then [(2, [9])] else Wk.strip (madeF b.path4)).length ≤ 1000
                  have := (strip_small b.path4).1
                  split
                  · simp
                  · omega
                · show ∀ s ∈ Ax.mkP four b, s.2.length ≤ 1000
                  intro s hs
                  unfold Ax.mkP at hs
                  split at hs
                  · have := madeF_num hs; omega
                  · obtain ⟨x, hx, rfl⟩ := List.mem_map.1 hs
                    have := madeF_num hx
                    show (x.2.map Ax.md).length ≤ 1000
                    rw [List.length_map]; omega
                · show ∀ s ∈ (if Wk.strip (madeF b.path4) = [] then [(2, [9])] else Wk.strip (madeF b.path4)), s.2.length ≤ 1000
                  intro s hs
                  split at hs
                  · obtain rfl := List.mem_singleton.1 hs
                    simp
                  · have := (strip_small b.path4).2 s hs; omega
                · show (if b.comms = [] then [7] else b.comms).length ≤ 70
                  have := HBC.out
                  split
                  · simp
                  · exact this)
              clear hb5
              go_wp2
              generalize wz.alloc (.cells #[.int .u8 1, .int .u8 2, .int .u8 3, .int .u8 4, .int .u8 5, .int .u8 6, .int .u8 7, .int .u8 8, .int .u8 17, .int .u8 18] 5) = wy at *
              generalize wz.heap.size = bk at *
              go_loopw [103] (fun i wr => ∃ k : Nat, i = .int .i64 (k : Int) ∧ k ≤ 10 ∧ Hid (∃ pv cv qv ov, MkI w (Ax.dropU b5 (Ax.tys.take k)) pv cv qv ov wr) ∧ Hid (Blk wr bk 5 Ax.tyA)) (fun i _ => 10 - (intOf i).toNat)
              case atStart => exact ⟨0, rfl, Nat.zero_le _, HE, HZ⟩
              case round =>
                obtain ⟨k, rfl, hk, HR, HK⟩ := hrel
                clear HE HZ
                have i1 : (0 : Int) ≤ (k : Int) := by omega
                by_cases hlt : k < 10
                · have i2 : (k : Int) < 10 := by omega
                  obtain ⟨pv, cv, qv, ov, hr⟩ := HR.out
                  have ck : wr.cell? ⟨bk, k, none⟩ = some (.int .u8 ((Ax.tys.getD k 0).toNat : Int)) := (HK.out.cell k).trans (Ax.tys_at k hlt)
                  have HNX2 := Lib.hid (Ax.dropU_next b5 k hlt)
                  have HTK := Lib.hid (Ax.tys_known k hlt)
                  have HOK := Lib.hid (Ax.dropU_ok b5 (Ax.tys.take k) HSM.out)
                  generalize Ax.dropU b5 (Ax.tys.take k) = A5 at *
                  generalize Ax.tys.getD k 0 = t at *
                  have HM := Lib.hid hr
                  have HFH := Lib.hid hr.own.2.2.2.2.1
                  have c0 : wr.cell? ⟨w.heap.size, 0, none⟩ = some (.int .u32 (A5.has : Int)) := hr.blk.cell 0
                  clear hr HR
                  go_upto_if 112 with fail
                  rw [Ax.bit_test A5.has HFH.out t.toNat HTK.out.2]
                  generalize ((A5.has : Nat) : Int) / 2 ^ min t.toNat 32 = z9 at *
                  generalize bits .and .u32 z9 1 = z10 at *
                  clear c0 ck
                  cases hbit : A5.has.testBit t.toNat with
                  | true =>
                    rw [hbit, if_pos rfl] at HNX2
                    clear hbit
                    go_wp2
                    go_roundw
                    case rel => exact ⟨k + 1, by go_num, by omega, Lib.hid ⟨pv, cv, qv, ov, by rw [HNX2.out]; exact HM.out⟩, HK⟩
                    case measure => simp [intOf]; omega
                  | false =>
                    rw [hbit, if_neg (by simp)] at HNX2
                    clear hbit
                    have HWO := Lib.hid (at_without A5 pv cv qv ov t wr (HM.out.own.atp (Oown.ots HM.out.own.2.2.2.1)) (HT.out.kept HM.out.kept) HOK.out.1 (by have := HOK.out.2.1; omega) (by rw [HOK.out.2.2, HB5O.out]; have := HOL.out; omega) (fun o ho => by rw [HOK.out.2.2, HB5O.out] at ho; have := (HOV.out o ho).1; omega) (fun o ho e => by rw [HOK.out.2.2, HB5O.out] at ho; have := (HOV.out o ho).2; rw [e, HTK.out.1] at this; cases this))
                    go_wp2_with (first
                      | (refine wpList_store_row rfl 33 _ _ rfl w.heap.size (Ax.agg (Ax.drop A5 t) pv6 cv6 qv6 ov6) rfl rfl 33 _ HM6.out.blk (by kernel_rfl) rfl (AtO.one N6.out) ?_)
                      | (go_at_call 16; refine (HWO.out).mono ?_; rintro e w6 ⟨pv6, cv6, qv6, ov6, rfl, n6, k6⟩; (have N6 := Lib.hid n6); (have HM6 := Lib.hid (HM.out.old k6)); (have K6 := Lib.hid k6); clear n6 k6)
                      | (refine wpList_load_row rfl 33 _ rfl w.heap.size rfl 33 _ (0, 0) _ HM.out.blk Tryz.underlying33 rfl (by kernel_rfl) ?_))
                    go_roundw
                    case rel =>
                      refine ⟨k + 1, by go_num, by omega, Lib.hid ⟨pv6, cv6, qv6, ov6, ?_⟩, Lib.hid ?_⟩
                      · rw [HNX2.out]
                        exact HM6.out.row (N6.out.weak HM.out.kept.size)
                      · exact (HK.out.kept K6.out (fun x => x)).kept (Kept.setRow _ _) (fun (e : bk = w.heap.size) => by
                          have h1 := HM.out.blk
                          rw [← e] at h1
                          exact absurd rfl (HK.out.apart h1 (by decide)))
                    case measure => simp [intOf]; omega
                · obtain rfl : k = 10 := by omega
                  obtain ⟨pv, cv, qv, ov, hr⟩ := HR.out
                  have HFIN : Hid (Ax.dropU b5 (Ax.tys.take 10) = Ax.dropU (Ax.mk1 b four) [1, 2, 3, 4, 5, 6, 7, 8, 17, 18]) := Lib.hid (by
                    show Ax.dropU b5 [1, 2, 3, 4, 5, 6, 7, 8, 17, 18] = _
                    rw [← HB5.out, ← HBB.out]
                    unfold Ax.mk1 Ax.mkQ
                    rw [HQ.out, HHS.out, HOG.out, HNX.out, HOO2.out])
                  rw [HFIN.out] at hr
                  obtain ⟨AF, hAF⟩ : ∃ AF, Ax.dropU (Ax.mk1 b four) [1, 2, 3, 4, 5, 6, 7, 8, 17, 18] = AF := ⟨_, rfl⟩
                  rw [hAF] at hr
                  have HAF := Lib.hid hAF
                  clear hAF
                  have HM := Lib.hid hr
                  clear hr HR HFIN
                  go_upto_region 34 with fail
                  go_wp2_with (first
                    | (refine wpList_store_row rfl 33 _ _ rfl (w.heap.size + 1) (Ax.agg AF pv cv qv ov) rfl rfl 33 z13 HM.out.zero (by kernel_rfl) rfl (AtO.one HM.out.own) ?_)
                    | (refine wpList_load_row rfl 33 _ rfl w.heap.size rfl 33 _ (0, 0) _ HM.out.blk Tryz.underlying33 rfl (by kernel_rfl) ?_))
                  have hB : Blk (wr.setRow (w.heap.size + 1) (Ax.agg AF pv cv qv ov)) (w.heap.size + 1) 33 (Ax.agg AF pv cv qv ov) := setRow_heap wr _ _ _ _ _ HM.out.zero
                  refine bodyPost_ret (v := .agg (Ax.agg AF pv cv qv ov)) ?_ rfl ⟨pv, cv, qv, ov, by rw [HAF.out], by rw [HAF.out]; exact HM.out.own.off5 (Kept.setRow _ _) (Off5.blk HM.out.zero (by decide)), HM.out.kept.trans_new (Kept.setRow _ _) (fun i hi (e : i = w.heap.size + 1) => by omega)⟩
                  exact results_cell_row (p := 4) rfl _ _ (w.heap.size + 1) 33 _ (0, 0) _ rfl hB Tryz.underlying33 rfl (by kernel_rfl)
end Go.Proofs.YteofbpdogmajoaaGreatDoor
