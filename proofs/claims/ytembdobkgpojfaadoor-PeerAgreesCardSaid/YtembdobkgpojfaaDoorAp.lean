
/-
  append onto a row of the call's own, the source nil or not; the same for bytes.
-/
import Derived.Test.YtembdobkgpojfaaDoorMem
import Derived.Maps.AppendAt
import Derived.Lib.SliceRun
import Derived.Deep.RegionLaw
namespace Go.Proofs.YtembdobkgpojfaaDoor
open Go.RowKit

/-- What is appended: m elements, the cells news. -/
def Src (w : World) (size : Nat) (A : Option Addr) (m : Nat) (news : List Value) : Prop :=
  news.length = m * size ∧ (A = none → m = 0) ∧ (∀ a, A = some a → ∀ j u, news[j]? = some u → w.cell? (a.add j) = some u) ∧ ∀ u ∈ news, u.oneCell' = true

section
variable {P : Program} (w : World)

theorem run_app (base : Nat) (t ty e : TypeId) (i : TypeInfo) (z : Value) (size bytes : Nat) (ht : P.underlying t = some (.slice e)) (hi : P.info? e = some i) (hz : i.zero = some z)
    (hsize : i.size = size) (hby : i.bytes = bytes) (hzs : z.cells.size = size) (hsz : 0 < size)
    (v : Value) (n : Nat) (xs : List Value) (hown : w.ownsRow base e size v n xs)
    (A : Option Addr) (m c : Nat) (news : List Value) (hs : Src w size A m news)
    (h63 : n + m ≤ maxLen) (hbytes : (n + m) * bytes ≤ 140737488355328) (hbase : base ≤ w.heap.size) :
    ∃ v' w', (Builtin.append_ #[t, t] ty #[v, .slice A m c]).run P w = .ok v' w' ∧ w'.ownsRow base e size v' (n + m) (xs ++ news) ∧ w.grownBy w' v.ownBlock ∧
      (v'.ownBlock = v.ownBlock ∨ v'.ownBlock = some w.heap.size) := by
  obtain ⟨h1, h2, h3, h4⟩ := hs
  cases A with
  | some a =>
    obtain ⟨v', w', hr, ho, hg, _, hb⟩ := run_append_own_at (P := P) w base t ty e i z size bytes ht hi hz hsize hby hzs hsz v n xs hown a m c news h1 (h3 a rfl) h4 h63 hbytes hbase
    exact ⟨v', w', hr, ho, hg, hb⟩
  | none =>
    obtain rfl : m = 0 := h2 rfl
    obtain rfl : news = [] := List.eq_nil_of_length_eq_zero (by simpa using h1)
    refine ⟨v, w, ?_, by simpa using hown, ⟨rfl, rfl, rfl, Nat.le_refl _, fun _ _ _ => rfl⟩, .inl rfl⟩
    rcases hown.2 with ⟨rfl, rfl⟩ | ⟨g, cap, cur, rfl, _, _, hnc, _⟩
    · simp [Builtin.append_, run_underlying ht, sizeOf, typeInfo, hi, Builtin.lenOf, Builtin.firstCells]
    · simp [Builtin.append_, run_underlying ht, sizeOf, typeInfo, hi, Builtin.lenOf, Builtin.firstCells, hnc, storeCells]

theorem wp_app {o : Oper} {a : Act} {K : Act → World → Prop} {Q : Exit → Act → World → Prop} (s x : Operand) (t : TypeId)
    (ho : o.op = .call { callee := .builtin .append, args := #[s, x], argTypes := #[t, t] })
    (base : Nat) (e : TypeId) (i : TypeInfo) (z : Value) (size bytes : Nat) (ht : P.underlying t = some (.slice e)) (hi : P.info? e = some i) (hz : i.zero = some z)
    (hsize : i.size = size) (hby : i.bytes = bytes) (hzs : z.cells.size = size) (hsz : 0 < size)
    (v : Value) (n : Nat) (xs : List Value) (hv : a.eval s = v) (hown : w.ownsRow base e size v n xs)
    (A : Option Addr) (m c : Nat) (news : List Value) (hx : a.eval x = .slice A m c) (hs : Src w size A m news)
    (h63 : n + m ≤ maxLen) (hbytes : (n + m) * bytes ≤ 140737488355328) (hbase : base ≤ w.heap.size)
    (h : ∀ v' w', w'.ownsRow base e size v' (n + m) (xs ++ news) → w.grownBy w' v.ownBlock → (v'.ownBlock = v.ownBlock ∨ v'.ownBlock = some w.heap.size) → K (a.put o.dst v') w') : o.wp P a w K Q := by
  obtain ⟨v', w', hr, h2, h3, h4⟩ := run_app (P := P) w base t o.type e i z size bytes ht hi hz hsize hby hzs hsz v n xs hown A m c news hs h63 hbytes hbase
  unfold Oper.wp execOp
  simp only [ho, resolve, invoke, builtin, Sem.run_bind, Sem.run_pure, Result.andThen_ok, List.map_toArray, List.map_cons, List.map_nil, hv, hx, hr]
  exact h v' w' h2 h3 h4

theorem wpList_app {ops : Array Oper} {rest : List Oper} {o : Oper} {a : Act} {Q : Exit → Act → World → Prop} (hgd : o.guard = none) (s x : Operand) (t : TypeId)
    (ho : o.op = .call { callee := .builtin .append, args := #[s, x], argTypes := #[t, t] })
    (base : Nat) (e : TypeId) (i : TypeInfo) (z : Value) (size bytes : Nat) (ht : P.underlying t = some (.slice e)) (hi : P.info? e = some i) (hz : i.zero = some z)
    (hsize : i.size = size) (hby : i.bytes = bytes) (hzs : z.cells.size = size) (hsz : 0 < size)
    (v : Value) (n : Nat) (xs : List Value) (hv : a.eval s = v) (hown : w.ownsRow base e size v n xs)
    (A : Option Addr) (m c : Nat) (news : List Value) (hx : a.eval x = .slice A m c) (hs : Src w size A m news)
    (h63 : n + m ≤ maxLen) (hbytes : (n + m) * bytes ≤ 140737488355328) (hbase : base ≤ w.heap.size)
    (h : ∀ v' w', w'.ownsRow base e size v' (n + m) (xs ++ news) → w.grownBy w' v.ownBlock → (v'.ownBlock = v.ownBlock ∨ v'.ownBlock = some w.heap.size) → wpList P ops Q rest (a.put o.dst v') w') : wpList P ops Q (o :: rest) a w :=
  wpList_plain hgd fun _ hK => wp_app w s x t ho base e i z size bytes ht hi hz hsize hby hzs hsz v n xs hv hown A m c news hx hs h63 hbytes hbase fun v' w' h2 h3 h4 => hK _ _ (h v' w' h2 h3 h4)

theorem step_app {ops : Array Oper} {o : Oper} {a : Act} {K : Act → World → Prop} {Q : Exit → Act → World → Prop} {E : Prop} (hgd : o.guard = none) (s x : Operand) (t : TypeId)
    (ho : o.op = .call { callee := .builtin .append, args := #[s, x], argTypes := #[t, t] })
    (base : Nat) (e : TypeId) (i : TypeInfo) (z : Value) (size bytes : Nat) (ht : P.underlying t = some (.slice e)) (hi : P.info? e = some i) (hz : i.zero = some z)
    (hsize : i.size = size) (hby : i.bytes = bytes) (hzs : z.cells.size = size) (hsz : 0 < size)
    (v : Value) (n : Nat) (xs : List Value) (hv : a.eval s = v) (hown : w.ownsRow base e size v n xs)
    (A : Option Addr) (m c : Nat) (news : List Value) (hx : a.eval x = .slice A m c) (hs : Src w size A m news)
    (h63 : n + m ≤ maxLen) (hbytes : (n + m) * bytes ≤ 140737488355328) (hbase : base ≤ w.heap.size)
    (h : ∀ v' w', w'.ownsRow base e size v' (n + m) (xs ++ news) → w.grownBy w' v.ownBlock → (v'.ownBlock = v.ownBlock ∨ v'.ownBlock = some w.heap.size) → K (a.put o.dst v') w') :
    if Region.wanted o (yielded ops a.tmps) = true then Oper.wp P o a w K Q else E := by
  have hw : Region.wanted o (yielded ops a.tmps) = true := by simp [Region.wanted, hgd]
  rw [if_pos hw]
  exact wp_app w s x t ho base e i z size bytes ht hi hz hsize hby hzs hsz v n xs hv hown A m c news hx hs h63 hbytes hbase h
end

theorem add_none (b o j : Nat) : (⟨b, o, none⟩ : Addr).add j = ⟨b, o + j, none⟩ := by unfold Addr.add; split <;> simp_all

theorem getD_bys (l : List UInt8) (i : Nat) (h : i < l.length) : (bys l)[i]? = some (by8 (l.getD i 0)) := by
  unfold bys
  rw [List.getElem?_map, List.getElem?_eq_getElem h, List.getD_eq_getElem?_getD, List.getElem?_eq_getElem h]
  rfl
theorem length_bys (l : List UInt8) : (bys l).length = l.length := List.length_map _
theorem bys_append (a b : List UInt8) : bys (a ++ b) = bys a ++ bys b := List.map_append

theorem Bs.src {w : World} {A : Option Addr} {n c : Nat} {l : List UInt8} (h : Bs w (.slice A n c) l) : Src w 1 A l.length (bys l) := by
  obtain ⟨A', c', hv, hc, hm, hr⟩ := h
  injection hv with h1 h2 h3
  subst h1 h2 h3
  refine ⟨by rw [length_bys, Nat.mul_one], fun hA => ?_, fun a ha j u hu => ?_, fun u hu => ?_⟩
  · rcases Nat.eq_zero_or_pos l.length with h0 | h0
    · exact h0
    · obtain ⟨b, o, cs, f, hA', _⟩ := hr h0
      rw [hA] at hA'
      cases hA'
  · have hj : j < l.length := by
      have := (List.getElem?_eq_some_iff.1 hu).1
      rwa [length_bys] at this
    obtain ⟨b, o, cs, f, hA, hb, hi⟩ := hr (by omega)
    rw [ha] at hA
    injection hA with hA
    subst hA
    rw [add_none, cell_of_row w b _ cs _ f hb, hi j hj, ← getD_bys l j hj, hu]
  · unfold bys at hu
    obtain ⟨b, _, rfl⟩ := List.mem_map.1 hu
    rfl
theorem Src.kept {w w' : World} {size : Nat} {A : Option Addr} {m : Nat} {news : List Value} (h : Src w size A m news) (k : Kept Nothing w w') : Src w' size A m news :=
  ⟨h.1, h.2.1, fun a ha j u hu => k.cell_some (h.2.2.1 a ha j u hu) (fun x => x), h.2.2.2⟩

/-- The slice value v reads as the bytes l, wherever they lie. -/
def By (w : World) (v : Value) (l : List UInt8) : Prop := ∃ A c, v = .slice A l.length c ∧ l.length ≤ c ∧ c ≤ maxLen ∧ Src w 1 A l.length (bys l)
theorem By.form {w : World} {v : Value} {l : List UInt8} (h : By w v l) : ∃ A c, v = .slice A l.length c ∧ l.length ≤ c ∧ c ≤ maxLen := by
  obtain ⟨A, c, hv, hc, hm, _⟩ := h; exact ⟨A, c, hv, hc, hm⟩
theorem By.src {w : World} {A : Option Addr} {n c : Nat} {l : List UInt8} (h : By w (.slice A n c) l) : Src w 1 A l.length (bys l) := by
  obtain ⟨A', c', hv, _, _, hs⟩ := h
  injection hv with h1 h2 h3
  subst h1
  exact hs
theorem Bs.by {w : World} {v : Value} {l : List UInt8} (h : Bs w v l) : By w v l := by
  obtain ⟨A, c, rfl, hc, hm⟩ := h.form
  exact ⟨A, c, rfl, hc, hm, h.src⟩
theorem Src.kept_if {S : Nat → Prop} {w w' : World} {size : Nat} {A : Option Addr} {m : Nat} {news : List Value} (h : Src w size A m news) (k : Kept S w w') (hs : ∀ a, A = some a → 0 < m → ¬ S a.block) : Src w' size A m news :=
  ⟨h.1, h.2.1, fun a ha j u hu => by
    have hm : 0 < m := by
      rcases Nat.eq_zero_or_pos m with h0 | h0
      · have := (List.getElem?_eq_some_iff.1 hu).1
        rw [h.1, h0] at this
        omega
      · exact h0
    exact k.cell_some (h.2.2.1 a ha j u hu) (by rw [show (a.add j).block = a.block from by unfold Addr.add; split <;> rfl]; exact hs a ha hm), h.2.2.2⟩
theorem By.kept {S : Nat → Prop} {w w' : World} {A : Option Addr} {n c : Nat} {l : List UInt8} (h : By w (.slice A n c) l) (k : Kept S w w') (hs : ∀ a, A = some a → 0 < l.length → ¬ S a.block) : By w' (.slice A n c) l := by
  obtain ⟨A', c', hv, hc, hm, hr⟩ := h
  injection hv with h1 h2 h3
  subst h1 h2 h3
  exact ⟨A, c, rfl, hc, hm, hr.kept_if k hs⟩
theorem By.old {w w' : World} {v : Value} {l : List UInt8} (h : By w v l) (k : Kept Nothing w w') : By w' v l := by
  obtain ⟨A, c, rfl, _, _⟩ := h.form
  exact h.kept k (fun _ _ _ x => x)
theorem Src.lt {w : World} {size : Nat} {a : Addr} {m : Nat} {news : List Value} (h : Src w size (some a) m news) (h0 : 0 < news.length) : a.block < w.heap.size := by
  have := h.2.2.1 a rfl 0 _ (List.getElem?_eq_getElem h0)
  exact World.block_lt_of_cell? w _ (by simpa [Addr.add] using this)
/-- A piece of a slice of bytes. -/
theorem By.piece {w : World} {A : Option Addr} {n c : Nat} {l : List UInt8} (h : By w (.slice A n c) l) {k m : Nat} (hm : k + m ≤ n) :
    By w (.slice (if c = k then A else A.map (·.add k)) m (c - k)) ((l.drop k).take m) := by
  obtain ⟨A', c', hv, hc, hx, hr⟩ := h
  injection hv with h1 h2 h3
  subst h1 h2 h3
  have hlen : ((l.drop k).take m).length = m := by simp; omega
  refine ⟨_, _, by rw [hlen], by omega, by omega, ?_⟩
  obtain ⟨s1, s2, s3, s4⟩ := hr
  refine ⟨by rw [length_bys, Nat.mul_one], fun hA => ?_, fun a ha j u hu => ?_, fun u hu => s4 u ?_⟩
  · rw [hlen]
    by_cases hck : c = k
    · omega
    · rw [if_neg hck] at hA
      have := s2 (by simpa using hA)
      omega
  · have hj : j < m := by
      have := (List.getElem?_eq_some_iff.1 hu).1
      rwa [length_bys, hlen] at this
    rw [if_neg (by omega)] at ha
    obtain ⟨a0, rfl, rfl⟩ := Option.map_eq_some_iff.1 ha
    have e : (a0.add k).add j = a0.add (k + j) := by
      unfold Addr.add
      by_cases h1 : k = 0 <;> by_cases h2 : j = 0 <;> simp [h1, h2, Nat.add_assoc]
    rw [e]
    refine s3 a0 rfl (k + j) u ?_
    rw [← hu]
    unfold bys
    rw [List.getElem?_map, List.getElem?_map, List.getElem?_take_of_lt hj, List.getElem?_drop]
  · unfold bys at hu ⊢
    obtain ⟨b, hb, rfl⟩ := List.mem_map.1 hu
    exact List.mem_map.2 ⟨b, List.mem_of_mem_drop (List.mem_of_mem_take hb), rfl⟩

/-- Its first bytes. -/
theorem By.pre {w : World} {A : Option Addr} {n c : Nat} {l : List UInt8} (h : By w (.slice A n c) l) {m : Nat} (hm : m ≤ n) : By w (.slice A m c) (l.take m) := by
  have h1 := h.piece (k := 0) (m := m) (by omega)
  rw [List.drop_zero, Nat.sub_zero] at h1
  have e : (if c = 0 then A else A.map (·.add 0)) = A := by
    cases A with
    | none => simp
    | some a => simp [Addr.add]
  rwa [e] at h1

/-- What a row of the call's own holds reads as bytes. -/
theorem Bs.of_own {w : World} {base : Nat} {v : Value} {l : List UInt8} (h : w.ownsRow base 5 1 v l.length (bys l)) : Bs w v l := by
  obtain ⟨h1, h2⟩ := h
  rcases h2 with ⟨rfl, h0⟩ | ⟨g, cap, cur, rfl, _, hg, hn, hm, hs, ht⟩
  · have : l = [] := List.eq_nil_of_length_eq_zero h0
    subst this
    exact Bs.nil w
  · refine ⟨_, _, rfl, hn, hm, fun _ => ⟨g, 0, cur, _, rfl, hg, fun i hi => ?_⟩⟩
    rw [Nat.zero_add, ← getD_bys l i hi, ← ht, List.getElem?_take_of_lt (by simpa using hi), Array.getElem?_toList]

theorem u8_info : (Tryd.prog.info? 5).map (fun i => (i.zero, i.size, i.bytes)) = some (some (.int .u8 0), 1, 1) := by kernel_rfl
end Go.Proofs.YtembdobkgpojfaaDoor
