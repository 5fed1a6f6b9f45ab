
/-
  session: what is done at an end, and the other rows of actions.
-/
import Derived.Test.YtembdobkgpojfaaDoorSMb
import Derived.SliceStrings
namespace Go.Proofs.YtembdobkgpojfaaDoor
open Go.RowKit

theorem act_info : (Tryd.prog.info? 109).map (fun i => (i.zero, i.size, i.bytes)) = some (some (.agg #[.int .i64 0, .int .u8 0, .int .i64 0, .int .u8 0, .int .u8 0, .slice none 0 0]), 6, 56) := by kernel_rfl
theorem own_grown {w0 w w' : World} {base n size : Nat} {e : TypeId} {v : Value} {xs : List Value} (k : Kept Nothing w0 w) (ho : w.ownsRow base e size v n xs) (hb : w0.heap.size ≤ base) (hg : w.grownBy w' v.ownBlock) : Kept Nothing w0 w' :=
  k.grown hg (fun b hk hlt => by
    rcases ho.2 with ⟨rfl, _⟩ | ⟨g, cap, cur, rfl, hbg, _⟩
    · simp [Value.ownBlock] at hk
    · simp only [Value.ownBlock, Option.some.injEq] at hk
      omega)
theorem own_blk {w w' : World} {base n size g : Nat} {e t : TypeId} {v : Value} {xs : List Value} {cs : Array Value} (hB : Blk w g t cs) (ho : w.ownsRow base e size v n xs) (hne : e ≠ t) (hg : w.grownBy w' v.ownBlock) : Blk w' g t cs :=
  (hg.block g hB.lt (fun e1 => ow_far ho hB hne g e1.symm rfl)).trans hB
theorem own_bs {w w' : World} {base n : Nat} {v x : Value} {xs : List Value} {l : List UInt8} (hb : Bs w x l) (ho : w.ownsRow base 109 6 v n xs) (hg : w.grownBy w' v.ownBlock) : Bs w' x l := by
  refine hb.kept (S := fun k => v.ownBlock = some k) ((Kept.refl _ w).grown hg (fun _ hk _ => hk)) (fun k hk cs f hh => ?_)
  obtain ⟨cs', h'⟩ := ow_lt ho hk
  rw [h'] at hh
  injection hh with hh
  injection hh with _ h2
  exact absurd h2 (by decide)
/-- append of a new block of actions onto a row of the call's own. -/
theorem wp_appS {o : Oper} {a : Act} {K : Act → World → Prop} {Q : Exit → Act → World → Prop} {w : World} (s x : Operand)
    (ho : o.op = .call { callee := .builtin .append, args := #[s, x], argTypes := #[32, 32] })
    (w0 : World) (dv : Value) (A : Option Addr) (n c : Nat) (L M : List Sm.Act) (hn : n = L.length) (hv : a.eval s = .slice A n c) (hown : w.ownsRow w0.heap.size 109 6 (.slice A n c) n (Sm.cls .u8 dv L))
    (B : Option Addr) (m cc : Nat) (hx : a.eval x = .slice B m cc) (hm : m = M.length) (hs : Src w 6 B M.length (Sm.cls .u8 dv M)) (hl : L.length + M.length ≤ 1000) (hk : Kept Nothing w0 w)
    (h : ∀ (A' : Option Addr) (n' c' : Nat) (w' : World), n' = (L ++ M).length → w'.ownsRow w0.heap.size 109 6 (.slice A' n' c') n' (Sm.cls .u8 dv (L ++ M)) → Kept Nothing w0 w' → (∀ g t cs, t ≠ 109 → Blk w g t cs → Blk w' g t cs) → (∀ v l, Bs w v l → Bs w' v l) → K (a.put o.dst (.slice A' n' c')) w') : o.wp Tryd.prog a w K Q := by
  subst hn hm
  obtain ⟨i0, hi, hz0, hz1, hz2⟩ := info_parts act_info
  refine wp_app w s x 32 ho w0.heap.size 109 i0 _ 6 56 Tryd.underlying32 hi hz0 hz1 hz2 rfl (by decide) (.slice A L.length c) L.length (Sm.cls .u8 dv L) hv hown B M.length cc (Sm.cls .u8 dv M) hx hs (by unfold maxLen; omega) (by omega) hk.size ?_
  intro v' w' ho' hg _
  rw [← Sm.cls_append, ← List.length_append] at ho'
  obtain ⟨A', c', rfl, -, -⟩ := ow_form ho'
  exact h A' _ c' w' rfl ho' (own_grown hk hown (Nat.le_refl _) hg) (fun g t cs hne hB => own_blk hB hown (fun e => hne e.symm) hg) (fun v l hv => own_bs hv hown hg)
theorem wpList_appS {ops : Array Oper} {rest : List Oper} {o : Oper} {a : Act} {Q : Exit → Act → World → Prop} {w : World} (hgd : o.guard = none) (s x : Operand)
    (ho : o.op = .call { callee := .builtin .append, args := #[s, x], argTypes := #[32, 32] })
    (w0 : World) (dv : Value) (A : Option Addr) (n c : Nat) (L M : List Sm.Act) (hn : n = L.length) (hv : a.eval s = .slice A n c) (hown : w.ownsRow w0.heap.size 109 6 (.slice A n c) n (Sm.cls .u8 dv L))
    (B : Option Addr) (m cc : Nat) (hx : a.eval x = .slice B m cc) (hm : m = M.length) (hs : Src w 6 B M.length (Sm.cls .u8 dv M)) (hl : L.length + M.length ≤ 1000) (hk : Kept Nothing w0 w)
    (h : ∀ (A' : Option Addr) (n' c' : Nat) (w' : World), n' = (L ++ M).length → w'.ownsRow w0.heap.size 109 6 (.slice A' n' c') n' (Sm.cls .u8 dv (L ++ M)) → Kept Nothing w0 w' → (∀ g t cs, t ≠ 109 → Blk w g t cs → Blk w' g t cs) → (∀ v l, Bs w v l → Bs w' v l) → wpList Tryd.prog ops Q rest (a.put o.dst (.slice A' n' c')) w') : wpList Tryd.prog ops Q (o :: rest) a w :=
  wpList_plain hgd fun _ hK => wp_appS s x ho w0 dv A n c L M hn hv hown B m cc hx hm hs hl hk fun A' n' c' w' h1 h2 h3 h4 h5 => hK _ _ (h A' n' c' w' h1 h2 h3 h4 h5)
theorem step_appS {ops : Array Oper} {o : Oper} {a : Act} {K : Act → World → Prop} {Q : Exit → Act → World → Prop} {E : Prop} {w : World} (hgd : o.guard = none) (s x : Operand)
    (ho : o.op = .call { callee := .builtin .append, args := #[s, x], argTypes := #[32, 32] })
    (w0 : World) (dv : Value) (A : Option Addr) (n c : Nat) (L M : List Sm.Act) (hn : n = L.length) (hv : a.eval s = .slice A n c) (hown : w.ownsRow w0.heap.size 109 6 (.slice A n c) n (Sm.cls .u8 dv L))
    (B : Option Addr) (m cc : Nat) (hx : a.eval x = .slice B m cc) (hm : m = M.length) (hs : Src w 6 B M.length (Sm.cls .u8 dv M)) (hl : L.length + M.length ≤ 1000) (hk : Kept Nothing w0 w)
    (h : ∀ (A' : Option Addr) (n' c' : Nat) (w' : World), n' = (L ++ M).length → w'.ownsRow w0.heap.size 109 6 (.slice A' n' c') n' (Sm.cls .u8 dv (L ++ M)) → Kept Nothing w0 w' → (∀ g t cs, t ≠ 109 → Blk w g t cs → Blk w' g t cs) → (∀ v l, Bs w v l → Bs w' v l) → K (a.put o.dst (.slice A' n' c')) w') :
    if Region.wanted o (yielded ops a.tmps) = true then Oper.wp Tryd.prog o a w K Q else E := by
  have hw : Region.wanted o (yielded ops a.tmps) = true := by simp [Region.wanted, hgd]
  rw [if_pos hw]
  exact wp_appS s x ho w0 dv A n c L M hn hv hown B m cc hx hm hs hl hk h
/-- A literal of actions as a source. -/
theorem src_lit (w : World) (dA : Option Addr) (dn dc : Nat) (M : List Sm.Act) (cs : Array Value) (hc : cs.toList = Sm.cls .u8 (.slice dA dn dc) M) : Src (w.alloc (.cells cs 109)) 6 (some ⟨w.heap.size, 0, none⟩) M.length (Sm.cls .u8 (.slice dA dn dc) M) := by
  rw [← hc]
  refine src_new w _ cs 6 M.length ?_ (fun u hu => Sm.cls_one .u8 dA dn dc M u (hc ▸ hu))
  rw [← Array.length_toList, hc, Sm.cls_length]

/-- Data copied: nil stays nil. -/
theorem se_clone (A : Option Addr) (n c : Nat) (l : List UInt8) (w : World) (h : By w (.slice A n c) l) (hl : l.length ≤ 140737488355328) :
    Calls Tryd.prog 112 #[.slice A n c] w fun r w' => ∃ A' n' c', r = .returned (.slice A' n' c') ∧ Bs w' (.slice A' n' c') l ∧ Kept Nothing w w' := by
  obtain ⟨i0, hi, hz0, hz1, hz2⟩ := info_parts u8_info
  have hq := fun (u : World) (a : Option Addr) (n c : Nat) => Lib.run_eql_slice_nil (P := Tryd.prog) u 29 5 a n c 0 0 Tryd.underlying29
  obtain ⟨A1, c1, e1, hc, hm⟩ := h.form
  injection e1 with e1 e2 e3
  subst e1 e2 e3
  have HS := Lib.hid (h.src)
  cases A with
  | none =>
    obtain rfl : l = [] := List.eq_nil_of_length_eq_zero (HS.out.2.1 rfl)
    clear h hc hm
    go_enter Tryd.func112, Tryd.ntmps112
    go_wp2
    go_ret
    exact ⟨none, 0, 0, rfl, Bs.nil w, Kept.refl _ _⟩
  | some ad =>
    clear h hc hm
    have HL : Hid (0 + l.length ≤ maxLen ∧ (0 + l.length) * 1 ≤ 140737488355328) := ⟨by unfold maxLen; omega, by omega⟩
    go_enter Tryd.func112, Tryd.ntmps112
    go_wp2_with (at_builtin; refine wpList_app _ rfl _ _ 29 rfl w.heap.size 5 i0 (.int .u8 0) 1 1 Tryd.underlying29 hi hz0 hz1 hz2 rfl (by decide) (.slice (some ⟨w.heap.size, 0, none⟩) 0 0) 0 [] rfl (World.ownsRow_made w #[] 0 (Nat.le_refl _) (by simp [maxLen]) rfl) (some ad) l.length c (bys l) rfl (HS.out.kept ((Kept.refl _ w).alloc _)) HL.out.1 HL.out.2 (by simp) ?_; intro v' w' hown hg _)
    go_ret
    have ho' : w'.ownsRow w.heap.size 5 1 v' l.length (bys l) := by simpa using hown
    obtain ⟨A', c', rfl, -, -⟩ := ow_form ho'
    refine ⟨A', l.length, c', rfl, Bs.of_own ho', ((Kept.refl _ w).alloc _).grown hg (fun k hk hlt => ?_)⟩
    simp only [Value.ownBlock, Option.some.injEq] at hk
    omega
theorem se_clone_nil (w : World) : Calls Tryd.prog 112 #[.slice none 0 0] w fun r w' => r = .returned (.slice none 0 0) ∧ w = w' := by
  have hq := fun (u : World) (a : Option Addr) (n c : Nat) => Lib.run_eql_slice_nil (P := Tryd.prog) u 29 5 a n c 0 0 Tryd.underlying29
  go_enter Tryd.func112, Tryd.ntmps112
  go_wp2
  go_ret
  exact ⟨rfl, rfl⟩
/-- The boxes that a call of the machine begins with. -/
theorem boxes2 (w : World) (t1 t2 : TypeId) (c1 c2 : Array Value) :
    Blk ((w.alloc (.cells c1 t1)).alloc (.cells c2 t2)) w.heap.size t1 c1 ∧ Blk ((w.alloc (.cells c1 t1)).alloc (.cells c2 t2)) (w.heap.size + 1) t2 c2 ∧ Kept Nothing w ((w.alloc (.cells c1 t1)).alloc (.cells c2 t2)) := by
  refine ⟨(Blk.fresh w _ _).alloc _, ?_, ((Kept.refl _ w).alloc _).alloc _⟩
  have := Blk.fresh (w.alloc (.cells c1 t1)) t2 c2
  rwa [World.size_alloc] at this
theorem boxes3 (w : World) (t1 t2 t3 : TypeId) (c1 c2 c3 : Array Value) :
    Blk (((w.alloc (.cells c1 t1)).alloc (.cells c2 t2)).alloc (.cells c3 t3)) w.heap.size t1 c1 ∧ Blk (((w.alloc (.cells c1 t1)).alloc (.cells c2 t2)).alloc (.cells c3 t3)) (w.heap.size + 1) t2 c2 ∧ Blk (((w.alloc (.cells c1 t1)).alloc (.cells c2 t2)).alloc (.cells c3 t3)) (w.heap.size + 1 + 1) t3 c3 ∧
      Kept Nothing w (((w.alloc (.cells c1 t1)).alloc (.cells c2 t2)).alloc (.cells c3 t3)) := by
  obtain ⟨h1, h2, h3⟩ := boxes2 w t1 t2 c1 c2
  refine ⟨h1.alloc _, h2.alloc _, ?_, h3.alloc _⟩
  have := Blk.fresh ((w.alloc (.cells c1 t1)).alloc (.cells c2 t2)) t3 c3
  rwa [World.size_alloc, World.size_alloc] at this
/-- The answer lies in its cell, and the actions are handed out. -/
theorem res_fin {k : IntKind} {w u : World} {g n : Nat} {A : Option Addr} {c : Nat} {st hd : Nat} {x y : Int} {l : List Sm.Act} {bs : List UInt8} (hn : n = l.length) (ha : Acs k u (.slice A n c) l bs) (hB : Blk u g 24 #[.int .i64 x, .int .i64 y]) (hk : Kept Nothing w u) (hg : w.heap.size ≤ g) :
    Res k w (u.setRow g #[.int .i64 st, .int .i64 hd]) (.returned (.tuple #[.agg #[.int .i64 (st : Int), .int .i64 (hd : Int)], .slice A n c])) (⟨st, hd⟩, l) bs := by
  subst hn
  exact ⟨A, c, rfl, ha.mach hB (Kept.setRow _ _), hk.trans_new (Kept.setRow _ _) (fun i hi (e : i = g) => by omega)⟩
theorem res_fin2 {k : IntKind} {w v : World} {g n : Nat} {A : Option Addr} {c : Nat} {st hd : Nat} {x y : Int} {l : List Sm.Act} {bs : List UInt8} (hn : n = l.length) (ha : Acs k v (.slice A n c) l bs) (hB : Blk v g 24 #[.int .i64 x, .int .i64 y]) (hk : Kept Nothing w v) (hg : w.heap.size ≤ g) :
    Res k w ((v.setCell ⟨g, 0, none⟩ (.int .i64 st)).setCell ⟨g, 1, none⟩ (.int .i64 hd)) (.returned (.tuple #[.agg #[.int .i64 (st : Int), .int .i64 (hd : Int)], .slice A n c])) (⟨st, hd⟩, l) bs := by
  subst hn
  have k1 := Kept.own v g 0 (.int .i64 st)
  have k2 := Kept.own (v.setCell ⟨g, 0, none⟩ (.int .i64 st)) g 1 (.int .i64 hd)
  have kk := k1.trans k2
  exact ⟨A, c, rfl, ha.mach hB kk, hk.trans_new kk (fun i hi (e : i = g) => by omega)⟩
theorem fin_blk {v : World} {g : Nat} {x y : Int} {st hd : Int} (hB : Blk v g 24 #[.int .i64 x, .int .i64 y]) : Blk ((v.setCell ⟨g, 0, none⟩ (.int .i64 st)).setCell ⟨g, 1, none⟩ (.int .i64 hd)) g 24 #[.int .i64 st, .int .i64 hd] := (hB.put 0 _).put 1 _
theorem mcells {v : World} {g : Nat} {x y : Value} (hB : Blk v g 24 #[x, y]) : v.cell? ⟨g, 0, none⟩ = some x ∧ v.cell? ⟨g, 1, none⟩ = some y ∧ v.frozen? ⟨g, 0, none⟩ = false ∧ v.frozen? ⟨g, 1, none⟩ = false := ⟨hB.cell 0, hB.cell 1, hB.free 0, hB.free 1⟩
/-- A literal of actions. -/
theorem acs_lit {w : World} {dA : Option Addr} {dn dc n : Nat} {bs : List UInt8} (hb : By w (.slice dA dn dc) bs) (l : List Sm.Act) (cs : Array Value) (hc : cs.toList = Sm.cls .u8 (.slice dA dn dc) l) (hn : n = l.length) (hl : n ≤ 1000) (h0 : 0 < n) : Acs .u8 (w.alloc (.cells cs 109)) (.slice (some ⟨w.heap.size, 0, none⟩) n n) l bs := by
  have hB := Blk.fresh w 109 cs
  have e : cs = (Sm.cls .u8 (.slice dA dn dc) l).toArray := by rw [← hc]
  rw [e] at hB ⊢
  exact Acs.fresh (hb.old ((Kept.refl _ w).alloc _)) hB hn (Nat.le_refl _) (by unfold maxLen; omega) h0
/-- The answer was laid first, the actions then. -/
theorem res_fin3 {w v : World} {g n b : Nat} {st hd : Nat} {l : List Sm.Act} {bs : List UInt8} {dA : Option Addr} {dn dc : Nat} (cs : Array Value) (hc : cs.toList = Sm.cls .u8 (.slice dA dn dc) l) (hn : n = l.length) (hl : n ≤ 1000) (h0 : 0 < n) (hbs : By w (.slice dA dn dc) bs) (hk : Kept Nothing w v) (hg : w.heap.size ≤ g) (hb : b = v.heap.size) :
    Res .u8 w (((v.setCell ⟨g, 0, none⟩ (.int .i64 st)).setCell ⟨g, 1, none⟩ (.int .i64 hd)).alloc (.cells cs 109)) (.returned (.tuple #[.agg #[.int .i64 (st : Int), .int .i64 (hd : Int)], .slice (some ⟨b, 0, none⟩) n n])) (⟨st, hd⟩, l) bs := by
  have k1 := Kept.own v g 0 (.int .i64 st)
  have k2 := Kept.own (v.setCell ⟨g, 0, none⟩ (.int .i64 st)) g 1 (.int .i64 hd)
  have kk := hk.trans_new (k1.trans k2) (fun i hi (e : i = g) => by omega)
  have ha := acs_lit (hbs.old kk) l cs hc hn hl h0
  obtain rfl : b = ((v.setCell ⟨g, 0, none⟩ (.int .i64 st)).setCell ⟨g, 1, none⟩ (.int .i64 hd)).heap.size := by rw [hb]; simp
  subst hn
  exact ⟨_, _, rfl, ha, kk.alloc _⟩
/-- The event's data: as they came, or copied by the call. -/
def Dv (w u : World) (dv : Value) (bs : List UInt8) : Prop := By w dv bs ∨ Bs u dv bs
theorem Dv.by {w u : World} {dv : Value} {bs : List UInt8} (h : Dv w u dv bs) (k : Kept Nothing w u) : By u dv bs := h.elim (fun h => h.old k) (fun h => h.by)
theorem Dv.old {w u u' : World} {dv : Value} {bs : List UInt8} (h : Dv w u dv bs) (k : Kept Nothing u u') : Dv w u' dv bs := h.imp id (fun h => h.kept k (NoBytes.nothing _))
theorem Dv.app {w u u' : World} {dv : Value} {bs : List UInt8} (h : Dv w u dv bs) (k : ∀ v l, Bs u v l → Bs u' v l) : Dv w u' dv bs := h.imp id (k _ _)
theorem ow_weak {w : World} {b b0 : Nat} {e : TypeId} {size n : Nat} {v : Value} {xs : List Value} (h : w.ownsRow b e size v n xs) (hb : b0 ≤ b) : w.ownsRow b0 e size v n xs := by
  obtain ⟨h1, h2⟩ := h
  refine ⟨h1, ?_⟩
  rcases h2 with h2 | ⟨g, cap, cur, e, hg, r⟩
  · exact .inl h2
  · exact .inr ⟨g, cap, cur, e, Nat.le_trans hb hg, r⟩
/-- What a call of the machine answers, its row the call's own. -/
def ResO (w0 w w' : World) (e : Ending) (r : Sm.M × List Sm.Act) (bs : List UInt8) : Prop :=
  ∃ A n c dA dn dc, e = .returned (.tuple #[.agg #[.int .i64 r.1.state, .int .i64 r.1.hold], .slice A n c]) ∧ n = r.2.length ∧ w'.ownsRow w.heap.size 109 6 (.slice A n c) n (Sm.cls .u8 (.slice dA dn dc) r.2) ∧ Dv w0 w' (.slice dA dn dc) bs ∧ Kept Nothing w w'
theorem ResO.res {w0 w w' : World} {e : Ending} {r : Sm.M × List Sm.Act} {bs : List UInt8} (h : ResO w0 w w' e r bs) (h0 : Kept Nothing w0 w) : Res .u8 w w' e r bs := by
  obtain ⟨A, n, c, dA, dn, dc, rfl, rfl, ho, hd, hk⟩ := h
  exact ⟨A, c, rfl, Acs.of_own ho (hd.by (h0.trans hk)), hk⟩
theorem kept_two {v : World} (g : Nat) (a b : Value) : Kept (Only g) v ((v.setCell ⟨g, 0, none⟩ a).setCell ⟨g, 1, none⟩ b) := (Kept.own v g 0 a).trans (Kept.own (v.setCell ⟨g, 0, none⟩ a) g 1 b)
theorem resO_fin2 {w0 w v : World} {g n : Nat} {A : Option Addr} {c : Nat} {st hd : Nat} {x y : Int} {l : List Sm.Act} {bs : List UInt8} {dA : Option Addr} {dn dc : Nat} (hn : n = l.length) (ho : v.ownsRow w.heap.size 109 6 (.slice A n c) n (Sm.cls .u8 (.slice dA dn dc) l)) (hd' : Dv w0 v (.slice dA dn dc) bs) (hB : Blk v g 24 #[.int .i64 x, .int .i64 y]) (hk : Kept Nothing w v) (hg : w.heap.size ≤ g) :
    ResO w0 w ((v.setCell ⟨g, 0, none⟩ (.int .i64 st)).setCell ⟨g, 1, none⟩ (.int .i64 hd)) (.returned (.tuple #[.agg #[.int .i64 (st : Int), .int .i64 (hd : Int)], .slice A n c])) (⟨st, hd⟩, l) bs := by
  have kk := kept_two (v := v) g (.int .i64 st) (.int .i64 hd)
  refine ⟨A, n, c, dA, dn, dc, rfl, hn, ow_kept ho kk (ow_far ho hB (by decide)), hd'.imp id (fun h => h.kept kk (NoBytes.of_blk hB (by decide))), hk.trans_new kk (fun i hi (e : i = g) => by omega)⟩
end Go.Proofs.YtembdobkgpojfaaDoor
