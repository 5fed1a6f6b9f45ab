
/-
  session: the document's machine: rows of actions in memory; ends, holds, early.
-/
import Derived.Test.YtembdobkgpojfaaDoorSMw
namespace Go.Proofs.YtembdobkgpojfaaDoor
open Go.RowKit

theorem ract_info : (Tryd.prog.info? 107).map (fun i => (i.zero, i.size, i.bytes)) = some (some (.agg #[.int .i64 0, .int .i64 0, .int .i64 0, .int .i64 0, .int .i64 0, .slice none 0 0]), 6, 64) := by kernel_rfl
/-- append of actions onto a row of the call's own. -/
theorem wp_appR {o : Oper} {a : Act} {K : Act → World → Prop} {Q : Exit → Act → World → Prop} {w : World} (s x : Operand)
    (ho : o.op = .call { callee := .builtin .append, args := #[s, x], argTypes := #[33, 33] })
    (w0 : World) (dv : Value) (A : Option Addr) (n c : Nat) (L M : List Sm.Act) (hn : n = L.length) (hv : a.eval s = .slice A n c) (hown : w.ownsRow w0.heap.size 107 6 (.slice A n c) n (Sm.cls .i64 dv L))
    (B : Option Addr) (m cc : Nat) (hx : a.eval x = .slice B m cc) (hm : m = M.length) (hs : Src w 6 B M.length (Sm.cls .i64 dv M)) (hl : L.length + M.length ≤ 1000) (hk : Kept Nothing w0 w)
    (h : ∀ (A' : Option Addr) (n' c' : Nat) (w' : World), n' = (L ++ M).length → w'.ownsRow w0.heap.size 107 6 (.slice A' n' c') n' (Sm.cls .i64 dv (L ++ M)) → Kept Nothing w0 w' → (∀ g t cs, t ≠ 107 → Blk w g t cs → Blk w' g t cs) → K (a.put o.dst (.slice A' n' c')) w') : o.wp Tryd.prog a w K Q := by
  subst hn hm
  obtain ⟨i0, hi, hz0, hz1, hz2⟩ := info_parts ract_info
  refine wp_app w s x 33 ho w0.heap.size 107 i0 _ 6 64 Tryd.underlying33 hi hz0 hz1 hz2 rfl (by decide) (.slice A L.length c) L.length (Sm.cls .i64 dv L) hv hown B M.length cc (Sm.cls .i64 dv M) hx hs (by unfold maxLen; omega) (by omega) hk.size ?_
  intro v' w' ho' hg _
  rw [← Sm.cls_append, ← List.length_append] at ho'
  obtain ⟨A', c', rfl, -, -⟩ := ow_form ho'
  exact h A' _ c' w' rfl ho' (own_grown hk hown (Nat.le_refl _) hg) (fun g t cs hne hB => own_blk hB hown (fun e => hne e.symm) hg)
theorem wpList_appR {ops : Array Oper} {rest : List Oper} {o : Oper} {a : Act} {Q : Exit → Act → World → Prop} {w : World} (hgd : o.guard = none) (s x : Operand)
    (ho : o.op = .call { callee := .builtin .append, args := #[s, x], argTypes := #[33, 33] })
    (w0 : World) (dv : Value) (A : Option Addr) (n c : Nat) (L M : List Sm.Act) (hn : n = L.length) (hv : a.eval s = .slice A n c) (hown : w.ownsRow w0.heap.size 107 6 (.slice A n c) n (Sm.cls .i64 dv L))
    (B : Option Addr) (m cc : Nat) (hx : a.eval x = .slice B m cc) (hm : m = M.length) (hs : Src w 6 B M.length (Sm.cls .i64 dv M)) (hl : L.length + M.length ≤ 1000) (hk : Kept Nothing w0 w)
    (h : ∀ (A' : Option Addr) (n' c' : Nat) (w' : World), n' = (L ++ M).length → w'.ownsRow w0.heap.size 107 6 (.slice A' n' c') n' (Sm.cls .i64 dv (L ++ M)) → Kept Nothing w0 w' → (∀ g t cs, t ≠ 107 → Blk w g t cs → Blk w' g t cs) → wpList Tryd.prog ops Q rest (a.put o.dst (.slice A' n' c')) w') : wpList Tryd.prog ops Q (o :: rest) a w :=
  wpList_plain hgd fun _ hK => wp_appR s x ho w0 dv A n c L M hn hv hown B m cc hx hm hs hl hk fun A' n' c' w' h1 h2 h3 h4 => hK _ _ (h A' n' c' w' h1 h2 h3 h4)
theorem step_appR {ops : Array Oper} {o : Oper} {a : Act} {K : Act → World → Prop} {Q : Exit → Act → World → Prop} {E : Prop} {w : World} (hgd : o.guard = none) (s x : Operand)
    (ho : o.op = .call { callee := .builtin .append, args := #[s, x], argTypes := #[33, 33] })
    (w0 : World) (dv : Value) (A : Option Addr) (n c : Nat) (L M : List Sm.Act) (hn : n = L.length) (hv : a.eval s = .slice A n c) (hown : w.ownsRow w0.heap.size 107 6 (.slice A n c) n (Sm.cls .i64 dv L))
    (B : Option Addr) (m cc : Nat) (hx : a.eval x = .slice B m cc) (hm : m = M.length) (hs : Src w 6 B M.length (Sm.cls .i64 dv M)) (hl : L.length + M.length ≤ 1000) (hk : Kept Nothing w0 w)
    (h : ∀ (A' : Option Addr) (n' c' : Nat) (w' : World), n' = (L ++ M).length → w'.ownsRow w0.heap.size 107 6 (.slice A' n' c') n' (Sm.cls .i64 dv (L ++ M)) → Kept Nothing w0 w' → (∀ g t cs, t ≠ 107 → Blk w g t cs → Blk w' g t cs) → K (a.put o.dst (.slice A' n' c')) w') :
    if Region.wanted o (yielded ops a.tmps) = true then Oper.wp Tryd.prog o a w K Q else E := by
  have hw : Region.wanted o (yielded ops a.tmps) = true := by simp [Region.wanted, hgd]
  rw [if_pos hw]
  exact wp_appR s x ho w0 dv A n c L M hn hv hown B m cc hx hm hs hl hk h
/-- A literal of actions as a source. -/
theorem src_blkR {w : World} {g : Nat} (dA : Option Addr) (dn dc : Nat) (M : List Sm.Act) (cs : Array Value) (hB : Blk w g 107 cs) (hc : cs.toList = Sm.cls .i64 (.slice dA dn dc) M) : Src w 6 (some ⟨g, 0, none⟩) M.length (Sm.cls .i64 (.slice dA dn dc) M) := by
  refine ⟨Sm.cls_length _ _ _, (fun e => by cases e), fun a ha j u hu => ?_, Sm.cls_one _ _ _ _ _⟩
  injection ha with ha
  subst ha
  rw [add_none, Nat.zero_add, hB.cell, ← hu, ← hc, Array.getElem?_toList]
theorem src_litR (w : World) (dA : Option Addr) (dn dc : Nat) (M : List Sm.Act) (cs : Array Value) (hc : cs.toList = Sm.cls .i64 (.slice dA dn dc) M) : Src (w.alloc (.cells cs 107)) 6 (some ⟨w.heap.size, 0, none⟩) M.length (Sm.cls .i64 (.slice dA dn dc) M) :=
  src_blkR dA dn dc M cs (Blk.fresh w _ cs) hc
theorem tellR_cells (c s : Nat) (d : Bool) (dv v : Value) (h : (if d = true then dv else .slice none 0 0) = v) : (#[.int .i64 2, .int .i64 0, .int .i64 0, .int .i64 c, .int .i64 s, v] : Array Value).toList = Sm.cls .i64 dv [⟨2, 0, 0, c, s, d⟩] := by
  subst h
  rfl
/-- A row of a new block is the call's own. -/
theorem own_blkR (w0 : World) {w : World} {g : Nat} (hb : w0.heap.size ≤ g) (dv : Value) (l : List Sm.Act) (cs : Array Value) (n : Nat) (hn : n = l.length) (hc : cs.toList = Sm.cls .i64 dv l) (hm : n ≤ 1000) (hB : Blk w g 107 cs) : w.ownsRow w0.heap.size 107 6 (.slice (some ⟨g, 0, none⟩) n n) n (Sm.cls .i64 dv l) := by
  subst hn
  have hs : cs.size = l.length * 6 := by rw [← Array.length_toList, hc, Sm.cls_length]
  exact ⟨by rw [Sm.cls_length], .inr ⟨g, l.length, cs, rfl, hb, hB, Nat.le_refl _, by unfold maxLen; omega, hs, by rw [hc, List.take_of_length_le (by rw [Sm.cls_length]; omega)]⟩⟩
/-- What a call of the document's machine answers. -/
def RR (dv : Value) (w w' : World) (e : Ending) (r : Sm.M × List Sm.Act) : Prop :=
  ∃ A n c, e = .returned (.tuple #[.agg #[.int .i64 r.1.state, .int .i64 r.1.hold], .slice A n c]) ∧ n = r.2.length ∧ w'.ownsRow w.heap.size 107 6 (.slice A n c) n (Sm.cls .i64 dv r.2) ∧ Kept Nothing w w'
theorem ret_machR {fn : Func} {p u : Tmp} (h : fn.results = #[.cell p 26, .tmp u]) (tm : Array Value) (W : World) (g : Nat) (a b v : Value) (hp : tm.getD p undef = .pointer (some ⟨g, 0, none⟩)) (hv : tm.getD u undef = v) (hB : Blk W g 26 #[a, b]) :
    (results fn tm).run Tryd.prog W = .ok (.tuple #[.agg #[a, b], v]) W := by
  have hL := run_loadVar_row (P := Tryd.prog) W g 26 26 _ (0, 0) _ hB Tryd.underlying26 rfl (by kernel_rfl)
  rw [results_cell_tmp h, hp, hv]
  simp only [asAddr, Sem.run_pure, Result.andThen_ok, hL]
theorem fin_blkR {v : World} {g : Nat} {x y : Int} {st hd : Int} (hB : Blk v g 26 #[.int .i64 x, .int .i64 y]) : Blk ((v.setCell ⟨g, 0, none⟩ (.int .i64 st)).setCell ⟨g, 1, none⟩ (.int .i64 hd)) g 26 #[.int .i64 st, .int .i64 hd] := (hB.put 0 _).put 1 _
theorem mcellsR {v : World} {g : Nat} {t : TypeId} {x y : Value} (hB : Blk v g t #[x, y]) : v.cell? ⟨g, 0, none⟩ = some x ∧ v.cell? ⟨g, 1, none⟩ = some y ∧ v.frozen? ⟨g, 0, none⟩ = false ∧ v.frozen? ⟨g, 1, none⟩ = false := ⟨hB.cell 0, hB.cell 1, hB.free 0, hB.free 1⟩
theorem rr_own {dv : Value} {w v : World} {g n : Nat} {A : Option Addr} {c : Nat} {st hd : Nat} {x y : Int} {l : List Sm.Act} (hn : n = l.length) (ho : v.ownsRow w.heap.size 107 6 (.slice A n c) n (Sm.cls .i64 dv l)) (hB : Blk v g 26 #[.int .i64 x, .int .i64 y]) (hk : Kept Nothing w v) (hg : w.heap.size ≤ g) :
    RR dv w ((v.setCell ⟨g, 0, none⟩ (.int .i64 st)).setCell ⟨g, 1, none⟩ (.int .i64 hd)) (.returned (.tuple #[.agg #[.int .i64 (st : Int), .int .i64 (hd : Int)], .slice A n c])) (⟨st, hd⟩, l) := by
  have kk := kept_two (v := v) g (.int .i64 st) (.int .i64 hd)
  exact ⟨A, n, c, rfl, hn, ow_kept ho kk (ow_far ho hB (by decide)), hk.trans_new kk (fun i hi (e : i = g) => by omega)⟩
theorem rr_nil {dv : Value} {w v : World} {g : Nat} {st hd : Nat} {x y : Int} (hB : Blk v g 26 #[.int .i64 x, .int .i64 y]) (hk : Kept Nothing w v) (hg : w.heap.size ≤ g) :
    RR dv w ((v.setCell ⟨g, 0, none⟩ (.int .i64 st)).setCell ⟨g, 1, none⟩ (.int .i64 hd)) (.returned (.tuple #[.agg #[.int .i64 (st : Int), .int .i64 (hd : Int)], .slice none 0 0])) (⟨st, hd⟩, []) :=
  rr_own (l := []) rfl (World.ownsRow_nil _ _ _ _) hB hk hg
theorem rr_lit {dv : Value} {w v : World} {g n b : Nat} {st hd : Nat} {l : List Sm.Act} (cs : Array Value) (hc : cs.toList = Sm.cls .i64 dv l) (hn : n = l.length) (hl : n ≤ 1000) (hk : Kept Nothing w v) (hg : w.heap.size ≤ g) (hb : b = v.heap.size) :
    RR dv w (((v.setCell ⟨g, 0, none⟩ (.int .i64 st)).setCell ⟨g, 1, none⟩ (.int .i64 hd)).alloc (.cells cs 107)) (.returned (.tuple #[.agg #[.int .i64 (st : Int), .int .i64 (hd : Int)], .slice (some ⟨b, 0, none⟩) n n])) (⟨st, hd⟩, l) := by
  have kk := hk.trans_new (kept_two (v := v) g (.int .i64 st) (.int .i64 hd)) (fun i hi (e : i = g) => by omega)
  obtain rfl : b = ((v.setCell ⟨g, 0, none⟩ (.int .i64 st)).setCell ⟨g, 1, none⟩ (.int .i64 hd)).heap.size := by rw [hb]; simp
  exact ⟨_, _, _, rfl, hn, own_blkR w kk.size dv l cs n hn hc hl (Blk.fresh _ _ _), kk.alloc _⟩
/-- The actions so far. -/
structure SofR (w u : World) (g : Nat) (dv : Value) (L : List Sm.Act) (A : Option Addr) (n c : Nat) : Prop where
  len : n = L.length
  own : u.ownsRow w.heap.size 107 6 (.slice A n c) n (Sm.cls .i64 dv L)
  k : Kept Nothing w u
  r : Blk u g 26 #[.int .i64 0, .int .i64 0]
theorem SofR.old {w u u' : World} {g : Nat} {dv : Value} {L : List Sm.Act} {A : Option Addr} {n c : Nat} (h : SofR w u g dv L A n c) (k : Kept Nothing u u') : SofR w u' g dv L A n c :=
  ⟨h.len, ow_kept h.own k (fun _ _ x => x), h.k.trans k, h.r.kept k (fun x => x)⟩

set_option maxRecDepth 100000 in
set_option maxHeartbeats 8000000 in
theorem rs_ends1 (st : Nat) (kd : Int) (b : Bool) (hb : decide (kd = 2) = b) (c s : Nat) (h1 : ((c : Int) == 0) = false) (d : Bool) (dA : Option Addr) (dn dc : Nat) (vA : Option Addr) (vn vc : Nat) (hv : (if d = true then (.slice dA dn dc : Value) else .slice none 0 0) = .slice vA vn vc) (w : World) :
    Calls Tryd.prog 60 #[.int .i64 st, .int .i64 kd, .int .i64 c, .int .i64 s, .slice vA vn vc] w fun e w' => RR (.slice dA dn dc) w w' e (Sm.ends st b c s d) := by
  have HV := Lib.hid hv
  have S0 : Hid (SofR w (w.alloc (.cells #[.int .i64 0, .int .i64 0] 26)) w.heap.size (.slice dA dn dc) [] none 0 0) := Lib.hid ⟨rfl, World.ownsRow_nil _ _ _ _, (Kept.refl Nothing w).alloc _, Blk.fresh w _ _⟩
  have HG : Hid (w.heap.size ≤ w.heap.size) := Lib.hid (Nat.le_refl _)
  clear hv
  have HE : Hid (Sm.ends st b c s d = (⟨1, 0⟩, (([⟨2, 0, 0, c, s, d⟩] ++ [Sm.a0 5, Sm.unset 1, Sm.unset 2, Sm.unset 3]) ++ (if st = 6 then [Sm.a0 8] else [])) ++ (if kd = 2 then [] else [Sm.set 1 120]))) := Lib.hid (by
    by_cases h : kd = 2 <;> by_cases h6 : st = 6 <;> simp [← hb, Sm.ends, Sm.tell, h, h6]
    all_goals simp at h1
    all_goals simp [h1])
  clear hb
  go_enter Tryd.func60, Tryd.ntmps60
  go_upto_region 2 with fail
  change Code.wp _ _ _ _ (w.alloc (.cells #[.int .i64 0, .int .i64 0] 26))
  generalize w.alloc (.cells #[.int .i64 0, .int .i64 0] 26) = W0 at *
  have g0 : Nat := 0
  clear g0
  obtain ⟨g0, hg0⟩ : ∃ g0, g0 = w.heap.size := ⟨_, rfl⟩
  rw [← hg0] at S0 HG ⊢
  replace HG : Hid (w.heap.size ≤ g0) := Lib.hid (by omega)
  clear hg0
  have k1 := (Kept.refl Nothing W0).alloc (.cells #[.int .i64 2, .int .i64 0, .int .i64 0, .int .i64 c, .int .i64 s, .slice vA vn vc] 107)
  have T1 := Lib.hid (S0.out.old k1)
  clear k1
  go_upto_region 4 with (at_builtin; refine wpList_appR rfl _ _ rfl w (.slice dA dn dc) none 0 0 [] [⟨2, 0, 0, c, s, d⟩] rfl rfl T1.out.own (some ⟨W0.heap.size, 0, none⟩) 1 1 rfl rfl (src_litR W0 dA dn dc [⟨2, 0, 0, c, s, d⟩] _ (tellR_cells _ _ d _ _ HV.out)) (by simp) T1.out.k ?_; intro A1 n1 c1 w1 hn1 ho1 hk1 hb1; (have S1 : Hid (SofR w w1 g0 (.slice dA dn dc) [⟨2, 0, 0, c, s, d⟩] A1 n1 c1) := Lib.hid ⟨hn1, ho1, hk1, hb1 _ _ _ (by decide) T1.out.r⟩); clear hn1 ho1 hk1 hb1)
  clear S0 T1 HV
  have k4 := (Kept.refl Nothing w1).alloc (.cells #[.int .i64 5, .int .i64 0, .int .i64 0, .int .i64 0, .int .i64 0, .slice none 0 0, .int .i64 4, .int .i64 1, .int .i64 0, .int .i64 0, .int .i64 0, .slice none 0 0, .int .i64 4, .int .i64 2, .int .i64 0, .int .i64 0, .int .i64 0, .slice none 0 0, .int .i64 4, .int .i64 3, .int .i64 0, .int .i64 0, .int .i64 0, .slice none 0 0] 107)
  have T4 := Lib.hid (S1.out.old k4)
  clear k4
  go_upto_region 5 with (at_builtin; refine wpList_appR rfl _ _ rfl w (.slice dA dn dc) A1 n1 c1 [⟨2, 0, 0, c, s, d⟩] [Sm.a0 5, Sm.unset 1, Sm.unset 2, Sm.unset 3] S1.out.len rfl T4.out.own (some ⟨w1.heap.size, 0, none⟩) 4 4 rfl rfl (src_litR w1 dA dn dc [Sm.a0 5, Sm.unset 1, Sm.unset 2, Sm.unset 3] _ rfl) (by simp) T4.out.k ?_; intro A4 n4 c4 w4 hn4 ho4 hk4 hb4; (have S4 : Hid (SofR w w4 g0 (.slice dA dn dc) ([⟨2, 0, 0, c, s, d⟩] ++ [Sm.a0 5, Sm.unset 1, Sm.unset 2, Sm.unset 3]) A4 n4 c4) := Lib.hid ⟨hn4, ho4, hk4, hb4 _ _ _ (by decide) T4.out.r⟩); clear hn4 ho4 hk4 hb4)
  clear T4 S1
  obtain ⟨L4, hL4⟩ : ∃ L4, [⟨2, 0, 0, c, s, d⟩] ++ [Sm.a0 5, Sm.unset 1, Sm.unset 2, Sm.unset 3] = L4 := ⟨_, rfl⟩
  have HL4 : Hid (L4.length ≤ 5) := Lib.hid (by rw [← hL4]; simp)
  rw [hL4] at S4 HE
  clear hL4
  by_cases h6 : st = 6
  · subst h6
    rw [if_pos rfl] at HE
    have k6 := (Kept.refl Nothing w4).alloc (.cells #[.int .i64 8, .int .i64 0, .int .i64 0, .int .i64 0, .int .i64 0, .slice none 0 0] 107)
    have T6 := Lib.hid (S4.out.old k6)
    clear k6
    go_upto_region 7 with (at_builtin; refine wpList_appR rfl _ _ rfl w (.slice dA dn dc) A4 n4 c4 L4 [Sm.a0 8] S4.out.len rfl T6.out.own (some ⟨w4.heap.size, 0, none⟩) 1 1 rfl rfl (src_litR w4 dA dn dc [Sm.a0 8] _ rfl) (by have := HL4.out; simp; omega) T6.out.k ?_; intro A6 n6 c6 w6 hn6 ho6 hk6 hb6; (have S6 : Hid (SofR w w6 g0 (.slice dA dn dc) (L4 ++ [Sm.a0 8]) A6 n6 c6) := Lib.hid ⟨hn6, ho6, hk6, hb6 _ _ _ (by decide) T6.out.r⟩); clear hn6 ho6 hk6 hb6)
    clear T6 S4
    by_cases hk2 : kd = 2
    · subst hk2
      rw [if_pos rfl] at HE
      rw [List.append_nil] at HE
      obtain ⟨r0, r1, f0, f1⟩ := mcellsR S6.out.r
      go_wp2
      rw [HE.out]
      exact bodyPost_ret (ret_machR rfl _ _ g0 _ _ _ rfl rfl (fin_blkR S6.out.r)) rfl (rr_own S6.out.len S6.out.own S6.out.r S6.out.k HG.out)
    · have hk2i : (kd == 2) = false := by simpa using hk2
      rw [if_neg hk2] at HE
      clear hk2
      have k8 := (Kept.refl Nothing w6).alloc (.cells #[.int .i64 3, .int .i64 1, .int .i64 120, .int .i64 0, .int .i64 0, .slice none 0 0] 107)
      have T8 := Lib.hid (S6.out.old k8)
      clear k8
      go_upto_region 9 with (at_builtin; refine wpList_appR rfl _ _ rfl w (.slice dA dn dc) A6 n6 c6 (L4 ++ [Sm.a0 8]) [Sm.set 1 120] S6.out.len rfl T8.out.own (some ⟨w6.heap.size, 0, none⟩) 1 1 rfl rfl (src_litR w6 dA dn dc [Sm.set 1 120] _ rfl) (by have := HL4.out; simp; omega) T8.out.k ?_; intro A8 n8 c8 w8 hn8 ho8 hk8 hb8; (have S8 : Hid (SofR w w8 g0 (.slice dA dn dc) ((L4 ++ [Sm.a0 8]) ++ [Sm.set 1 120]) A8 n8 c8) := Lib.hid ⟨hn8, ho8, hk8, hb8 _ _ _ (by decide) T8.out.r⟩); clear hn8 ho8 hk8 hb8)
      clear T8 S6
      obtain ⟨r0, r1, f0, f1⟩ := mcellsR S8.out.r
      go_wp2
      rw [HE.out]
      exact bodyPost_ret (ret_machR rfl _ _ g0 _ _ _ rfl rfl (fin_blkR S8.out.r)) rfl (rr_own S8.out.len S8.out.own S8.out.r S8.out.k HG.out)
  · have h6i : ((st : Int) == 6) = false := by simp; omega
    rw [if_neg h6, List.append_nil] at HE
    clear h6
    go_upto_region 7 with fail
    by_cases hk2 : kd = 2
    · subst hk2
      rw [if_pos rfl] at HE
      rw [List.append_nil] at HE
      obtain ⟨r0, r1, f0, f1⟩ := mcellsR S4.out.r
      go_wp2
      rw [HE.out]
      exact bodyPost_ret (ret_machR rfl _ _ g0 _ _ _ rfl rfl (fin_blkR S4.out.r)) rfl (rr_own S4.out.len S4.out.own S4.out.r S4.out.k HG.out)
    · have hk2i : (kd == 2) = false := by simpa using hk2
      rw [if_neg hk2] at HE
      clear hk2
      have k8 := (Kept.refl Nothing w4).alloc (.cells #[.int .i64 3, .int .i64 1, .int .i64 120, .int .i64 0, .int .i64 0, .slice none 0 0] 107)
      have T8 := Lib.hid (S4.out.old k8)
      clear k8
      go_upto_region 9 with (at_builtin; refine wpList_appR rfl _ _ rfl w (.slice dA dn dc) A4 n4 c4 L4 [Sm.set 1 120] S4.out.len rfl T8.out.own (some ⟨w4.heap.size, 0, none⟩) 1 1 rfl rfl (src_litR w4 dA dn dc [Sm.set 1 120] _ rfl) (by have := HL4.out; simp; omega) T8.out.k ?_; intro A8 n8 c8 w8 hn8 ho8 hk8 hb8; (have S8 : Hid (SofR w w8 g0 (.slice dA dn dc) (L4 ++ [Sm.set 1 120]) A8 n8 c8) := Lib.hid ⟨hn8, ho8, hk8, hb8 _ _ _ (by decide) T8.out.r⟩); clear hn8 ho8 hk8 hb8)
      clear T8 S4
      obtain ⟨r0, r1, f0, f1⟩ := mcellsR S8.out.r
      go_wp2
      rw [HE.out]
      exact bodyPost_ret (ret_machR rfl _ _ g0 _ _ _ rfl rfl (fin_blkR S8.out.r)) rfl (rr_own S8.out.len S8.out.own S8.out.r S8.out.k HG.out)
set_option maxRecDepth 100000 in
set_option maxHeartbeats 8000000 in
theorem rs_ends2 (st : Nat) (kd : Int) (b : Bool) (hb : decide (kd = 2) = b) (s : Nat) (h1 : ((s : Int) == 0) = false) (d : Bool) (dA : Option Addr) (dn dc : Nat) (vA : Option Addr) (vn vc : Nat) (hv : (if d = true then (.slice dA dn dc : Value) else .slice none 0 0) = .slice vA vn vc) (w : World) :
    Calls Tryd.prog 60 #[.int .i64 st, .int .i64 kd, .int .i64 0, .int .i64 s, .slice vA vn vc] w fun e w' => RR (.slice dA dn dc) w w' e (Sm.ends st b 0 s d) := by
  have HV := Lib.hid hv
  have S0 : Hid (SofR w (w.alloc (.cells #[.int .i64 0, .int .i64 0] 26)) w.heap.size (.slice dA dn dc) [] none 0 0) := Lib.hid ⟨rfl, World.ownsRow_nil _ _ _ _, (Kept.refl Nothing w).alloc _, Blk.fresh w _ _⟩
  have HG : Hid (w.heap.size ≤ w.heap.size) := Lib.hid (Nat.le_refl _)
  clear hv
  have HE : Hid (Sm.ends st b 0 s d = (⟨1, 0⟩, (([⟨2, 0, 0, 0, s, d⟩] ++ [Sm.a0 5, Sm.unset 1, Sm.unset 2, Sm.unset 3]) ++ (if st = 6 then [Sm.a0 8] else [])) ++ (if kd = 2 then [] else [Sm.set 1 120]))) := Lib.hid (by
    by_cases h : kd = 2 <;> by_cases h6 : st = 6 <;> simp [← hb, Sm.ends, Sm.tell, h, h6]
    all_goals simp at h1
    all_goals simp [h1])
  clear hb
  go_enter Tryd.func60, Tryd.ntmps60
  go_upto_region 2 with fail
  change Code.wp _ _ _ _ (w.alloc (.cells #[.int .i64 0, .int .i64 0] 26))
  generalize w.alloc (.cells #[.int .i64 0, .int .i64 0] 26) = W0 at *
  have g0 : Nat := 0
  clear g0
  obtain ⟨g0, hg0⟩ : ∃ g0, g0 = w.heap.size := ⟨_, rfl⟩
  rw [← hg0] at S0 HG ⊢
  replace HG : Hid (w.heap.size ≤ g0) := Lib.hid (by omega)
  clear hg0
  have k1 := (Kept.refl Nothing W0).alloc (.cells #[.int .i64 2, .int .i64 0, .int .i64 0, .int .i64 0, .int .i64 s, .slice vA vn vc] 107)
  have T1 := Lib.hid (S0.out.old k1)
  clear k1
  go_upto_region 4 with (at_builtin; refine wpList_appR rfl _ _ rfl w (.slice dA dn dc) none 0 0 [] [⟨2, 0, 0, 0, s, d⟩] rfl rfl T1.out.own (some ⟨W0.heap.size, 0, none⟩) 1 1 rfl rfl (src_litR W0 dA dn dc [⟨2, 0, 0, 0, s, d⟩] _ (tellR_cells _ _ d _ _ HV.out)) (by simp) T1.out.k ?_; intro A1 n1 c1 w1 hn1 ho1 hk1 hb1; (have S1 : Hid (SofR w w1 g0 (.slice dA dn dc) [⟨2, 0, 0, 0, s, d⟩] A1 n1 c1) := Lib.hid ⟨hn1, ho1, hk1, hb1 _ _ _ (by decide) T1.out.r⟩); clear hn1 ho1 hk1 hb1)
  clear S0 T1 HV
  have k4 := (Kept.refl Nothing w1).alloc (.cells #[.int .i64 5, .int .i64 0, .int .i64 0, .int .i64 0, .int .i64 0, .slice none 0 0, .int .i64 4, .int .i64 1, .int .i64 0, .int .i64 0, .int .i64 0, .slice none 0 0, .int .i64 4, .int .i64 2, .int .i64 0, .int .i64 0, .int .i64 0, .slice none 0 0, .int .i64 4, .int .i64 3, .int .i64 0, .int .i64 0, .int .i64 0, .slice none 0 0] 107)
  have T4 := Lib.hid (S1.out.old k4)
  clear k4
  go_upto_region 5 with (at_builtin; refine wpList_appR rfl _ _ rfl w (.slice dA dn dc) A1 n1 c1 [⟨2, 0, 0, 0, s, d⟩] [Sm.a0 5, Sm.unset 1, Sm.unset 2, Sm.unset 3] S1.out.len rfl T4.out.own (some ⟨w1.heap.size, 0, none⟩) 4 4 rfl rfl (src_litR w1 dA dn dc [Sm.a0 5, Sm.unset 1, Sm.unset 2, Sm.unset 3] _ rfl) (by simp) T4.out.k ?_; intro A4 n4 c4 w4 hn4 ho4 hk4 hb4; (have S4 : Hid (SofR w w4 g0 (.slice dA dn dc) ([⟨2, 0, 0, 0, s, d⟩] ++ [Sm.a0 5, Sm.unset 1, Sm.unset 2, Sm.unset 3]) A4 n4 c4) := Lib.hid ⟨hn4, ho4, hk4, hb4 _ _ _ (by decide) T4.out.r⟩); clear hn4 ho4 hk4 hb4)
  clear T4 S1
  obtain ⟨L4, hL4⟩ : ∃ L4, [⟨2, 0, 0, 0, s, d⟩] ++ [Sm.a0 5, Sm.unset 1, Sm.unset 2, Sm.unset 3] = L4 := ⟨_, rfl⟩
  have HL4 : Hid (L4.length ≤ 5) := Lib.hid (by rw [← hL4]; simp)
  rw [hL4] at S4 HE
  clear hL4
  by_cases h6 : st = 6
  · subst h6
    rw [if_pos rfl] at HE
    have k6 := (Kept.refl Nothing w4).alloc (.cells #[.int .i64 8, .int .i64 0, .int .i64 0, .int .i64 0, .int .i64 0, .slice none 0 0] 107)
    have T6 := Lib.hid (S4.out.old k6)
    clear k6
    go_upto_region 7 with (at_builtin; refine wpList_appR rfl _ _ rfl w (.slice dA dn dc) A4 n4 c4 L4 [Sm.a0 8] S4.out.len rfl T6.out.own (some ⟨w4.heap.size, 0, none⟩) 1 1 rfl rfl (src_litR w4 dA dn dc [Sm.a0 8] _ rfl) (by have := HL4.out; simp; omega) T6.out.k ?_; intro A6 n6 c6 w6 hn6 ho6 hk6 hb6; (have S6 : Hid (SofR w w6 g0 (.slice dA dn dc) (L4 ++ [Sm.a0 8]) A6 n6 c6) := Lib.hid ⟨hn6, ho6, hk6, hb6 _ _ _ (by decide) T6.out.r⟩); clear hn6 ho6 hk6 hb6)
    clear T6 S4
    by_cases hk2 : kd = 2
    · subst hk2
      rw [if_pos rfl] at HE
      rw [List.append_nil] at HE
      obtain ⟨r0, r1, f0, f1⟩ := mcellsR S6.out.r
      go_wp2
      rw [HE.out]
      exact bodyPost_ret (ret_machR rfl _ _ g0 _ _ _ rfl rfl (fin_blkR S6.out.r)) rfl (rr_own S6.out.len S6.out.own S6.out.r S6.out.k HG.out)
    · have hk2i : (kd == 2) = false := by simpa using hk2
      rw [if_neg hk2] at HE
      clear hk2
      have k8 := (Kept.refl Nothing w6).alloc (.cells #[.int .i64 3, .int .i64 1, .int .i64 120, .int .i64 0, .int .i64 0, .slice none 0 0] 107)
      have T8 := Lib.hid (S6.out.old k8)
      clear k8
      go_upto_region 9 with (at_builtin; refine wpList_appR rfl _ _ rfl w (.slice dA dn dc) A6 n6 c6 (L4 ++ [Sm.a0 8]) [Sm.set 1 120] S6.out.len rfl T8.out.own (some ⟨w6.heap.size, 0, none⟩) 1 1 rfl rfl (src_litR w6 dA dn dc [Sm.set 1 120] _ rfl) (by have := HL4.out; simp; omega) T8.out.k ?_; intro A8 n8 c8 w8 hn8 ho8 hk8 hb8; (have S8 : Hid (SofR w w8 g0 (.slice dA dn dc) ((L4 ++ [Sm.a0 8]) ++ [Sm.set 1 120]) A8 n8 c8) := Lib.hid ⟨hn8, ho8, hk8, hb8 _ _ _ (by decide) T8.out.r⟩); clear hn8 ho8 hk8 hb8)
      clear T8 S6
      obtain ⟨r0, r1, f0, f1⟩ := mcellsR S8.out.r
      go_wp2
      rw [HE.out]
      exact bodyPost_ret (ret_machR rfl _ _ g0 _ _ _ rfl rfl (fin_blkR S8.out.r)) rfl (rr_own S8.out.len S8.out.own S8.out.r S8.out.k HG.out)
  · have h6i : ((st : Int) == 6) = false := by simp; omega
    rw [if_neg h6, List.append_nil] at HE
    clear h6
    go_upto_region 7 with fail
    by_cases hk2 : kd = 2
    · subst hk2
      rw [if_pos rfl] at HE
      rw [List.append_nil] at HE
      obtain ⟨r0, r1, f0, f1⟩ := mcellsR S4.out.r
      go_wp2
      rw [HE.out]
      exact bodyPost_ret (ret_machR rfl _ _ g0 _ _ _ rfl rfl (fin_blkR S4.out.r)) rfl (rr_own S4.out.len S4.out.own S4.out.r S4.out.k HG.out)
    · have hk2i : (kd == 2) = false := by simpa using hk2
      rw [if_neg hk2] at HE
      clear hk2
      have k8 := (Kept.refl Nothing w4).alloc (.cells #[.int .i64 3, .int .i64 1, .int .i64 120, .int .i64 0, .int .i64 0, .slice none 0 0] 107)
      have T8 := Lib.hid (S4.out.old k8)
      clear k8
      go_upto_region 9 with (at_builtin; refine wpList_appR rfl _ _ rfl w (.slice dA dn dc) A4 n4 c4 L4 [Sm.set 1 120] S4.out.len rfl T8.out.own (some ⟨w4.heap.size, 0, none⟩) 1 1 rfl rfl (src_litR w4 dA dn dc [Sm.set 1 120] _ rfl) (by have := HL4.out; simp; omega) T8.out.k ?_; intro A8 n8 c8 w8 hn8 ho8 hk8 hb8; (have S8 : Hid (SofR w w8 g0 (.slice dA dn dc) (L4 ++ [Sm.set 1 120]) A8 n8 c8) := Lib.hid ⟨hn8, ho8, hk8, hb8 _ _ _ (by decide) T8.out.r⟩); clear hn8 ho8 hk8 hb8)
      clear T8 S4
      obtain ⟨r0, r1, f0, f1⟩ := mcellsR S8.out.r
      go_wp2
      rw [HE.out]
      exact bodyPost_ret (ret_machR rfl _ _ g0 _ _ _ rfl rfl (fin_blkR S8.out.r)) rfl (rr_own S8.out.len S8.out.own S8.out.r S8.out.k HG.out)
set_option maxRecDepth 100000 in
set_option maxHeartbeats 8000000 in
theorem rs_ends3 (st : Nat) (kd : Int) (b : Bool) (hb : decide (kd = 2) = b)  (d : Bool) (dA : Option Addr) (dn dc : Nat) (vA : Option Addr) (vn vc : Nat) (_hv : (if d = true then (.slice dA dn dc : Value) else .slice none 0 0) = .slice vA vn vc) (w : World) :
    Calls Tryd.prog 60 #[.int .i64 st, .int .i64 kd, .int .i64 0, .int .i64 0, .slice vA vn vc] w fun e w' => RR (.slice dA dn dc) w w' e (Sm.ends st b 0 0 d) := by
  have S0 : Hid (SofR w (w.alloc (.cells #[.int .i64 0, .int .i64 0] 26)) w.heap.size (.slice dA dn dc) [] none 0 0) := Lib.hid ⟨rfl, World.ownsRow_nil _ _ _ _, (Kept.refl Nothing w).alloc _, Blk.fresh w _ _⟩
  have HG : Hid (w.heap.size ≤ w.heap.size) := Lib.hid (Nat.le_refl _)
  clear _hv
  have HE : Hid (Sm.ends st b 0 0 d = (⟨1, 0⟩, (([] ++ [Sm.a0 5, Sm.unset 1, Sm.unset 2, Sm.unset 3]) ++ (if st = 6 then [Sm.a0 8] else [])) ++ (if kd = 2 then [] else [Sm.set 1 120]))) := Lib.hid (by
    by_cases h : kd = 2 <;> by_cases h6 : st = 6 <;> simp [← hb, Sm.ends, Sm.tell, h, h6])
  clear hb
  go_enter Tryd.func60, Tryd.ntmps60
  go_upto_region 2 with fail
  change Code.wp _ _ _ _ (w.alloc (.cells #[.int .i64 0, .int .i64 0] 26))
  generalize w.alloc (.cells #[.int .i64 0, .int .i64 0] 26) = W0 at *
  have g0 : Nat := 0
  clear g0
  obtain ⟨g0, hg0⟩ : ∃ g0, g0 = w.heap.size := ⟨_, rfl⟩
  rw [← hg0] at S0 HG ⊢
  replace HG : Hid (w.heap.size ≤ g0) := Lib.hid (by omega)
  clear hg0
  go_upto_region 4 with fail
  have k4 := (Kept.refl Nothing W0).alloc (.cells #[.int .i64 5, .int .i64 0, .int .i64 0, .int .i64 0, .int .i64 0, .slice none 0 0, .int .i64 4, .int .i64 1, .int .i64 0, .int .i64 0, .int .i64 0, .slice none 0 0, .int .i64 4, .int .i64 2, .int .i64 0, .int .i64 0, .int .i64 0, .slice none 0 0, .int .i64 4, .int .i64 3, .int .i64 0, .int .i64 0, .int .i64 0, .slice none 0 0] 107)
  have T4 := Lib.hid (S0.out.old k4)
  clear k4
  go_upto_region 5 with (at_builtin; refine wpList_appR rfl _ _ rfl w (.slice dA dn dc) none 0 0 [] [Sm.a0 5, Sm.unset 1, Sm.unset 2, Sm.unset 3] S0.out.len rfl T4.out.own (some ⟨W0.heap.size, 0, none⟩) 4 4 rfl rfl (src_litR W0 dA dn dc [Sm.a0 5, Sm.unset 1, Sm.unset 2, Sm.unset 3] _ rfl) (by simp) T4.out.k ?_; intro A4 n4 c4 w4 hn4 ho4 hk4 hb4; (have S4 : Hid (SofR w w4 g0 (.slice dA dn dc) ([] ++ [Sm.a0 5, Sm.unset 1, Sm.unset 2, Sm.unset 3]) A4 n4 c4) := Lib.hid ⟨hn4, ho4, hk4, hb4 _ _ _ (by decide) T4.out.r⟩); clear hn4 ho4 hk4 hb4)
  clear T4 S0
  obtain ⟨L4, hL4⟩ : ∃ L4, [] ++ [Sm.a0 5, Sm.unset 1, Sm.unset 2, Sm.unset 3] = L4 := ⟨_, rfl⟩
  have HL4 : Hid (L4.length ≤ 5) := Lib.hid (by rw [← hL4]; simp)
  rw [hL4] at S4 HE
  clear hL4
  by_cases h6 : st = 6
  · subst h6
    rw [if_pos rfl] at HE
    have k6 := (Kept.refl Nothing w4).alloc (.cells #[.int .i64 8, .int .i64 0, .int .i64 0, .int .i64 0, .int .i64 0, .slice none 0 0] 107)
    have T6 := Lib.hid (S4.out.old k6)
    clear k6
    go_upto_region 7 with (at_builtin; refine wpList_appR rfl _ _ rfl w (.slice dA dn dc) A4 n4 c4 L4 [Sm.a0 8] S4.out.len rfl T6.out.own (some ⟨w4.heap.size, 0, none⟩) 1 1 rfl rfl (src_litR w4 dA dn dc [Sm.a0 8] _ rfl) (by have := HL4.out; simp; omega) T6.out.k ?_; intro A6 n6 c6 w6 hn6 ho6 hk6 hb6; (have S6 : Hid (SofR w w6 g0 (.slice dA dn dc) (L4 ++ [Sm.a0 8]) A6 n6 c6) := Lib.hid ⟨hn6, ho6, hk6, hb6 _ _ _ (by decide) T6.out.r⟩); clear hn6 ho6 hk6 hb6)
    clear T6 S4
    by_cases hk2 : kd = 2
    · subst hk2
      rw [if_pos rfl] at HE
      rw [List.append_nil] at HE
      obtain ⟨r0, r1, f0, f1⟩ := mcellsR S6.out.r
      go_wp2
      rw [HE.out]
      exact bodyPost_ret (ret_machR rfl _ _ g0 _ _ _ rfl rfl (fin_blkR S6.out.r)) rfl (rr_own S6.out.len S6.out.own S6.out.r S6.out.k HG.out)
    · have hk2i : (kd == 2) = false := by simpa using hk2
      rw [if_neg hk2] at HE
      clear hk2
      have k8 := (Kept.refl Nothing w6).alloc (.cells #[.int .i64 3, .int .i64 1, .int .i64 120, .int .i64 0, .int .i64 0, .slice none 0 0] 107)
      have T8 := Lib.hid (S6.out.old k8)
      clear k8
      go_upto_region 9 with (at_builtin; refine wpList_appR rfl _ _ rfl w (.slice dA dn dc) A6 n6 c6 (L4 ++ [Sm.a0 8]) [Sm.set 1 120] S6.out.len rfl T8.out.own (some ⟨w6.heap.size, 0, none⟩) 1 1 rfl rfl (src_litR w6 dA dn dc [Sm.set 1 120] _ rfl) (by have := HL4.out; simp; omega) T8.out.k ?_; intro A8 n8 c8 w8 hn8 ho8 hk8 hb8; (have S8 : Hid (SofR w w8 g0 (.slice dA dn dc) ((L4 ++ [Sm.a0 8]) ++ [Sm.set 1 120]) A8 n8 c8) := Lib.hid ⟨hn8, ho8, hk8, hb8 _ _ _ (by decide) T8.out.r⟩); clear hn8 ho8 hk8 hb8)
      clear T8 S6
      obtain ⟨r0, r1, f0, f1⟩ := mcellsR S8.out.r
      go_wp2
      rw [HE.out]
      exact bodyPost_ret (ret_machR rfl _ _ g0 _ _ _ rfl rfl (fin_blkR S8.out.r)) rfl (rr_own S8.out.len S8.out.own S8.out.r S8.out.k HG.out)
  · have h6i : ((st : Int) == 6) = false := by simp; omega
    rw [if_neg h6, List.append_nil] at HE
    clear h6
    go_upto_region 7 with fail
    by_cases hk2 : kd = 2
    · subst hk2
      rw [if_pos rfl] at HE
      rw [List.append_nil] at HE
      obtain ⟨r0, r1, f0, f1⟩ := mcellsR S4.out.r
      go_wp2
      rw [HE.out]
      exact bodyPost_ret (ret_machR rfl _ _ g0 _ _ _ rfl rfl (fin_blkR S4.out.r)) rfl (rr_own S4.out.len S4.out.own S4.out.r S4.out.k HG.out)
    · have hk2i : (kd == 2) = false := by simpa using hk2
      rw [if_neg hk2] at HE
      clear hk2
      have k8 := (Kept.refl Nothing w4).alloc (.cells #[.int .i64 3, .int .i64 1, .int .i64 120, .int .i64 0, .int .i64 0, .slice none 0 0] 107)
      have T8 := Lib.hid (S4.out.old k8)
      clear k8
      go_upto_region 9 with (at_builtin; refine wpList_appR rfl _ _ rfl w (.slice dA dn dc) A4 n4 c4 L4 [Sm.set 1 120] S4.out.len rfl T8.out.own (some ⟨w4.heap.size, 0, none⟩) 1 1 rfl rfl (src_litR w4 dA dn dc [Sm.set 1 120] _ rfl) (by have := HL4.out; simp; omega) T8.out.k ?_; intro A8 n8 c8 w8 hn8 ho8 hk8 hb8; (have S8 : Hid (SofR w w8 g0 (.slice dA dn dc) (L4 ++ [Sm.set 1 120]) A8 n8 c8) := Lib.hid ⟨hn8, ho8, hk8, hb8 _ _ _ (by decide) T8.out.r⟩); clear hn8 ho8 hk8 hb8)
      clear T8 S4
      obtain ⟨r0, r1, f0, f1⟩ := mcellsR S8.out.r
      go_wp2
      rw [HE.out]
      exact bodyPost_ret (ret_machR rfl _ _ g0 _ _ _ rfl rfl (fin_blkR S8.out.r)) rfl (rr_own S8.out.len S8.out.own S8.out.r S8.out.k HG.out)
theorem rs_ends (st : Nat) (kd : Int) (c s : Nat) (d : Bool) (dA : Option Addr) (dn dc : Nat) (vA : Option Addr) (vn vc : Nat) (hv : (if d = true then (.slice dA dn dc : Value) else .slice none 0 0) = .slice vA vn vc) (w : World) :
    Calls Tryd.prog 60 #[.int .i64 st, .int .i64 kd, .int .i64 c, .int .i64 s, .slice vA vn vc] w fun e w' => RR (.slice dA dn dc) w w' e (Sm.ends st (decide (kd = 2)) c s d) := by
  by_cases h1 : c = 0
  · subst h1
    by_cases h2 : s = 0
    · subst h2
      exact rs_ends3 st kd _ rfl d dA dn dc vA vn vc hv w
    · exact rs_ends2 st kd _ rfl s (by simp; omega) d dA dn dc vA vn vc hv w
  · exact rs_ends1 st kd _ rfl c s (by simp; omega) d dA dn dc vA vn vc hv w
end Go.Proofs.YtembdobkgpojfaaDoor
