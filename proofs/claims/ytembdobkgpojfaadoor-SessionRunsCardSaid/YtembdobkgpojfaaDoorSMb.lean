
/-
  session: events and actions in memory; the small calls.
-/
import Derived.Test.YtembdobkgpojfaaDoorSMa
import Derived.Test.YtembdobkgpojfaaDoorOw
import Derived.Laws.Rows
import Derived.Laws.Tables
import Derived.Laws.ResultCell
import Derived.Deep.RegionLaw
namespace Go.Proofs.YtembdobkgpojfaaDoor
open Go.RowKit

/-- An action's six cells; k: the kind of the three small numbers; dv: what stands where the event's data do. -/
def Sm.Act.cl (k : IntKind) (dv : Value) (a : Sm.Act) : List Value := [.int .i64 a.act, .int k a.what, .int .i64 a.ticks, .int k a.code, .int k a.sub, if a.d then dv else .slice none 0 0]
def Sm.cls (k : IntKind) (dv : Value) (l : List Sm.Act) : List Value := l.flatMap (Sm.Act.cl k dv)
theorem Sm.cls_cons (k : IntKind) (dv : Value) (a : Sm.Act) (l : List Sm.Act) : Sm.cls k dv (a :: l) = a.cl k dv ++ Sm.cls k dv l := rfl
theorem Sm.cls_append (k : IntKind) (dv : Value) (l m : List Sm.Act) : Sm.cls k dv (l ++ m) = Sm.cls k dv l ++ Sm.cls k dv m := List.flatMap_append
theorem Sm.cls_length (k : IntKind) (dv : Value) : ∀ l : List Sm.Act, (Sm.cls k dv l).length = l.length * 6
  | [] => rfl
  | a :: l => by rw [Sm.cls_cons, List.length_append, Sm.cls_length k dv l, List.length_cons]; simp [Sm.Act.cl]; omega
theorem Sm.cls_at (k : IntKind) (dv : Value) : ∀ (l : List Sm.Act) (i j : Nat) (h : i < l.length), j < 6 → (Sm.cls k dv l)[i * 6 + j]? = (l[i].cl k dv)[j]?
  | a :: l, 0, j, _, hj => by
    rw [Sm.cls_cons, Nat.zero_mul, Nat.zero_add, List.getElem?_append_left (by simpa [Sm.Act.cl] using hj)]; rfl
  | a :: l, i + 1, j, h, hj => by
    have h6 : (a.cl k dv).length = 6 := rfl
    rw [Sm.cls_cons, List.getElem?_append_right (by rw [h6]; omega), h6, show (i + 1) * 6 + j - 6 = i * 6 + j by omega, Sm.cls_at k dv l i j (by simpa using h) hj]; rfl
  | [], i, j, h, _ => by simp at h
theorem Sm.cls_one (k : IntKind) (A : Option Addr) (n c : Nat) (l : List Sm.Act) : ∀ u ∈ Sm.cls k (.slice A n c) l, u.oneCell' = true := by
  intro u hu
  obtain ⟨a, _, ha⟩ := List.mem_flatMap.1 hu
  unfold Sm.Act.cl at ha
  simp at ha
  rcases ha with rfl | rfl | rfl | rfl | rfl | rfl <;> first | rfl | (split <;> rfl)

/-- The slice value v reads as the actions l; bs: the event's data. -/
def Acs (k : IntKind) (w : World) (v : Value) (l : List Sm.Act) (bs : List UInt8) : Prop :=
  ∃ dA dn dc, By w (.slice dA dn dc) bs ∧ ∃ A c, v = .slice A l.length c ∧ l.length ≤ c ∧ c ≤ maxLen ∧ Src w 6 A l.length (Sm.cls k (.slice dA dn dc) l)
theorem Acs.old {k : IntKind} {w w' : World} {v : Value} {l : List Sm.Act} {bs : List UInt8} (h : Acs k w v l bs) (kk : Kept Nothing w w') : Acs k w' v l bs := by
  obtain ⟨dA, dn, dc, hb, A, c, hv, h1, h2, h3⟩ := h
  exact ⟨dA, dn, dc, hb.old kk, A, c, hv, h1, h2, h3.kept kk⟩
theorem Acs.form {k : IntKind} {w : World} {v : Value} {l : List Sm.Act} {bs : List UInt8} (h : Acs k w v l bs) : ∃ A c, v = .slice A l.length c ∧ l.length ≤ c ∧ c ≤ maxLen := by
  obtain ⟨dA, dn, dc, hb, A, c, hv, h1, h2, h3⟩ := h
  exact ⟨A, c, hv, h1, h2⟩
theorem Acs.nil (k : IntKind) (w : World) (dA : Option Addr) (dn dc : Nat) (bs : List UInt8) (h : By w (.slice dA dn dc) bs) : Acs k w (.slice none 0 0) [] bs :=
  ⟨dA, dn, dc, h, none, 0, rfl, Nat.le_refl _, by simp [maxLen], rfl, fun _ => rfl, fun _ e => (by cases e), fun u hu => by cases hu⟩
/-- The cells of one. -/
theorem Acs.at {k : IntKind} {w : World} {A : Option Addr} {n c : Nat} {l : List Sm.Act} {bs : List UInt8} (h : Acs k w (.slice A n c) l bs) (h0 : 0 < n) :
    ∃ b o, A = some ⟨b, o, none⟩ ∧ ∀ i (hi : i < l.length), ∃ dA dn dc, (By w (.slice dA dn dc) (if l[i].d then bs else [])) ∧
      w.cell? ⟨b, o + i * 6, none⟩ = some (.int .i64 l[i].act) ∧ w.cell? ⟨b, o + i * 6 + 1, none⟩ = some (.int k l[i].what) ∧ w.cell? ⟨b, o + i * 6 + 2, none⟩ = some (.int .i64 l[i].ticks) ∧
      w.cell? ⟨b, o + i * 6 + 3, none⟩ = some (.int k l[i].code) ∧ w.cell? ⟨b, o + i * 6 + 4, none⟩ = some (.int k l[i].sub) ∧ w.cell? ⟨b, o + i * 6 + 5, none⟩ = some (.slice dA dn dc) := by
  obtain ⟨dA, dn, dc, hb, A', c', hv, h1, h2, s1, s2, s3, s4⟩ := h
  injection hv with e1 e2 e3
  subst e1 e2 e3
  cases A with
  | none => have := s2 rfl; omega
  | some a =>
    have hget : ∀ i j (hi : i < l.length), j < 6 → ∃ u, (l[i].cl k (.slice dA dn dc))[j]? = some u ∧ w.cell? (a.add (i * 6 + j)) = some u := fun i j hi hj => by
      have hc := Sm.cls_at k (.slice dA dn dc) l i j hi hj
      have hj6 : j < (l[i].cl k (.slice dA dn dc)).length := hj
      obtain ⟨u, hu⟩ : ∃ u, (l[i].cl k (.slice dA dn dc))[j]? = some u := ⟨_, List.getElem?_eq_getElem hj6⟩
      exact ⟨u, hu, s3 a rfl _ u (hc.trans hu)⟩
    obtain ⟨b, o, spot⟩ := a
    obtain ⟨u0, _, hu0⟩ := hget 0 0 h0 (by omega)
    have hspot : spot = none := by simpa [Addr.add] using World.cell?_spot hu0
    subst hspot
    refine ⟨b, o, rfl, fun i hi => ?_⟩
    have e : ∀ j u, (l[i].cl k (.slice dA dn dc))[j]? = some u → j < 6 → w.cell? ⟨b, o + i * 6 + j, none⟩ = some u := fun j u hu hj => by
      obtain ⟨u', h1, h2⟩ := hget i j hi hj
      rw [add_none, ← Nat.add_assoc] at h2
      rw [h2, ← hu, h1]
    have e0 := e 0 _ rfl (by omega)
    rw [Nat.add_zero] at e0
    have e5 := e 5 _ rfl (by omega)
    cases hd : l[i].d with
    | true =>
      rw [hd] at e5
      exact ⟨dA, dn, dc, hb, e0, e 1 _ rfl (by omega), e 2 _ rfl (by omega), e 3 _ rfl (by omega), e 4 _ rfl (by omega), e5⟩
    | false =>
      rw [hd] at e5
      exact ⟨none, 0, 0, (Bs.nil w).by, e0, e 1 _ rfl (by omega), e 2 _ rfl (by omega), e 3 _ rfl (by omega), e 4 _ rfl (by omega), e5⟩
/-- What a row of the call's own holds. -/
theorem Acs.of_own {k : IntKind} {w : World} {base : Nat} {e : TypeId} {v : Value} {l : List Sm.Act} {bs : List UInt8} {dA : Option Addr} {dn dc : Nat} (h : w.ownsRow base e 6 v l.length (Sm.cls k (.slice dA dn dc) l)) (hb : By w (.slice dA dn dc) bs) : Acs k w v l bs := by
  obtain ⟨A, c, hv, hn, hm⟩ := ow_form h
  obtain ⟨_, h2⟩ := h
  refine ⟨dA, dn, dc, hb, A, c, hv, hn, hm, Sm.cls_length _ _ _, fun hA => ?_, fun a ha j u hu => ?_, Sm.cls_one _ _ _ _ _⟩
  · rcases h2 with ⟨rfl, h0⟩ | ⟨g, cap, cur, hv', _⟩
    · exact h0
    · rw [hv'] at hv
      injection hv with e1
      rw [hA] at e1
      cases e1
  · rcases h2 with ⟨rfl, h0⟩ | ⟨g, cap, cur, hv', _, hg, _, _, _, ht⟩
    · injection hv with e1
      rw [ha] at e1
      cases e1
    · rw [hv'] at hv
      injection hv with e1
      rw [ha] at e1
      injection e1 with e1
      subst e1
      have hj := (List.getElem?_eq_some_iff.1 hu).1
      rw [Sm.cls_length] at hj
      rw [add_none, Nat.zero_add, cell_of_row w g _ cur e (0, 0) hg, ← hu, ← ht, List.getElem?_take_of_lt hj, Array.getElem?_toList]
/-- A new block of actions. -/
theorem Acs.fresh {k : IntKind} {w : World} {g n c : Nat} {t : TypeId} {l : List Sm.Act} {bs : List UInt8} {dA : Option Addr} {dn dc : Nat} (hb : By w (.slice dA dn dc) bs) (h : Blk w g t (Sm.cls k (.slice dA dn dc) l).toArray) (hn : n = l.length) (hc : n ≤ c) (hm : c ≤ maxLen) (h0 : 0 < n) : Acs k w (.slice (some ⟨g, 0, none⟩) n c) l bs := by
  subst hn
  refine ⟨dA, dn, dc, hb, _, c, rfl, hc, hm, Sm.cls_length _ _ _, fun e => (by cases e), fun a ha j u hu => ?_, Sm.cls_one _ _ _ _ _⟩
  injection ha with ha
  subst ha
  rw [add_none, Nat.zero_add, h.cell, ← hu, List.getElem?_toArray]

/-- What a call of the machine answers. -/
def Res (k : IntKind) (w w' : World) (e : Ending) (r : Sm.M × List Sm.Act) (bs : List UInt8) : Prop :=
  ∃ A c, e = .returned (.tuple #[.agg #[.int .i64 r.1.state, .int .i64 r.1.hold], .slice A r.2.length c]) ∧ Acs k w' (.slice A r.2.length c) r.2 bs ∧ Kept Nothing w w'

theorem se_set (x : Nat) (t : Int) (w : World) :
    Calls Tryd.prog 93 #[.int .u8 x, .int .i64 t] w fun e w' => e = .returned (.agg #[.int .i64 3, .int .u8 x, .int .i64 t, .int .u8 0, .int .u8 0, .slice none 0 0]) ∧ Kept Nothing w w' := by
  go_enter Tryd.func93, Tryd.ntmps93
  go_wp2
  have hB := Blk.fresh w 109 #[.int .i64 3, .int .u8 x, .int .i64 t, .int .u8 0, .int .u8 0, .slice none 0 0]
  refine bodyPost_ret (v := .agg #[.int .i64 3, .int .u8 x, .int .i64 t, .int .u8 0, .int .u8 0, .slice none 0 0]) ?_ rfl ⟨rfl, (Kept.refl _ _).alloc _⟩
  exact results_cell_row (p := 4) rfl _ _ w.heap.size 109 _ (0, 0) _ rfl hB Tryd.underlying109 rfl (by kernel_rfl)
theorem se_send (x : Nat) (w : World) :
    Calls Tryd.prog 92 #[.int .u8 x] w fun e w' => e = .returned (.agg #[.int .i64 1, .int .u8 x, .int .i64 0, .int .u8 0, .int .u8 0, .slice none 0 0]) ∧ Kept Nothing w w' := by
  go_enter Tryd.func92, Tryd.ntmps92
  go_wp2
  have hB := Blk.fresh w 109 #[.int .i64 1, .int .u8 x, .int .i64 0, .int .u8 0, .int .u8 0, .slice none 0 0]
  refine bodyPost_ret (v := .agg #[.int .i64 1, .int .u8 x, .int .i64 0, .int .u8 0, .int .u8 0, .slice none 0 0]) ?_ rfl ⟨rfl, (Kept.refl _ _).alloc _⟩
  exact results_cell_row (p := 2) rfl _ _ w.heap.size 109 _ (0, 0) _ rfl hB Tryd.underlying109 rfl (by kernel_rfl)
theorem se_unset (x : Nat) (w : World) :
    Calls Tryd.prog 83 #[.int .u8 x] w fun e w' => e = .returned (.agg #[.int .i64 4, .int .u8 x, .int .i64 0, .int .u8 0, .int .u8 0, .slice none 0 0]) ∧ Kept Nothing w w' := by
  go_enter Tryd.func83, Tryd.ntmps83
  go_wp2
  have hB := Blk.fresh w 109 #[.int .i64 4, .int .u8 x, .int .i64 0, .int .u8 0, .int .u8 0, .slice none 0 0]
  refine bodyPost_ret (v := .agg #[.int .i64 4, .int .u8 x, .int .i64 0, .int .u8 0, .int .u8 0, .slice none 0 0]) ?_ rfl ⟨rfl, (Kept.refl _ _).alloc _⟩
  exact results_cell_row (p := 2) rfl _ _ w.heap.size 109 _ (0, 0) _ rfl hB Tryd.underlying109 rfl (by kernel_rfl)
theorem se_rings (kd ho : Int) (x c s t : Nat) (A : Option Addr) (n cc : Nat) (b : Bool) (hb : (decide (kd = 6) && decide (x = t)) = b) (w : World) :
    Calls Tryd.prog 81 #[.agg #[.int .i64 kd, .int .u8 x, .int .i64 ho, .int .u8 c, .int .u8 s, .slice A n cc], .int .u8 t] w fun e w' => e = .returned (.bool b) ∧ Kept Nothing w w' := by
  by_cases h1 : kd = 6
  · have hk : (kd == 6) = true := by simpa using h1
    have hx : ((x : Int) == (t : Int)) = decide (x = t) := by rw [Bool.eq_iff_iff]; simp only [beq_iff_eq, decide_eq_true_eq]; omega
    obtain rfl : decide (x = t) = b := by rw [← hb]; simp [h1]
    clear h1 hb
    go_enter Tryd.func81, Tryd.ntmps81
    go_wp2
    go_ret
    exact ⟨rfl, (Kept.refl _ _).alloc _⟩
  · have hk : (kd == 6) = false := by simpa using h1
    obtain rfl : false = b := by rw [← hb]; simp [h1]
    clear h1 hb
    go_enter Tryd.func81, Tryd.ntmps81
    go_wp2
    go_ret
    exact ⟨rfl, (Kept.refl _ _).alloc _⟩
theorem se_brings (kd ho : Int) (x c s t : Nat) (A : Option Addr) (n cc : Nat) (b : Bool) (hb : (decide (kd = 5) && decide (x = t)) = b) (w : World) :
    Calls Tryd.prog 94 #[.agg #[.int .i64 kd, .int .u8 x, .int .i64 ho, .int .u8 c, .int .u8 s, .slice A n cc], .int .u8 t] w fun e w' => e = .returned (.bool b) ∧ Kept Nothing w w' := by
  by_cases h1 : kd = 5
  · have hk : (kd == 5) = true := by simpa using h1
    have hx : ((x : Int) == (t : Int)) = decide (x = t) := by rw [Bool.eq_iff_iff]; simp only [beq_iff_eq, decide_eq_true_eq]; omega
    obtain rfl : decide (x = t) = b := by rw [← hb]; simp [h1]
    clear h1 hb
    go_enter Tryd.func94, Tryd.ntmps94
    go_wp2
    go_ret
    exact ⟨rfl, (Kept.refl _ _).alloc _⟩
  · have hk : (kd == 5) = false := by simpa using h1
    obtain rfl : false = b := by rw [← hb]; simp [h1]
    clear h1 hb
    go_enter Tryd.func94, Tryd.ntmps94
    go_wp2
    go_ret
    exact ⟨rfl, (Kept.refl _ _).alloc _⟩
theorem se_mayHold (t : Int) (w : World) :
    Calls Tryd.prog 84 #[.int .i64 t] w fun e w' => e = .returned (.bool (decide (t = 0 ∨ (3 ≤ t ∧ t ≤ 65535)))) ∧ w = w' := by
  by_cases h0 : t = 0
  · subst h0
    go_enter Tryd.func84, Tryd.ntmps84
    go_wp2
    go_ret
    exact ⟨by simp, rfl⟩
  · have hk : (t == 0) = false := by simpa using h0
    by_cases h3 : 3 ≤ t
    · by_cases h4 : t ≤ 65535
      · have e : decide (t = 0 ∨ (3 ≤ t ∧ t ≤ 65535)) = true := decide_eq_true (.inr ⟨h3, h4⟩)
        rw [e]
        clear h0 e
        go_enter Tryd.func84, Tryd.ntmps84
        go_wp2
        go_ret
        exact ⟨rfl, rfl⟩
      · have e : decide (t = 0 ∨ (3 ≤ t ∧ t ≤ 65535)) = false := decide_eq_false (by omega)
        have h4' : 65535 < t := by omega
        rw [e]
        clear h0 e h4
        go_enter Tryd.func84, Tryd.ntmps84
        go_wp2
        go_ret
        exact ⟨congrArg Ending.returned (congrArg Value.bool (decide_eq_false (by omega))), rfl⟩
    · have e : decide (t = 0 ∨ (3 ≤ t ∧ t ≤ 65535)) = false := decide_eq_false (by omega)
      have h3' : t < 3 := by omega
      rw [e]
      clear h0 e h3
      go_enter Tryd.func84, Tryd.ntmps84
      go_wp2
      go_ret
      exact ⟨rfl, rfl⟩
theorem se_new (w : World) : Calls Tryd.prog 9 #[] w fun e w' => e = .returned (.agg #[.int .i64 1, .int .i64 0]) ∧ Kept Nothing w w' := by
  go_enter Tryd.func9, Tryd.ntmps9
  go_wp2
  have hB := Blk.fresh w 24 #[.int .i64 1, .int .i64 0]
  refine bodyPost_ret (v := .agg #[.int .i64 1, .int .i64 0]) ?_ rfl ⟨rfl, (Kept.refl _ _).alloc _⟩
  exact results_cell_row (p := 0) rfl _ _ w.heap.size 24 _ (0, 0) _ rfl hB Tryd.underlying24 rfl (by kernel_rfl)
theorem se_unexpected (st : Nat) (h4 : 4 ≤ st) (h6 : st ≤ 6) (w : World) : Calls Tryd.prog 115 #[.int .i64 st] w fun e w' => e = .returned (.agg #[.int .u8 5, .int .u8 ((st - 3 : Nat) : Int)]) ∧ Kept Nothing w w' := by
  obtain rfl | rfl | rfl : st = 4 ∨ st = 5 ∨ st = 6 := by omega
  · clear h4 h6
    go_enter Tryd.func115, Tryd.ntmps115
    go_wp2
    have hB := Blk.fresh w 28 #[.int .u8 5, .int .u8 1]
    refine bodyPost_ret (v := .agg #[.int .u8 5, .int .u8 1]) ?_ rfl ⟨rfl, (Kept.refl _ _).alloc _⟩
    exact results_cell_row (p := 2) rfl _ _ w.heap.size 28 _ (0, 0) _ rfl hB Tryd.underlying28 rfl (by kernel_rfl)
  · clear h4 h6
    go_enter Tryd.func115, Tryd.ntmps115
    go_wp2
    have hB := Blk.fresh w 28 #[.int .u8 5, .int .u8 2]
    refine bodyPost_ret (v := .agg #[.int .u8 5, .int .u8 2]) ?_ rfl ⟨rfl, (Kept.refl _ _).alloc _⟩
    exact results_cell_row (p := 2) rfl _ _ w.heap.size 28 _ (0, 0) _ rfl hB Tryd.underlying28 rfl (by kernel_rfl)
  · clear h4 h6
    go_enter Tryd.func115, Tryd.ntmps115
    go_wp2
    have hB := Blk.fresh w 28 #[.int .u8 5, .int .u8 3]
    refine bodyPost_ret (v := .agg #[.int .u8 5, .int .u8 3]) ?_ rfl ⟨rfl, (Kept.refl _ _).alloc _⟩
    exact results_cell_row (p := 2) rfl _ _ w.heap.size 28 _ (0, 0) _ rfl hB Tryd.underlying28 rfl (by kernel_rfl)
/-- A machine is handed out from a cell, with actions. -/
theorem ret_mach {fn : Func} {p u : Tmp} (h : fn.results = #[.cell p 24, .tmp u]) (tm : Array Value) (W : World) (g : Nat) (a b v : Value) (hp : tm.getD p undef = .pointer (some ⟨g, 0, none⟩)) (hv : tm.getD u undef = v) (hB : Blk W g 24 #[a, b]) :
    (results fn tm).run Tryd.prog W = .ok (.tuple #[.agg #[a, b], v]) W := by
  have hL := run_loadVar_row (P := Tryd.prog) W g 24 24 _ (0, 0) _ hB Tryd.underlying24 rfl (by kernel_rfl)
  rw [results_cell_tmp h, hp, hv]
  simp only [asAddr, Sem.run_pure, Result.andThen_ok, hL]
/-- Actions off a machine's cells. -/
theorem Acs.mach {k : IntKind} {w w' : World} {v : Value} {l : List Sm.Act} {bs : List UInt8} {g : Nat} {t : TypeId} {x y : Int} (h : Acs k w v l bs) (hB : Blk w g t #[.int .i64 x, .int .i64 y]) (kk : Kept (Only g) w w') : Acs k w' v l bs := by
  obtain ⟨dA, dn, dc, hb, A, c, hv, h1, h2, h3⟩ := h
  have hv8 := hb.src
  refine ⟨dA, dn, dc, ?_, A, c, hv, h1, h2, h3.kept_if kk (fun a ha hl e => ?_)⟩
  · refine hb.kept kk (fun a ha hl e => ?_)
    have := hv8.2.2.1 a ha 0 _ (getD_bys bs 0 hl)
    have e' : a.block = g := e
    obtain ⟨b, o, spot⟩ := a
    have hspot : spot = none := World.cell?_spot this
    subst hspot
    have e2 : b = g := e'
    subst e2
    rw [add_none, hB.cell] at this
    unfold by8 at this
    rcases o with _ | _ | o <;> simp at this
  · have hc5 : (Sm.cls k (.slice dA dn dc) l)[5]? = some ((Sm.cls k (.slice dA dn dc) l)[5]'(by rw [Sm.cls_length]; omega)) := List.getElem?_eq_getElem _
    have := h3.2.2.1 a ha 5 _ hc5
    have e' : a.block = g := e
    obtain ⟨b, o, spot⟩ := a
    have hspot : spot = none := World.cell?_spot (h3.2.2.1 _ ha 0 _ (List.getElem?_eq_getElem (by rw [Sm.cls_length]; omega)))
    subst hspot
    have e2 : b = g := e'
    subst e2
    rw [add_none, hB.cell] at this
    simp at this
theorem se_keep (st hd : Nat) (h : hd ≤ 65535) (w : World) :
    Calls Tryd.prog 113 #[.agg #[.int .i64 st, .int .i64 hd]] w fun e w' => e = .returned (.agg #[.int .i64 3, .int .u8 3, .int .i64 ((hd / 3 : Nat) : Int), .int .u8 0, .int .u8 0, .slice none 0 0]) ∧ Kept Nothing w w' := by
  have h1 : Int.tdiv (hd : Int) 3 = ((hd / 3 : Nat) : Int) := by rw [Int.tdiv_eq_ediv_of_nonneg (by omega)]; omega
  have h2 : wrap64 ((hd / 3 : Nat) : Int) = ((hd / 3 : Nat) : Int) := by unfold wrap64; omega
  have K0 : Kept Nothing w ((w.alloc (.cells #[.int .i64 st, .int .i64 hd] 24)).alloc (.cells #[.int .i64 0, .int .u8 0, .int .i64 0, .int .u8 0, .int .u8 0, .slice none 0 0] 109)) := ((Kept.refl Nothing w).alloc _).alloc _
  have Z0 := Blk.fresh (w.alloc (.cells #[.int .i64 st, .int .i64 hd] 24)) 109 #[.int .i64 0, .int .u8 0, .int .i64 0, .int .u8 0, .int .u8 0, .slice none 0 0]
  rw [World.size_alloc] at Z0
  have KK := Lib.hid K0
  have ZZ := Lib.hid Z0
  clear K0 Z0
  generalize hq : hd / 3 = q at *
  clear hq
  go_enter Tryd.func113, Tryd.ntmps113
  go_wp2_with fail
  refine (se_set 3 _ _).mono ?_
  rintro e w1 ⟨rfl, hk⟩
  have Z1 := Lib.hid (ZZ.out.kept hk (fun x => x))
  have K1 := Lib.hid (KK.out.trans hk)
  clear hk
  go_wp2_with (refine wpList_store_row rfl 109 _ _ rfl (w.heap.size + 1) #[.int .i64 3, .int .u8 3, .int .i64 q, .int .u8 0, .int .u8 0, .slice none 0 0] rfl rfl 109 _ Z1.out (by kernel_rfl) rfl (by kernel_rfl) ?_)
  have hB := setRow_heap w1 (w.heap.size + 1) _ #[.int .i64 3, .int .u8 3, .int .i64 q, .int .u8 0, .int .u8 0, .slice none 0 0] _ _ Z1.out
  refine bodyPost_ret (v := .agg #[.int .i64 3, .int .u8 3, .int .i64 q, .int .u8 0, .int .u8 0, .slice none 0 0]) ?_ rfl ⟨rfl, K1.out.trans_new (Kept.setRow _ _) (fun i hi (e : i = w.heap.size + 1) => by omega)⟩
  exact results_cell_row (p := 2) rfl _ _ (w.heap.size + 1) 109 _ (0, 0) _ rfl hB Tryd.underlying109 rfl (by kernel_rfl)
end Go.Proofs.YtembdobkgpojfaaDoor
