
/-
  The law SessionEnds: its boxes.
-/
import Derived.Test.YtlghmjipnkmeeaaDoorSMw
import Derived.Test.YtlghmjipnkmeeaaDoorIw
namespace Go.Proofs.YtlghmjipnkmeeaaDoor
open Go.RowKit

theorem drop_consE {α : Type} {l : List α} {q : Nat} (h : q < l.length) : l.drop q = l[q] :: l.drop (q + 1) := List.drop_eq_getElem_cons h
theorem Sm.ends_form (st : Nat) (halt : Bool) (c s : Nat) (d : Bool) : ∃ acts, Sm.ends st halt c s d = (⟨1, 0⟩, acts) ∧ acts.foldl Sm.Sc.see ⟨0, 0, false, false, false⟩ = ⟨c, s, decide (st = 6), true, !halt⟩ := by
  refine ⟨(Sm.ends st halt c s d).2, ?_, Sm.ends_see st halt c s d⟩
  unfold Sm.ends
  rfl
theorem tmod5 (x q : Nat) (h : x % 5 = q) : (x : Int).tmod 5 = (q : Int) := by
  subst h
  rfl
/-- A machine in block mB, the fault of the law's own in block fB. -/
structure Fx (W u : World) (fB mB : Nat) (m : Sm.M) (c s : Nat) : Prop where
  q : Sq W u mB m
  f : Blk u fB 28 #[.int .u8 c, .int .u8 s]
  lt : fB < mB
theorem Fx.old {W u u' : World} {fB mB : Nat} {m : Sm.M} {c s : Nat} (h : Fx W u fB mB m c s) (k : Kept Nothing u u') : Fx W u' fB mB m c s := ⟨h.q.old k, h.f.kept k (fun x => x), h.lt⟩
theorem Fx.put {W u u' : World} {fB mB : Nat} {m m2 : Sm.M} {c s : Nat} (h : Fx W u fB mB m c s) (k : Kept Nothing u u') (ho : Sm.Ok m2) :
    Fx W ((u'.setCell ⟨mB, 0, none⟩ (.int .i64 m2.state)).setCell ⟨mB, 1, none⟩ (.int .i64 m2.hold)) fB mB m2 c s :=
  ⟨h.q.put k ho, (h.f.kept k (fun x => x)).kept (kept_two (v := u') mB _ _) (fun (e : fB = mB) => by have := h.lt; omega), h.lt⟩
/-- Within the walk over what is done: the boxes e, n, want and told. -/
structure Ein (W u : World) (eB nB wB tB : Nat) (ev wv : Array Value) (r fin : Sm.Sc) (acts : List Sm.Act) (av : Value) (q : Nat) : Prop where
  kk : Kept Nothing W u
  ee : Blk u eB 31 ev
  nn : Blk u nB 24 #[.int .i64 1, .int .i64 0]
  ww : Blk u wB 28 wv
  tt : Blk u tB 28 #[.int .u8 r.code, .int .u8 r.sub]
  aa : Acs .u8 u av acts []
  all : (acts.drop q).foldl Sm.Sc.see r = fin
  le : W.heap.size ≤ tB
  ne : eB < tB ∧ nB < tB ∧ wB < tB
theorem Acs.flt {k : IntKind} {u u' : World} {v : Value} {l : List Sm.Act} {g : Nat} {x y : Int} (h : Acs k u v l []) (hB : Blk u g 28 #[.int .u8 x, .int .u8 y]) (kk : Kept (Only g) u u') : Acs k u' v l [] := by
  obtain ⟨dA, dn, dc, hb, A, c, hv, h1, h2, h3⟩ := h
  refine ⟨dA, dn, dc, ?_, A, c, hv, h1, h2, h3.kept_if kk (fun a ha hl e => ?_)⟩
  · exact hb.kept kk (fun a ha hl e => by simp at hl)
  · have hc0 : (Sm.cls k (.slice dA dn dc) l)[0]? = some (.int .i64 (l[0]'hl).act) := by
      have := Sm.cls_at k (.slice dA dn dc) l 0 0 hl (by decide)
      exact this
    have := h3.2.2.1 a ha 0 _ hc0
    have e' : a.block = g := e
    obtain ⟨b, o, spot⟩ := a
    have hspot : spot = none := World.cell?_spot this
    subst hspot
    have e2 : b = g := e'
    subst e2
    rw [add_none, hB.cell] at this
    rcases o with _ | _ | o <;> simp at this
theorem Ein.old {W u u' : World} {eB nB wB tB : Nat} {ev wv : Array Value} {r fin : Sm.Sc} {acts : List Sm.Act} {av : Value} {q : Nat} (h : Ein W u eB nB wB tB ev wv r fin acts av q) (k : Kept Nothing u u') : Ein W u' eB nB wB tB ev wv r fin acts av q :=
  ⟨h.kk.trans k, h.ee.kept k (fun x => x), h.nn.kept k (fun x => x), h.ww.kept k (fun x => x), h.tt.kept k (fun x => x), h.aa.old k, h.all, h.le, h.ne⟩
theorem Ein.told {W u : World} {eB nB wB tB : Nat} {ev wv : Array Value} {r fin : Sm.Sc} {acts : List Sm.Act} {av : Value} {q : Nat} (h : Ein W u eB nB wB tB ev wv r fin acts av q) (r2 : Sm.Sc) (q2 : Nat) (ha : (acts.drop q2).foldl Sm.Sc.see r2 = fin) :
    Ein W ((u.setCell ⟨tB, 0, none⟩ (.int .u8 r2.code)).setCell ⟨tB, 1, none⟩ (.int .u8 r2.sub)) eB nB wB tB ev wv r2 fin acts av q2 := by
  have kk := kept_two (v := u) tB (.int .u8 (r2.code : Int)) (.int .u8 (r2.sub : Int))
  have hle := h.le
  obtain ⟨n1, n2, n3⟩ := h.ne
  exact ⟨h.kk.trans_new kk (fun i hi (e : i = tB) => by omega), h.ee.kept kk (fun (e : eB = tB) => by omega), h.nn.kept kk (fun (e : nB = tB) => by omega), h.ww.kept kk (fun (e : wB = tB) => by omega),
    (h.tt.put 0 (.int .u8 (r2.code : Int))).put 1 (.int .u8 (r2.sub : Int)), h.aa.flt h.tt kk, ha, h.le, h.ne⟩
/-- A step that lays nothing of the fault. -/
theorem Ein.step {W u : World} {eB nB wB tB : Nat} {ev wv : Array Value} {r fin : Sm.Sc} {acts : List Sm.Act} {av : Value} {q : Nat} (h : Ein W u eB nB wB tB ev wv r fin acts av q) (r2 : Sm.Sc) (hc : r2.code = r.code) (hs : r2.sub = r.sub) (q2 : Nat) (ha : (acts.drop q2).foldl Sm.Sc.see r2 = fin) :
    Ein W u eB nB wB tB ev wv r2 fin acts av q2 := ⟨h.kk, h.ee, h.nn, h.ww, by rw [hc, hs]; exact h.tt, h.aa, ha, h.le, h.ne⟩

end Go.Proofs.YtlghmjipnkmeeaaDoor
