
/-
  What the law AttrsClasses lays: a wrong value behind all else (pure); its map of flags.
-/
import Derived.Test.YteofbpdogmajoaaGreatDoorZxo
import Derived.ArgAppend
import Derived.Laws.IdiomCopy
import Derived.Test.YteofbpdogmajoaaGreatDoorZxa
import Derived.Test.YteofbpdogmajoaaGreatDoorZt
namespace Go.Proofs.YteofbpdogmajoaaGreatDoor
open Go.RowKit

theorem kept_setCells {S : Nat → Prop} {a : World} (b : Nat) (hS : b < a.heap.size → S b) : ∀ (vs : List Value) (o : Nat) (w : World), Kept S a w → Kept S a (w.setCells b o vs)
  | [], _, _, h => h
  | v :: vs, o, w, h => kept_setCells b hS vs (o + 1) (w.setCell ⟨b, o, none⟩ v) (h.setCell (p := ⟨b, o, none⟩) hS v)
theorem row_there {w : World} {g cap n : Nat} {cur : Array Value} (hh : w.heap[g]? = some (.cells cur 5 (0, 0))) (hs : cur.size = cap * 1) (h : n < cap) : (w.cell? ⟨g, n, none⟩).isSome = true ∧ w.frozen? ⟨g, n, none⟩ = false := by
  have h1 : n < cur.size := by omega
  constructor
  · simp [World.cell?, hh, h1]
  · simp [World.frozen?, hh]
set_option maxRecDepth 20000 in
/-- append: the new value, and the elder one, still read as they must. -/
theorem wpList_appE {ops : Array Oper} {rest : List Oper} {o : Oper} {a : Act} {Q : Exit → Act → World → Prop} {w : World} (hgd : o.guard = none) (s x : Operand)
    (ho : o.op = .call { callee := .builtin .append, args := #[s, x], argTypes := #[22, 22] })
    (base : Nat) (A : Option Addr) (n c : Nat) (l : List UInt8) (hn : n = l.length) (hv : a.eval s = .slice A n c) (hown : w.ownsRow base 5 1 (.slice A n c) n (bys l))
    (ad : Addr) (m cx : Nat) (d : List UInt8) (hx : a.eval x = .slice (some ad) m cx) (hs : By w (.slice (some ad) m cx) d) (hl : l.length + d.length ≤ 1000000000) (hbase : base ≤ w.heap.size)
    (h : ∀ (A' : Option Addr) (n' c' : Nat) (w' : World), n' = (l ++ d).length → By w' (.slice A' n' c') (l ++ d) → By w' (.slice A n c) l → (∀ w0 : World, Kept Nothing w0 w → w0.heap.size ≤ base → Kept Nothing w0 w') → wpList Tryz.prog ops Q rest (a.put o.dst (.slice A' n' c')) w') : wpList Tryz.prog ops Q (o :: rest) a w := by
  rcases hown.2 with ⟨e, hn0⟩ | ⟨g, cap, cur, e, hbg, hh, hnc, hcm, hsz, htk⟩
  · injection e with e1 e2 e3
    subst e1 e3
    subst hn0
    obtain rfl : l = [] := List.eq_nil_of_length_eq_zero hn.symm
    exact wpList_appB hgd s x ho base (.slice none 0 0) 0 [] rfl hv hown (some ad) m cx d hx hs hl hbase (fun A' n' c' w' hn' ho' hk _ => h A' n' c' w' hn' (own_by ho' hn') (Bs.nil w').by hk)
  · injection e with e1 e2 e3
    subst e1 e3
    subst hn
    have hb : By w (.slice (some ⟨g, 0, none⟩) l.length c) l := own_by hown rfl
    obtain ⟨i0, hi, hz0, hz1, hz2⟩ := info_parts u8_infoX
    have hm : d.length = m := by obtain ⟨_, _, e, _, _⟩ := hs.form; cases e; rfl
    subst hm
    have hsrc := hs.src
    have hsrl := hb.src
    have holds : ∀ j u, (bys l)[j]? = some u → w.cell? ⟨g, 0 + j, none⟩ = some u := fun j u hu => by
      have := hsrl.2.2.1 _ rfl j u hu
      rwa [add_none] at this
    have e1 : bys l ++ bys d = bys (l ++ d) := by unfold bys; rw [List.map_append]
    have e2 : l.length + d.length = (l ++ d).length := by rw [List.length_append]
    refine wpList_append_arg w hgd s x 22 ho 5 i0 _ 1 1 Tryz.underlying22 hi hz0 hz1 hz2 rfl (by decide) g 0 l.length c (bys l) hv (by rw [length_bys, Nat.mul_one]) holds ad d.length cx (bys d) hx (by rw [length_bys, Nat.mul_one]) (hsrc.2.2.1 _ rfl) hsrc.2.2.2
      (fun hr j hj => ?_) (by unfold maxLen; omega) (by omega) (fun hr => ?_) (fun hr v' w' r1 r2 => ?_)
    · rw [length_bys] at hj
      exact row_there hh hsz (by omega)
    · have hin : ∀ j, j < (bys d).length → (w.cell? ⟨g, 0 + l.length * 1 + j, none⟩).isSome = true := fun j hj => by
        rw [length_bys] at hj
        exact (row_there hh hsz (by omega)).1
      have hold : ∀ j u, (bys l)[j]? = some u → (w.setCells g (0 + l.length * 1) (bys d)).cell? ⟨g, 0 + j, none⟩ = some u := fun j u hu => by
        have hj : j < l.length := by
          have := (List.getElem?_eq_some_iff.1 hu).1
          rwa [length_bys] at this
        rw [World.cell?_setCells_out]
        · exact holds j u hu
        · intro _ _; left; show 0 + j < _; omega
      rw [e2]
      refine h (some ⟨g, 0, none⟩) _ c _ rfl ⟨some ⟨g, 0, none⟩, c, rfl, by omega, hcm, ?_⟩ ⟨some ⟨g, 0, none⟩, c, rfl, hnc, hcm, ?_⟩ (fun w0 k hb0 => kept_setCells g (fun hlt => by omega) _ _ _ k)
      · refine ⟨by rw [length_bys, Nat.mul_one], (fun e => by cases e), fun ad' ea j u hu => ?_, fun u hu => ?_⟩
        · injection ea with ea
          subst ea
          rw [add_none]
          rw [← e1] at hu
          by_cases hj : j < (bys l).length
          · rw [List.getElem?_append_left hj] at hu
            exact hold j u hu
          · rw [List.getElem?_append_right (by omega)] at hu
            have hj2 := (List.getElem?_eq_some_iff.1 hu).1
            have hv2 := World.cell?_setCells_in g (bys d) (0 + l.length * 1) w hin (j - (bys l).length) hj2
            have hlb := length_bys l
            have e3 : 0 + l.length * 1 + (j - (bys l).length) = 0 + j := by omega
            rw [e3] at hv2
            rw [hv2]
            rw [List.getElem?_eq_getElem hj2] at hu
            exact hu
        · rw [← e1] at hu
          rcases List.mem_append.1 hu with hu | hu
          · exact hsrl.2.2.2 u hu
          · exact hsrc.2.2.2 u hu
      · refine ⟨by rw [length_bys, Nat.mul_one], (fun e => by cases e), fun ad' ea j u hu => ?_, hsrl.2.2.2⟩
        injection ea with ea
        subst ea
        rw [add_none]
        exact hold j u hu
    · have kk : Kept Nothing w w' := (Kept.refl Nothing w).grown r2 (fun _ e => by cases e)
      rw [e1, e2] at r1
      obtain ⟨A', c', rfl, -, -⟩ := ow_form r1
      exact h A' _ c' w' rfl (own_by r1 rfl) (hb.old kk) (fun w0 k _ => k.trans kk)
end Go.Proofs.YteofbpdogmajoaaGreatDoor
namespace Go.Proofs.YteofbpdogmajoaaGreatDoor
open Go.RowKit Go.Maps

namespace Ax
theorem Av.less {four : Bool} {m : At} (h : Av four m) {t : UInt8} (hk : known t = true) : Av four (drop m t) ∧ is (drop m t) t = false := by
  have hb : ∀ i, (drop m t).has.testBit i = (decide (i < 32) && (m.has.testBit i && !decide (t.toNat = i))) := fun i => by rw [drop_has m hk, off_bit _ hk]
  refine ⟨⟨fun u hu hbu => ?_, fun u hu hbu => ?_, fun i hi => ?_⟩, ?_⟩
  · rw [hb] at hbu
    simp only [Bool.and_eq_true, Bool.not_eq_true', decide_eq_false_iff_not] at hbu
    have hne : t ≠ u := fun e => hbu.2.2 (by rw [e])
    exact (h.on u hu hbu.2.1).of hu ((eqf_drop m m hk hu hne).2 (eqf_refl m u))
  · by_cases e : t = u
    · subst e; exact drop_zero m hk
    · rw [hb] at hbu
      have hlt := known_lt hu
      have hne : t.toNat ≠ u.toNat := fun e2 => e (UInt8.toNat_inj.1 e2)
      rw [decide_eq_true (show u.toNat < 32 by omega), decide_eq_false hne] at hbu
      exact (eqf_drop m zeroA hk hu e).2 (h.out u hu (by simpa using hbu))
  · rw [hb] at hi
    simp only [Bool.and_eq_true] at hi
    exact h.only i hi.2.1
  · rw [is_known _ hk, hb]
    simp
/-- What is known of what is laid. -/
structure Cp (four : Bool) (m : At) (B : List UInt8) (t : UInt8) (x : At) : Prop where
  put : putM m four = (B, 0)
  len : B.length ≤ 2000000
  one : get B four false = (x, 0, [])
  wrong : get (B ++ [wanted t, t, 3, 9, 9, 9]) four false = if t = 6 ∨ t = 7 ∨ t = 17 ∨ t = 18 then (x, 1, []) else (zeroA, 2, [])
theorem classes_pure {four : Bool} {m : At} (h : Mg four m) {t : UInt8} (hk : known t = true) : ∃ B x, Cp four (drop m t) B t x := by
  obtain ⟨ha, hi⟩ := h.av.less hk
  obtain ⟨L, hL⟩ := put_list ha h.ov h.so
  have hkn : ∀ o ∈ (drop m t).others, known o.t = false := fun o ho => (h.ov.ok o ho).2.1
  have hf := hL.fin ha hkn false
  have hf0 : fin (aft four false L) = (cutA four false (drop m t), 0, []) := by rw [hf]; rfl
  refine ⟨(putM (drop m t) four).1, cutA four false (drop m t), by rw [hL.put], ?_, ?_, hL.wrong hkn hk hi hf0⟩
  · rw [hL.put]
    have h1 := forms_len L (fun o ho => (hL.ro o ho).1)
    have h2 := hL.len
    have h3 : (drop m t).others.length ≤ 6 := h.ol
    have h4 : L.length * 65539 ≤ 25 * 65539 := Nat.mul_le_mul_right _ (by omega)
    exact Nat.le_trans h1 (Nat.le_trans h4 (by decide))
  · have := hL.get false []
    rw [List.append_nil] at this
    rw [this]
    exact hf0
end Ax
/-- The map of the flags, of the types l. -/
def Fl (l : List UInt8) (D : DataW Unit) : Prop := IsMap D ∧ ∀ s ∈ l, ∀ zd, D.atKey (keyT s) zd = .lit (.int .u8 ((Ax.wanted s).toNat : Int))
theorem Fl.put {l : List UInt8} {D : DataW Unit} (h : Fl l D) (t : UInt8) : Fl (t :: l) (D.put (keyT t) (.lit (.int .u8 ((Ax.wanted t).toNat : Int)))) := by
  refine ⟨h.1.put _ _, fun s hs zd => ?_⟩
  by_cases e : s = t
  · subst e
    exact atKey_put_same h.1 (by trivial) _ zd
  · rw [atKey_put_other (keyT_ne e)]
    exact h.2 s ((List.mem_cons.1 hs).resolve_left e) zd
theorem Fl.put2 {l : List UInt8} {D : DataW Unit} (h : Fl l D) (t : UInt8) {n c : Int} (hn : (t.toNat : Int) = n) (hc : ((Ax.wanted t).toNat : Int) = c) : Fl (t :: l) (D.put (.int .u8 n) (.lit (.int .u8 c))) := by
  subst hn hc
  exact h.put t
theorem Fl.empty : Fl [] (.map []) := ⟨⟨[], rfl⟩, fun s hs => by cases hs⟩
theorem Fl.val {D : DataW Unit} (h : Fl [18, 17, 8, 7, 6, 5, 4, 3, 2, 1] D) {t : UInt8} (hk : Ax.known t = true) {c : Int} {zd : DataW Unit} (hc : D.atKey (keyT t) zd = .lit (.int .u8 c)) : c = ((Ax.wanted t).toNat : Int) := by
  have hm : t ∈ ([18, 17, 8, 7, 6, 5, 4, 3, 2, 1] : List UInt8) := by rcases known_cases t hk with rfl | rfl | rfl | rfl | rfl | rfl | rfl | rfl | rfl | rfl <;> decide
  have := (h.2 t hm zd).symm.trans hc
  injection this with this
  injection this with _ this
  exact this.symm
theorem keyT_of (t : UInt8) : keyOf Tryz.prog 5 (.int .u8 (t.toNat : Int)) = some (keyT t) :=
  keyOf_int_mk Tryz.underlying5 (by have := t.toNat_lt; simp [Lit.wf, IntKind.min, IntKind.max, IntKind.signed, IntKind.bits]; omega)
theorem tys_cell (k : Nat) (h : k < 10) : (#[.int .u8 1, .int .u8 2, .int .u8 3, .int .u8 4, .int .u8 5, .int .u8 6, .int .u8 7, .int .u8 8, .int .u8 17, .int .u8 18] : Array Value)[k]? = some (.int .u8 ((Ax.tys.getD k 0).toNat : Int)) := by
  rcases (show k = 0 ∨ k = 1 ∨ k = 2 ∨ k = 3 ∨ k = 4 ∨ k = 5 ∨ k = 6 ∨ k = 7 ∨ k = 8 ∨ k = 9 by omega) with rfl | rfl | rfl | rfl | rfl | rfl | rfl | rfl | rfl | rfl <;> rfl
end Go.Proofs.YteofbpdogmajoaaGreatDoor
