
/-
  session: Do, all of it.
-/
import Derived.Test.YtembdobkgpojfaaDoorSMp
import Derived.Test.YtembdobkgpojfaaDoorSMq
import Derived.Test.YtembdobkgpojfaaDoorSMr
import Derived.Test.YtembdobkgpojfaaDoorSMs
namespace Go.Proofs.YtembdobkgpojfaaDoor
open Go.RowKit

theorem Sm.cls_any (k : IntKind) (dv dv' : Value) : ∀ (l : List Sm.Act), (∀ a ∈ l, a.d = false) → Sm.cls k dv l = Sm.cls k dv' l
  | [], _ => rfl
  | a :: l, h => by
    rw [Sm.cls_cons, Sm.cls_cons, Sm.cls_any k dv dv' l (fun b hb => h b (List.mem_cons_of_mem _ hb))]
    have := h a (List.mem_cons_self ..)
    unfold Sm.Act.cl
    rw [this]
    rfl
theorem Acs.any {k : IntKind} {w : World} {v : Value} {l : List Sm.Act} {bs bs' : List UInt8} {dA : Option Addr} {dn dc : Nat} (h : Acs k w v l bs) (hd : ∀ a ∈ l, a.d = false) (hb : By w (.slice dA dn dc) bs') : Acs k w v l bs' := by
  obtain ⟨eA, en, ec, _, A, c, hv, h1, h2, h3⟩ := h
  refine ⟨dA, dn, dc, hb, A, c, hv, h1, h2, ?_⟩
  rwa [Sm.cls_any k (.slice dA dn dc) (.slice eA en ec) l hd]
theorem Res.any {k : IntKind} {w w' : World} {e : Ending} {r : Sm.M × List Sm.Act} {bs bs' : List UInt8} {dA : Option Addr} {dn dc : Nat} (h : Res k w w' e r bs) (hd : ∀ a ∈ r.2, a.d = false) (hb : By w (.slice dA dn dc) bs') : Res k w w' e r bs' := by
  obtain ⟨A, c, he, ha, hk⟩ := h
  exact ⟨A, c, he, ha.any hd (hb.old hk), hk⟩
theorem Sm.ends_nodata (st : Nat) (b : Bool) (c s : Nat) : ∀ a ∈ (Sm.ends st b c s false).2, a.d = false := by
  intro a ha
  unfold Sm.ends Sm.tell at ha
  simp only at ha
  by_cases h : c ≠ 0 ∨ s ≠ 0 <;> by_cases h6 : st = 6 <;> cases b <;> simp [h, h6, Sm.a0, Sm.set, Sm.unset] at ha <;> (try rcases ha with rfl | rfl | rfl | rfl | rfl | rfl | rfl) <;> (try rfl) <;> (try rcases ha with rfl | rfl | rfl | rfl | rfl | rfl) <;> (try rfl) <;> (try rcases ha with rfl | rfl | rfl | rfl | rfl) <;> (try rfl) <;> (try rcases ha with rfl | rfl | rfl | rfl) <;> rfl
theorem Sm.pAct7 (m : Sm.M) (hm : Sm.Ok m) (c s : Nat) : ∀ a ∈ (Sm.pAct m 7 0 0 c s false).2, a.d = false := by
  obtain ⟨st, hd⟩ := m
  obtain ⟨h1, h2, -⟩ := hm
  simp only at h1 h2
  obtain rfl | rfl | rfl | rfl | rfl | rfl : st = 1 ∨ st = 2 ∨ st = 3 ∨ st = 4 ∨ st = 5 ∨ st = 6 := by omega
  all_goals
    intro a ha
    simp [Sm.pAct, Sm.pSeek, Sm.pOS, Sm.pOC, Sm.pEst, Sm.pAgr, Sm.pConn, Sm.pIdle] at ha
  all_goals exact Sm.ends_nodata _ _ _ _ a ha

/-- A machine's fields, and what it is as. -/
def Nm (st hd : Int) (m : Sm.M) : Prop := (st = m.state ∧ (m.state < 5 ∨ hd = m.hold)) ∨ (m = ⟨1, 0⟩ ∧ (st < 1 ∨ 6 < st) ∧ -9223372036854775808 ≤ st ∧ st ≤ 9223372036854775807)
theorem Nm.self (m : Sm.M) : Nm m.state m.hold m := .inl ⟨rfl, .inr rfl⟩
set_option maxHeartbeats 1000000 in
theorem se_doJ (st hd : Int) (m : Sm.M) (hm : Sm.Ok m) (hn : Nm st hd m) (kd0 ho0 : Int) (x0 c0 s0 : Nat) (A0 : Option Addr) (n0 cc0 : Nat) (kd ho : Int) (x c s : Nat) (A : Option Addr) (n cc : Nat) (d : Bool) (bs : List UInt8) (w : World) (hr : RdS w) (hh : kd = 5 ∧ x = 1 → 0 ≤ ho ∧ ho ≤ 65535) (hJ : Jdg w (.agg #[.int .i64 kd0, .int .u8 x0, .int .i64 ho0, .int .u8 c0, .int .u8 s0, .slice A0 n0 cc0]) kd ho x c s A n cc) (hb : By w (.slice A n cc) bs) (hC : Clo w A n cc d bs) :
    Calls Tryd.prog 10 #[.agg #[.int .i64 st, .int .i64 hd], .agg #[.int .i64 kd0, .int .u8 x0, .int .i64 ho0, .int .u8 c0, .int .u8 s0, .slice A0 n0 cc0]] w fun e w' => Res .u8 w w' e (Sm.pAct m kd x ho.toNat c s d) bs := by
  obtain ⟨ms, mh⟩ := m
  obtain ⟨h1, h2, h3, h4, h5, h6⟩ := hm
  simp only at h1 h2 h3 h4
  rcases hn with ⟨rfl, hn⟩ | ⟨he, hn, hi⟩
  · simp only at hn
    obtain rfl | rfl | rfl | rfl | rfl | rfl : ms = 1 ∨ ms = 2 ∨ ms = 3 ∨ ms = 4 ∨ ms = 5 ∨ ms = 6 := by omega
    · obtain rfl := h4 (by decide)
      exact se_do1 hd kd0 ho0 x0 c0 s0 A0 n0 cc0 kd ho x c s A n cc d bs w hr hJ hb hC
    · obtain rfl := h4 (by decide)
      exact se_do2 hd kd0 ho0 x0 c0 s0 A0 n0 cc0 kd ho x c s A n cc d bs w hr hJ hb hC
    · obtain rfl := h4 (by decide)
      exact se_do3 hd kd0 ho0 x0 c0 s0 A0 n0 cc0 kd ho x c s A n cc d bs w hr hJ hb hC
    · obtain rfl := h4 (by decide)
      exact se_do4 hd kd0 ho0 x0 c0 s0 A0 n0 cc0 kd ho x c s A n cc d bs w hr hh hJ hb hC
    · obtain rfl : hd = mh := by rcases hn with hn | hn; omega; exact hn
      exact se_do5 mh h3 kd0 ho0 x0 c0 s0 A0 n0 cc0 kd ho x c s A n cc d bs w hr hJ hb hC
    · obtain rfl : hd = mh := by rcases hn with hn | hn; omega; exact hn
      exact se_do6 mh h3 kd0 ho0 x0 c0 s0 A0 n0 cc0 kd ho x c s A n cc d bs w hr hJ hb hC
  · injection he with e1 e2
    subst e1 e2
    exact se_doU st hd hn hi kd0 ho0 x0 c0 s0 A0 n0 cc0 kd ho x c s A n cc d bs w hr hJ hb hC
theorem se_do (st hd : Int) (m : Sm.M) (hm : Sm.Ok m) (hn : Nm st hd m) (kd ho : Int) (x c s : Nat) (A : Option Addr) (n cc : Nat) (bs : List UInt8) (w : World) (hr : RdS w) (hb : By w (.slice A n cc) bs) (hl : bs.length ≤ 140737488355328) :
    Calls Tryd.prog 10 #[.agg #[.int .i64 st, .int .i64 hd], .agg #[.int .i64 kd, .int .u8 x, .int .i64 ho, .int .u8 c, .int .u8 s, .slice A n cc]] w fun e w' => Res .u8 w w' e (Sm.step m ⟨kd, x, ho, c, s⟩) bs := by
  have hJ := fun u (hu : Kept Nothing w u) => se_judged kd ho x c s A n cc u (hr.old hu)
  rw [Sm.step_eq m hm]
  unfold Sm.jd at hJ
  have hby : By w (.slice none 0 0) [] := (Bs.nil w).by
  by_cases h1 : kd = 5 ∧ (x < 1 ∨ 5 < x)
  · rw [if_pos h1]
    simp only [if_pos h1] at hJ
    exact (se_doJ st hd m hm hn kd ho x c s A n cc 7 0 0 1 3 none 0 0 false [] w hr (by intro h; omega) hJ hby (clo_nil w none 0 0 [] hby)).mono fun _ _ h => h.any (Sm.pAct7 m hm 1 3) hb
  · rw [if_neg h1]
    simp only [if_neg h1] at hJ
    by_cases h2 : kd = 5 ∧ x = 1 ∧ ¬ (ho = 0 ∨ (3 ≤ ho ∧ ho ≤ 65535))
    · rw [if_pos h2]
      simp only [if_pos h2] at hJ
      exact (se_doJ st hd m hm hn kd ho x c s A n cc 7 0 0 2 6 none 0 0 false [] w hr (by intro h; omega) hJ hby (clo_nil w none 0 0 [] hby)).mono fun _ _ h => h.any (Sm.pAct7 m hm 2 6) hb
    · rw [if_neg h2]
      simp only [if_neg h2] at hJ
      exact se_doJ st hd m hm hn kd ho x c s A n cc kd ho x c s A n cc true bs w hr (by intro h; omega) hJ hb (clo_data w A n cc bs hb hl)
end Go.Proofs.YtembdobkgpojfaaDoor
