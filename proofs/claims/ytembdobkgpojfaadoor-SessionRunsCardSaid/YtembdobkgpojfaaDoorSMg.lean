
/-
  session: hears, halts, ends.
-/
import Derived.Test.YtembdobkgpojfaaDoorSMd
namespace Go.Proofs.YtembdobkgpojfaaDoor
open Go.RowKit

/-- A literal row of actions is the call's own. -/
theorem own_litS (w0 w : World) (hb : w0.heap.size ≤ w.heap.size) (dv : Value) (l : List Sm.Act) (cs : Array Value) (n : Nat) (hn : n = l.length) (hc : cs.toList = Sm.cls .u8 dv l) (hm : l.length ≤ 1000) : (w.alloc (.cells cs 109)).ownsRow w0.heap.size 109 6 (.slice (some ⟨w.heap.size, 0, none⟩) n n) n (Sm.cls .u8 dv l) := by
  subst hn
  have hs : cs.size = l.length * 6 := by rw [← Array.length_toList, hc, Sm.cls_length]
  exact ⟨by rw [Sm.cls_length], .inr ⟨w.heap.size, l.length, cs, rfl, hb, heap_alloc_new w _, Nat.le_refl _, by unfold maxLen; omega, hs, by rw [hc, List.take_of_length_le (by rw [Sm.cls_length]; omega)]⟩⟩

set_option maxHeartbeats 4000000 in
theorem se_hears1 (st hd : Nat) (h0 : 0 < hd) (h6 : hd ≤ 65535) (A : Option Addr) (n c : Nat) (M : List Sm.Act) (hn : n = M.length) (hl : M.length ≤ 1) (dA : Option Addr) (dn dc : Nat) (bs : List UInt8) (w : World) (hb : By w (.slice dA dn dc) bs) (hs : Src w 6 A M.length (Sm.cls .u8 (.slice dA dn dc) M)) :
    Calls Tryd.prog 97 #[.agg #[.int .i64 st, .int .i64 hd], .slice A n c] w fun e w' => Res .u8 w w' e (⟨st, hd⟩, Sm.set 2 hd :: M) bs := by
  have hne : ((hd : Int) == 0) = false := by simp; omega
  have HS := Lib.hid hs
  have HN := Lib.hid hn
  have HL := Lib.hid hl
  clear h0 h6 hs hn hl
  obtain ⟨M0, R0, K0⟩ := boxes2 w 24 24 #[.int .i64 st, .int .i64 hd] #[.int .i64 0, .int .i64 0]
  have HB := Lib.hid hb
  clear hb
  go_enter Tryd.func97, Tryd.ntmps97
  go_upto_region 1 with fail
  change Code.wp _ _ _ _ ((w.alloc (.cells #[.int .i64 st, .int .i64 hd] 24)).alloc (.cells #[.int .i64 0, .int .i64 0] 24))
  generalize (w.alloc (.cells #[.int .i64 st, .int .i64 hd] 24)).alloc (.cells #[.int .i64 0, .int .i64 0] 24) = W0 at *
  have c1 := M0.cell 1
  have c0 := M0.cell 0
  simp at c0 c1
  go_upto_region 3 with fail
  replace M0 := Lib.hid M0
  replace R0 := Lib.hid R0
  replace K0 := Lib.hid K0
  go_region_law (first
    | (go_simp; go_at_call 93; refine (se_set 2 hd _).mono ?_; rintro e w2 ⟨rfl, hk⟩; (have K2 := Lib.hid (K0.out.drew.trans hk)); (have R2 := Lib.hid (R0.out.drew.kept hk (fun x => x))); (have M2 := Lib.hid (M0.out.drew.kept hk (fun x => x))); (obtain ⟨d0, d1, -, -⟩ := mcells M2.out); (have k3 := (Kept.refl Nothing w2).alloc (.cells #[.int .i64 3, .int .u8 2, .int .i64 hd, .int .u8 0, .int .u8 0, .slice none 0 0] 109)); (have K3 := Lib.hid (K2.out.trans k3)); (have R3 := Lib.hid (R2.out.kept k3 (fun x => x))); (have M3 := Lib.hid (M2.out.kept k3 (fun x => x))); (obtain ⟨x0, x1, -, -⟩ := mcells M3.out); (have S3 := Lib.hid (HS.out.kept K3.out)); clear hk k3)
    | (refine step_appS rfl _ _ rfl w (.slice dA dn dc) (some ⟨w2.heap.size, 0, none⟩) 1 1 [Sm.set 2 hd] M rfl rfl (own_litS w w2 K2.out.size _ [Sm.set 2 hd] _ 1 rfl rfl (by simp)) A n c rfl HN.out S3.out (by have := HL.out; simp; omega) K3.out ?_; intro A4 n4 c4 w4 hn4 ho4 hk4 hb4 hy4; (have R4 := Lib.hid (hb4 _ _ _ (by decide) R3.out)); (have M4 := Lib.hid (hb4 _ _ _ (by decide) M3.out)); (obtain ⟨y0, y1, -, -⟩ := mcells M4.out); (obtain ⟨z0, z1, z2, z3⟩ := mcells R4.out); (have K4 := Lib.hid hk4); (have O4 := Lib.hid ho4); (have N4 := Lib.hid hn4); clear hn4 ho4 hk4 hb4 hy4))
  all_goals
    go_wp2
    refine bodyPost_ret (ret_mach rfl _ _ (w.heap.size + 1) _ _ _ rfl rfl (fin_blk R4.out)) rfl (res_fin2 N4.out (Acs.of_own (by have := O4.out; rwa [N4.out] at this ⊢) (HB.out.old K4.out)) R4.out K4.out (by omega))
theorem se_hears0 (st : Nat) (A : Option Addr) (n c : Nat) (M : List Sm.Act) (hn : n = M.length) (hc : n ≤ c) (hm : c ≤ maxLen) (dA : Option Addr) (dn dc : Nat) (bs : List UInt8) (w : World) (hb : By w (.slice dA dn dc) bs) (hs : Src w 6 A M.length (Sm.cls .u8 (.slice dA dn dc) M)) :
    Calls Tryd.prog 97 #[.agg #[.int .i64 st, .int .i64 0], .slice A n c] w fun e w' => Res .u8 w w' e (⟨st, 0⟩, M) bs := by
  obtain ⟨M0, R0, K0⟩ := boxes2 w 24 24 #[.int .i64 st, .int .i64 0] #[.int .i64 0, .int .i64 0]
  have HA : Hid (Acs .u8 w (.slice A n c) M bs) := Lib.hid ⟨dA, dn, dc, hb, A, c, by rw [hn], by omega, hm, hs⟩
  have HN := Lib.hid hn
  clear hb hn hc hm hs
  go_enter Tryd.func97, Tryd.ntmps97
  go_upto_region 1 with fail
  change Code.wp _ _ _ _ ((w.alloc (.cells #[.int .i64 st, .int .i64 0] 24)).alloc (.cells #[.int .i64 0, .int .i64 0] 24))
  generalize (w.alloc (.cells #[.int .i64 st, .int .i64 0] 24)).alloc (.cells #[.int .i64 0, .int .i64 0] 24) = W0 at *
  obtain ⟨c0, c1, -, -⟩ := mcells M0
  obtain ⟨r0, r1, g0, g1⟩ := mcells R0
  replace M0 := Lib.hid M0
  replace R0 := Lib.hid R0
  replace K0 := Lib.hid K0
  go_wp2
  refine bodyPost_ret (ret_mach rfl _ _ (w.heap.size + 1) _ _ _ rfl rfl (fin_blk R0.out)) rfl (res_fin2 HN.out (HA.out.old K0.out) R0.out K0.out (by omega))
/-- Its end. -/
theorem boxesH (w : World) (c1 c2 c3 : Array Value) : Blk (((w.alloc (.cells c1 24)).alloc (.cells c2 28)).alloc (.cells c3 24)) w.heap.size 24 c1 ∧ Blk (((w.alloc (.cells c1 24)).alloc (.cells c2 28)).alloc (.cells c3 24)) (w.heap.size + 1) 28 c2 ∧ Blk (((w.alloc (.cells c1 24)).alloc (.cells c2 28)).alloc (.cells c3 24)) (w.heap.size + 1 + 1) 24 c3 ∧ Kept Nothing w (((w.alloc (.cells c1 24)).alloc (.cells c2 28)).alloc (.cells c3 24)) := boxes3 w _ _ _ _ _ _
theorem fcells {v : World} {g : Nat} {x y : Value} (hB : Blk v g 28 #[x, y]) : v.cell? ⟨g, 0, none⟩ = some x ∧ v.cell? ⟨g, 1, none⟩ = some y := ⟨hB.cell 0, hB.cell 1⟩
theorem tell_cells (c s : Nat) (d : Bool) (dv v : Value) (h : (if d = true then dv else .slice none 0 0) = v) : (#[.int .i64 2, .int .u8 0, .int .i64 0, .int .u8 c, .int .u8 s, v] : Array Value).toList = Sm.cls .u8 dv [⟨2, 0, 0, c, s, d⟩] := by
  subst h
  rfl
/-- What Clone answers to what is handed to an end. -/
def Clo (w : World) (A : Option Addr) (n cc : Nat) (d : Bool) (bs : List UInt8) : Prop :=
  ∀ u, Kept Nothing w u → Calls Tryd.prog 112 #[.slice A n cc] u fun r u' => ∃ A' n' c' dA dn dc, r = .returned (.slice A' n' c') ∧ Kept Nothing u u' ∧ Dv w u' (.slice dA dn dc) bs ∧ (if d = true then (.slice dA dn dc : Value) else .slice none 0 0) = .slice A' n' c'
theorem clo_data (w : World) (A : Option Addr) (n cc : Nat) (bs : List UInt8) (h : By w (.slice A n cc) bs) (hl : bs.length ≤ 140737488355328) : Clo w A n cc true bs := fun u hu =>
  (se_clone A n cc bs u (h.old hu) hl).mono fun _ _ ⟨A', n', c', hr, hb, hk⟩ => ⟨A', n', c', A', n', c', hr, hk, .inr hb, rfl⟩
theorem clo_nil (w : World) (dA : Option Addr) (dn dc : Nat) (bs : List UInt8) (h : By w (.slice dA dn dc) bs) : Clo w none 0 0 false bs := fun u _ =>
  (se_clone_nil u).mono fun _ _ ⟨hr, hw⟩ => ⟨none, 0, 0, dA, dn, dc, hr, by subst hw; exact Kept.refl _ _, .inl h, rfl⟩
/-- The actions so far, and the boxes. -/
structure Sofar (w00 w u : World) (l : Value) (L : List Sm.Act) (st hd : Nat) (bs : List UInt8) (A : Option Addr) (n c : Nat) (dA : Option Addr) (dn dc : Nat) : Prop where
  val : l = .slice A n c
  len : n = L.length
  own : u.ownsRow w.heap.size 109 6 (.slice A n c) n (Sm.cls .u8 (.slice dA dn dc) L)
  dv : Dv w00 u (.slice dA dn dc) bs
  k : Kept Nothing w u
  m : Blk u w.heap.size 24 #[.int .i64 st, .int .i64 hd]
  r : Blk u (w.heap.size + 1 + 1) 24 #[.int .i64 0, .int .i64 0]
theorem Sofar.old {w00 w u u' : World} {l : Value} {L : List Sm.Act} {st hd : Nat} {bs : List UInt8} {A : Option Addr} {n c : Nat} {dA : Option Addr} {dn dc : Nat} (h : Sofar w00 w u l L st hd bs A n c dA dn dc) (k : Kept Nothing u u') : Sofar w00 w u' l L st hd bs A n c dA dn dc :=
  ⟨h.val, h.len, ow_kept h.own k (fun _ _ x => x), h.dv.old k, h.k.trans k, h.m.kept k (fun x => x), h.r.kept k (fun x => x)⟩

set_option maxHeartbeats 8000000 in
theorem se_haltsZ (st hd : Nat) (A : Option Addr) (n cc : Nat) (d : Bool) (dA : Option Addr) (dn dc : Nat) (bs : List UInt8) (w00 w : World) (hk00 : Kept Nothing w00 w) (hb : By w00 (.slice dA dn dc) bs) (hC : Clo w00 A n cc d bs) :
    Calls Tryd.prog 91 #[.agg #[.int .i64 st, .int .i64 hd], .agg #[.int .u8 0, .int .u8 0], .slice A n cc] w fun e w' => ResO w00 w w' e (Sm.ends st true 0 0 d) bs := by
  have HK00 := Lib.hid hk00
  have HB := Lib.hid hb
  have HC := Lib.hid hC
  clear hb hC hk00
  obtain ⟨M0, F0, R0, K0⟩ := boxesH w #[.int .i64 st, .int .i64 hd] #[.int .u8 0, .int .u8 0] #[.int .i64 0, .int .i64 0]
  go_enter Tryd.func91, Tryd.ntmps91
  go_upto_if 11 with fail
  change Code.wp _ _ _ _ ((((w.alloc (.cells #[.int .i64 st, .int .i64 hd] 24)).alloc (.cells #[.int .u8 0, .int .u8 0] 28)).alloc (.cells #[.int .i64 0, .int .i64 0] 24)))
  generalize ((w.alloc (.cells #[.int .i64 st, .int .i64 hd] 24)).alloc (.cells #[.int .u8 0, .int .u8 0] 28)).alloc (.cells #[.int .i64 0, .int .i64 0] 24) = W0 at *
  obtain ⟨f0, f1⟩ := fcells F0
  replace M0 := Lib.hid M0
  replace R0 := Lib.hid R0
  replace K0 := Lib.hid K0
  go_cut [8] (fun l wx => ∃ A4 n4 c4 eA en ec, l = .slice A4 n4 c4 ∧ Hid (Sofar w00 w wx l (Sm.tell 0 0 d) st hd bs A4 n4 c4 eA en ec))
  case first =>
    have HT : Hid (Sm.tell 0 0 d = []) := Lib.hid (by simp [Sm.tell])
    go_wp2
    go_meet
    rw [HT.out]
    exact ⟨none, 0, 0, dA, dn, dc, rfl, Lib.hid ⟨rfl, rfl, World.ownsRow_nil _ _ _ _, .inl HB.out, K0.out, M0.out, R0.out⟩⟩
  case rest =>
    obtain ⟨A4, n4, c4, eA, en, ec, rfl, hS⟩ := hcut
    clear HC HB
    have CM : ∀ u, Sofar w00 w u (.slice A4 n4 c4) (Sm.tell 0 0 d) st hd bs A4 n4 c4 eA en ec → u.cell? ⟨w.heap.size, 0, none⟩ = some (.int .i64 st) := fun u h => h.m.cell 0
    go_wp2_with fail
    refine (se_unset 1 _).mono ?_
    rintro e w11 ⟨rfl, hk⟩
    replace hS := Lib.hid (hS.out.old hk)
    clear hk
    go_wp2_with fail
    refine (se_unset 2 _).mono ?_
    rintro e w12 ⟨rfl, hk⟩
    replace hS := Lib.hid (hS.out.old hk)
    clear hk
    go_wp2_with fail
    refine (se_unset 3 _).mono ?_
    rintro e w13 ⟨rfl, hk⟩
    replace hS := Lib.hid (hS.out.old hk)
    clear hk
    have k14 := (Kept.refl Nothing w13).alloc (.cells #[.int .i64 5, .int .u8 0, .int .i64 0, .int .u8 0, .int .u8 0, .slice none 0 0, .int .i64 4, .int .u8 1, .int .i64 0, .int .u8 0, .int .u8 0, .slice none 0 0, .int .i64 4, .int .u8 2, .int .i64 0, .int .u8 0, .int .u8 0, .slice none 0 0, .int .i64 4, .int .u8 3, .int .i64 0, .int .u8 0, .int .u8 0, .slice none 0 0] 109)
    have hS14 := Lib.hid (hS.out.old k14)
    clear k14 hS CM
    have HLEN : Hid ((Sm.tell 0 0 d).length ≤ 1) := Lib.hid (by unfold Sm.tell; split <;> simp)
    go_upto_region 5 with (at_builtin; refine wpList_appS rfl _ _ rfl w (.slice eA en ec) A4 n4 c4 (Sm.tell 0 0 d) [Sm.a0 5, Sm.unset 1, Sm.unset 2, Sm.unset 3] hS14.out.len rfl hS14.out.own (some ⟨w13.heap.size, 0, none⟩) 4 4 rfl rfl (src_lit w13 eA en ec [Sm.a0 5, Sm.unset 1, Sm.unset 2, Sm.unset 3] _ rfl) (by have := HLEN.out; simp; omega) hS14.out.k ?_; intro A15 n15 c15 w15 hn15 ho15 hk15 hb15 hy15; (have S15 : Hid (Sofar w00 w w15 (.slice A15 n15 c15) (Sm.tell 0 0 d ++ [Sm.a0 5, Sm.unset 1, Sm.unset 2, Sm.unset 3]) st hd bs A15 n15 c15 eA en ec) := Lib.hid ⟨rfl, hn15, ho15, hS14.out.dv.app hy15, hk15, hb15 _ _ _ (by decide) hS14.out.m, hb15 _ _ _ (by decide) hS14.out.r⟩); clear hn15 ho15 hk15 hb15 hy15)
    clear hS14
    have m0 : w15.cell? ⟨w.heap.size, 0, none⟩ = some (.int .i64 st) := S15.out.m.cell 0
    have HL2 : Hid ((Sm.tell 0 0 d ++ [Sm.a0 5, Sm.unset 1, Sm.unset 2, Sm.unset 3]).length + 1 ≤ 1000) := Lib.hid (by have := HLEN.out; simp; omega)
    clear HLEN
    generalize hT : Sm.tell 0 0 d ++ [Sm.a0 5, Sm.unset 1, Sm.unset 2, Sm.unset 3] = L15 at *
    have HE : Hid (Sm.ends st true 0 0 d = (⟨1, 0⟩, L15 ++ if st = 6 then [Sm.a0 8] else [])) := Lib.hid (by rw [← hT]; simp [Sm.ends, List.append_assoc])
    clear hT
    by_cases h6 : st = 6
    · subst h6
      go_upto_if 28 with fail
      go_cut [8] (fun l wx => ∃ A4 n4 c4, l = .slice A4 n4 c4 ∧ Hid (Sofar w00 w wx l (L15 ++ [Sm.a0 8]) 6 hd bs A4 n4 c4 eA en ec))
      case first =>
        have k16 := (Kept.refl Nothing w15).alloc (.cells #[.int .i64 8, .int .u8 0, .int .i64 0, .int .u8 0, .int .u8 0, .slice none 0 0] 109)
        have S16 := Lib.hid (S15.out.old k16)
        clear k16
        go_wp2_with (at_builtin; refine wpList_appS rfl _ _ rfl w (.slice eA en ec) A15 n15 c15 L15 [Sm.a0 8] S15.out.len rfl S16.out.own (some ⟨w15.heap.size, 0, none⟩) 1 1 rfl rfl (src_lit w15 eA en ec [Sm.a0 8] _ rfl) HL2.out S16.out.k ?_; intro A17 n17 c17 w17 hn17 ho17 hk17 hb17 hy17; (have S17 : Hid (Sofar w00 w w17 (.slice A17 n17 c17) (L15 ++ [Sm.a0 8]) 6 hd bs A17 n17 c17 eA en ec) := Lib.hid ⟨rfl, hn17, ho17, S16.out.dv.app hy17, hk17, hb17 _ _ _ (by decide) S16.out.m, hb17 _ _ _ (by decide) S16.out.r⟩); clear hn17 ho17 hk17 hb17 hy17)
        go_meet
        exact ⟨_, _, _, rfl, S17⟩
      case rest =>
        obtain ⟨A5, n5, c5, rfl, S5⟩ := hcut
        clear S15 m0 HL2
        rw [if_pos rfl] at HE
        go_wp2_with fail
        refine (se_new _).mono ?_
        rintro e w18 ⟨rfl, hk⟩
        have S18 := Lib.hid (S5.out.old hk)
        clear hk S5
        obtain ⟨r0, r1, g0, g1⟩ := mcells S18.out.r
        go_wp2
        rw [HE.out]
        refine bodyPost_ret (ret_mach rfl _ _ (w.heap.size + 1 + 1) _ _ _ rfl rfl (fin_blk S18.out.r)) rfl (resO_fin2 S18.out.len S18.out.own S18.out.dv S18.out.r S18.out.k (by omega))
    · have h6i : ((st : Int) == 6) = false := by simp; omega
      rw [if_neg h6, List.append_nil] at HE
      clear h6
      go_wp2_with fail
      refine (se_new _).mono ?_
      rintro e w18 ⟨rfl, hk⟩
      have S18 := Lib.hid (S15.out.old hk)
      clear hk S15
      obtain ⟨r0, r1, g0, g1⟩ := mcells S18.out.r
      go_wp2
      rw [HE.out]
      refine bodyPost_ret (ret_mach rfl _ _ (w.heap.size + 1 + 1) _ _ _ rfl rfl (fin_blk S18.out.r)) rfl (resO_fin2 S18.out.len S18.out.own S18.out.dv S18.out.r S18.out.k (by omega))
set_option maxHeartbeats 8000000 in
theorem se_halts0 (st hd s : Nat) (hs0 : ¬ s = 0) (A : Option Addr) (n cc : Nat) (d : Bool) (dA : Option Addr) (dn dc : Nat) (bs : List UInt8) (w00 w : World) (hk00 : Kept Nothing w00 w) (hb : By w00 (.slice dA dn dc) bs) (hC : Clo w00 A n cc d bs) :
    Calls Tryd.prog 91 #[.agg #[.int .i64 st, .int .i64 hd], .agg #[.int .u8 0, .int .u8 s], .slice A n cc] w fun e w' => ResO w00 w w' e (Sm.ends st true 0 s d) bs := by
  have HK00 := Lib.hid hk00
  have HB := Lib.hid hb
  have HC := Lib.hid hC
  clear hb hC hk00
  have hs0i : ((s : Int) == 0) = false := by simpa using hs0
  obtain ⟨M0, F0, R0, K0⟩ := boxesH w #[.int .i64 st, .int .i64 hd] #[.int .u8 0, .int .u8 s] #[.int .i64 0, .int .i64 0]
  go_enter Tryd.func91, Tryd.ntmps91
  go_upto_if 11 with fail
  change Code.wp _ _ _ _ ((((w.alloc (.cells #[.int .i64 st, .int .i64 hd] 24)).alloc (.cells #[.int .u8 0, .int .u8 s] 28)).alloc (.cells #[.int .i64 0, .int .i64 0] 24)))
  generalize ((w.alloc (.cells #[.int .i64 st, .int .i64 hd] 24)).alloc (.cells #[.int .u8 0, .int .u8 s] 28)).alloc (.cells #[.int .i64 0, .int .i64 0] 24) = W0 at *
  obtain ⟨f0, f1⟩ := fcells F0
  replace M0 := Lib.hid M0
  replace R0 := Lib.hid R0
  replace K0 := Lib.hid K0
  go_cut [8] (fun l wx => ∃ A4 n4 c4 eA en ec, l = .slice A4 n4 c4 ∧ Hid (Sofar w00 w wx l (Sm.tell 0 s d) st hd bs A4 n4 c4 eA en ec))
  case first =>
    have HT : Hid (Sm.tell 0 s d = [⟨2, 0, 0, 0, s, d⟩]) := Lib.hid (by unfold Sm.tell; rw [if_pos (by omega)])
    go_upto_region 3 with fail
    go_region_law (first
      | (go_simp; go_at_call 112; refine (HC.out _ (by exact HK00.out.trans K0.out.drew)).mono ?_; rintro e w2 ⟨A2, n2, c2, eA, en, ec, rfl, hk, hD, hdv⟩; (have K2 := Lib.hid (K0.out.drew.trans hk)); (have R2 := Lib.hid (R0.out.drew.kept hk (fun x => x))); (have M2 := Lib.hid (M0.out.drew.kept hk (fun x => x))); (obtain ⟨d0, d1⟩ := fcells (F0.drew.kept hk (fun x => x))); (have k3 := (Kept.refl Nothing w2).alloc (.cells #[.int .i64 2, .int .u8 0, .int .i64 0, .int .u8 0, .int .u8 s, .slice A2 n2 c2] 109)); (have K3 := Lib.hid (K2.out.trans k3)); (have R3 := Lib.hid (R2.out.kept k3 (fun x => x))); (have M3 := Lib.hid (M2.out.kept k3 (fun x => x))); (have D3 := Lib.hid (hD.old k3)); (have DV := Lib.hid hdv); clear hk k3 hD hdv)
      | (refine step_appS rfl _ _ rfl w (.slice eA en ec) none 0 0 [] [⟨2, 0, 0, 0, s, d⟩] rfl rfl (World.ownsRow_nil _ _ _ _) (some ⟨w2.heap.size, 0, none⟩) 1 1 rfl rfl (src_lit w2 eA en ec [⟨2, 0, 0, 0, s, d⟩] _ (tell_cells _ s d _ _ DV.out)) (by simp) K3.out ?_; intro A4 n4 c4 w4 hn4 ho4 hk4 hb4 hy4; (have S4 : Hid (Sofar w00 w w4 (.slice A4 n4 c4) [⟨2, 0, 0, 0, s, d⟩] st hd bs A4 n4 c4 eA en ec) := Lib.hid ⟨rfl, hn4, ho4, D3.out.app hy4, hk4, hb4 _ _ _ (by decide) M3.out, hb4 _ _ _ (by decide) R3.out⟩); clear hn4 ho4 hk4 hb4 hy4))
    all_goals
      go_wp2
      go_meet
      rw [HT.out]
      exact ⟨_, _, _, _, _, _, rfl, S4⟩
  case rest =>
    obtain ⟨A4, n4, c4, eA, en, ec, rfl, hS⟩ := hcut
    clear HC HB
    have CM : ∀ u, Sofar w00 w u (.slice A4 n4 c4) (Sm.tell 0 s d) st hd bs A4 n4 c4 eA en ec → u.cell? ⟨w.heap.size, 0, none⟩ = some (.int .i64 st) := fun u h => h.m.cell 0
    go_wp2_with fail
    refine (se_unset 1 _).mono ?_
    rintro e w11 ⟨rfl, hk⟩
    replace hS := Lib.hid (hS.out.old hk)
    clear hk
    go_wp2_with fail
    refine (se_unset 2 _).mono ?_
    rintro e w12 ⟨rfl, hk⟩
    replace hS := Lib.hid (hS.out.old hk)
    clear hk
    go_wp2_with fail
    refine (se_unset 3 _).mono ?_
    rintro e w13 ⟨rfl, hk⟩
    replace hS := Lib.hid (hS.out.old hk)
    clear hk
    have k14 := (Kept.refl Nothing w13).alloc (.cells #[.int .i64 5, .int .u8 0, .int .i64 0, .int .u8 0, .int .u8 0, .slice none 0 0, .int .i64 4, .int .u8 1, .int .i64 0, .int .u8 0, .int .u8 0, .slice none 0 0, .int .i64 4, .int .u8 2, .int .i64 0, .int .u8 0, .int .u8 0, .slice none 0 0, .int .i64 4, .int .u8 3, .int .i64 0, .int .u8 0, .int .u8 0, .slice none 0 0] 109)
    have hS14 := Lib.hid (hS.out.old k14)
    clear k14 hS CM
    have HLEN : Hid ((Sm.tell 0 s d).length ≤ 1) := Lib.hid (by unfold Sm.tell; split <;> simp)
    go_upto_region 5 with (at_builtin; refine wpList_appS rfl _ _ rfl w (.slice eA en ec) A4 n4 c4 (Sm.tell 0 s d) [Sm.a0 5, Sm.unset 1, Sm.unset 2, Sm.unset 3] hS14.out.len rfl hS14.out.own (some ⟨w13.heap.size, 0, none⟩) 4 4 rfl rfl (src_lit w13 eA en ec [Sm.a0 5, Sm.unset 1, Sm.unset 2, Sm.unset 3] _ rfl) (by have := HLEN.out; simp; omega) hS14.out.k ?_; intro A15 n15 c15 w15 hn15 ho15 hk15 hb15 hy15; (have S15 : Hid (Sofar w00 w w15 (.slice A15 n15 c15) (Sm.tell 0 s d ++ [Sm.a0 5, Sm.unset 1, Sm.unset 2, Sm.unset 3]) st hd bs A15 n15 c15 eA en ec) := Lib.hid ⟨rfl, hn15, ho15, hS14.out.dv.app hy15, hk15, hb15 _ _ _ (by decide) hS14.out.m, hb15 _ _ _ (by decide) hS14.out.r⟩); clear hn15 ho15 hk15 hb15 hy15)
    clear hS14
    have m0 : w15.cell? ⟨w.heap.size, 0, none⟩ = some (.int .i64 st) := S15.out.m.cell 0
    have HL2 : Hid ((Sm.tell 0 s d ++ [Sm.a0 5, Sm.unset 1, Sm.unset 2, Sm.unset 3]).length + 1 ≤ 1000) := Lib.hid (by have := HLEN.out; simp; omega)
    clear HLEN
    generalize hT : Sm.tell 0 s d ++ [Sm.a0 5, Sm.unset 1, Sm.unset 2, Sm.unset 3] = L15 at *
    have HE : Hid (Sm.ends st true 0 s d = (⟨1, 0⟩, L15 ++ if st = 6 then [Sm.a0 8] else [])) := Lib.hid (by rw [← hT]; simp [Sm.ends, List.append_assoc])
    clear hT
    by_cases h6 : st = 6
    · subst h6
      go_upto_if 28 with fail
      go_cut [8] (fun l wx => ∃ A4 n4 c4, l = .slice A4 n4 c4 ∧ Hid (Sofar w00 w wx l (L15 ++ [Sm.a0 8]) 6 hd bs A4 n4 c4 eA en ec))
      case first =>
        have k16 := (Kept.refl Nothing w15).alloc (.cells #[.int .i64 8, .int .u8 0, .int .i64 0, .int .u8 0, .int .u8 0, .slice none 0 0] 109)
        have S16 := Lib.hid (S15.out.old k16)
        clear k16
        go_wp2_with (at_builtin; refine wpList_appS rfl _ _ rfl w (.slice eA en ec) A15 n15 c15 L15 [Sm.a0 8] S15.out.len rfl S16.out.own (some ⟨w15.heap.size, 0, none⟩) 1 1 rfl rfl (src_lit w15 eA en ec [Sm.a0 8] _ rfl) HL2.out S16.out.k ?_; intro A17 n17 c17 w17 hn17 ho17 hk17 hb17 hy17; (have S17 : Hid (Sofar w00 w w17 (.slice A17 n17 c17) (L15 ++ [Sm.a0 8]) 6 hd bs A17 n17 c17 eA en ec) := Lib.hid ⟨rfl, hn17, ho17, S16.out.dv.app hy17, hk17, hb17 _ _ _ (by decide) S16.out.m, hb17 _ _ _ (by decide) S16.out.r⟩); clear hn17 ho17 hk17 hb17 hy17)
        go_meet
        exact ⟨_, _, _, rfl, S17⟩
      case rest =>
        obtain ⟨A5, n5, c5, rfl, S5⟩ := hcut
        clear S15 m0 HL2
        rw [if_pos rfl] at HE
        go_wp2_with fail
        refine (se_new _).mono ?_
        rintro e w18 ⟨rfl, hk⟩
        have S18 := Lib.hid (S5.out.old hk)
        clear hk S5
        obtain ⟨r0, r1, g0, g1⟩ := mcells S18.out.r
        go_wp2
        rw [HE.out]
        refine bodyPost_ret (ret_mach rfl _ _ (w.heap.size + 1 + 1) _ _ _ rfl rfl (fin_blk S18.out.r)) rfl (resO_fin2 S18.out.len S18.out.own S18.out.dv S18.out.r S18.out.k (by omega))
    · have h6i : ((st : Int) == 6) = false := by simp; omega
      rw [if_neg h6, List.append_nil] at HE
      clear h6
      go_wp2_with fail
      refine (se_new _).mono ?_
      rintro e w18 ⟨rfl, hk⟩
      have S18 := Lib.hid (S15.out.old hk)
      clear hk S15
      obtain ⟨r0, r1, g0, g1⟩ := mcells S18.out.r
      go_wp2
      rw [HE.out]
      refine bodyPost_ret (ret_mach rfl _ _ (w.heap.size + 1 + 1) _ _ _ rfl rfl (fin_blk S18.out.r)) rfl (resO_fin2 S18.out.len S18.out.own S18.out.dv S18.out.r S18.out.k (by omega))
set_option maxHeartbeats 8000000 in
theorem se_halts1 (st hd c s : Nat) (hc0 : ¬ c = 0) (A : Option Addr) (n cc : Nat) (d : Bool) (dA : Option Addr) (dn dc : Nat) (bs : List UInt8) (w00 w : World) (hk00 : Kept Nothing w00 w) (hb : By w00 (.slice dA dn dc) bs) (hC : Clo w00 A n cc d bs) :
    Calls Tryd.prog 91 #[.agg #[.int .i64 st, .int .i64 hd], .agg #[.int .u8 c, .int .u8 s], .slice A n cc] w fun e w' => ResO w00 w w' e (Sm.ends st true c s d) bs := by
  have HK00 := Lib.hid hk00
  have HB := Lib.hid hb
  have HC := Lib.hid hC
  clear hb hC hk00
  have hc0i : ((c : Int) == 0) = false := by simpa using hc0
  obtain ⟨M0, F0, R0, K0⟩ := boxesH w #[.int .i64 st, .int .i64 hd] #[.int .u8 c, .int .u8 s] #[.int .i64 0, .int .i64 0]
  go_enter Tryd.func91, Tryd.ntmps91
  go_upto_if 11 with fail
  change Code.wp _ _ _ _ ((((w.alloc (.cells #[.int .i64 st, .int .i64 hd] 24)).alloc (.cells #[.int .u8 c, .int .u8 s] 28)).alloc (.cells #[.int .i64 0, .int .i64 0] 24)))
  generalize ((w.alloc (.cells #[.int .i64 st, .int .i64 hd] 24)).alloc (.cells #[.int .u8 c, .int .u8 s] 28)).alloc (.cells #[.int .i64 0, .int .i64 0] 24) = W0 at *
  obtain ⟨f0, f1⟩ := fcells F0
  replace M0 := Lib.hid M0
  replace R0 := Lib.hid R0
  replace K0 := Lib.hid K0
  go_cut [8] (fun l wx => ∃ A4 n4 c4 eA en ec, l = .slice A4 n4 c4 ∧ Hid (Sofar w00 w wx l (Sm.tell c s d) st hd bs A4 n4 c4 eA en ec))
  case first =>
    have HT : Hid (Sm.tell c s d = [⟨2, 0, 0, c, s, d⟩]) := Lib.hid (by unfold Sm.tell; rw [if_pos (by omega)])
    go_upto_region 3 with fail
    go_region_law (first
      | (go_simp; go_at_call 112; refine (HC.out _ (by exact HK00.out.trans K0.out.drew)).mono ?_; rintro e w2 ⟨A2, n2, c2, eA, en, ec, rfl, hk, hD, hdv⟩; (have K2 := Lib.hid (K0.out.drew.trans hk)); (have R2 := Lib.hid (R0.out.drew.kept hk (fun x => x))); (have M2 := Lib.hid (M0.out.drew.kept hk (fun x => x))); (obtain ⟨d0, d1⟩ := fcells (F0.drew.kept hk (fun x => x))); (have k3 := (Kept.refl Nothing w2).alloc (.cells #[.int .i64 2, .int .u8 0, .int .i64 0, .int .u8 c, .int .u8 s, .slice A2 n2 c2] 109)); (have K3 := Lib.hid (K2.out.trans k3)); (have R3 := Lib.hid (R2.out.kept k3 (fun x => x))); (have M3 := Lib.hid (M2.out.kept k3 (fun x => x))); (have D3 := Lib.hid (hD.old k3)); (have DV := Lib.hid hdv); clear hk k3 hD hdv)
      | (refine step_appS rfl _ _ rfl w (.slice eA en ec) none 0 0 [] [⟨2, 0, 0, c, s, d⟩] rfl rfl (World.ownsRow_nil _ _ _ _) (some ⟨w2.heap.size, 0, none⟩) 1 1 rfl rfl (src_lit w2 eA en ec [⟨2, 0, 0, c, s, d⟩] _ (tell_cells _ s d _ _ DV.out)) (by simp) K3.out ?_; intro A4 n4 c4 w4 hn4 ho4 hk4 hb4 hy4; (have S4 : Hid (Sofar w00 w w4 (.slice A4 n4 c4) [⟨2, 0, 0, c, s, d⟩] st hd bs A4 n4 c4 eA en ec) := Lib.hid ⟨rfl, hn4, ho4, D3.out.app hy4, hk4, hb4 _ _ _ (by decide) M3.out, hb4 _ _ _ (by decide) R3.out⟩); clear hn4 ho4 hk4 hb4 hy4))
    all_goals
      go_wp2
      go_meet
      rw [HT.out]
      exact ⟨_, _, _, _, _, _, rfl, S4⟩
  case rest =>
    obtain ⟨A4, n4, c4, eA, en, ec, rfl, hS⟩ := hcut
    clear HC HB
    have CM : ∀ u, Sofar w00 w u (.slice A4 n4 c4) (Sm.tell c s d) st hd bs A4 n4 c4 eA en ec → u.cell? ⟨w.heap.size, 0, none⟩ = some (.int .i64 st) := fun u h => h.m.cell 0
    go_wp2_with fail
    refine (se_unset 1 _).mono ?_
    rintro e w11 ⟨rfl, hk⟩
    replace hS := Lib.hid (hS.out.old hk)
    clear hk
    go_wp2_with fail
    refine (se_unset 2 _).mono ?_
    rintro e w12 ⟨rfl, hk⟩
    replace hS := Lib.hid (hS.out.old hk)
    clear hk
    go_wp2_with fail
    refine (se_unset 3 _).mono ?_
    rintro e w13 ⟨rfl, hk⟩
    replace hS := Lib.hid (hS.out.old hk)
    clear hk
    have k14 := (Kept.refl Nothing w13).alloc (.cells #[.int .i64 5, .int .u8 0, .int .i64 0, .int .u8 0, .int .u8 0, .slice none 0 0, .int .i64 4, .int .u8 1, .int .i64 0, .int .u8 0, .int .u8 0, .slice none 0 0, .int .i64 4, .int .u8 2, .int .i64 0, .int .u8 0, .int .u8 0, .slice none 0 0, .int .i64 4, .int .u8 3, .int .i64 0, .int .u8 0, .int .u8 0, .slice none 0 0] 109)
    have hS14 := Lib.hid (hS.out.old k14)
    clear k14 hS CM
    have HLEN : Hid ((Sm.tell c s d).length ≤ 1) := Lib.hid (by unfold Sm.tell; split <;> simp)
    go_upto_region 5 with (at_builtin; refine wpList_appS rfl _ _ rfl w (.slice eA en ec) A4 n4 c4 (Sm.tell c s d) [Sm.a0 5, Sm.unset 1, Sm.unset 2, Sm.unset 3] hS14.out.len rfl hS14.out.own (some ⟨w13.heap.size, 0, none⟩) 4 4 rfl rfl (src_lit w13 eA en ec [Sm.a0 5, Sm.unset 1, Sm.unset 2, Sm.unset 3] _ rfl) (by have := HLEN.out; simp; omega) hS14.out.k ?_; intro A15 n15 c15 w15 hn15 ho15 hk15 hb15 hy15; (have S15 : Hid (Sofar w00 w w15 (.slice A15 n15 c15) (Sm.tell c s d ++ [Sm.a0 5, Sm.unset 1, Sm.unset 2, Sm.unset 3]) st hd bs A15 n15 c15 eA en ec) := Lib.hid ⟨rfl, hn15, ho15, hS14.out.dv.app hy15, hk15, hb15 _ _ _ (by decide) hS14.out.m, hb15 _ _ _ (by decide) hS14.out.r⟩); clear hn15 ho15 hk15 hb15 hy15)
    clear hS14
    have m0 : w15.cell? ⟨w.heap.size, 0, none⟩ = some (.int .i64 st) := S15.out.m.cell 0
    have HL2 : Hid ((Sm.tell c s d ++ [Sm.a0 5, Sm.unset 1, Sm.unset 2, Sm.unset 3]).length + 1 ≤ 1000) := Lib.hid (by have := HLEN.out; simp; omega)
    clear HLEN
    generalize hT : Sm.tell c s d ++ [Sm.a0 5, Sm.unset 1, Sm.unset 2, Sm.unset 3] = L15 at *
    have HE : Hid (Sm.ends st true c s d = (⟨1, 0⟩, L15 ++ if st = 6 then [Sm.a0 8] else [])) := Lib.hid (by rw [← hT]; simp [Sm.ends, List.append_assoc])
    clear hT
    by_cases h6 : st = 6
    · subst h6
      go_upto_if 28 with fail
      go_cut [8] (fun l wx => ∃ A4 n4 c4, l = .slice A4 n4 c4 ∧ Hid (Sofar w00 w wx l (L15 ++ [Sm.a0 8]) 6 hd bs A4 n4 c4 eA en ec))
      case first =>
        have k16 := (Kept.refl Nothing w15).alloc (.cells #[.int .i64 8, .int .u8 0, .int .i64 0, .int .u8 0, .int .u8 0, .slice none 0 0] 109)
        have S16 := Lib.hid (S15.out.old k16)
        clear k16
        go_wp2_with (at_builtin; refine wpList_appS rfl _ _ rfl w (.slice eA en ec) A15 n15 c15 L15 [Sm.a0 8] S15.out.len rfl S16.out.own (some ⟨w15.heap.size, 0, none⟩) 1 1 rfl rfl (src_lit w15 eA en ec [Sm.a0 8] _ rfl) HL2.out S16.out.k ?_; intro A17 n17 c17 w17 hn17 ho17 hk17 hb17 hy17; (have S17 : Hid (Sofar w00 w w17 (.slice A17 n17 c17) (L15 ++ [Sm.a0 8]) 6 hd bs A17 n17 c17 eA en ec) := Lib.hid ⟨rfl, hn17, ho17, S16.out.dv.app hy17, hk17, hb17 _ _ _ (by decide) S16.out.m, hb17 _ _ _ (by decide) S16.out.r⟩); clear hn17 ho17 hk17 hb17 hy17)
        go_meet
        exact ⟨_, _, _, rfl, S17⟩
      case rest =>
        obtain ⟨A5, n5, c5, rfl, S5⟩ := hcut
        clear S15 m0 HL2
        rw [if_pos rfl] at HE
        go_wp2_with fail
        refine (se_new _).mono ?_
        rintro e w18 ⟨rfl, hk⟩
        have S18 := Lib.hid (S5.out.old hk)
        clear hk S5
        obtain ⟨r0, r1, g0, g1⟩ := mcells S18.out.r
        go_wp2
        rw [HE.out]
        refine bodyPost_ret (ret_mach rfl _ _ (w.heap.size + 1 + 1) _ _ _ rfl rfl (fin_blk S18.out.r)) rfl (resO_fin2 S18.out.len S18.out.own S18.out.dv S18.out.r S18.out.k (by omega))
    · have h6i : ((st : Int) == 6) = false := by simp; omega
      rw [if_neg h6, List.append_nil] at HE
      clear h6
      go_wp2_with fail
      refine (se_new _).mono ?_
      rintro e w18 ⟨rfl, hk⟩
      have S18 := Lib.hid (S15.out.old hk)
      clear hk S15
      obtain ⟨r0, r1, g0, g1⟩ := mcells S18.out.r
      go_wp2
      rw [HE.out]
      refine bodyPost_ret (ret_mach rfl _ _ (w.heap.size + 1 + 1) _ _ _ rfl rfl (fin_blk S18.out.r)) rfl (resO_fin2 S18.out.len S18.out.own S18.out.dv S18.out.r S18.out.k (by omega))
theorem se_halts (st hd c s : Nat) (A : Option Addr) (n cc : Nat) (d : Bool) (dA : Option Addr) (dn dc : Nat) (bs : List UInt8) (w00 w : World) (hk00 : Kept Nothing w00 w) (hb : By w00 (.slice dA dn dc) bs) (hC : Clo w00 A n cc d bs) :
    Calls Tryd.prog 91 #[.agg #[.int .i64 st, .int .i64 hd], .agg #[.int .u8 c, .int .u8 s], .slice A n cc] w fun e w' => ResO w00 w w' e (Sm.ends st true c s d) bs := by
  by_cases hc : c = 0
  · subst hc
    by_cases hs : s = 0
    · subst hs
      exact se_haltsZ st hd A n cc d dA dn dc bs w00 w hk00 hb hC
    · exact se_halts0 st hd s hs A n cc d dA dn dc bs w00 w hk00 hb hC
  · exact se_halts1 st hd c s hc A n cc d dA dn dc bs w00 w hk00 hb hC
end Go.Proofs.YtembdobkgpojfaaDoor
