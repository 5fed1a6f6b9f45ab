
/-
  attrs: attributes in a block, all of it of the call's own; what a reader of a value finds there.
-/
import Derived.Test.YteofbpdogmajoaaGreatDoorZd
import Derived.Test.YteofbpdogmajoaaGreatDoorZg
import Derived.Shelf.Spec.TrailingZeros
import Derived.Test.YteofbpdogmajoaaGreatDoorZl
namespace Go.Proofs.YteofbpdogmajoaaGreatDoor
open Go.RowKit

theorem is1_any (a t : UInt8) (x : Value) (pt : Nat) (s : UInt8) (w : World) (hc : w.cell? ⟨pt, 0, none⟩ = some (.int .u8 (s.toNat : Int))) :
    Calls Tryz.prog 62 #[.agg #[.int .u8 (a.toNat : Int), .int .u8 (t.toNat : Int), x], .pointer (some ⟨pt, 0, none⟩)] w fun e w' => e = .returned (.bool (decide (t = s))) ∧ Kept Nothing w w' := by
  have HK := Lib.hid ((Kept.refl Nothing w).alloc (.cells #[.int .u8 (a.toNat : Int), .int .u8 (t.toNat : Int), x] 73))
  have HC := Lib.hid (ot_is a t x s)
  have c0 := HK.out.cell_some hc (fun x => x)
  clear hc
  generalize decide (t = s) = d at *
  go_enter Tryz.func62, Tryz.ntmps62
  go_wp2_with (go_at_call 56; refine (HC.out _).mono ?_; rintro e w1 ⟨rfl, k1⟩)
  go_ret
  exact ⟨rfl, HK.out.trans k1⟩

theorem Ot.drop_next {l : List Ot} {k : Nat} (h : k < l.length) : l.drop k = l[k] :: l.drop (k + 1) := List.drop_eq_getElem_cons h

set_option maxHeartbeats 1000000 in
theorem ots_index (v : Value) (l : List Ot) (pt : Nat) (s : UInt8) (w : World) (hv : Ots w v l) (hc : w.cell? ⟨pt, 0, none⟩ = some (.int .u8 (s.toNat : Int))) :
    Calls Tryz.prog 110 #[v, .func (.func 62) #[] #[.pointer (some ⟨pt, 0, none⟩)]] w fun e w' => ∃ z : Int, e = .returned (.int .i64 z) ∧ decide (0 ≤ z) = l.any (fun o => decide (o.t = s)) ∧ Kept Nothing w w' := by
  obtain ⟨A, c, rfl, hcc, hm⟩ := hv.form
  unfold maxLen at hm
  have HV := Lib.hid hv
  have HC := Lib.hid hc
  clear hv hc
  go_enter Tryz.func110, Tryz.ntmps110
  go_wp2
  go_loopw [8] (fun i wr => ∃ k : Nat, k ≤ l.length ∧ i = .int .i64 (k : Int) ∧ Kept Nothing w wr ∧ Hid ((l.drop k).any (fun o => decide (o.t = s)) = l.any (fun o => decide (o.t = s)))) (fun i _ => l.length - (intOf i).toNat)
  case atStart => exact ⟨0, Nat.zero_le _, rfl, Kept.refl _ _, Lib.hid rfl⟩
  case round =>
    obtain ⟨k, hk, rfl, hkw, HR⟩ := hrel
    by_cases hlt : k < l.length
    · obtain ⟨b, o, rfl, hcell⟩ := HV.out.at (by omega)
      obtain ⟨q0, q1, u, q2, q3⟩ := hcell k hlt
      have c0 := hkw.cell_some q0 (fun x => x)
      have c1 := hkw.cell_some q1 (fun x => x)
      have c2 := hkw.cell_some q2 (fun x => x)
      obtain ⟨A1, cc1, rfl, _, _⟩ := q3.form
      have HD := Lib.hid (Ot.drop_next hlt)
      have HK := Lib.hid hkw
      have hR := HR.out
      rw [HD.out, List.any_cons] at hR
      have HC2 := Lib.hid (HK.out.cell_some HC.out (fun x => x))
      generalize hP : l[k] = P at *
      obtain ⟨pf, ptt, pv⟩ := P
      simp only at c0 c1 c2 hR
      have HW := Lib.hid (is1_any pf ptt (.slice A1 pv.length cc1) pt s _ HC2.out)
      unfold by8 at c0 c1
      clear hcell q0 q1 q2 q3 hkw hP HD
      cases hlong : decide (ptt = s) with
      | true =>
        rw [hlong] at hR HW
        rw [Bool.true_or] at hR
        have HR2 := Lib.hid hR
        clear hlong HR hR
        go_wp2_with (go_at_call 62; with_reducible refine (HW.out).mono ?_; rintro e w1 ⟨rfl, hk1⟩)
        go_ret
        exact ⟨_, rfl, by rw [← HR2.out]; simp, HK.out.trans hk1⟩
      | false =>
        rw [hlong] at hR HW
        rw [Bool.false_or] at hR
        have HR2 := Lib.hid hR
        clear hlong HR hR
        go_wp2_with (go_at_call 62; with_reducible refine (HW.out).mono ?_; rintro e w1 ⟨rfl, hk1⟩)
        go_roundw
        case rel => exact ⟨k + 1, by omega, by go_num, HK.out.trans hk1, HR2⟩
        case measure => simp [intOf]; omega
    · have hR := HR.out
      rw [List.drop_eq_nil_of_le (by omega)] at hR
      have HR2 := Lib.hid hR
      clear HR hR
      go_wp2
      go_ret
      exact ⟨_, rfl, by rw [← HR2.out]; rfl, hkw⟩

theorem ots_contains (v : Value) (l : List Ot) (pt : Nat) (s : UInt8) (w : World) (hv : Ots w v l) (hc : w.cell? ⟨pt, 0, none⟩ = some (.int .u8 (s.toNat : Int))) :
    Calls Tryz.prog 61 #[v, .func (.func 62) #[] #[.pointer (some ⟨pt, 0, none⟩)]] w fun e w' => e = .returned (.bool (l.any (fun o => decide (o.t = s)))) ∧ Kept Nothing w w' := by
  have HC := Lib.hid (ots_index v l pt s w hv hc)
  clear hv hc
  go_enter Tryz.func61, Tryz.ntmps61
  go_wp2_with fail
  refine HC.out.mono ?_
  rintro e w' ⟨z, rfl, hz, hk⟩
  have HZ := Lib.hid hz
  clear hz
  go_wp2
  go_ret
  exact ⟨ret_bool HZ.out, hk⟩
end Go.Proofs.YteofbpdogmajoaaGreatDoor
namespace Go.Proofs.YteofbpdogmajoaaGreatDoor
open Go.RowKit

/-- Attributes. -/
structure At where
  has : Nat
  origin : UInt8
  path : List Seg
  nh : Nat
  med : Nat
  pref : Nat
  byA : Nat
  byI : Nat
  comms : List Nat
  path4 : List Seg
  by4A : Nat
  by4I : Nat
  others : List Ot

namespace Ax
/-- The value of attributes, their slices given. -/
def agg (a : At) (pv cv qv ov : Value) : Array Value :=
  #[.int .u32 (a.has : Int), .int .u8 (a.origin.toNat : Int), pv, .int .u32 (a.nh : Int), .int .u32 (a.med : Int), .int .u32 (a.pref : Int), .int .u32 (a.byA : Int), .int .u32 (a.byI : Int), cv, qv, .int .u32 (a.by4A : Int), .int .u32 (a.by4I : Int), ov]
def fit (a : At) : Prop := a.has < 4294967296 ∧ a.nh < 4294967296 ∧ a.med < 4294967296 ∧ a.pref < 4294967296 ∧ a.byA < 4294967296 ∧ a.byI < 4294967296 ∧ a.by4A < 4294967296 ∧ a.by4I < 4294967296
/-- Whether attributes have a type. -/
def is (a : At) (t : UInt8) : Bool := if known t then decide (a.has &&& bit t ≠ 0) else a.others.any fun o => decide (o.t = t)
end Ax
/-- Their slices read as they should. -/
def Atp (w : World) (a : At) (pv cv qv ov : Value) : Prop := Pts w pv a.path ∧ As w cv a.comms ∧ Pts w qv a.path4 ∧ Ots w ov a.others ∧ Ax.fit a
theorem Atp.old {w w' : World} {a : At} {pv cv qv ov : Value} (h : Atp w a pv cv qv ov) (k : Kept Nothing w w') : Atp w' a pv cv qv ov := ⟨h.1.old k, h.2.1.old k, h.2.2.1.old k, h.2.2.2.1.old k, h.2.2.2.2⟩

theorem bit_lt (t : UInt8) : Ax.bit t < 4294967296 := by
  unfold Ax.bit
  split
  · exact Nat.pow_lt_pow_right (by omega) (show t.toNat < 32 by assumption)
  · omega

set_option maxHeartbeats 1000000 in
theorem at_is (a : At) (pv cv qv ov : Value) (t : UInt8) (w : World) (h : Atp w a pv cv qv ov) (ht : Wtd w) :
    Calls Tryz.prog 18 #[.agg (Ax.agg a pv cv qv ov), .int .u8 (t.toNat : Int)] w fun e w' => e = .returned (.bool (Ax.is a t)) ∧ Kept Nothing w w' := by
  have HE : Hid (Ax.is a t = if Ax.known t then decide (a.has &&& Ax.bit t ≠ 0) else a.others.any fun o => decide (o.t = t)) := Lib.hid rfl
  have k1 := (Kept.refl Nothing w).alloc (.cells (Ax.agg a pv cv qv ov) 33)
  have k2 := k1.alloc (.cells #[.int .u8 (t.toNat : Int)] 5)
  have bA := (Blk.fresh w 33 (Ax.agg a pv cv qv ov)).alloc (.cells #[.int .u8 (t.toNat : Int)] 5)
  have bT := Blk.fresh (w.alloc (.cells (Ax.agg a pv cv qv ov) 33)) 5 #[.int .u8 (t.toNat : Int)]
  rw [World.size_alloc] at bT
  have HK := Lib.hid k2
  have HKN := Lib.hid (known_any t _ (ht.kept k2))
  have HBI := Lib.hid (bit_any7 t)
  have HO := Lib.hid (h.2.2.2.1.old k2)
  have HBT := Lib.hid bT
  have a0 := bA.cell 0
  have a10 := bA.cell 12
  have t0 := bT.cell 0
  have hfit := h.2.2.2.2
  unfold Ax.agg at *
  clear k1 k2 bA bT h ht
  cases hk : Ax.known t with
  | true =>
    rw [hk] at HKN HE
    have HE2 : Hid (Ax.is a t = (((a.has &&& Ax.bit t : Nat) : Int) != 0)) := Lib.hid (by
      rw [HE.out, if_pos rfl, Bool.eq_iff_iff, decide_eq_true_eq, bne_iff_ne]
      omega)
    have HA : Hid (bits .and .u32 (a.has : Int) (Ax.bit t : Int) = ((a.has &&& Ax.bit t : Nat) : Int)) := Lib.hid (bits_and_u32_nat _ _ hfit.1 (bit_lt t))
    rw [HE2.out]
    have ha := HA.out
    clear hk HE HE2 HO
    generalize a.has &&& Ax.bit t = r at *
    go_enter Tryz.func18, Tryz.ntmps18
    go_wp2_with (first
      | (go_at_call 28; refine HKN.out.mono ?_; rintro e w1 ⟨rfl, rfl⟩))
    go_region_law (go_simp; go_at_call 45; refine (HBI.out _).mono ?_; rintro e w2 ⟨rfl, rfl⟩)
    all_goals
      go_wp2
      go_ret
      exact ⟨rfl, HK.out.drew⟩
  | false =>
    rw [hk] at HKN HE
    have HE2 : Hid (Ax.is a t = a.others.any fun o => decide (o.t = t)) := Lib.hid (by rw [HE.out, if_neg (by simp)])
    rw [HE2.out]
    clear hk HE HE2 HBI
    go_enter Tryz.func18, Tryz.ntmps18
    go_wp2_with (first
      | (go_at_call 61; refine (ots_contains _ a.others _ t _ HO.out (HBT.out.cell 0)).mono ?_; rintro e w2 ⟨rfl, k3⟩)
      | (go_at_call 28; refine HKN.out.mono ?_; rintro e w1 ⟨rfl, rfl⟩))
    go_ret
    exact ⟨rfl, HK.out.trans k3⟩
end Go.Proofs.YteofbpdogmajoaaGreatDoor
namespace Go.Proofs.YteofbpdogmajoaaGreatDoor
open Go.RowKit

namespace Ax
/-- The first type that attributes should have, and have not. -/
def missing (a : At) (pref : Bool) : Nat := if is a 1 = false then 1 else if is a 2 = false then 2 else if is a 3 = false then 3 else if pref = true ∧ is a 5 = false then 5 else 0
end Ax

set_option maxHeartbeats 4000000 in
theorem at_missing (a : At) (pv cv qv ov : Value) (pref : Bool) (w : World) (h : Atp w a pv cv qv ov) (ht : Wtd w) :
    Calls Tryz.prog 21 #[.agg (Ax.agg a pv cv qv ov), .bool pref] w fun e w' => e = .returned (.int .u8 (Ax.missing a pref : Int)) ∧ Kept Nothing w w' := by
  have k1 := (Kept.refl Nothing w).alloc (.cells (Ax.agg a pv cv qv ov) 33)
  have HB := Lib.hid (Blk.fresh w 33 (Ax.agg a pv cv qv ov))
  have HK := Lib.hid k1
  have HI := Lib.hid (fun (t : UInt8) u (k : Kept Nothing w u) => at_is a pv cv qv ov t u (h.old k) (ht.kept k))
  have HE : Hid (Ax.missing a pref = if Ax.is a 1 = false then 1 else if Ax.is a 2 = false then 2 else if Ax.is a 3 = false then 3 else if pref = true ∧ Ax.is a 5 = false then 5 else 0) := Lib.hid rfl
  have HC : Hid (∀ u, Kept Nothing (w.alloc (.cells (Ax.agg a pv cv qv ov) 33)) u → ∀ i, u.cell? ⟨w.heap.size, i, none⟩ = (Ax.agg a pv cv qv ov)[i]?) := Lib.hid (fun u k i => (HB.out.kept k (fun x => x)).cell i)
  clear k1 h ht
  unfold Ax.agg at *
  go_enter Tryz.func21, Tryz.ntmps21
  go_wp2_with fail
  generalize w.alloc _ = wA at HB HK HC ⊢
  go_loopw [8] (fun i wr => ∃ k : Nat, i = .int .i64 (k : Int) ∧ k ≤ 3 ∧ Hid (Kept Nothing wA wr) ∧ Hid (∀ j, j < k → Ax.is a (UInt8.ofNat (j + 1)) = true)) (fun i _ => 3 - (intOf i).toNat)
  case atStart => exact ⟨0, rfl, by omega, Lib.hid (Kept.refl _ _), Lib.hid (fun j hj => by omega)⟩
  case round =>
    obtain ⟨k, rfl, hk, KK, HJ⟩ := hrel
    have q0 := HC.out wr KK.out 0
    have q1 := HC.out wr KK.out 1
    have q2 := HC.out wr KK.out 2
    have q3 := HC.out wr KK.out 3
    have q4 := HC.out wr KK.out 4
    have q5 := HC.out wr KK.out 5
    have q6 := HC.out wr KK.out 6
    have q7 := HC.out wr KK.out 7
    have q8 := HC.out wr KK.out 8
    have q9 := HC.out wr KK.out 9
    have q10 := HC.out wr KK.out 10
    have q11 := HC.out wr KK.out 11
    have q12 := HC.out wr KK.out 12
    by_cases hlt : k < 3
    · obtain ⟨t, htt, hidx⟩ : ∃ t : UInt8, t = UInt8.ofNat (k + 1) ∧ ∀ W, (Instr.index 128 (.agg #[.int .u8 1, .int .u8 2, .int .u8 3]) (.int .i64 (k : Int))).run Tryz.prog W = .ok (.int .u8 (t.toNat : Int)) W := by
        obtain rfl | rfl | rfl : k = 0 ∨ k = 1 ∨ k = 2 := by omega
        · exact ⟨1, rfl, fun W => by kernel_rfl⟩
        · exact ⟨2, rfl, fun W => by kernel_rfl⟩
        · exact ⟨3, rfl, fun W => by kernel_rfl⟩
      have HT := Lib.hid htt
      have HIt := Lib.hid (HI.out t)
      clear htt
      cases his : Ax.is a t with
      | false =>
        rw [his] at HIt
        have HM : Hid ((Ax.missing a pref : Int) = (t.toNat : Int)) := Lib.hid (by
          have hj := HJ.out
          rw [HE.out]
          have ht := HT.out
          obtain rfl | rfl | rfl : k = 0 ∨ k = 1 ∨ k = 2 := by omega
          · have e : t = 1 := ht
            subst e
            rw [if_pos his]; rfl
          · have e : t = 2 := ht
            subst e
            have h1 : Ax.is a 1 = true := hj 0 (by omega)
            rw [if_neg (by rw [h1]; simp), if_pos his]; rfl
          · have e : t = 3 := ht
            subst e
            have h1 : Ax.is a 1 = true := hj 0 (by omega)
            have h2 : Ax.is a 2 = true := hj 1 (by omega)
            rw [if_neg (by rw [h1]; simp), if_neg (by rw [h2]; simp), if_pos his]; rfl)
        clear HE HJ HT his
        go_wp2_with (go_at_call 18; refine (HIt.out _ (HK.out.trans KK.out)).mono ?_; rintro e w2 ⟨rfl, k2⟩)
        go_ret
        exact ⟨by rw [HM.out]; rfl, (HK.out.trans KK.out).trans k2⟩
      | true =>
        rw [his] at HIt
        have HJ2 : Hid (∀ j, j < k + 1 → Ax.is a (UInt8.ofNat (j + 1)) = true) := Lib.hid (fun j hj => by
          by_cases h : j < k
          · exact HJ.out j h
          · obtain rfl : j = k := by omega
            rw [← HT.out]; exact his)
        clear HJ HT his
        go_wp2_with (go_at_call 18; refine (HIt.out _ (HK.out.trans KK.out)).mono ?_; rintro e w2 ⟨rfl, k2⟩)
        go_roundw
        case rel => exact ⟨k + 1, by go_num, by omega, Lib.hid (KK.out.trans k2), HJ2⟩
        case measure => simp [intOf]; omega
    · obtain rfl : k = 3 := by omega
      have HM : Hid (Ax.missing a pref = if pref = true ∧ Ax.is a 5 = false then 5 else 0) := Lib.hid (by
        have hj := HJ.out
        have h1 : Ax.is a 1 = true := hj 0 (by omega)
        have h2 : Ax.is a 2 = true := hj 1 (by omega)
        have h3 : Ax.is a 3 = true := hj 2 (by omega)
        rw [HE.out, if_neg (by rw [h1]; simp), if_neg (by rw [h2]; simp), if_neg (by rw [h3]; simp)])
      have HI5 := Lib.hid (HI.out 5)
      clear HE HJ HI
      cases pref with
      | false =>
        go_wp2
        go_ret
        exact ⟨by rw [HM.out, if_neg (by simp)]; rfl, HK.out.trans KK.out⟩
      | true =>
        cases h5 : Ax.is a 5 with
        | false =>
          rw [h5] at HI5
          have H5 := Lib.hid h5
          clear h5
          go_wp2_with (go_at_call 18; refine (HI5.out _ (HK.out.trans KK.out)).mono ?_; rintro e w2 ⟨rfl, k2⟩)
          go_ret
          exact ⟨by rw [HM.out, if_pos (by simp [H5.out])]; rfl, (HK.out.trans KK.out).trans k2⟩
        | true =>
          rw [h5] at HI5
          have H5 := Lib.hid h5
          clear h5
          go_wp2_with (go_at_call 18; refine (HI5.out _ (HK.out.trans KK.out)).mono ?_; rintro e w2 ⟨rfl, k2⟩)
          go_ret
          exact ⟨by rw [HM.out, if_neg (by simp [H5.out])]; rfl, (HK.out.trans KK.out).trans k2⟩
end Go.Proofs.YteofbpdogmajoaaGreatDoor
namespace Go.Proofs.YteofbpdogmajoaaGreatDoor
open Go.RowKit

namespace Ax
/-- Without those bits. -/
def off (x y : Nat) : Nat := (BitVec.ofNat 32 x &&& ~~~ BitVec.ofNat 32 y).toNat
theorem off_lt (x y : Nat) : off x y < 4294967296 := (BitVec.ofNat 32 x &&& ~~~ BitVec.ofNat 32 y).isLt
def hasOff (a : At) (t : UInt8) : Nat := if known t then off a.has (bit t) else a.has
/-- Without a known type. -/
def drop (a : At) (t : UInt8) : At :=
  { has := hasOff a t, origin := if t.toNat = 1 then 0 else a.origin, path := if t.toNat = 2 then [] else a.path, nh := if t.toNat = 3 then 0 else a.nh, med := if t.toNat = 4 then 0 else a.med,
    pref := if t.toNat = 5 then 0 else a.pref, byA := if t.toNat = 7 then 0 else a.byA, byI := if t.toNat = 7 then 0 else a.byI, comms := if t.toNat = 8 then [] else a.comms,
    path4 := if t.toNat = 17 then [] else a.path4, by4A := if t.toNat = 18 then 0 else a.by4A, by4I := if t.toNat = 18 then 0 else a.by4I, others := a.others }
end Ax
theorem bits_off_u32 (x y : Nat) : bits .andNot .u32 (x : Int) (y : Int) = (Ax.off x y : Int) := by
  have h := Ax.off_lt x y
  show IntKind.u32.wrap ((BitVec.ofInt 32 (x : Int) &&& ~~~ BitVec.ofInt 32 (y : Int)).toNat : Int) = _
  rw [BitVec.ofInt_natCast, BitVec.ofInt_natCast]
  show IntKind.u32.wrap ((Ax.off x y : Nat) : Int) = _
  generalize Ax.off x y = z at *
  simp [IntKind.wrap, IntKind.bits, IntKind.signed]
  omega

/-- The slice that is left of v, if it goes. -/
def gone (b : Bool) (v : Value) : Value := if b then .slice none 0 0 else v
set_option maxHeartbeats 4000000 in
theorem at_drop (p : Nat) (a : At) (pv cv qv ov : Value) (t : UInt8) (w : World) (hb : Blk w p 33 (Ax.agg a pv cv qv ov)) (ht : Wtd w) :
    Calls Tryz.prog 43 #[.pointer (some ⟨p, 0, none⟩), .int .u8 (t.toNat : Int)] w fun e w' => (∃ v, e = .returned v) ∧
      Blk w' p 33 (Ax.agg (Ax.drop a t) (gone (t.toNat = 2) pv) (gone (t.toNat = 8) cv) (gone (t.toNat = 17) qv) ov) ∧ Kept (Only p) w w' := by
  have HKN := Lib.hid (known_any t _ ht)
  have HBI := Lib.hid (bit_any7 t)
  have HO := Lib.hid (bits_off_u32 a.has (Ax.bit t))
  have HB := Lib.hid hb
  have c0 := hb.cell 0
  have f0 := hb.free 0
  -- cases
  by_cases h1 : t.toNat = 1
  · obtain rfl : t = 1 := UInt8.toNat_inj.1 h1
    have hk : Ax.known 1 = true := by decide
    rw [hk] at HKN
    have hz0 : Ax.hasOff a 1 = Ax.off a.has (Ax.bit 1) := by unfold Ax.hasOff; rw [if_pos hk]
    obtain ⟨z, hz⟩ : ∃ z, Ax.off a.has (Ax.bit 1) = z := ⟨_, rfl⟩
    have ho := HO.out
    rw [hz] at ho hz0
    have HZ := Lib.hid hz0
    unfold Ax.agg at c0
    clear hb ht hk hz hz0 HO
    go_enter Tryz.func43, Tryz.ntmps43
    go_wp2_with (go_at_call 28; refine HKN.out.mono ?_; rintro e w1 ⟨rfl, rfl⟩)
    go_region_law (go_simp; go_at_call 45; refine (HBI.out _).mono ?_; rintro e w2 ⟨rfl, rfl⟩)
    all_goals
      have BZ := Lib.hid ((HB.out.put 0 (.int .u32 (z : Int))).kept ((Kept.refl Nothing (w.setCell ⟨p, 0, none⟩ (.int .u32 (z : Int)))).drew) (fun x => x))
      have KZ := Lib.hid ((Kept.own w p 0 (.int .u32 (z : Int))).drew)
      have f1 := BZ.out.free 1
      have d1 : (w.setCell ⟨p, 0, none⟩ (.int .u32 (z : Int))).drew.cell? ⟨p, 1, none⟩ = some _ := BZ.out.cell 1
      generalize (w.setCell ⟨p, 0, none⟩ (.int .u32 (z : Int))).drew = wz at *
      go_wp2
      go_end0
      have hbz := (BZ.out.put 1 (.int .u8 0))
      refine ⟨⟨_, rfl⟩, ?_, (KZ.out.setCell (p := ⟨p, 1, none⟩) (fun _ => rfl) (.int .u8 0))⟩
      unfold Ax.drop
      rw [HZ.out]
      exact hbz
  by_cases h2 : t.toNat = 2
  · obtain rfl : t = 2 := UInt8.toNat_inj.1 h2
    have hk : Ax.known 2 = true := by decide
    rw [hk] at HKN
    have hz0 : Ax.hasOff a 2 = Ax.off a.has (Ax.bit 2) := by unfold Ax.hasOff; rw [if_pos hk]
    obtain ⟨z, hz⟩ : ∃ z, Ax.off a.has (Ax.bit 2) = z := ⟨_, rfl⟩
    have ho := HO.out
    rw [hz] at ho hz0
    have HZ := Lib.hid hz0
    unfold Ax.agg at c0
    clear hb ht hk hz hz0 HO
    go_enter Tryz.func43, Tryz.ntmps43
    go_wp2_with (go_at_call 28; refine HKN.out.mono ?_; rintro e w1 ⟨rfl, rfl⟩)
    go_region_law (go_simp; go_at_call 45; refine (HBI.out _).mono ?_; rintro e w2 ⟨rfl, rfl⟩)
    all_goals
      have BZ := Lib.hid ((HB.out.put 0 (.int .u32 (z : Int))).kept ((Kept.refl Nothing (w.setCell ⟨p, 0, none⟩ (.int .u32 (z : Int)))).drew) (fun x => x))
      have KZ := Lib.hid ((Kept.own w p 0 (.int .u32 (z : Int))).drew)
      have f2 := BZ.out.free 2
      have d2 : (w.setCell ⟨p, 0, none⟩ (.int .u32 (z : Int))).drew.cell? ⟨p, 2, none⟩ = some _ := BZ.out.cell 2
      generalize (w.setCell ⟨p, 0, none⟩ (.int .u32 (z : Int))).drew = wz at *
      go_wp2
      go_end0
      have hbz := (BZ.out.put 2 (.slice none 0 0))
      refine ⟨⟨_, rfl⟩, ?_, (KZ.out.setCell (p := ⟨p, 2, none⟩) (fun _ => rfl) (.slice none 0 0))⟩
      unfold Ax.drop
      rw [HZ.out]
      exact hbz
  by_cases h3 : t.toNat = 3
  · obtain rfl : t = 3 := UInt8.toNat_inj.1 h3
    have hk : Ax.known 3 = true := by decide
    rw [hk] at HKN
    have hz0 : Ax.hasOff a 3 = Ax.off a.has (Ax.bit 3) := by unfold Ax.hasOff; rw [if_pos hk]
    obtain ⟨z, hz⟩ : ∃ z, Ax.off a.has (Ax.bit 3) = z := ⟨_, rfl⟩
    have ho := HO.out
    rw [hz] at ho hz0
    have HZ := Lib.hid hz0
    unfold Ax.agg at c0
    clear hb ht hk hz hz0 HO
    go_enter Tryz.func43, Tryz.ntmps43
    go_wp2_with (go_at_call 28; refine HKN.out.mono ?_; rintro e w1 ⟨rfl, rfl⟩)
    go_region_law (go_simp; go_at_call 45; refine (HBI.out _).mono ?_; rintro e w2 ⟨rfl, rfl⟩)
    all_goals
      have BZ := Lib.hid ((HB.out.put 0 (.int .u32 (z : Int))).kept ((Kept.refl Nothing (w.setCell ⟨p, 0, none⟩ (.int .u32 (z : Int)))).drew) (fun x => x))
      have KZ := Lib.hid ((Kept.own w p 0 (.int .u32 (z : Int))).drew)
      have f3 := BZ.out.free 3
      have d3 : (w.setCell ⟨p, 0, none⟩ (.int .u32 (z : Int))).drew.cell? ⟨p, 3, none⟩ = some _ := BZ.out.cell 3
      generalize (w.setCell ⟨p, 0, none⟩ (.int .u32 (z : Int))).drew = wz at *
      go_wp2
      go_end0
      have hbz := (BZ.out.put 3 (.int .u32 0))
      refine ⟨⟨_, rfl⟩, ?_, (KZ.out.setCell (p := ⟨p, 3, none⟩) (fun _ => rfl) (.int .u32 0))⟩
      unfold Ax.drop
      rw [HZ.out]
      exact hbz
  by_cases h4 : t.toNat = 4
  · obtain rfl : t = 4 := UInt8.toNat_inj.1 h4
    have hk : Ax.known 4 = true := by decide
    rw [hk] at HKN
    have hz0 : Ax.hasOff a 4 = Ax.off a.has (Ax.bit 4) := by unfold Ax.hasOff; rw [if_pos hk]
    obtain ⟨z, hz⟩ : ∃ z, Ax.off a.has (Ax.bit 4) = z := ⟨_, rfl⟩
    have ho := HO.out
    rw [hz] at ho hz0
    have HZ := Lib.hid hz0
    unfold Ax.agg at c0
    clear hb ht hk hz hz0 HO
    go_enter Tryz.func43, Tryz.ntmps43
    go_wp2_with (go_at_call 28; refine HKN.out.mono ?_; rintro e w1 ⟨rfl, rfl⟩)
    go_region_law (go_simp; go_at_call 45; refine (HBI.out _).mono ?_; rintro e w2 ⟨rfl, rfl⟩)
    all_goals
      have BZ := Lib.hid ((HB.out.put 0 (.int .u32 (z : Int))).kept ((Kept.refl Nothing (w.setCell ⟨p, 0, none⟩ (.int .u32 (z : Int)))).drew) (fun x => x))
      have KZ := Lib.hid ((Kept.own w p 0 (.int .u32 (z : Int))).drew)
      have f4 := BZ.out.free 4
      have d4 : (w.setCell ⟨p, 0, none⟩ (.int .u32 (z : Int))).drew.cell? ⟨p, 4, none⟩ = some _ := BZ.out.cell 4
      generalize (w.setCell ⟨p, 0, none⟩ (.int .u32 (z : Int))).drew = wz at *
      go_wp2
      go_end0
      have hbz := (BZ.out.put 4 (.int .u32 0))
      refine ⟨⟨_, rfl⟩, ?_, (KZ.out.setCell (p := ⟨p, 4, none⟩) (fun _ => rfl) (.int .u32 0))⟩
      unfold Ax.drop
      rw [HZ.out]
      exact hbz
  by_cases h5 : t.toNat = 5
  · obtain rfl : t = 5 := UInt8.toNat_inj.1 h5
    have hk : Ax.known 5 = true := by decide
    rw [hk] at HKN
    have hz0 : Ax.hasOff a 5 = Ax.off a.has (Ax.bit 5) := by unfold Ax.hasOff; rw [if_pos hk]
    obtain ⟨z, hz⟩ : ∃ z, Ax.off a.has (Ax.bit 5) = z := ⟨_, rfl⟩
    have ho := HO.out
    rw [hz] at ho hz0
    have HZ := Lib.hid hz0
    unfold Ax.agg at c0
    clear hb ht hk hz hz0 HO
    go_enter Tryz.func43, Tryz.ntmps43
    go_wp2_with (go_at_call 28; refine HKN.out.mono ?_; rintro e w1 ⟨rfl, rfl⟩)
    go_region_law (go_simp; go_at_call 45; refine (HBI.out _).mono ?_; rintro e w2 ⟨rfl, rfl⟩)
    all_goals
      have BZ := Lib.hid ((HB.out.put 0 (.int .u32 (z : Int))).kept ((Kept.refl Nothing (w.setCell ⟨p, 0, none⟩ (.int .u32 (z : Int)))).drew) (fun x => x))
      have KZ := Lib.hid ((Kept.own w p 0 (.int .u32 (z : Int))).drew)
      have f5 := BZ.out.free 5
      have d5 : (w.setCell ⟨p, 0, none⟩ (.int .u32 (z : Int))).drew.cell? ⟨p, 5, none⟩ = some _ := BZ.out.cell 5
      generalize (w.setCell ⟨p, 0, none⟩ (.int .u32 (z : Int))).drew = wz at *
      go_wp2
      go_end0
      have hbz := (BZ.out.put 5 (.int .u32 0))
      refine ⟨⟨_, rfl⟩, ?_, (KZ.out.setCell (p := ⟨p, 5, none⟩) (fun _ => rfl) (.int .u32 0))⟩
      unfold Ax.drop
      rw [HZ.out]
      exact hbz
  by_cases h7 : t.toNat = 7
  · obtain rfl : t = 7 := UInt8.toNat_inj.1 h7
    have hk : Ax.known 7 = true := by decide
    rw [hk] at HKN
    have hz0 : Ax.hasOff a 7 = Ax.off a.has (Ax.bit 7) := by unfold Ax.hasOff; rw [if_pos hk]
    obtain ⟨z, hz⟩ : ∃ z, Ax.off a.has (Ax.bit 7) = z := ⟨_, rfl⟩
    have ho := HO.out
    rw [hz] at ho hz0
    have HZ := Lib.hid hz0
    unfold Ax.agg at c0
    clear hb ht hk hz hz0 HO
    go_enter Tryz.func43, Tryz.ntmps43
    go_wp2_with (go_at_call 28; refine HKN.out.mono ?_; rintro e w1 ⟨rfl, rfl⟩)
    go_region_law (go_simp; go_at_call 45; refine (HBI.out _).mono ?_; rintro e w2 ⟨rfl, rfl⟩)
    all_goals
      have BZ := Lib.hid ((HB.out.put 0 (.int .u32 (z : Int))).kept ((Kept.refl Nothing (w.setCell ⟨p, 0, none⟩ (.int .u32 (z : Int)))).drew) (fun x => x))
      have KZ := Lib.hid ((Kept.own w p 0 (.int .u32 (z : Int))).drew)
      have f6 := BZ.out.free 6
      have d6 : (w.setCell ⟨p, 0, none⟩ (.int .u32 (z : Int))).drew.cell? ⟨p, 6, none⟩ = some _ := BZ.out.cell 6
      have f7 := BZ.out.free 7
      have d7 : (w.setCell ⟨p, 0, none⟩ (.int .u32 (z : Int))).drew.cell? ⟨p, 7, none⟩ = some _ := BZ.out.cell 7
      generalize (w.setCell ⟨p, 0, none⟩ (.int .u32 (z : Int))).drew = wz at *
      go_wp2
      go_end0
      have hbz := ((BZ.out.put 6 (.int .u32 0)).put 7 (.int .u32 0))
      refine ⟨⟨_, rfl⟩, ?_, ((KZ.out.setCell (p := ⟨p, 6, none⟩) (fun _ => rfl) (.int .u32 0)).setCell (p := ⟨p, 7, none⟩) (fun _ => rfl) (.int .u32 0))⟩
      unfold Ax.drop
      rw [HZ.out]
      exact hbz
  by_cases h8 : t.toNat = 8
  · obtain rfl : t = 8 := UInt8.toNat_inj.1 h8
    have hk : Ax.known 8 = true := by decide
    rw [hk] at HKN
    have hz0 : Ax.hasOff a 8 = Ax.off a.has (Ax.bit 8) := by unfold Ax.hasOff; rw [if_pos hk]
    obtain ⟨z, hz⟩ : ∃ z, Ax.off a.has (Ax.bit 8) = z := ⟨_, rfl⟩
    have ho := HO.out
    rw [hz] at ho hz0
    have HZ := Lib.hid hz0
    unfold Ax.agg at c0
    clear hb ht hk hz hz0 HO
    go_enter Tryz.func43, Tryz.ntmps43
    go_wp2_with (go_at_call 28; refine HKN.out.mono ?_; rintro e w1 ⟨rfl, rfl⟩)
    go_region_law (go_simp; go_at_call 45; refine (HBI.out _).mono ?_; rintro e w2 ⟨rfl, rfl⟩)
    all_goals
      have BZ := Lib.hid ((HB.out.put 0 (.int .u32 (z : Int))).kept ((Kept.refl Nothing (w.setCell ⟨p, 0, none⟩ (.int .u32 (z : Int)))).drew) (fun x => x))
      have KZ := Lib.hid ((Kept.own w p 0 (.int .u32 (z : Int))).drew)
      have f8 := BZ.out.free 8
      have d8 : (w.setCell ⟨p, 0, none⟩ (.int .u32 (z : Int))).drew.cell? ⟨p, 8, none⟩ = some _ := BZ.out.cell 8
      generalize (w.setCell ⟨p, 0, none⟩ (.int .u32 (z : Int))).drew = wz at *
      go_wp2
      go_end0
      have hbz := (BZ.out.put 8 (.slice none 0 0))
      refine ⟨⟨_, rfl⟩, ?_, (KZ.out.setCell (p := ⟨p, 8, none⟩) (fun _ => rfl) (.slice none 0 0))⟩
      unfold Ax.drop
      rw [HZ.out]
      exact hbz
  by_cases h17 : t.toNat = 17
  · obtain rfl : t = 17 := UInt8.toNat_inj.1 h17
    have hk : Ax.known 17 = true := by decide
    rw [hk] at HKN
    have hz0 : Ax.hasOff a 17 = Ax.off a.has (Ax.bit 17) := by unfold Ax.hasOff; rw [if_pos hk]
    obtain ⟨z, hz⟩ : ∃ z, Ax.off a.has (Ax.bit 17) = z := ⟨_, rfl⟩
    have ho := HO.out
    rw [hz] at ho hz0
    have HZ := Lib.hid hz0
    unfold Ax.agg at c0
    clear hb ht hk hz hz0 HO
    go_enter Tryz.func43, Tryz.ntmps43
    go_wp2_with (go_at_call 28; refine HKN.out.mono ?_; rintro e w1 ⟨rfl, rfl⟩)
    go_region_law (go_simp; go_at_call 45; refine (HBI.out _).mono ?_; rintro e w2 ⟨rfl, rfl⟩)
    all_goals
      have BZ := Lib.hid ((HB.out.put 0 (.int .u32 (z : Int))).kept ((Kept.refl Nothing (w.setCell ⟨p, 0, none⟩ (.int .u32 (z : Int)))).drew) (fun x => x))
      have KZ := Lib.hid ((Kept.own w p 0 (.int .u32 (z : Int))).drew)
      have f9 := BZ.out.free 9
      have d9 : (w.setCell ⟨p, 0, none⟩ (.int .u32 (z : Int))).drew.cell? ⟨p, 9, none⟩ = some _ := BZ.out.cell 9
      generalize (w.setCell ⟨p, 0, none⟩ (.int .u32 (z : Int))).drew = wz at *
      go_wp2
      go_end0
      have hbz := (BZ.out.put 9 (.slice none 0 0))
      refine ⟨⟨_, rfl⟩, ?_, (KZ.out.setCell (p := ⟨p, 9, none⟩) (fun _ => rfl) (.slice none 0 0))⟩
      unfold Ax.drop
      rw [HZ.out]
      exact hbz
  by_cases h18 : t.toNat = 18
  · obtain rfl : t = 18 := UInt8.toNat_inj.1 h18
    have hk : Ax.known 18 = true := by decide
    rw [hk] at HKN
    have hz0 : Ax.hasOff a 18 = Ax.off a.has (Ax.bit 18) := by unfold Ax.hasOff; rw [if_pos hk]
    obtain ⟨z, hz⟩ : ∃ z, Ax.off a.has (Ax.bit 18) = z := ⟨_, rfl⟩
    have ho := HO.out
    rw [hz] at ho hz0
    have HZ := Lib.hid hz0
    unfold Ax.agg at c0
    clear hb ht hk hz hz0 HO
    go_enter Tryz.func43, Tryz.ntmps43
    go_wp2_with (go_at_call 28; refine HKN.out.mono ?_; rintro e w1 ⟨rfl, rfl⟩)
    go_region_law (go_simp; go_at_call 45; refine (HBI.out _).mono ?_; rintro e w2 ⟨rfl, rfl⟩)
    all_goals
      have BZ := Lib.hid ((HB.out.put 0 (.int .u32 (z : Int))).kept ((Kept.refl Nothing (w.setCell ⟨p, 0, none⟩ (.int .u32 (z : Int)))).drew) (fun x => x))
      have KZ := Lib.hid ((Kept.own w p 0 (.int .u32 (z : Int))).drew)
      have f10 := BZ.out.free 10
      have d10 : (w.setCell ⟨p, 0, none⟩ (.int .u32 (z : Int))).drew.cell? ⟨p, 10, none⟩ = some _ := BZ.out.cell 10
      have f11 := BZ.out.free 11
      have d11 : (w.setCell ⟨p, 0, none⟩ (.int .u32 (z : Int))).drew.cell? ⟨p, 11, none⟩ = some _ := BZ.out.cell 11
      generalize (w.setCell ⟨p, 0, none⟩ (.int .u32 (z : Int))).drew = wz at *
      go_wp2
      go_end0
      have hbz := ((BZ.out.put 10 (.int .u32 0)).put 11 (.int .u32 0))
      refine ⟨⟨_, rfl⟩, ?_, ((KZ.out.setCell (p := ⟨p, 10, none⟩) (fun _ => rfl) (.int .u32 0)).setCell (p := ⟨p, 11, none⟩) (fun _ => rfl) (.int .u32 0))⟩
      unfold Ax.drop
      rw [HZ.out]
      exact hbz
  have ee : ∀ n, t.toNat ≠ n → (((t.toNat : Int)) == (n : Int)) = false := fun n hn => by rw [beq_eq_false_iff_ne]; omega
  have e1 : (((t.toNat : Int)) == 1) = false := ee 1 h1
  have e2 : (((t.toNat : Int)) == 2) = false := ee 2 h2
  have e3 : (((t.toNat : Int)) == 3) = false := ee 3 h3
  have e4 : (((t.toNat : Int)) == 4) = false := ee 4 h4
  have e5 : (((t.toNat : Int)) == 5) = false := ee 5 h5
  have e7 : (((t.toNat : Int)) == 7) = false := ee 7 h7
  have e8 : (((t.toNat : Int)) == 8) = false := ee 8 h8
  have e17 : (((t.toNat : Int)) == 17) = false := ee 17 h17
  have e18 : (((t.toNat : Int)) == 18) = false := ee 18 h18
  have HD : Hid (Ax.agg (Ax.drop a t) (gone (decide (t.toNat = 2)) pv) (gone (decide (t.toNat = 8)) cv) (gone (decide (t.toNat = 17)) qv) ov = (Ax.agg a pv cv qv ov).setIfInBounds 0 (.int .u32 (Ax.hasOff a t : Int))) := Lib.hid (by
    unfold Ax.drop gone
    simp only [h1, h2, h3, h4, h5, h7, h8, h17, h18, if_false, decide_false, Bool.false_eq_true]
    rfl)
  clear ee
  cases hk : Ax.known t with
  | true =>
    rw [hk] at HKN
    have hz0 : Ax.hasOff a t = Ax.off a.has (Ax.bit t) := by unfold Ax.hasOff; rw [if_pos hk]
    obtain ⟨z, hz⟩ : ∃ z, Ax.off a.has (Ax.bit t) = z := ⟨_, rfl⟩
    have ho := HO.out
    rw [hz] at ho hz0
    have HZ := Lib.hid hz0
    unfold Ax.agg at c0
    clear hb ht hk hz hz0 HO h1 h2 h3 h4 h5 h7 h8 h17 h18
    go_enter Tryz.func43, Tryz.ntmps43
    go_wp2_with (go_at_call 28; refine HKN.out.mono ?_; rintro e w1 ⟨rfl, rfl⟩)
    go_region_law (go_simp; go_at_call 45; refine (HBI.out _).mono ?_; rintro e w2 ⟨rfl, rfl⟩)
    all_goals
      have BZ := Lib.hid ((HB.out.put 0 (.int .u32 (z : Int))).kept ((Kept.refl Nothing (w.setCell ⟨p, 0, none⟩ (.int .u32 (z : Int)))).drew) (fun x => x))
      have KZ := Lib.hid ((Kept.own w p 0 (.int .u32 (z : Int))).drew)
      generalize (w.setCell ⟨p, 0, none⟩ (.int .u32 (z : Int))).drew = wz at *
      go_wp2
      go_end0
      refine ⟨⟨_, rfl⟩, ?_, KZ.out⟩
      rw [HD.out, HZ.out]
      exact BZ.out
  | false =>
    rw [hk] at HKN
    have HZ : Hid (Ax.hasOff a t = a.has) := Lib.hid (by unfold Ax.hasOff; rw [if_neg (by rw [hk]; simp)])
    clear hb ht hk HO h1 h2 h3 h4 h5 h7 h8 h17 h18 c0 f0
    go_enter Tryz.func43, Tryz.ntmps43
    go_wp2_with (go_at_call 28; refine HKN.out.mono ?_; rintro e w1 ⟨rfl, rfl⟩)
    go_end0
    refine ⟨⟨_, rfl⟩, ?_, Kept.refl _ _⟩
    rw [HD.out, HZ.out]
    exact HB.out
end Go.Proofs.YteofbpdogmajoaaGreatDoor
namespace Go.Proofs.YteofbpdogmajoaaGreatDoor
open Go.RowKit

/-- The cells of attributes of other types, their values' rows of the call's own. -/
def Ors (w : World) (B : Nat) : List Value → List Ot → Prop
  | [], [] => True
  | a :: t :: v :: xs, c :: l => a = by8 c.f ∧ t = by8 c.t ∧ w.ownsRow B 5 1 v c.v.length (bys c.v) ∧ Ors w B xs l
  | _, _ => False
theorem Ors.kept {w w' : World} {B : Nat} {S : Nat → Prop} (k : Kept S w w') (hs : ∀ g cs, S g → w.heap[g]? ≠ some (.cells cs 5 (0, 0))) : ∀ {xs : List Value} {l : List Ot}, Ors w B xs l → Ors w' B xs l
  | [], [], _ => trivial
  | _ :: _ :: _ :: _, _ :: _, ⟨h1, h2, h3, h4⟩ => ⟨h1, h2, ow_kept h3 k (fun g hg x => by obtain ⟨cs, hh⟩ := ow_lt h3 hg; exact hs g cs x hh), Ors.kept k hs h4⟩
  | [], _ :: _, h => h.elim
  | [_], _, h => by unfold Ors at h; exact h.elim
  | [_, _], _, h => by unfold Ors at h; exact h.elim
  | _ :: _ :: _ :: _, [], h => by unfold Ors at h; exact h.elim
theorem Ors.old {w w' : World} {B : Nat} (k : Kept Nothing w w') {xs : List Value} {l : List Ot} (h : Ors w B xs l) : Ors w' B xs l := h.kept k (fun _ _ x => x.elim)
theorem Ors.snoc {w : World} {B : Nat} {c : Ot} {v : Value} (hv : w.ownsRow B 5 1 v c.v.length (bys c.v)) : ∀ {xs : List Value} {l : List Ot}, Ors w B xs l → Ors w B (xs ++ [by8 c.f, by8 c.t, v]) (l ++ [c])
  | [], [], _ => ⟨rfl, rfl, hv, trivial⟩
  | _ :: _ :: _ :: _, _ :: _, ⟨h1, h2, h3, h4⟩ => ⟨h1, h2, h3, Ors.snoc hv h4⟩
  | [], _ :: _, h => h.elim
  | [_], _, h => by unfold Ors at h; exact h.elim
  | [_, _], _, h => by unfold Ors at h; exact h.elim
  | _ :: _ :: _ :: _, [], h => by unfold Ors at h; exact h.elim
/-- Attributes of other types, of the call's own. -/
def Oown (w : World) (B : Nat) (v : Value) (l : List Ot) : Prop := ∃ xs, w.ownsRow B 73 3 v l.length xs ∧ Ors w B xs l
theorem Oown.nil (w : World) (B : Nat) : Oown w B (.slice none 0 0) [] := ⟨[], World.ownsRow_nil _ _ _ _, trivial⟩

/-- What lies in S is of no type that the rows of attributes have. -/
def Off5 (w : World) (S : Nat → Prop) : Prop := ∀ g, S g → ∀ cs t f, w.heap[g]? = some (.cells cs t f) → t ≠ 71 ∧ t ≠ 27 ∧ t ≠ 23 ∧ t ≠ 73 ∧ t ≠ 5
theorem Off5.nothing (w : World) : Off5 w Nothing := fun _ h => h.elim
theorem Off5.blk {w : World} {g : Nat} {t : TypeId} {cs : Array Value} (h : Blk w g t cs) (ht : t ≠ 71 ∧ t ≠ 27 ∧ t ≠ 23 ∧ t ≠ 73 ∧ t ≠ 5) : Off5 w (Only g) := by
  intro k hk cs' t' f hh
  obtain rfl : k = g := hk
  unfold Blk at h
  rw [h] at hh
  injection hh with hh
  injection hh with _ h2
  subst h2
  exact ht
theorem Off5.rd {w : World} {p : Nat} {s : RS} (h : Rd w p s) : Off5 w (Only p) := by
  obtain ⟨_, _, hb, _⟩ := h
  exact Off5.blk hb (by decide)
theorem Off5.or {w : World} {S T : Nat → Prop} (h : Off5 w S) (k : Off5 w T) : Off5 w (fun g => S g ∨ T g) := fun g hg cs t f hh => hg.elim (fun x => h g x cs t f hh) (fun x => k g x cs t f hh)
theorem ow_off {S : Nat → Prop} {w w' : World} {base : Nat} {e : TypeId} {size n : Nat} {v : Value} {xs : List Value} (h : w.ownsRow base e size v n xs) (k : Kept S w w') (hs : Off5 w S)
    (he : e = 71 ∨ e = 27 ∨ e = 23 ∨ e = 73 ∨ e = 5) : w'.ownsRow base e size v n xs :=
  ow_kept h k (fun g hg x => by
    obtain ⟨cs, hh⟩ := ow_lt h hg
    obtain ⟨h1, h2, h3, h4, h5⟩ := hs g x cs e _ hh
    rcases he with he | he | he | he | he
    · exact h1 he
    · exact h2 he
    · exact h3 he
    · exact h4 he
    · exact h5 he)
theorem Pown.off5 {S : Nat → Prop} {w w' : World} {B : Nat} {v : Value} {l : List Seg} (h : Pown w B v l) (k : Kept S w w') (hs : Off5 w S) : Pown w' B v l := by
  obtain ⟨xs, h1, h2⟩ := h
  exact ⟨xs, ow_off h1 k hs (by decide), h2.kept k (fun g cs x e => (hs g x cs _ _ e).2.1 rfl)⟩
theorem Oown.off5 {S : Nat → Prop} {w w' : World} {B : Nat} {v : Value} {l : List Ot} (h : Oown w B v l) (k : Kept S w w') (hs : Off5 w S) : Oown w' B v l := by
  obtain ⟨xs, h1, h2⟩ := h
  exact ⟨xs, ow_off h1 k hs (by decide), h2.kept k (fun g cs x e => (hs g x cs _ _ e).2.2.2.2 rfl)⟩
theorem Pown.weak {w : World} {B B' : Nat} {v : Value} {l : List Seg} (h : Pown w B v l) (hb : B' ≤ B) : Pown w B' v l := by
  obtain ⟨xs, h1, h2⟩ := h
  exact ⟨xs, own_weakA h1 hb, h2.weakA hb⟩

/-- Attributes whose slices are of the call's own. -/
def AtO (w : World) (B : Nat) (a : At) (pv cv qv ov : Value) : Prop :=
  Pown w B pv a.path ∧ (w.ownsRow B 23 1 cv a.comms.length (ass a.comms) ∧ ∀ n ∈ a.comms, n < 4294967296) ∧ Pown w B qv a.path4 ∧ Oown w B ov a.others ∧ Ax.fit a
theorem AtO.off5 {S : Nat → Prop} {w w' : World} {B : Nat} {a : At} {pv cv qv ov : Value} (h : AtO w B a pv cv qv ov) (k : Kept S w w') (hs : Off5 w S) : AtO w' B a pv cv qv ov :=
  ⟨h.1.off5 k hs, ⟨ow_off h.2.1.1 k hs (by decide), h.2.1.2⟩, h.2.2.1.off5 k hs, h.2.2.2.1.off5 k hs, h.2.2.2.2⟩

/-- What a reader of a value finds: a reader, attributes in a block, where the block is told, and whether numbers have four bytes. -/
structure RE (pa pb pf p B : Nat) (four : Bool) (u : World) (s : RS) (a : At) (pv cv qv ov : Value) : Prop where
  rd : Rd u p s
  blk : Blk u pa 33 (Ax.agg a pv cv qv ov)
  own : AtO u B a pv cv qv ov
  bb : Blk u pb 133 #[.pointer (some ⟨pa, 0, none⟩)]
  bf : Blk u pf 4 #[.bool four]
  ge : B ≤ u.heap.size
theorem RE.read {pa pb pf p B : Nat} {four : Bool} {u u' : World} {s s' : RS} {a : At} {pv cv qv ov : Value} (h : RE pa pb pf p B four u s a pv cv qv ov) (hr : Rd u' p s') (k : Kept (Only p) u u') : RE pa pb pf p B four u' s' a pv cv qv ov :=
  ⟨hr, h.blk.rd h.rd (by decide) k, h.own.off5 k (Off5.rd h.rd), h.bb.rd h.rd (by decide) k, h.bf.rd h.rd (by decide) k, Nat.le_trans h.ge k.size⟩
theorem RE.old {pa pb pf p B : Nat} {four : Bool} {u u' : World} {s : RS} {a : At} {pv cv qv ov : Value} (h : RE pa pb pf p B four u s a pv cv qv ov) (k : Kept Nothing u u') : RE pa pb pf p B four u' s a pv cv qv ov :=
  h.read (h.rd.kept k (NoRd.nothing _)) (k.mono (fun _ x => x.elim))
/-- Behind stores into the block of attributes. -/
theorem RE.put {pa pb pf p B : Nat} {four : Bool} {u u' : World} {s : RS} {a a' : At} {pv cv qv ov pv' cv' qv' : Value} (h : RE pa pb pf p B four u s a pv cv qv ov) (k : Kept (Only pa) u u')
    (hb : Blk u' pa 33 (Ax.agg a' pv' cv' qv' ov)) (ho : AtO u B a' pv' cv' qv' ov) : RE pa pb pf p B four u' s a' pv' cv' qv' ov :=
  ⟨h.rd.kept k (NoRd.of_blk h.blk (by decide)), hb, ho.off5 k (Off5.blk h.blk (by decide)), h.bb.kept k (fun e => h.bb.apart h.blk (by decide) e), h.bf.kept k (fun e => h.bf.apart h.blk (by decide) e), Nat.le_trans h.ge k.size⟩

namespace RS
/-- Bytes that are there, or not. -/
theorem step_in {l : List UInt8} {k z : Nat} (h : k + z ≤ l.length) : (RS.mk l k [] 0).got (z : Int) = (l.drop k).take z ∧ (RS.mk l k [] 0).pass (z : Int) = ⟨l, k + z, [], 0⟩ := by
  have hf : RS.fits ⟨l, k, [], 0⟩ (z : Int) = ⟨l, k, [], 0⟩ := fits_pos (by omega) (by rw [left_zero rfl]; unfold top; simp only; omega)
  unfold got pass
  rw [hf, if_pos rfl, if_pos rfl, Int.toNat_natCast]
  exact ⟨rfl, rfl⟩
theorem step_out {l : List UInt8} {k z : Nat} (hk : k ≤ l.length) (h : l.length < k + z) : (RS.mk l k [] 0).got (z : Int) = [] ∧ ((RS.mk l k [] 0).pass (z : Int)).e = 4 := by
  have hf : RS.fits ⟨l, k, [], 0⟩ (z : Int) = ⟨l, k, [], 4⟩ := by unfold fits; rw [if_pos (by right; rw [left_zero rfl]; unfold top; simp only; omega)]; rfl
  unfold got pass
  rw [hf, if_neg (show ¬ (4 : Int) = 0 by decide), if_neg (show ¬ (4 : Int) = 0 by decide)]
  exact ⟨rfl, rfl⟩
theorem left_in (l : List UInt8) (k : Nat) : (RS.mk l k [] 0).left = l.length - k := left_zero rfl
theorem pass_bad {s : RS} (h : s.e = 4) (n : Int) : (s.pass n).e = 4 := by
  rw [err_pass (by rw [h]; decide)]; exact h
/-- Whether all was read, and well. -/
def well (s : RS) : Bool := decide (s.e = 0) && decide (s.left = 0)
theorem well_bad {s : RS} (h : s.e = 4) : s.well = false := by unfold well; rw [h]; rfl
theorem well_in (l : List UInt8) (k : Nat) : (RS.mk l k [] 0).well = decide (l.length ≤ k) := by
  unfold well
  rw [left_in]
  simp
  omega
end RS
end Go.Proofs.YteofbpdogmajoaaGreatDoor
