
/-
  attrs: reading values: bytes of a call's own, a path, who aggregated, numbers.
-/
import Derived.Test.YteofbpdogmajoaaGreatDoorZj
import Derived.Test.YteofbpdogmajoaaGreatDoorZk
namespace Go.Proofs.YteofbpdogmajoaaGreatDoor
open Go.RowKit

namespace RS
theorem stAt_there (z : Nat) (l : List UInt8) (hz : 0 < z) : ∀ (n k : Nat), k ≤ l.length →
    (k + z * n ≤ l.length ∧ stAt z ⟨l, k, [], 0⟩ n = ⟨l, k + z * n, [], 0⟩) ∨ (l.length < k + z * n ∧ (stAt z ⟨l, k, [], 0⟩ n).e = 4 ∧ (stAt z ⟨l, k, [], 0⟩ n).l = l ∧ (stAt z ⟨l, k, [], 0⟩ n).es = [])
  | 0, k, hk => .inl ⟨by omega, by simp [stAt]⟩
  | n + 1, k, hk => by
    have hzn : z * (n + 1) = z * n + z := by rw [Nat.mul_add, Nat.mul_one]
    rcases stAt_there z l hz n k hk with ⟨h1, h2⟩ | ⟨h1, h2, h3, h4⟩
    · have e : stAt z ⟨l, k, [], 0⟩ (n + 1) = (RS.mk l (k + z * n) [] 0).pass (z : Int) := by show (stAt z _ n).pass _ = _; rw [h2]
      by_cases hle : k + z * n + z ≤ l.length
      · left
        refine ⟨by omega, ?_⟩
        have hf : RS.fits ⟨l, k + z * n, [], 0⟩ (z : Int) = ⟨l, k + z * n, [], 0⟩ := fits_pos (by omega) (by rw [left_zero rfl]; unfold top; simp only; omega)
        rw [e]
        unfold pass
        rw [hf, if_pos rfl, Int.toNat_natCast, hzn, Nat.add_assoc]
      · right
        have hf : RS.fits ⟨l, k + z * n, [], 0⟩ (z : Int) = ⟨l, k + z * n, [], 4⟩ := by unfold fits; rw [if_pos (by right; rw [left_zero rfl]; unfold top; simp only; omega)]; rfl
        rw [e]
        unfold pass
        rw [hf, if_neg (show ¬ (4 : Int) = 0 by decide)]
        exact ⟨by omega, rfl, rfl, rfl⟩
    · right
      have e : stAt z ⟨l, k, [], 0⟩ (n + 1) = stAt z ⟨l, k, [], 0⟩ n := by show (stAt z _ n).pass _ = _; rw [err_pass (by rw [h2]; decide)]
      rw [e]
      exact ⟨by omega, h2, h3, h4⟩
theorem numsAt_there (z : Nat) (l : List UInt8) (hz : 0 < z) (k : Nat) : ∀ n, k + z * n ≤ l.length → numsAt z ⟨l, k, [], 0⟩ n = (List.range n).map fun i => RS.num ((l.drop (k + z * i)).take z)
  | 0, _ => rfl
  | n + 1, h => by
    have hzn : z * (n + 1) = z * n + z := by rw [Nat.mul_add, Nat.mul_one]
    have h2 : stAt z ⟨l, k, [], 0⟩ n = ⟨l, k + z * n, [], 0⟩ := by
      rcases stAt_there z l hz n k (by omega) with ⟨_, h2⟩ | ⟨h1, _⟩
      · exact h2
      · omega
    have hf : RS.fits ⟨l, k + z * n, [], 0⟩ (z : Int) = ⟨l, k + z * n, [], 0⟩ := fits_pos (by omega) (by rw [left_zero rfl]; unfold top; simp only; omega)
    show numsAt z _ n ++ [RS.num ((stAt z _ n).got (z : Int))] = _
    rw [numsAt_there z l hz k n (by omega), h2, List.range_succ, List.map_append]
    unfold got
    rw [hf, if_pos rfl, Int.toNat_natCast]
    rfl
end RS
namespace Pt
/-- So many numbers of z bytes each. -/
def numsB (z n : Nat) (r : List UInt8) : List Nat := (List.range n).map fun i => RS.num ((r.drop (z * i)).take z)
/-- Segments read, one behind the other. -/
def rdL (z : Nat) : List Seg → List UInt8 → List Seg × Nat
  | acc, [] => (acc, 0)
  | _, [_] => ([], 4)
  | acc, k :: n :: r =>
    if r.length < z * n.toNat then ([], 4)
    else if (decide (1 ≤ k.toNat) && decide (k.toNat ≤ 4) && decide (0 < n.toNat)) = false then ([], 5)
    else if acc.length = 32 then ([], 7)
    else rdL z (acc ++ [(k, numsB z n.toNat r)]) (r.drop (z * n.toNat))
termination_by _ x => x.length
decreasing_by simp; omega
theorem rdL_nil (z : Nat) (acc : List Seg) : rdL z acc [] = (acc, 0) := by rw [rdL]
theorem rdL_one (z : Nat) (acc : List Seg) (x : UInt8) : rdL z acc [x] = ([], 4) := by rw [rdL]
theorem rdL_two (z : Nat) (acc : List Seg) (k n : UInt8) (r : List UInt8) : rdL z acc (k :: n :: r) = if r.length < z * n.toNat then ([], 4)
    else if (decide (1 ≤ k.toNat) && decide (k.toNat ≤ 4) && decide (0 < n.toNat)) = false then ([], 5)
    else if acc.length = 32 then ([], 7)
    else rdL z (acc ++ [(k, numsB z n.toNat r)]) (r.drop (z * n.toNat)) := by rw [rdL]
def read (wide : Bool) (b : List UInt8) : List Seg × Nat := rdL (if wide then 4 else 2) [] b
/-- Between two segments: what is read of the rest is R. -/
def On (z : Nat) (b : List UInt8) (R : List Seg × Nat) (s : RS) (acc : List Seg) : Prop :=
  s.l = b ∧ s.es = [] ∧ acc.length ≤ 33 ∧ ((s.e = 0 ∧ s.k ≤ b.length ∧ acc.length ≤ 32 ∧ rdL z acc (b.drop s.k) = R) ∨ (s.e ≠ 0 ∧ R.1 = [] ∧ s.e = (R.2 : Int)))
theorem On.start (z : Nat) (b : List UInt8) : On z b (rdL z [] b) ⟨b, 0, [], 0⟩ [] := ⟨rfl, rfl, by simp, .inl ⟨rfl, Nat.zero_le _, by simp, rfl⟩⟩
/-- The reader behind a segment, what is wrong noted. -/
def after (acc : List Seg) (ok : Bool) (s : RS) : RS :=
  let s4 := if ok then s else s.fail 5
  if acc.length = 32 then s4.fail 7 else s4
theorem after_err {acc : List Seg} {ok : Bool} {s : RS} (h : s.e ≠ 0) : after acc ok s = s := by
  unfold after
  cases ok <;> simp [RS.err_fail h]
theorem On.step {z : Nat} (hz : 0 < z) {b : List UInt8} {R : List Seg × Nat} {s : RS} {acc : List Seg} (h : On z b R s acc) (hl : 0 < s.left) :
    On z b R (after acc (decide (1 ≤ RS.num (s.got 1)) && decide (RS.num (s.got 1) ≤ 4) && decide (0 < RS.num ((s.pass 1).got 1)) && decide (RS.num ((s.pass 1).got 1) ≤ 255)) (RS.stAt z ((s.pass 1).pass 1) (RS.num ((s.pass 1).got 1))))
      (acc ++ [(UInt8.ofNat (RS.num (s.got 1)), RS.numsAt z ((s.pass 1).pass 1) (RS.num ((s.pass 1).got 1)))]) := by
  obtain ⟨rfl, hes, hal, ⟨he, hk, ha, hR⟩ | ⟨he, _⟩⟩ := h
  · obtain ⟨l, k, es, e⟩ := s
    obtain rfl : e = 0 := he
    obtain rfl : es = [] := hes
    have hlt : k < l.length := by rw [RS.left_zero rfl] at hl; unfold RS.top at hl; simp only at hl; omega
    obtain ⟨g1, p1⟩ := RS.byte_there (s := ⟨l, k, [], 0⟩) rfl hlt (Nat.le_refl _)
    rw [g1, p1, RS.num_one]
    simp only at hR hk ⊢
    rw [UInt8.ofNat_toNat]
    have hal2 : ∀ x : Seg, (acc ++ [x]).length ≤ 33 := fun x => by simp; omega
    by_cases h1 : k + 1 < l.length
    · obtain ⟨g2, p2⟩ := RS.byte_there (s := ⟨l, k + 1, [], 0⟩) rfl h1 (Nat.le_refl _)
      rw [g2, p2, RS.num_one]
      simp only
      rw [Cp.drop_two h1, rdL_two] at hR
      generalize l.getD k 0 = c at *
      generalize l.getD (k + 1) 0 = n at *
      have hn8 := n.toNat_lt
      have e2 : decide (n.toNat ≤ 255) = true := decide_eq_true (by omega)
      rw [e2, Bool.and_true]
      rcases RS.stAt_there z l hz n.toNat (k + 1 + 1) (by omega) with ⟨h2, h3⟩ | ⟨h2, h3, h4, h5⟩
      · rw [if_neg (by rw [List.length_drop]; omega)] at hR
        rw [h3, RS.numsAt_there z l hz (k + 1 + 1) n.toNat h2]
        have hnb : numsB z n.toNat (l.drop (k + 2)) = (List.range n.toNat).map fun i => RS.num ((l.drop (k + 1 + 1 + z * i)).take z) := by
          unfold numsB
          refine List.map_congr_left (fun i _ => ?_)
          rw [List.drop_drop]
        rw [← hnb]
        cases hok : (decide (1 ≤ c.toNat) && decide (c.toNat ≤ 4) && decide (0 < n.toNat)) with
        | false =>
          rw [hok, if_pos rfl] at hR
          have : after acc false ⟨l, k + 1 + 1 + z * n.toNat, [], 0⟩ = ⟨l, k + 1 + 1 + z * n.toNat, [], 5⟩ := by
            unfold after
            by_cases h32 : acc.length = 32 <;> simp [h32, RS.fail]
          rw [this]
          exact ⟨rfl, rfl, hal2 _, .inr ⟨(by decide : (5 : Int) ≠ 0), by rw [← hR], by rw [← hR]; rfl⟩⟩
        | true =>
          rw [hok, if_neg (by decide)] at hR
          by_cases h32 : acc.length = 32
          · rw [if_pos h32] at hR
            have : after acc true ⟨l, k + 1 + 1 + z * n.toNat, [], 0⟩ = ⟨l, k + 1 + 1 + z * n.toNat, [], 7⟩ := by
              unfold after
              rw [if_pos h32]
              rfl
            rw [this]
            exact ⟨rfl, rfl, hal2 _, .inr ⟨(by decide : (7 : Int) ≠ 0), by rw [← hR], by rw [← hR]; rfl⟩⟩
          · rw [if_neg h32] at hR
            have : after acc true ⟨l, k + 1 + 1 + z * n.toNat, [], 0⟩ = ⟨l, k + 1 + 1 + z * n.toNat, [], 0⟩ := by
              unfold after
              rw [if_neg h32]
              rfl
            rw [this]
            refine ⟨rfl, rfl, hal2 _, .inl ⟨rfl, h2, by simp; omega, ?_⟩⟩
            rw [← hR, List.drop_drop]
      · rw [if_pos (by rw [List.length_drop]; omega)] at hR
        rw [after_err (by rw [h3]; decide)]
        exact ⟨h4, h5, hal2 _, .inr ⟨by rw [h3]; decide, by rw [← hR], by rw [← hR, h3]; rfl⟩⟩
    · rw [Cp.drop_one (by omega), rdL_one] at hR
      obtain ⟨g2, p2⟩ := RS.byte_none (s := ⟨l, k + 1, [], 0⟩) rfl (by show l.length ≤ k + 1; omega)
      have hf : RS.fits ⟨l, k + 1, [], 0⟩ 1 = ⟨l, k + 1, [], 4⟩ := by unfold RS.fits; rw [if_pos (by right; rw [RS.left_zero rfl]; unfold RS.top; simp only; omega)]; rfl
      have hp : RS.pass ⟨l, k + 1, [], 0⟩ 1 = ⟨l, k + 1, [], 4⟩ := by unfold RS.pass; rw [hf, if_neg (show ¬ (4 : Int) = 0 by decide)]
      rw [g2, hp, RS.num_nil]
      show On z l R (after acc _ ⟨l, k + 1, [], 4⟩) _
      rw [after_err (show (4 : Int) ≠ 0 by decide)]
      exact ⟨rfl, rfl, hal2 _, .inr ⟨(show (4 : Int) ≠ 0 by decide), by rw [← hR], by rw [← hR]; rfl⟩⟩
  · rw [RS.err_left he] at hl; omega
theorem On.done {z : Nat} {b : List UInt8} {R : List Seg × Nat} {s : RS} {acc : List Seg} (h : On z b R s acc) (hl : ¬ 0 < s.left) : s.e = (R.2 : Int) ∧ (s.e = 0 → R.1 = acc) ∧ (s.e ≠ 0 → R.1 = []) := by
  obtain ⟨rfl, hes, hal, ⟨he, hk, ha, hR⟩ | ⟨he, h1, h2⟩⟩ := h
  · have : s.k = s.l.length := by rw [RS.left_zero he] at hl; unfold RS.top at hl; rw [hes] at hl; simp only at hl; omega
    rw [this, List.drop_length, rdL_nil] at hR
    rw [← hR]
    exact ⟨he, fun _ => rfl, fun h => absurd he h⟩
  · exact ⟨h2, fun h => absurd h he, fun _ => h1⟩
end Pt
end Go.Proofs.YteofbpdogmajoaaGreatDoor
namespace Go.Proofs.YteofbpdogmajoaaGreatDoor
open Go.RowKit
attribute [local go_sem] Oper.semAt_some

/-- What lies in memory between two segments. -/
structure Pmd (w : World) (p : Nat) (s : RS) (acc : List Seg) (lv : Value) (u : World) : Prop where
  rd : Rd u p s
  own : ∃ xs, u.ownsRow w.heap.size 71 2 lv acc.length xs ∧ Rws u w.heap.size xs acc
  kept : Kept Nothing w u
  at_ : w.heap.size ≤ p
theorem Rws.rd {w w' : World} {p B : Nat} {s : RS} {xs : List Value} {l : List Seg} (h : Rws w B xs l) (hr : Rd w p s) (k : Kept (Only p) w w') : Rws w' B xs l := by
  obtain ⟨_, _, hb, _⟩ := hr
  exact h.kept k (fun g cs (e : g = p) x => by
    subst e
    unfold Blk at hb
    rw [hb] at x
    injection x with x
    injection x with _ x2
    exact absurd x2 (by decide))
theorem Pmd.read {w u u' : World} {p : Nat} {s s' : RS} {acc : List Seg} {lv : Value} (h : Pmd w p s acc lv u) (hr : Rd u' p s') (k : Kept (Only p) u u') : Pmd w p s' acc lv u' := by
  obtain ⟨xs, ho, hx⟩ := h.own
  exact ⟨hr, ⟨xs, ow_rd ho h.rd (by decide) k, hx.rd h.rd k⟩, h.kept.rd k h.at_, h.at_⟩
theorem Pmd.old {w u u' : World} {p : Nat} {s : RS} {acc : List Seg} {lv : Value} (h : Pmd w p s acc lv u) (k : Kept Nothing u u') : Pmd w p s acc lv u' :=
  h.read (h.rd.kept k (NoRd.nothing _)) (k.mono (fun _ x => x.elim))
theorem RS.fail_rem (s : RS) (x : Int) : (s.fail x).rem ≤ s.rem := by
  unfold RS.rem
  rw [(RS.fail_l s x).1, (RS.fail_l s x).2.1]
  unfold RS.fail
  split
  · simp; split <;> omega
  · omega
theorem RS.stAt_rem (z : Nat) (s : RS) : ∀ n, (RS.stAt z s n).rem ≤ s.rem
  | 0 => Nat.le_refl _
  | n + 1 => Nat.le_trans (RS.pass_rem _ _) (RS.stAt_rem z s n)
theorem Pt.after_rem (acc : List Seg) (ok : Bool) (s : RS) : (Pt.after acc ok s).rem ≤ s.rem := by
  unfold Pt.after
  cases ok with
  | true => by_cases h : acc.length = 32 <;> simp [h, RS.fail_rem]
  | false =>
    by_cases h : acc.length = 32
    · simp only [h, if_true, Bool.false_eq_true, if_false]
      exact Nat.le_trans (RS.fail_rem _ _) (RS.fail_rem _ _)
    · simp [h, RS.fail_rem]
theorem Pmd.push {w u u1 w7 : World} {p : Nat} {s : RS} {acc : List Seg} {lv v' nv : Value} {xs : List Value} {c : Seg} (h : Pmd w p s acc lv u) (ho : u.ownsRow w.heap.size 71 2 lv acc.length xs) (hx : Rws u w.heap.size xs acc) (hn : u.ownsRow w.heap.size 27 1 nv c.2.length (ass c.2)) (hnl : ∀ n ∈ c.2, n < 4294967296)
    (k : Kept Nothing u u1) (hg : u1.grownBy w7 lv.ownBlock) (ho7 : w7.ownsRow w.heap.size 71 2 v' (acc.length + 1) (xs ++ [by8 c.1, nv])) : Pmd w p s (acc ++ [c]) v' w7 := by
  have o1 := ow_kept ho k (fun _ _ x => x)
  have kg := grown_kept hg
  refine ⟨(h.rd.kept k (NoRd.nothing _)).kept kg (NoRd.own o1 (by decide)), ⟨_, by rw [List.length_append]; exact ho7, Rws.push o1 (hx.old k) (ow_kept hn k (fun _ _ x => x)) hnl hg⟩, (h.kept.trans k).own_grown o1 (Nat.le_refl _) hg, h.at_⟩

set_option maxRecDepth 20000 in
set_option maxHeartbeats 4000000 in
theorem path_read (v : Value) (b : List UInt8) (wide : Bool) (w : World) (hv : By w v b) (hb : b.length ≤ 1000000) :
    Calls Tryz.prog 119 #[v, .bool wide] w fun e w' => ∃ rv, e = .returned (.tuple #[rv, .int .i64 ((Pt.read wide b).2 : Nat)]) ∧ Pown w' w.heap.size rv (Pt.read wide b).1 ∧ Kept Nothing w w' := by
  have HV := Lib.hid hv
  obtain ⟨i0, hi, hz0, hz1, hz2⟩ := info_parts sg_info
  have hz : 0 < (if wide then 4 else 2) := by cases wide <;> decide
  have HST := Lib.hid (Pt.On.start (if wide then 4 else 2) b)
  have HRD : Hid (Pt.read wide b = Pt.rdL (if wide then 4 else 2) [] b) := Lib.hid rfl
  have HSEG := Lib.hid (fun p s u (h : Rd u p s) => rd_seg p s wide u h)
  have HZ := Lib.hid hz
  generalize (if wide then 4 else 2) = z at *
  generalize Pt.rdL z [] b = R at *
  rw [HRD.out]
  clear hv HRD hz
  go_enter Tryz.func119, Tryz.ntmps119
  go_wp2_with fail
  refine (rd_new v b _ HV.out (by omega)).mono ?_
  rintro e w1 ⟨p, rfl, hr, hk, hp⟩
  have HM : Hid (Pmd w p ⟨b, 0, [], 0⟩ [] (.slice none 0 0) w1) := Lib.hid ⟨hr, ⟨[], World.ownsRow_nil _ _ _ _, trivial⟩, hk, hp⟩
  clear hr hk hp
  go_wp2
  go_loopw [6] (fun lv wr => ∃ s acc, Hid (Pmd w p s acc lv wr) ∧ Hid (Pt.On z b R s acc)) (fun _ wr => rdm wr p)
  case atStart => exact ⟨_, _, HM, HST⟩
  case round =>
    clear HM HST
    obtain ⟨s, acc, HM, HON⟩ := hrel
    have hrem := HM.out.rd.rem_eq
    have hacc : acc.length ≤ 33 := HON.out.2.2.1
    obtain ⟨xs, ho, hx⟩ := HM.out.own
    obtain ⟨Aq, cq, rfl, _, _⟩ := ow_form ho
    clear ho hx
    by_cases h0 : 0 < s.left
    · have hli : (0 : Int) < (s.left : Int) := by omega
      have hless := RS.pass_less HM.out.rd.ok h0 (n := 1) (by omega)
      have HSTEP := Lib.hid (Pt.On.step HZ.out HON.out h0)
      have hk256 := num_got1 s
      have hn256 := num_got1 (s.pass 1)
      have hr2 := RS.pass_rem (s.pass 1) 1
      have HLN := Lib.hid (RS.length_numsAt z ((s.pass 1).pass 1) (RS.num ((s.pass 1).got 1)))
      have HRM := Lib.hid (fun ok => Nat.le_trans (Pt.after_rem acc ok (RS.stAt z ((s.pass 1).pass 1) (RS.num ((s.pass 1).got 1)))) (RS.stAt_rem z ((s.pass 1).pass 1) (RS.num ((s.pass 1).got 1))))
      clear h0
      go_wp2_with fail
      refine (rd_left p s wr HM.out.rd).mono ?_
      rintro e w2 ⟨rfl, m, rfl⟩
      have HM1 := Lib.hid (HM.out.old ((Kept.refl Nothing wr).drewN m))
      have HS2 := Lib.hid (HSEG.out p s _ HM1.out.rd)
      generalize hnn : RS.num ((s.pass 1).got 1) = nn at *
      generalize RS.num (s.got 1) = kd at *
      generalize RS.numsAt z ((s.pass 1).pass 1) nn = ns at *
      generalize RS.stAt z ((s.pass 1).pass 1) nn = s3 at *
      have hkb : kd < 256 := hk256
      go_wp2_with fail
      refine (HS2.out).mono ?_
      rintro e w3 ⟨nv, rfl, no, num, hr3, hk3⟩
      have HM3 := Lib.hid (HM1.out.read hr3 hk3)
      have NUM := Lib.hid num
      rw [HLN.out] at no
      have NO3 := Lib.hid (own_weakA no (HM1.out.kept.size))
      obtain ⟨An, cn, rfl, _, _⟩ := ow_form no
      have B3 := Lib.hid (Blk.fresh w3 71 #[.int .u8 (kd : Int), .slice An nn cn])
      have HKD : Hid (by8 (UInt8.ofNat kd) = .int .u8 (kd : Int)) := Lib.hid (by unfold by8; congr 2; simp; omega)
      have HMY := Lib.hid (fun u => seg_may kd An nn cn u)
      have HL5 : Hid (acc.length + 1 ≤ maxLen ∧ (acc.length + 1) * 32 ≤ 140737488355328) := Lib.hid (by unfold maxLen; omega)
      have hbs : w3.heap.size < (w3.alloc (.cells #[.int .u8 (kd : Int), .slice An nn cn] 71)).heap.size := by simp
      clear no num hr3 hk3 HS2 HM HM1 HSEG HON
      generalize (decide (1 ≤ kd) && decide (kd ≤ 4) && decide (0 < nn) && decide (nn ≤ 255)) = ok at *
      have HE5 := Lib.hid (HRM.out ok)
      clear HRM
      cases ok with
      | true =>
        by_cases h32 : acc.length = 32
        · have n1 : ((acc.length : Int) == 32) = true := by rw [beq_iff_eq]; omega
          have n2 : (acc.length : Int) = 32 := by omega
          have EA : Hid (Pt.after acc true s3 = s3.fail 7) := Lib.hid (by unfold Pt.after; rw [if_pos h32]; rfl)
          clear h32
          rw [EA.out] at HSTEP HE5
          go_upto_region 9 with (first
            | (go_at_call 121; refine (rd_fail p _ 7 _ HM4.out.rd).mono ?_; rintro e w6 ⟨rfl, hr6, hk6⟩; (have HM6 := Lib.hid (HM4.out.read hr6 hk6)); (have NO6 := Lib.hid (ow_rd NO4.out HM4.out.rd (by decide) hk6)); (have B6 := Lib.hid (B4.out.rd HM4.out.rd (by decide) hk6)); (have c6 := B6.out.cell 0); (have d6 := B6.out.cell 1); clear hr6 hk6)
            | (go_at_call 114; refine (HMY.out _).mono ?_; rintro e w4 ⟨rfl, hk4⟩; (have HM4 := Lib.hid (HM3.out.old (((Kept.refl Nothing w3).alloc _).trans hk4))); (have NO4 := Lib.hid (ow_kept NO3.out (((Kept.refl Nothing w3).alloc (.cells #[.int .u8 (kd : Int), .slice An nn cn] 71)).trans hk4) (fun _ _ x => x))); (have B4 := Lib.hid (B3.out.kept hk4 (fun x => x))); (have c4 := B4.out.cell 0); (have d4 := B4.out.cell 1); clear hk4))
          obtain ⟨ys, oy1, oy2⟩ := HM6.out.own
          have OY := Lib.hid (And.intro oy1 oy2)
          clear oy1 oy2
          go_wp2_with (at_builtin; refine wpList_app _ rfl _ _ 25 rfl w.heap.size 71 i0 _ 2 32 Tryz.underlying25 hi hz0 hz1 hz2 rfl (by decide) (.slice Aq acc.length cq) acc.length ys rfl (ow_kept OY.out.1 ((Kept.refl Nothing _).alloc _) (fun _ _ x => x)) (some ⟨w6.heap.size, 0, none⟩) 1 1 [.int .u8 (kd : Int), .slice An nn cn] rfl (src_new w6 _ #[.int .u8 (kd : Int), .slice An nn cn] 2 1 rfl (by simp [Value.oneCell'])) HL5.out.1 HL5.out.2 (Nat.le_trans HM6.out.kept.size (by simp)) ?_; intro v9 w9 ho9 hg9 _; (have HP := Lib.hid (HM6.out.push (c := (UInt8.ofNat kd, ns)) OY.out.1 OY.out.2 (by rw [show (UInt8.ofNat kd, ns).2.length = nn from HLN.out]; exact NO6.out) NUM.out ((Kept.refl Nothing _).alloc _) hg9 (by rw [show by8 (UInt8.ofNat kd, ns).1 = .int .u8 (kd : Int) from HKD.out]; exact ho9))); clear ho9 hg9)
          go_roundw
          case rel => exact ⟨_, _, HP, HSTEP⟩
          case measure => rw [HP.out.rd.rem_eq, hrem]; have := HE5.out; omega
        · have n1 : ((acc.length : Int) == 32) = false := by rw [beq_eq_false_iff_ne]; omega
          have n2 : ¬ (acc.length : Int) = 32 := by omega
          have EA : Hid (Pt.after acc true s3 = s3) := Lib.hid (by unfold Pt.after; rw [if_neg h32]; rfl)
          clear h32
          rw [EA.out] at HSTEP HE5
          go_upto_region 9 with (first
            | (go_at_call 114; refine (HMY.out _).mono ?_; rintro e w4 ⟨rfl, hk4⟩; (have HM4 := Lib.hid (HM3.out.old (((Kept.refl Nothing w3).alloc _).trans hk4))); (have NO4 := Lib.hid (ow_kept NO3.out (((Kept.refl Nothing w3).alloc (.cells #[.int .u8 (kd : Int), .slice An nn cn] 71)).trans hk4) (fun _ _ x => x))); (have B4 := Lib.hid (B3.out.kept hk4 (fun x => x))); (have c4 := B4.out.cell 0); (have d4 := B4.out.cell 1); clear hk4))
          obtain ⟨ys, oy1, oy2⟩ := HM4.out.own
          have OY := Lib.hid (And.intro oy1 oy2)
          clear oy1 oy2
          go_wp2_with (at_builtin; refine wpList_app _ rfl _ _ 25 rfl w.heap.size 71 i0 _ 2 32 Tryz.underlying25 hi hz0 hz1 hz2 rfl (by decide) (.slice Aq acc.length cq) acc.length ys rfl (ow_kept OY.out.1 ((Kept.refl Nothing _).alloc _) (fun _ _ x => x)) (some ⟨w4.heap.size, 0, none⟩) 1 1 [.int .u8 (kd : Int), .slice An nn cn] rfl (src_new w4 _ #[.int .u8 (kd : Int), .slice An nn cn] 2 1 rfl (by simp [Value.oneCell'])) HL5.out.1 HL5.out.2 (Nat.le_trans HM4.out.kept.size (by simp)) ?_; intro v9 w9 ho9 hg9 _; (have HP := Lib.hid (HM4.out.push (c := (UInt8.ofNat kd, ns)) OY.out.1 OY.out.2 (by rw [show (UInt8.ofNat kd, ns).2.length = nn from HLN.out]; exact NO4.out) NUM.out ((Kept.refl Nothing _).alloc _) hg9 (by rw [show by8 (UInt8.ofNat kd, ns).1 = .int .u8 (kd : Int) from HKD.out]; exact ho9))); clear ho9 hg9)
          go_roundw
          case rel => exact ⟨_, _, HP, HSTEP⟩
          case measure => rw [HP.out.rd.rem_eq, hrem]; have := HE5.out; omega
      | false =>
        by_cases h32 : acc.length = 32
        · have n1 : ((acc.length : Int) == 32) = true := by rw [beq_iff_eq]; omega
          have n2 : (acc.length : Int) = 32 := by omega
          have EA : Hid (Pt.after acc false s3 = (s3.fail 5).fail 7) := Lib.hid (by unfold Pt.after; rw [if_pos h32]; rfl)
          clear h32
          rw [EA.out] at HSTEP HE5
          go_upto_region 9 with (first
            | (go_at_call 121; refine (rd_fail p _ 7 _ HM5.out.rd).mono ?_; rintro e w6 ⟨rfl, hr6, hk6⟩; (have HM6 := Lib.hid (HM5.out.read hr6 hk6)); (have NO6 := Lib.hid (ow_rd NO5.out HM5.out.rd (by decide) hk6)); (have B6 := Lib.hid (B5.out.rd HM5.out.rd (by decide) hk6)); (have c6 := B6.out.cell 0); (have d6 := B6.out.cell 1); clear hr6 hk6)
            | (go_at_call 121; refine (rd_fail p _ 5 _ HM4.out.rd).mono ?_; rintro e w5 ⟨rfl, hr5, hk5⟩; (have HM5 := Lib.hid (HM4.out.read hr5 hk5)); (have NO5 := Lib.hid (ow_rd NO4.out HM4.out.rd (by decide) hk5)); (have B5 := Lib.hid (B4.out.rd HM4.out.rd (by decide) hk5)); (have c5 := B5.out.cell 0); (have d5 := B5.out.cell 1); clear hr5 hk5)
            | (go_at_call 114; refine (HMY.out _).mono ?_; rintro e w4 ⟨rfl, hk4⟩; (have HM4 := Lib.hid (HM3.out.old (((Kept.refl Nothing w3).alloc _).trans hk4))); (have NO4 := Lib.hid (ow_kept NO3.out (((Kept.refl Nothing w3).alloc (.cells #[.int .u8 (kd : Int), .slice An nn cn] 71)).trans hk4) (fun _ _ x => x))); (have B4 := Lib.hid (B3.out.kept hk4 (fun x => x))); (have c4 := B4.out.cell 0); (have d4 := B4.out.cell 1); clear hk4))
          obtain ⟨ys, oy1, oy2⟩ := HM6.out.own
          have OY := Lib.hid (And.intro oy1 oy2)
          clear oy1 oy2
          go_wp2_with (at_builtin; refine wpList_app _ rfl _ _ 25 rfl w.heap.size 71 i0 _ 2 32 Tryz.underlying25 hi hz0 hz1 hz2 rfl (by decide) (.slice Aq acc.length cq) acc.length ys rfl (ow_kept OY.out.1 ((Kept.refl Nothing _).alloc _) (fun _ _ x => x)) (some ⟨w6.heap.size, 0, none⟩) 1 1 [.int .u8 (kd : Int), .slice An nn cn] rfl (src_new w6 _ #[.int .u8 (kd : Int), .slice An nn cn] 2 1 rfl (by simp [Value.oneCell'])) HL5.out.1 HL5.out.2 (Nat.le_trans HM6.out.kept.size (by simp)) ?_; intro v9 w9 ho9 hg9 _; (have HP := Lib.hid (HM6.out.push (c := (UInt8.ofNat kd, ns)) OY.out.1 OY.out.2 (by rw [show (UInt8.ofNat kd, ns).2.length = nn from HLN.out]; exact NO6.out) NUM.out ((Kept.refl Nothing _).alloc _) hg9 (by rw [show by8 (UInt8.ofNat kd, ns).1 = .int .u8 (kd : Int) from HKD.out]; exact ho9))); clear ho9 hg9)
          go_roundw
          case rel => exact ⟨_, _, HP, HSTEP⟩
          case measure => rw [HP.out.rd.rem_eq, hrem]; have := HE5.out; omega
        · have n1 : ((acc.length : Int) == 32) = false := by rw [beq_eq_false_iff_ne]; omega
          have n2 : ¬ (acc.length : Int) = 32 := by omega
          have EA : Hid (Pt.after acc false s3 = s3.fail 5) := Lib.hid (by unfold Pt.after; rw [if_neg h32]; rfl)
          clear h32
          rw [EA.out] at HSTEP HE5
          go_upto_region 9 with (first
            | (go_at_call 121; refine (rd_fail p _ 5 _ HM4.out.rd).mono ?_; rintro e w5 ⟨rfl, hr5, hk5⟩; (have HM5 := Lib.hid (HM4.out.read hr5 hk5)); (have NO5 := Lib.hid (ow_rd NO4.out HM4.out.rd (by decide) hk5)); (have B5 := Lib.hid (B4.out.rd HM4.out.rd (by decide) hk5)); (have c5 := B5.out.cell 0); (have d5 := B5.out.cell 1); clear hr5 hk5)
            | (go_at_call 114; refine (HMY.out _).mono ?_; rintro e w4 ⟨rfl, hk4⟩; (have HM4 := Lib.hid (HM3.out.old (((Kept.refl Nothing w3).alloc _).trans hk4))); (have NO4 := Lib.hid (ow_kept NO3.out (((Kept.refl Nothing w3).alloc (.cells #[.int .u8 (kd : Int), .slice An nn cn] 71)).trans hk4) (fun _ _ x => x))); (have B4 := Lib.hid (B3.out.kept hk4 (fun x => x))); (have c4 := B4.out.cell 0); (have d4 := B4.out.cell 1); clear hk4))
          obtain ⟨ys, oy1, oy2⟩ := HM5.out.own
          have OY := Lib.hid (And.intro oy1 oy2)
          clear oy1 oy2
          go_wp2_with (at_builtin; refine wpList_app _ rfl _ _ 25 rfl w.heap.size 71 i0 _ 2 32 Tryz.underlying25 hi hz0 hz1 hz2 rfl (by decide) (.slice Aq acc.length cq) acc.length ys rfl (ow_kept OY.out.1 ((Kept.refl Nothing _).alloc _) (fun _ _ x => x)) (some ⟨w5.heap.size, 0, none⟩) 1 1 [.int .u8 (kd : Int), .slice An nn cn] rfl (src_new w5 _ #[.int .u8 (kd : Int), .slice An nn cn] 2 1 rfl (by simp [Value.oneCell'])) HL5.out.1 HL5.out.2 (Nat.le_trans HM5.out.kept.size (by simp)) ?_; intro v9 w9 ho9 hg9 _; (have HP := Lib.hid (HM5.out.push (c := (UInt8.ofNat kd, ns)) OY.out.1 OY.out.2 (by rw [show (UInt8.ofNat kd, ns).2.length = nn from HLN.out]; exact NO5.out) NUM.out ((Kept.refl Nothing _).alloc _) hg9 (by rw [show by8 (UInt8.ofNat kd, ns).1 = .int .u8 (kd : Int) from HKD.out]; exact ho9))); clear ho9 hg9)
          go_roundw
          case rel => exact ⟨_, _, HP, HSTEP⟩
          case measure => rw [HP.out.rd.rem_eq, hrem]; have := HE5.out; omega
    · have hli : ¬ (0 : Int) < (s.left : Int) := by omega
      have HD := Lib.hid (HON.out.done h0)
      have HL := Lib.hid (fun u (h : Rd u p s) => rd_left p s u h)
      clear h0
      by_cases he : s.e = 0
      · obtain ⟨d1, d2, -⟩ := HD.out
        have hR : R = (acc, 0) := by
          obtain ⟨R1, R2⟩ := R
          have e1 : R1 = acc := d2 he
          have e2 : R2 = 0 := by simp only at d1; omega
          rw [e1, e2]
        subst hR
        have HO := Lib.hid HM.out.own
        clear HD HON d1 d2
        go_wp2_with fail
        refine (rd_left p s wr HM.out.rd).mono ?_
        rintro e w2 ⟨rfl, m, rfl⟩
        go_wp2_with fail
        refine (rd_err p s _ (HM.out.rd.drewN m)).mono ?_
        rintro e w3 ⟨rfl, rfl⟩
        rw [he]
        go_wp2
        go_ret2
        obtain ⟨xs, ho, hx⟩ := HO.out
        have kd := (Kept.refl Nothing wr).drewN m
        exact ⟨_, rfl, ⟨xs, ow_kept ho kd (fun _ _ x => x), hx.old kd⟩, HM.out.kept.trans kd⟩
      · obtain ⟨d1, -, d3⟩ := HD.out
        have hR : R.1 = [] := d3 he
        have hne : (s.e != 0) = true := bne_iff_ne.2 he
        have HD1 := Lib.hid d1
        have HR1 := Lib.hid hR
        clear HD HON d1 d3 hR
        go_wp2_with fail
        refine (rd_left p s wr HM.out.rd).mono ?_
        rintro e w2 ⟨rfl, m, rfl⟩
        go_wp2_with fail
        refine (rd_err p s _ (HM.out.rd.drewN m)).mono ?_
        rintro e w3 ⟨rfl, rfl⟩
        go_wp2
        go_ret2
        exact ⟨_, by rw [HD1.out]; rfl, by rw [HR1.out]; exact Pown.nil _ _, HM.out.kept.drewN m⟩
end Go.Proofs.YteofbpdogmajoaaGreatDoor
namespace Go.Proofs.YteofbpdogmajoaaGreatDoor
open Go.RowKit
attribute [local go_sem] Oper.semAt_some

theorem Rws.weakA {w : World} {B B' : Nat} (hb : B' ≤ B) : ∀ {xs : List Value} {l : List Seg}, Rws w B xs l → Rws w B' xs l
  | [], [], _ => trivial
  | _ :: _ :: _, _ :: _, ⟨h1, h2, h3, h4⟩ => ⟨h1, own_weakA h2 hb, h3, Rws.weakA hb h4⟩
  | [], _ :: _, h => h.elim
  | [_], _, h => by unfold Rws at h; exact h.elim
  | _ :: _ :: _, [], h => by unfold Rws at h; exact h.elim

theorem read_path (p : Nat) (s : RS) (wide : Bool) (w : World) (h : Rd w p s) (hl : (s.got s.left).length ≤ 1000000) :
    Calls Tryz.prog 73 #[.pointer (some ⟨p, 0, none⟩), .bool wide] w fun e w' => ∃ pv, e = .returned pv ∧ Pown w' w.heap.size pv (Pt.read wide (s.got s.left)).1 ∧ Rd w' p ((s.pass s.left).fail ((Pt.read wide (s.got s.left)).2 : Int)) ∧ Kept (Only p) w w' := by
  have HR := Lib.hid h
  have HL := Lib.hid hl
  clear h hl
  go_enter Tryz.func73, Tryz.ntmps73
  go_wp2_with fail
  refine (rd_rest p s w HR.out).mono ?_
  rintro e w1 ⟨v1, rfl, b1, r1, k1⟩
  have HP := Lib.hid (path_read v1 (s.got s.left) wide w1 b1.by HL.out)
  have R1 := Lib.hid r1
  have K1 := Lib.hid k1
  clear b1 r1 k1
  generalize hRR : Pt.read wide (s.got s.left) = R at *
  have HRR := Lib.hid hRR
  clear hRR
  go_wp2_with fail
  refine HP.out.mono ?_
  rintro e w2 ⟨v2, rfl, o2, k2⟩
  have O2 := Lib.hid o2
  have HF := Lib.hid (rd_fail p (s.pass s.left) (R.2 : Int) w2 (R1.out.kept k2 (NoRd.nothing _)))
  have K2 := Lib.hid (K1.out.trans (k2.mono (fun _ x => x.elim)))
  have HRD2 := Lib.hid (R1.out.kept k2 (NoRd.nothing _))
  obtain ⟨xs, ox, -⟩ := o2
  obtain ⟨A2, c2, rfl, -, -⟩ := ow_form ox
  clear k2 ox xs
  go_wp2_with fail
  refine HF.out.mono ?_
  rintro e w3 ⟨rfl, r3, k3⟩
  have R3 := Lib.hid r3
  have K3 := Lib.hid k3
  clear r3 k3
  go_wp2
  go_ret
  obtain rfl := HRR.out
  obtain ⟨xs, ox, hx⟩ := O2.out
  refine ⟨_, rfl, ⟨xs, own_weakA (ow_rd ox HRD2.out (by decide) K3.out) K1.out.size, ?_⟩, R3.out, K2.out.trans K3.out⟩
  exact Rws.weakA K1.out.size (hx.rd HRD2.out K3.out)

theorem read_by (p : Nat) (s : RS) (wide : Bool) (w : World) (h : Rd w p s) :
    Calls Tryz.prog 80 #[.pointer (some ⟨p, 0, none⟩), .bool wide] w fun e w' => e = .returned (.agg #[.int .u32 (RS.num (s.got (if wide then 4 else 2)) : Int), .int .u32 (RS.num ((s.pass (if wide then 4 else 2)).got 4) : Int)]) ∧ Rd w' p ((s.pass (if wide then 4 else 2)).pass 4) ∧ Kept (Only p) w w' := by
  have hlt := h.lt
  have K0 := Lib.hid ((Kept.refl (Only p) w).alloc (.cells #[.int .u32 0, .int .u32 0] 29))
  have R0 := Lib.hid (h.kept ((Kept.refl Nothing w).alloc (.cells #[.int .u32 0, .int .u32 0] 29)) (NoRd.nothing _))
  have B0 := Lib.hid (Blk.fresh w 29 #[.int .u32 0, .int .u32 0])
  clear h
  go_enter Tryz.func80, Tryz.ntmps80
  cases wide with
  | true =>
    go_wp2_with fail
    refine (rd_four p s _ R0.out).mono ?_
    rintro e w1 ⟨rfl, r1, k1⟩
    have b1 := B0.out.rd R0.out (by decide) k1
    have hx := RS.num_got s 4 (by decide)
    generalize hxx : RS.num (s.got 4) = x at *
    generalize hs1 : s.pass 4 = s1 at *
    have HX := Lib.hid (And.intro hxx hs1)
    clear hxx hs1
    go_wp2_with fail
    refine (rd_four p s1 _ r1).mono ?_
    rintro e w2 ⟨rfl, r2, k2⟩
    have b2 := b1.rd r1 (by decide) k2
    have kk := (K0.out.trans k1).trans k2
    generalize hyy : RS.num (s1.got 4) = y at *
    have HY := Lib.hid hyy
    clear hyy
    have c0 := b2.cell 0
    have c1 := b2.cell 1
    have f0 := b2.free 0
    have f1 := b2.free 1
    have l2 := b2.lt
    clear b1
    go_wp2_with fail
    have B3 := (b2.put 0 (.int .u32 (x : Int))).put 1 (.int .u32 (y : Int))
    have kb := (kk.setCell (p := ⟨w.heap.size, 0, none⟩) (fun h => absurd h (Nat.lt_irrefl _)) (.int .u32 (x : Int))).setCell (p := ⟨w.heap.size, 1, none⟩) (fun h => absurd h (Nat.lt_irrefl _)) (.int .u32 (y : Int))
    have R3 := (r2.kept (Kept.own w2 w.heap.size 0 (.int .u32 (x : Int))) (NoRd.of_blk b2 (by decide))).kept (Kept.own _ w.heap.size 1 (.int .u32 (y : Int))) (NoRd.of_blk (b2.put 0 (.int .u32 (x : Int))) (by decide))
    have d0 := B3.cell 0
    have d1 := B3.cell 1
    generalize (w2.setCell ⟨w.heap.size, 0, none⟩ (.int .u32 (x : Int))).setCell ⟨w.heap.size, 1, none⟩ (.int .u32 (y : Int)) = w4 at *
    replace d0 : w4.cell? ⟨w.heap.size, 0, none⟩ = some (.int .u32 (x : Int)) := d0
    replace d1 : w4.cell? ⟨w.heap.size, 1, none⟩ = some (.int .u32 (y : Int)) := d1
    refine bodyPost_ret (v := .agg #[.int .u32 (x : Int), .int .u32 (y : Int)]) (by simp [results, Tryz.results80, go_sem, d0, d1]) rfl ?_
    obtain ⟨h1, h2⟩ := HX.out
    have h3 := HY.out
    subst h1 h2 h3
    exact ⟨rfl, R3, kb⟩
  | false =>
    go_wp2_with fail
    refine (rd_two p s _ R0.out).mono ?_
    rintro e w1 ⟨rfl, r1, k1⟩
    have b1 := B0.out.rd R0.out (by decide) k1
    have hx := RS.num_got s 2 (by decide)
    have hx2 := RS.num_got2 s
    have hwx : IntKind.u32.wrap (RS.num (s.got 2) : Int) = (RS.num (s.got 2) : Int) := by simp [IntKind.wrap, IntKind.bits, IntKind.signed]; omega
    generalize hxx : RS.num (s.got 2) = x at *
    generalize hs1 : s.pass 2 = s1 at *
    have HX := Lib.hid (And.intro hxx hs1)
    clear hxx hs1
    go_wp2_with fail
    refine (rd_four p s1 _ r1).mono ?_
    rintro e w2 ⟨rfl, r2, k2⟩
    have b2 := b1.rd r1 (by decide) k2
    have kk := (K0.out.trans k1).trans k2
    generalize hyy : RS.num (s1.got 4) = y at *
    have HY := Lib.hid hyy
    clear hyy
    have c0 := b2.cell 0
    have c1 := b2.cell 1
    have f0 := b2.free 0
    have f1 := b2.free 1
    have l2 := b2.lt
    clear b1
    go_wp2_with fail
    have B3 := (b2.put 0 (.int .u32 (x : Int))).put 1 (.int .u32 (y : Int))
    have kb := (kk.setCell (p := ⟨w.heap.size, 0, none⟩) (fun h => absurd h (Nat.lt_irrefl _)) (.int .u32 (x : Int))).setCell (p := ⟨w.heap.size, 1, none⟩) (fun h => absurd h (Nat.lt_irrefl _)) (.int .u32 (y : Int))
    have R3 := (r2.kept (Kept.own w2 w.heap.size 0 (.int .u32 (x : Int))) (NoRd.of_blk b2 (by decide))).kept (Kept.own _ w.heap.size 1 (.int .u32 (y : Int))) (NoRd.of_blk (b2.put 0 (.int .u32 (x : Int))) (by decide))
    have d0 := B3.cell 0
    have d1 := B3.cell 1
    generalize (w2.setCell ⟨w.heap.size, 0, none⟩ (.int .u32 (x : Int))).setCell ⟨w.heap.size, 1, none⟩ (.int .u32 (y : Int)) = w4 at *
    replace d0 : w4.cell? ⟨w.heap.size, 0, none⟩ = some (.int .u32 (x : Int)) := d0
    replace d1 : w4.cell? ⟨w.heap.size, 1, none⟩ = some (.int .u32 (y : Int)) := d1
    refine bodyPost_ret (v := .agg #[.int .u32 (x : Int), .int .u32 (y : Int)]) (by simp [results, Tryz.results80, go_sem, d0, d1]) rfl ?_
    obtain ⟨h1, h2⟩ := HX.out
    have h3 := HY.out
    subst h1 h2 h3
    exact ⟨rfl, R3, kb⟩

theorem u32_info : (Tryz.prog.info? 23).map (fun i => (i.zero, i.size, i.bytes)) = some (some (.int .u32 0), 1, 4) := by kernel_rfl

set_option maxRecDepth 20000 in
set_option maxHeartbeats 2000000 in
theorem read_numbers (p : Nat) (s : RS) (w : World) (h : Rd w p s) :
    Calls Tryz.prog 82 #[.pointer (some ⟨p, 0, none⟩)] w fun e w' => ∃ (v : Value) (n : Nat), e = .returned v ∧ w'.ownsRow w.heap.size 23 1 v n (ass (RS.numsAt 4 s n)) ∧ (RS.stAt 4 s n).left = 0 ∧ (∀ j, j < n → 0 < (RS.stAt 4 s j).left) ∧ Rd w' p (RS.stAt 4 s n) ∧ Kept (Only p) w w' := by
  have HR := Lib.hid h
  have hlt := h.lt
  obtain ⟨i0, hi, hz0, hz1, hz2⟩ := info_parts u32_info
  clear h
  go_enter Tryz.func82, Tryz.ntmps82
  go_wp2
  have hrs : s.rem ≤ 4398046511104 := by
    have := HR.out.ok.2
    unfold RS.rem
    split <;> omega
  go_loopw [3] (fun v wr => ∃ n : Nat, Hid (wr.ownsRow w.heap.size 23 1 v n (ass (RS.numsAt 4 s n))) ∧ Hid (Rd wr p (RS.stAt 4 s n)) ∧ Hid (Kept (Only p) w wr) ∧ Hid (n + (RS.stAt 4 s n).rem ≤ s.rem) ∧ Hid (∀ j, j < n → 0 < (RS.stAt 4 s j).left)) (fun _ wr => rdm wr p)
  case atStart => exact ⟨0, Lib.hid (World.ownsRow_nil _ _ _ _), HR, Lib.hid (Kept.refl _ _), Lib.hid (by show 0 + s.rem ≤ s.rem; omega), Lib.hid (fun j hj => by omega)⟩
  case round =>
    clear HR
    obtain ⟨n, HO, HR, HK, HN, HJ⟩ := hrel
    have hrem := HR.out.rem_eq
    obtain ⟨Aq, cq, rfl, _, _⟩ := ow_form HO.out
    have ES : Hid (RS.stAt 4 s (n + 1) = (RS.stAt 4 s n).pass (4 : Int)) := Lib.hid rfl
    have EN : Hid (ass (RS.numsAt 4 s (n + 1)) = ass (RS.numsAt 4 s n) ++ [.int .u32 ((RS.num ((RS.stAt 4 s n).got (4 : Int)) : Nat) : Int)]) := Lib.hid (by show ass (RS.numsAt 4 s n ++ [_]) = _; rw [ass_append]; rfl)
    have hx := RS.num_got (RS.stAt 4 s n) 4 (by decide)
    have hn : n ≤ 4398046511104 := by have := HN.out; omega
    by_cases h0 : 0 < (RS.stAt 4 s n).left
    · have hli : (0 : Int) < ((RS.stAt 4 s n).left : Int) := by omega
      have hless := RS.pass_less HR.out.ok h0 (n := (4 : Int)) (by omega)
      have HN2 : Hid (n + 1 + (RS.stAt 4 s (n + 1)).rem ≤ s.rem) := Lib.hid (by rw [ES.out]; have := HN.out; omega)
      have HL6 : Hid (n + 1 ≤ maxLen ∧ (n + 1) * 4 ≤ 140737488355328) := Lib.hid (by unfold maxLen; omega)
      have HLESS : Hid ((RS.stAt 4 s (n + 1)).rem < (RS.stAt 4 s n).rem) := Lib.hid (by rw [ES.out]; exact hless)
      have HJ2 : Hid (∀ j, j < n + 1 → 0 < (RS.stAt 4 s j).left) := Lib.hid (fun j hj => by
        by_cases e : j = n
        · subst e; exact h0
        · exact HJ.out j (by omega))
      clear hless h0 hn hrs
      go_wp2_with fail
      refine (rd_left p _ wr HR.out).mono ?_
      rintro e w2 ⟨rfl, m, rfl⟩
      have HR1 := Lib.hid (HR.out.drewN m)
      go_wp2_with fail
      refine (rd_four p _ _ HR1.out).mono ?_
      rintro e w3 ⟨rfl, r3, k3⟩
      generalize RS.num ((RS.stAt 4 s n).got 4) = x at *
      have HK3 := Lib.hid ((HK.out.drewN m).trans k3)
      have HO3 := Lib.hid (ow_rd (ow_kept HO.out ((Kept.refl Nothing wr).drewN m) (fun _ _ x => x)) HR1.out (by decide) k3)
      have HR3 := Lib.hid r3
      clear r3 k3 HR1
      have HSZ : Hid (w.heap.size ≤ w3.heap.size) := Lib.hid HK3.out.size
      go_wp2_with (at_builtin; refine wpList_app _ rfl _ _ 30 rfl w.heap.size 23 i0 _ 1 4 Tryz.underlying30 hi hz0 hz1 hz2 rfl (by decide) (.slice Aq n cq) n (ass (RS.numsAt 4 s n)) rfl (ow_kept HO3.out ((Kept.refl Nothing _).alloc _) (fun _ _ x => x)) (some ⟨w3.heap.size, 0, none⟩) 1 1 [.int .u32 (x : Int)] rfl (src_new w3 _ #[.int .u32 (x : Int)] 1 1 rfl (by simp [Value.oneCell'])) HL6.out.1 HL6.out.2 (Nat.le_trans HSZ.out (by simp)) ?_; intro v9 w9 ho9 hg9 _; (have kg9 := grown_kept hg9); (have HO9 := Lib.hid ho9); (have HR9 := Lib.hid ((HR3.out.kept ((Kept.refl Nothing w3).alloc (.cells #[.int .u32 (x : Int)] 23)) (NoRd.nothing _)).kept kg9 (NoRd.own (ow_kept HO3.out ((Kept.refl Nothing w3).alloc (.cells #[.int .u32 (x : Int)] 23)) (fun _ _ x => x)) (by decide)))); (have HK9 := Lib.hid ((HK3.out.alloc (.cells #[.int .u32 (x : Int)] 23)).grown hg9 (fun k hk hlt => by have := (ow_ge HO3.out hk).1; omega))); (have HV9 := Lib.hid (ow_form ho9)); clear ho9 hg9 kg9)
      go_roundw
      case rel => exact ⟨n + 1, Lib.hid (by rw [EN.out]; exact HO9.out), Lib.hid (by rw [ES.out]; exact HR9.out), HK9, HN2, HJ2⟩
      case measure => rw [hrem, HR9.out.rem_eq]; have := HLESS.out; rw [ES.out] at this; exact this
    · have hl0 : (RS.stAt 4 s n).left = 0 := by omega
      have hli : ((RS.stAt 4 s n).left : Int) = 0 := by omega
      have HL0 := Lib.hid hl0
      clear h0 hl0
      go_wp2_with fail
      refine (rd_left p _ wr HR.out).mono ?_
      rintro e w2 ⟨rfl, m, rfl⟩
      go_wp2
      go_ret
      exact ⟨_, n, rfl, ow_kept HO.out ((Kept.refl Nothing wr).drewN m) (fun _ _ x => x), HL0.out, HJ.out, HR.out.drewN m, HK.out.drewN m⟩
end Go.Proofs.YteofbpdogmajoaaGreatDoor
