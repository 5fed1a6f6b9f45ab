
/-
  What the calls of package scroll's reader do: Open.
-/
import Derived.Test.YtdhbfhjlholnlaaGreatDoorRe
import Derived.Deep.RegionLaw
namespace Go.Proofs.YtdhbfhjlholnlaaGreatDoor
open Go.RowKit

/-- Behind the box and the store of Open. -/
theorem Rd.put_open {w : World} {p : Nat} {l : List UInt8} {k : Nat} {es : List Nat} {e : Int} (h : Rd w p ⟨l, k, es, e⟩) (a : Nat) (ha : RS.ok ⟨l, k, a :: es, e⟩) :
    ∃ inn, w.cell? ⟨p, 3, none⟩ = some inn ∧ (∃ A, inn = .pointer A) ∧
      Rd ((w.setCell ⟨p, 3, none⟩ (.pointer (some ⟨w.heap.size, 0, none⟩))).alloc (.cells #[.int .i64 (a : Int), .int .i64 ((es.length : Int) + 1), inn] 160)) p ⟨l, k, a :: es, e⟩ := by
  obtain ⟨bs, inn, hb, hs, hc, hk⟩ := h
  obtain ⟨⟨-, -, -, h3, -⟩, -⟩ := cells5 hb
  refine ⟨inn, h3, ?_, ?_⟩
  · cases es with
    | nil => exact ⟨none, hc⟩
    | cons b r => obtain ⟨q', _, e, _⟩ := hc; exact ⟨_, e⟩
  · have hc1 : Chain (w.setCell ⟨p, 3, none⟩ (.pointer (some ⟨w.heap.size, 0, none⟩))) inn es := hc.own hb
    have hs1 : Bs (w.setCell ⟨p, 3, none⟩ (.pointer (some ⟨w.heap.size, 0, none⟩))) bs l := hs.own hb
    have hb1 := hb.put 3 (.pointer (some ⟨w.heap.size, 0, none⟩))
    have hz : (w.setCell ⟨p, 3, none⟩ (.pointer (some ⟨w.heap.size, 0, none⟩))).heap.size = w.heap.size := World.size_setCell _ _ _
    generalize w.setCell ⟨p, 3, none⟩ (.pointer (some ⟨w.heap.size, 0, none⟩)) = w1 at *
    have kal := (Kept.refl Nothing w1).alloc (.cells #[.int .i64 (a : Int), .int .i64 ((es.length : Int) + 1), inn] 160)
    refine ⟨bs, _, hb1.kept kal (fun x => x), hs1.kept kal (NoBytes.nothing w1), ⟨w.heap.size, inn, rfl, ?_, Chain.kept kal (fun q x => x.elim) hc1⟩, ha⟩
    rw [← hz]
    exact Blk.fresh w1 _ _

set_option maxHeartbeats 400000 in
theorem rd_open (p : Nat) (s : RS) (n : Int) (w : World) (h : Rd w p s) (hd : s.es.length ≤ 1099511627776) :
    Calls Tryz.prog 87 #[.pointer (some ⟨p, 0, none⟩), .int .i64 n] w fun r w' => r = .returned (.tuple #[]) ∧ Rd w' p (s.opened n) ∧ Kept (Only p) w w' := by
  have HW := Lib.hid (rd_fits p s n w h)
  by_cases h0 : (s.fits n).e = 0
  · obtain ⟨e1, he, hn0, hn1⟩ := RS.fits_zero h0
    have hok := RS.opened_ok h.ok n
    have HF : Hid (s.opened n = { s with es := (s.k + n.toNat) :: s.es }) := if_pos h0
    rw [HF.out] at hok ⊢
    rw [e1] at HW
    have hmx := h.ok.2
    have hle := h.ok.le
    have htl := h.ok.top_le
    rw [RS.left_zero he] at hn1
    clear h e1 h0 HF
    obtain ⟨l, k, es, e⟩ := s
    obtain rfl : e = 0 := he
    simp only at hmx hle hd hok hn1 ⊢
    generalize RS.top ⟨l, k, es, 0⟩ = top at *
    have HO := Lib.hid hok
    clear hok
    go_enter Tryz.func87, Tryz.ntmps87
    go_wp2_with fail
    refine HW.out.mono ?_
    rintro e w1 ⟨rfl, hr, hk⟩
    have HR1 := Lib.hid hr
    have HK := Lib.hid hk
    obtain ⟨inn, h3, ⟨A, rfl⟩, hR⟩ := hr.put_open _ HO.out
    rw [show ((k + n.toNat : Nat) : Int) = (k : Int) + n from by omega] at hR
    have HR2 := Lib.hid hR
    have h2 : w1.cell? ⟨p, 2, none⟩ = some (.int .i64 (k : Int)) := by obtain ⟨_, _, hb, _⟩ := hr; exact hb.cell 2
    have f3 : w1.frozen? ⟨p, 3, none⟩ = false := by obtain ⟨_, _, hb, _⟩ := hr; exact hb.free 3
    have hlt := hr.lt
    have w1e : IntKind.i64.wrap ((k : Int) + n) = (k : Int) + n := IntWalk.i64_in _ (by omega)
    have w2e : IntKind.i64.wrap ((es.length : Int) + 1) = (es.length : Int) + 1 := IntWalk.i64_in _ (by omega)
    clear hr hR hk HW HO hmx hle htl hn1 hd
    go_wp2
    go_region_law (first | (go_simp; go_at_call 119; refine (rd_deep p _ _ (by exact HR1.out.drewN 1)).mono ?_; rintro e w' ⟨rfl, rfl⟩))
    all_goals
      go_end0
      exact ⟨rfl, HR2.out.drewN 1, ((HK.out.trans (Kept.own _ _ _ _)).alloc _).drew⟩
  · have HF : Hid (s.opened n = s.fits n) := if_neg h0
    have hn : ((s.fits n).e == 0) = false := by simpa using h0
    rw [HF.out]
    clear HF h0 h
    go_enter Tryz.func87, Tryz.ntmps87
    go_wp2_with fail
    refine HW.out.mono ?_
    rintro e w1 ⟨rfl, hr, hk⟩
    have HR1 := Lib.hid hr
    clear hr
    go_wp2
    go_end0
    exact ⟨rfl, HR1.out, hk⟩
end Go.Proofs.YtdhbfhjlholnlaaGreatDoor
