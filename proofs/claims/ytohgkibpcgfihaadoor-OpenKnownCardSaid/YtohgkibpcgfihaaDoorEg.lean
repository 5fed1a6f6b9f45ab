
/-
  The law's Of: an OPEN as the document's.
-/
import Derived.Test.YtohgkibpcgfihaaDoorEd
namespace Go.Proofs.YtohgkibpcgfihaaDoor
open Go.RowKit

def c1of (o : Opn) (v : Value) : Array Value := #[.int .u8 (o.ver : Int), .int .u16 (o.asn : Int), .int .u16 (o.hold : Int), .int .u32 (o.id : Int), v]
def c3of (o : Opn) (v : Value) : Array Value := #[.int .i64 (o.ver : Int), .int .i64 (o.asn : Int), .int .i64 (o.hold : Int), .int .u32 (o.id : Int), v]
/-- What lies in memory between two rounds. -/
structure OfS (w : World) (o : Opn) (v : Value) (k : Nat) (lv : Value) (xs : List Value) (u : World) : Prop where
  b1 : Blk u w.heap.size 28 #[.int .u8 (o.ver : Int), .int .u16 (o.asn : Int), .int .u16 (o.hold : Int), .int .u32 (o.id : Int), v]
  b2 : Blk u (w.heap.size + 1) 35 #[.int .i64 0, .int .i64 0, .int .i64 0, .int .u32 0, .slice none 0 0]
  b3 : Blk u (w.heap.size + 1 + 1) 35 #[.int .i64 (o.ver : Int), .int .i64 (o.asn : Int), .int .i64 (o.hold : Int), .int .u32 (o.id : Int), lv]
  own : u.ownsRow (w.heap.size + 1 + 1 + 1) 83 2 lv k xs
  cells : Cells (By w) xs (o.caps.take k)
  kept : Kept Nothing w u
theorem OfS.push {w u w7 : World} {o : Opn} {v lv v' : Value} {k : Nat} {xs : List Value} (h : OfS w o v k lv xs u) (ob : Obj) {c : Cp} {cv : Value}
    (hg : ((u.alloc ob).drew).grownBy w7 lv.ownBlock) (ho7 : w7.ownsRow (w.heap.size + 1 + 1 + 1) 83 2 v' (k + 1) (xs ++ [by8 c.1, cv])) (hc : By w cv c.2) (ht : o.caps.take (k + 1) = o.caps.take k ++ [c]) :
    OfS w o v (k + 1) v' (xs ++ [by8 c.1, cv]) (w7.setCell ⟨w.heap.size + 1 + 1, 4, none⟩ v') ∧ Blk w7 (w.heap.size + 1 + 1) 35 #[.int .i64 (o.ver : Int), .int .i64 (o.asn : Int), .int .i64 (o.hold : Int), .int .u32 (o.id : Int), lv] := by
  have k0 := (((Kept.refl Nothing u).alloc ob).drew)
  have kg := grown_kept hg
  have o1 := ow_kept h.own k0 (fun _ _ x => x)
  have hb1 := (h.b1.kept k0 (fun x => x)).kept kg (fun e => by have := (o1.lt _ e).1; omega)
  have hb2 := (h.b2.kept k0 (fun x => x)).kept kg (fun e => by have := (o1.lt _ e).1; omega)
  have hb3 := (h.b3.kept k0 (fun x => x)).kept kg (fun e => by have := (o1.lt _ e).1; omega)
  have hk := (h.kept.trans k0).grown hg (fun i hi hlt => by have := (h.own.lt i hi).1; omega)
  refine ⟨⟨hb1.far (by show w.heap.size ≠ w.heap.size + 1 + 1; omega) _, hb2.far (by show w.heap.size + 1 ≠ w.heap.size + 1 + 1; omega) _, hb3.put 4 v', ow_kept ho7 (Kept.own w7 _ 4 v') (ow_far ho7 hb3 (by decide)), ?_, hk.setCell (p := ⟨w.heap.size + 1 + 1, 4, none⟩) (fun h => absurd h (by simp; omega)) v'⟩, hb3⟩
  rw [ht]
  exact Cells.snoc hc h.cells

theorem kept_5 {w : World} {p : Nat} (a0 a1 a2 a3 a4 : Value) : Kept (Only p) w (((((w.setCell ⟨p, 0, none⟩ a0).setCell ⟨p, 1, none⟩ a1).setCell ⟨p, 2, none⟩ a2).setCell ⟨p, 3, none⟩ a3).setCell ⟨p, 4, none⟩ a4) :=
  ((((Kept.own w p 0 a0).trans (Kept.own _ p 1 a1)).trans (Kept.own _ p 2 a2)).trans (Kept.own _ p 3 a3)).trans (Kept.own _ p 4 a4)

set_option maxRecDepth 20000 in
set_option maxHeartbeats 4000000 in
theorem law_of (o : Opn) (ho : o.fine) (v : Value) (w : World) (hv : Cps w v o.caps) (hl : o.caps.length ≤ 1000000) :
    Calls Tryd.prog 12 #[.agg #[.int .u8 (o.ver : Int), .int .u16 (o.asn : Int), .int .u16 (o.hold : Int), .int .u32 (o.id : Int), v]] w fun e w' =>
      ∃ rv, e = .returned (.agg #[.int .i64 (o.ver : Int), .int .i64 (o.asn : Int), .int .i64 (o.hold : Int), .int .u32 (o.id : Int), rv]) ∧ Cps w' rv o.caps ∧ Kept Nothing w w' := by
  obtain ⟨A, c, rfl, hc, hm⟩ := hv.form
  have HV := Lib.hid hv
  obtain ⟨i0, hi, hz0, hz1, hz2⟩ := info_parts rcap_info
  obtain ⟨f0, f1, f2, f3⟩ := ho
  clear hv
  go_enter Tryd.func12, Tryd.ntmps12
  go_wp2
  go_loopw [4] (fun i wr => ∃ (k : Nat) (lv : Value) (xs : List Value), k ≤ o.caps.length ∧ i = .int .i64 k ∧ Hid (OfS w o (.slice A o.caps.length c) k lv xs wr)) (fun i _ => o.caps.length - (intOf i).toNat)
  case atStart =>
    refine ⟨0, .slice none 0 0, [], by omega, rfl, Lib.hid ⟨((Blk.fresh w _ _).alloc _).alloc _, ?_, ?_, World.ownsRow_nil _ _ _ _, trivial, (((Kept.refl _ w).alloc _).alloc _).alloc _⟩⟩
    · have := (Blk.fresh (w.alloc (.cells #[.int .u8 (o.ver : Int), .int .u16 (o.asn : Int), .int .u16 (o.hold : Int), .int .u32 (o.id : Int), .slice A o.caps.length c] 28)) 35 #[.int .i64 0, .int .i64 0, .int .i64 0, .int .u32 0, .slice none 0 0])
      rw [World.size_alloc] at this
      exact this.alloc _
    · have := Blk.fresh ((w.alloc (.cells #[.int .u8 (o.ver : Int), .int .u16 (o.asn : Int), .int .u16 (o.hold : Int), .int .u32 (o.id : Int), .slice A o.caps.length c] 28)).alloc (.cells #[.int .i64 0, .int .i64 0, .int .i64 0, .int .u32 0, .slice none 0 0] 35)) 35 #[.int .i64 (o.ver : Int), .int .i64 (o.asn : Int), .int .i64 (o.hold : Int), .int .u32 (o.id : Int), .slice none 0 0]
      rw [World.size_alloc, World.size_alloc] at this
      exact this
  case round =>
    obtain ⟨k, lv, xs, hk, rfl, HS⟩ := hrel
    have hs := HS.out
    obtain ⟨⟨a0, a1, a2, a3, a4⟩, -⟩ := full5 hs.b1
    obtain ⟨⟨d0, d1, d2, d3, d4⟩, -⟩ := full5 hs.b3
    have l1 := hs.b1.lt
    have l3 := hs.b3.lt
    obtain ⟨A5, c5, rfl, _, _⟩ := ow_form hs.own
    by_cases hlt : k < o.caps.length
    · obtain ⟨b, off, rfl, hcell⟩ := HV.out.at (by omega)
      obtain ⟨q0, u, q1, q2⟩ := hcell k hlt
      have e0 := hs.kept.cell_some q0 (fun x => x)
      have e1 := hs.kept.cell_some q1 (fun x => x)
      obtain ⟨A1, cc1, rfl, _, _⟩ := q2.form
      have HB := Lib.hid q2
      have HT := Lib.hid (List.take_succ_eq_append_getElem hlt)
      have hsz := hs.kept.size
      generalize hP : o.caps[k] = P at *
      obtain ⟨kd, val⟩ := P
      simp only at e0 e1 HB
      unfold by8 at e0
      have HLn : Hid (k + 1 ≤ maxLen ∧ (k + 1) * 32 ≤ 140737488355328) := ⟨by unfold maxLen; omega, by omega⟩
      clear hcell q0 q1 q2 hP
      have hO := Lib.hid hs.own
      clear hs
      go_wp2_with fail
      go_region_law (first
        | (refine step_app _ (by rfl) _ _ 33 (by rfl) (w.heap.size + 1 + 1 + 1) 83 i0 _ 2 32 Tryd.underlying33 hi hz0 hz1 hz2 rfl (by decide) (.slice A5 k c5) k xs (by rfl) (ow_kept hO.out (((Kept.refl Nothing wr).alloc _).drew) (fun _ _ x => x)) (some ⟨wr.heap.size, 0, none⟩) 1 1 [.int .u8 (kd.toNat : Int), .slice A1 val.length cc1] (by rfl) ((src_new wr _ #[.int .u8 (kd.toNat : Int), .slice A1 val.length cc1] 2 1 rfl (by simp [Value.oneCell'])).kept ((Kept.refl Nothing _).drew)) HLn.out.1 HLn.out.2 (by simp; omega) ?_; intro v' w7 ho hg hat; (obtain ⟨A7, c7, rfl, _, _⟩ := ow_form ho); (obtain ⟨hp1, hp2⟩ := HS.out.push _ (c := (kd, val)) hg ho HB.out HT.out); (have HP1 := Lib.hid hp1); (have z4 := hp2.cell 4); (have y4 := hp2.free 4); (have z5 := hp2.lt); clear ho hg hat hp1 hp2))
      all_goals
        go_wp2
        go_roundw
        case rel => exact ⟨k + 1, _, _, by omega, by go_num, HP1⟩
        case measure => simp [intOf]; omega
    · obtain rfl : k = o.caps.length := by omega
      obtain ⟨⟨g0, g1, g2, g3, g4⟩, g5, g6, g7, g8, g9⟩ := full5 hs.b2
      have l2 := hs.b2.lt
      have hcs := hs.cells
      rw [List.take_length] at hcs
      have HC := Lib.hid (CpsO.of_own (P := Only (w.heap.size + 1)) hs.own (hcs.mono (fun u m hb => ⟨hb.old hs.kept, hb.offb (fun k (e : k = w.heap.size + 1) => by omega)⟩)) (fun k (e : k = w.heap.size + 1) => by omega))
      have HK := Lib.hid hs.kept
      clear hs hcs HS
      go_wp2
      refine bodyPost_ret (v := .agg #[.int .i64 (o.ver : Int), .int .i64 (o.asn : Int), .int .i64 (o.hold : Int), .int .u32 (o.id : Int), .slice A5 o.caps.length c5]) (by simp [results, Tryd.results12, go_sem, g0, g1, g2, g3, g4]) rfl ⟨_, rfl, (HC.out.off (kept_5 _ _ _ _ _)).cps, HK.out.late (kept_5 (p := w.heap.size + 1) _ _ _ _ _) (fun i (e : i = w.heap.size + 1) => by omega)⟩
end Go.Proofs.YtohgkibpcgfihaaDoor
