
/-
  attrs: the readers of values (printed by wip/gen_yo.py).
-/
import Derived.Test.YteofbpdogmajoaaGreatDoorZm
import Derived.Test.YteofbpdogmajoaaGreatDoorZr
namespace Go.Proofs.YteofbpdogmajoaaGreatDoor
open Go.RowKit
attribute [local go_sem] Oper.semAt_some

theorem RE.set1 {pa pb pf p B : Nat} {four : Bool} {u : World} {s : RS} {a a' : At} {pv cv qv ov pv' cv' qv' : Value} (h : RE pa pb pf p B four u s a pv cv qv ov) (i : Nat) (x : Value)
    (hagg : Ax.agg a' pv' cv' qv' ov = (Ax.agg a pv cv qv ov).setIfInBounds i x) (ho : AtO u B a' pv' cv' qv' ov) : RE pa pb pf p B four (u.setCell ⟨pa, i, none⟩ x) s a' pv' cv' qv' ov :=
  h.put (Kept.own u pa i x) (by rw [hagg]; exact h.blk.put i x) ho
theorem RE.set2 {pa pb pf p B : Nat} {four : Bool} {u : World} {s : RS} {a a' : At} {pv cv qv ov pv' cv' qv' : Value} (h : RE pa pb pf p B four u s a pv cv qv ov) (i j : Nat) (x y : Value)
    (hagg : Ax.agg a' pv' cv' qv' ov = ((Ax.agg a pv cv qv ov).setIfInBounds i x).setIfInBounds j y) (ho : AtO u B a' pv' cv' qv' ov) : RE pa pb pf p B four ((u.setCell ⟨pa, i, none⟩ x).setCell ⟨pa, j, none⟩ y) s a' pv' cv' qv' ov :=
  h.put ((Kept.own u pa i x).trans (Kept.own _ pa j y)) (by rw [hagg]; exact (h.blk.put i x).put j y) ho
/-- The reader, or the block of attributes. -/
def Two2 (p pa : Nat) : Nat → Prop := fun k => k = p ∨ k = pa
namespace Pt
theorem rdL_small (z : Nat) : ∀ (b : List UInt8) (acc : List Seg), acc.length ≤ 32 → (∀ s ∈ acc, s.2.length ≤ 255) → (rdL z acc b).1.length ≤ 32 ∧ ∀ s ∈ (rdL z acc b).1, s.2.length ≤ 255 := by
  intro b
  induction hb : b.length using Nat.strongRecOn generalizing b with
  | _ n ih =>
    intro acc ha hs
    match b, hb with
    | [], _ => rw [rdL_nil]; exact ⟨ha, hs⟩
    | [x], _ => rw [rdL_one]; exact ⟨by simp, fun s h => by cases h⟩
    | k :: m :: r, hb =>
      rw [rdL_two]
      split
      · exact ⟨by simp, fun s h => by cases h⟩
      · split
        · exact ⟨by simp, fun s h => by cases h⟩
        · split
          · exact ⟨by simp, fun s h => by cases h⟩
          · rename_i h32
            refine ih _ (by rw [List.length_drop, ← hb]; simp; omega) _ rfl _ (by rw [List.length_append]; simp; omega) (fun s h => ?_)
            rcases List.mem_append.1 h with h | h
            · exact hs s h
            · obtain rfl := List.mem_singleton.1 h
              show (numsB z m.toNat r).length ≤ 255
              unfold numsB
              have := m.toNat_lt
              simp; omega
theorem read_small (wide : Bool) (b : List UInt8) : (read wide b).1.length ≤ 32 ∧ ∀ s ∈ (read wide b).1, s.2.length ≤ 255 := rdL_small _ b [] (by simp) (fun s h => by cases h)
end Pt

set_option maxHeartbeats 1000000 in
theorem rdr1 {pa pb pf p B : Nat} {four : Bool} {u : World} {s : RS} {a : At} {pv cv qv ov : Value} (h : RE pa pb pf p B four u s a pv cv qv ov) :
    Calls Tryz.prog 70 #[.pointer (some ⟨p, 0, none⟩), .pointer (some ⟨pb, 0, none⟩)] u fun e u' => e = .returned (.tuple #[]) ∧ (∃ pv' cv' qv', RE pa pb pf p B four u' (s.pass 1) { a with origin := UInt8.ofNat (RS.num (s.got 1)) } pv' cv' qv' ov) ∧ Kept (Two2 p pa) u u' := by
  have H := Lib.hid h
  have c0 := h.bb.cell 0
  have hn := num_got1 s
  clear h
  go_enter Tryz.func70, Tryz.ntmps70
  go_region_law (go_simp; go_at_call 71; refine (rd_byte p s _ (by exact H.out.rd.drewN 1)).mono ?_; rintro e w2 ⟨rfl, r2, k2⟩; (have K2 := Lib.hid ((Kept.refl (Only p) u).drew.trans k2)); (have H2 := Lib.hid ((H.out.old (Kept.refl Nothing u).drew).read r2 k2)); (have c2 := H2.out.bb.cell 0); (have l1 := H2.out.blk.lt); (have f21 := H2.out.blk.free 1); (have d21 : w2.cell? ⟨pa, 1, none⟩ = some (.int .u8 (a.origin.toNat : Int)) := H2.out.blk.cell 1); clear r2 k2)
  all_goals
    go_end0
    exact ⟨rfl, ⟨pv, cv, qv, H2.out.set1 1 (.int .u8 (RS.num (s.got 1) : Int)) (by have E : ((UInt8.ofNat (RS.num (s.got 1))).toNat : Int) = (RS.num (s.got 1) : Int) := (by simp; omega); unfold Ax.agg; simp only [E]; rfl) ⟨H2.out.own.1, H2.out.own.2.1, H2.out.own.2.2.1, H2.out.own.2.2.2.1, H2.out.own.2.2.2.2⟩⟩, (K2.out.mono (fun _ e => Or.inl e)).trans ((Kept.own w2 pa 1 (.int .u8 (RS.num (s.got 1) : Int))).mono (fun _ e => Or.inr e))⟩

set_option maxHeartbeats 1000000 in
theorem rdr3 {pa pb pf p B : Nat} {four : Bool} {u : World} {s : RS} {a : At} {pv cv qv ov : Value} (h : RE pa pb pf p B four u s a pv cv qv ov) :
    Calls Tryz.prog 74 #[.pointer (some ⟨p, 0, none⟩), .pointer (some ⟨pb, 0, none⟩)] u fun e u' => e = .returned (.tuple #[]) ∧ (∃ pv' cv' qv', RE pa pb pf p B four u' (s.pass 4) { a with nh := RS.num (s.got 4) } pv' cv' qv' ov) ∧ Kept (Two2 p pa) u u' := by
  have H := Lib.hid h
  have c0 := h.bb.cell 0
  have hn := RS.num_got s 4 (by decide)
  clear h
  go_enter Tryz.func74, Tryz.ntmps74
  go_region_law (go_simp; go_at_call 75; refine (rd_four p s _ (by exact H.out.rd.drewN 1)).mono ?_; rintro e w2 ⟨rfl, r2, k2⟩; (have K2 := Lib.hid ((Kept.refl (Only p) u).drew.trans k2)); (have H2 := Lib.hid ((H.out.old (Kept.refl Nothing u).drew).read r2 k2)); (have c2 := H2.out.bb.cell 0); (have l1 := H2.out.blk.lt); (have f23 := H2.out.blk.free 3); (have d23 : w2.cell? ⟨pa, 3, none⟩ = some (.int .u32 (a.nh : Int)) := H2.out.blk.cell 3); clear r2 k2)
  all_goals
    go_end0
    exact ⟨rfl, ⟨pv, cv, qv, H2.out.set1 3 (.int .u32 (RS.num (s.got 4) : Int)) rfl ⟨H2.out.own.1, H2.out.own.2.1, H2.out.own.2.2.1, H2.out.own.2.2.2.1, ⟨H2.out.own.2.2.2.2.1, hn, H2.out.own.2.2.2.2.2.2⟩⟩⟩, (K2.out.mono (fun _ e => Or.inl e)).trans ((Kept.own w2 pa 3 (.int .u32 (RS.num (s.got 4) : Int))).mono (fun _ e => Or.inr e))⟩

set_option maxHeartbeats 1000000 in
theorem rdr4 {pa pb pf p B : Nat} {four : Bool} {u : World} {s : RS} {a : At} {pv cv qv ov : Value} (h : RE pa pb pf p B four u s a pv cv qv ov) :
    Calls Tryz.prog 76 #[.pointer (some ⟨p, 0, none⟩), .pointer (some ⟨pb, 0, none⟩)] u fun e u' => e = .returned (.tuple #[]) ∧ (∃ pv' cv' qv', RE pa pb pf p B four u' (s.pass 4) { a with med := RS.num (s.got 4) } pv' cv' qv' ov) ∧ Kept (Two2 p pa) u u' := by
  have H := Lib.hid h
  have c0 := h.bb.cell 0
  have hn := RS.num_got s 4 (by decide)
  clear h
  go_enter Tryz.func76, Tryz.ntmps76
  go_region_law (go_simp; go_at_call 75; refine (rd_four p s _ (by exact H.out.rd.drewN 1)).mono ?_; rintro e w2 ⟨rfl, r2, k2⟩; (have K2 := Lib.hid ((Kept.refl (Only p) u).drew.trans k2)); (have H2 := Lib.hid ((H.out.old (Kept.refl Nothing u).drew).read r2 k2)); (have c2 := H2.out.bb.cell 0); (have l1 := H2.out.blk.lt); (have f24 := H2.out.blk.free 4); (have d24 : w2.cell? ⟨pa, 4, none⟩ = some (.int .u32 (a.med : Int)) := H2.out.blk.cell 4); clear r2 k2)
  all_goals
    go_end0
    exact ⟨rfl, ⟨pv, cv, qv, H2.out.set1 4 (.int .u32 (RS.num (s.got 4) : Int)) rfl ⟨H2.out.own.1, H2.out.own.2.1, H2.out.own.2.2.1, H2.out.own.2.2.2.1, ⟨H2.out.own.2.2.2.2.1, H2.out.own.2.2.2.2.2.1, hn, H2.out.own.2.2.2.2.2.2.2⟩⟩⟩, (K2.out.mono (fun _ e => Or.inl e)).trans ((Kept.own w2 pa 4 (.int .u32 (RS.num (s.got 4) : Int))).mono (fun _ e => Or.inr e))⟩

set_option maxHeartbeats 1000000 in
theorem rdr5 {pa pb pf p B : Nat} {four : Bool} {u : World} {s : RS} {a : At} {pv cv qv ov : Value} (h : RE pa pb pf p B four u s a pv cv qv ov) :
    Calls Tryz.prog 77 #[.pointer (some ⟨p, 0, none⟩), .pointer (some ⟨pb, 0, none⟩)] u fun e u' => e = .returned (.tuple #[]) ∧ (∃ pv' cv' qv', RE pa pb pf p B four u' (s.pass 4) { a with pref := RS.num (s.got 4) } pv' cv' qv' ov) ∧ Kept (Two2 p pa) u u' := by
  have H := Lib.hid h
  have c0 := h.bb.cell 0
  have hn := RS.num_got s 4 (by decide)
  clear h
  go_enter Tryz.func77, Tryz.ntmps77
  go_region_law (go_simp; go_at_call 75; refine (rd_four p s _ (by exact H.out.rd.drewN 1)).mono ?_; rintro e w2 ⟨rfl, r2, k2⟩; (have K2 := Lib.hid ((Kept.refl (Only p) u).drew.trans k2)); (have H2 := Lib.hid ((H.out.old (Kept.refl Nothing u).drew).read r2 k2)); (have c2 := H2.out.bb.cell 0); (have l1 := H2.out.blk.lt); (have f25 := H2.out.blk.free 5); (have d25 : w2.cell? ⟨pa, 5, none⟩ = some (.int .u32 (a.pref : Int)) := H2.out.blk.cell 5); clear r2 k2)
  all_goals
    go_end0
    exact ⟨rfl, ⟨pv, cv, qv, H2.out.set1 5 (.int .u32 (RS.num (s.got 4) : Int)) rfl ⟨H2.out.own.1, H2.out.own.2.1, H2.out.own.2.2.1, H2.out.own.2.2.2.1, ⟨H2.out.own.2.2.2.2.1, H2.out.own.2.2.2.2.2.1, H2.out.own.2.2.2.2.2.2.1, hn, H2.out.own.2.2.2.2.2.2.2.2⟩⟩⟩, (K2.out.mono (fun _ e => Or.inl e)).trans ((Kept.own w2 pa 5 (.int .u32 (RS.num (s.got 4) : Int))).mono (fun _ e => Or.inr e))⟩

set_option maxHeartbeats 1000000 in
theorem rdr2 {pa pb pf p B : Nat} {four : Bool} {u : World} {s : RS} {a : At} {pv cv qv ov : Value} (h : RE pa pb pf p B four u s a pv cv qv ov) (hl : (s.got s.left).length ≤ 1000000) :
    Calls Tryz.prog 72 #[.pointer (some ⟨p, 0, none⟩), .pointer (some ⟨pf, 0, none⟩), .pointer (some ⟨pb, 0, none⟩)] u fun e u' => e = .returned (.tuple #[]) ∧ (∃ pv' cv' qv', RE pa pb pf p B four u' ((s.pass s.left).fail ((Pt.read four (s.got s.left)).2 : Int)) { a with path := (Pt.read four (s.got s.left)).1 } pv' cv' qv' ov) ∧ Kept (Two2 p pa) u u' := by
  have H := Lib.hid h
  have c0 := h.bb.cell 0
  have c1 := h.bf.cell 0
  clear h
  go_enter Tryz.func72, Tryz.ntmps72
  go_region_law (go_simp; go_at_call 73; refine (read_path p s four _ (by exact H.out.rd.drewN 1) hl).mono ?_; rintro e w2 ⟨v2, rfl, o2, r2, k2⟩; (have K2 := Lib.hid ((Kept.refl (Only p) u).drew.trans k2)); (have H2 := Lib.hid ((H.out.old (Kept.refl Nothing u).drew).read r2 k2)); (have c2 := H2.out.bb.cell 0); (have l1 := H2.out.blk.lt); (have f22 := H2.out.blk.free 2); (have d22 : w2.cell? ⟨pa, 2, none⟩ = some (pv) := H2.out.blk.cell 2); (have O2 := Lib.hid (o2.weak (show B ≤ (u.drew).heap.size from H.out.ge))); (obtain ⟨xs2, ox2, -⟩ := o2); (obtain ⟨A2, n2, rfl, -, -⟩ := ow_form ox2); clear r2 k2 ox2)
  all_goals
    go_end0
    exact ⟨rfl, ⟨_, cv, qv, H2.out.set1 2 _ rfl ⟨O2.out, H2.out.own.2.1, H2.out.own.2.2.1, H2.out.own.2.2.2.1, H2.out.own.2.2.2.2⟩⟩, (K2.out.mono (fun _ e => Or.inl e)).trans ((Kept.own w2 pa 2 _).mono (fun _ e => Or.inr e))⟩

set_option maxHeartbeats 1000000 in
theorem rdr7 {pa pb pf p B : Nat} {four : Bool} {u : World} {s : RS} {a : At} {pv cv qv ov : Value} (h : RE pa pb pf p B four u s a pv cv qv ov) :
    Calls Tryz.prog 79 #[.pointer (some ⟨p, 0, none⟩), .pointer (some ⟨pf, 0, none⟩), .pointer (some ⟨pb, 0, none⟩)] u fun e u' => e = .returned (.tuple #[]) ∧ (∃ pv' cv' qv', RE pa pb pf p B four u' ((s.pass (if four then 4 else 2)).pass 4) { a with byA := RS.num (s.got (if four then 4 else 2)), byI := RS.num ((s.pass (if four then 4 else 2)).got 4) } pv' cv' qv' ov) ∧ Kept (Two2 p pa) u u' := by
  have H := Lib.hid h
  have c0 := h.bb.cell 0
  have c1 := h.bf.cell 0
  have hn : RS.num (s.got (if four then 4 else 2)) < 4294967296 := by cases four; exact RS.num_got s 2 (by decide); exact RS.num_got s 4 (by decide)
  have hn2 := RS.num_got (s.pass (if four then 4 else 2)) 4 (by decide)
  clear h
  go_enter Tryz.func79, Tryz.ntmps79
  go_region_law (go_simp; go_at_call 80; refine (read_by p s four _ (by exact H.out.rd.drewN 1)).mono ?_; rintro e w2 ⟨rfl, r2, k2⟩; (have K2 := Lib.hid ((Kept.refl (Only p) u).drew.trans k2)); (have H2 := Lib.hid ((H.out.old (Kept.refl Nothing u).drew).read r2 k2)); (have c2 := H2.out.bb.cell 0); (have l1 := H2.out.blk.lt); (have f26 := H2.out.blk.free 6); (have d26 : w2.cell? ⟨pa, 6, none⟩ = some (.int .u32 (a.byA : Int)) := H2.out.blk.cell 6); (have f27 := H2.out.blk.free 7); (have d27 : w2.cell? ⟨pa, 7, none⟩ = some (.int .u32 (a.byI : Int)) := H2.out.blk.cell 7); clear r2 k2)
  all_goals
    go_end0
    exact ⟨rfl, ⟨pv, cv, qv, H2.out.set2 6 7 _ _ rfl ⟨H2.out.own.1, H2.out.own.2.1, H2.out.own.2.2.1, H2.out.own.2.2.2.1, ⟨H2.out.own.2.2.2.2.1, H2.out.own.2.2.2.2.2.1, H2.out.own.2.2.2.2.2.2.1, H2.out.own.2.2.2.2.2.2.2.1, hn, hn2, H2.out.own.2.2.2.2.2.2.2.2.2.2⟩⟩⟩, (K2.out.mono (fun _ e => Or.inl e)).trans (((Kept.own w2 pa 6 _).trans (Kept.own _ pa 7 _)).mono (fun _ e => Or.inr e))⟩

set_option maxHeartbeats 1000000 in
theorem rdr10 {pa pb pf p B : Nat} {four : Bool} {u : World} {s : RS} {a : At} {pv cv qv ov : Value} (h : RE pa pb pf p B four u s a pv cv qv ov) :
    Calls Tryz.prog 85 #[.pointer (some ⟨p, 0, none⟩), .pointer (some ⟨pb, 0, none⟩)] u fun e u' => e = .returned (.tuple #[]) ∧ (∃ pv' cv' qv', RE pa pb pf p B four u' ((s.pass 4).pass 4) { a with by4A := RS.num (s.got 4), by4I := RS.num ((s.pass 4).got 4) } pv' cv' qv' ov) ∧ Kept (Two2 p pa) u u' := by
  have H := Lib.hid h
  have c0 := h.bb.cell 0
  have hn := RS.num_got s 4 (by decide)
  have hn2 := RS.num_got (s.pass 4) 4 (by decide)
  clear h
  go_enter Tryz.func85, Tryz.ntmps85
  go_region_law (go_simp; go_at_call 80; refine (read_by p s true _ (by exact H.out.rd.drewN 1)).mono ?_; rintro e w2 ⟨rfl, r2, k2⟩; (have K2 := Lib.hid ((Kept.refl (Only p) u).drew.trans k2)); (have H2 := Lib.hid ((H.out.old (Kept.refl Nothing u).drew).read r2 k2)); (have c2 := H2.out.bb.cell 0); (have l1 := H2.out.blk.lt); (have f30 := H2.out.blk.free 10); (have d30 : w2.cell? ⟨pa, 10, none⟩ = some (.int .u32 (a.by4A : Int)) := H2.out.blk.cell 10); (have f31 := H2.out.blk.free 11); (have d31 : w2.cell? ⟨pa, 11, none⟩ = some (.int .u32 (a.by4I : Int)) := H2.out.blk.cell 11); clear r2 k2)
  all_goals
    go_end0
    exact ⟨rfl, ⟨pv, cv, qv, H2.out.set2 10 11 _ _ rfl ⟨H2.out.own.1, H2.out.own.2.1, H2.out.own.2.2.1, H2.out.own.2.2.2.1, ⟨H2.out.own.2.2.2.2.1, H2.out.own.2.2.2.2.2.1, H2.out.own.2.2.2.2.2.2.1, H2.out.own.2.2.2.2.2.2.2.1, H2.out.own.2.2.2.2.2.2.2.2.1, H2.out.own.2.2.2.2.2.2.2.2.2.1, hn, hn2⟩⟩⟩, (K2.out.mono (fun _ e => Or.inl e)).trans (((Kept.own w2 pa 10 _).trans (Kept.own _ pa 11 _)).mono (fun _ e => Or.inr e))⟩

theorem numsAt_fit (s : RS) : ∀ n, ∀ x ∈ RS.numsAt 4 s n, x < 4294967296
  | 0 => fun x h => by cases h
  | n + 1 => fun x h => by
    rcases List.mem_append.1 (show x ∈ RS.numsAt 4 s n ++ [RS.num ((RS.stAt 4 s n).got (4 : Int))] from h) with h | h
    · exact numsAt_fit s n x h
    · obtain rfl := List.mem_singleton.1 h
      exact RS.num_got _ 4 (by decide)

set_option maxHeartbeats 1000000 in
theorem rdr8 {pa pb pf p B : Nat} {four : Bool} {u : World} {s : RS} {a : At} {pv cv qv ov : Value} (h : RE pa pb pf p B four u s a pv cv qv ov) :
    Calls Tryz.prog 81 #[.pointer (some ⟨p, 0, none⟩), .pointer (some ⟨pb, 0, none⟩)] u fun e u' => e = .returned (.tuple #[]) ∧ (∃ pv' cv' qv' n, (RS.stAt 4 s n).left = 0 ∧ (∀ j, j < n → 0 < (RS.stAt 4 s j).left) ∧ RE pa pb pf p B four u' (RS.stAt 4 s n) { a with comms := RS.numsAt 4 s n } pv' cv' qv' ov) ∧ Kept (Two2 p pa) u u' := by
  have H := Lib.hid h
  have c0 := h.bb.cell 0
  clear h
  go_enter Tryz.func81, Tryz.ntmps81
  go_region_law (go_simp; go_at_call 82; refine (read_numbers p s _ (by exact H.out.rd.drewN 1)).mono ?_; rintro e w2 ⟨v2, n2, rfl, o2, hl2, hj2, r2, k2⟩; (have K2 := Lib.hid ((Kept.refl (Only p) u).drew.trans k2)); (have H2 := Lib.hid ((H.out.old (Kept.refl Nothing u).drew).read r2 k2)); (have c2 := H2.out.bb.cell 0); (have l1 := H2.out.blk.lt); (have f28 := H2.out.blk.free 8); (have d28 : w2.cell? ⟨pa, 8, none⟩ = some (cv) := H2.out.blk.cell 8); (have O2 := Lib.hid (own_weakA o2 (show B ≤ (u.drew).heap.size from H.out.ge))); (have HL2 := Lib.hid hl2); (have HJ2 := Lib.hid hj2); (obtain ⟨A2, m2, rfl, -, -⟩ := ow_form o2); clear r2 k2 o2 hl2 hj2)
  all_goals
    go_end0
    exact ⟨rfl, ⟨pv, _, qv, n2, HL2.out, HJ2.out, H2.out.set1 8 _ rfl ⟨H2.out.own.1, ⟨own_to2 O2.out (RS.length_numsAt 4 s n2).symm, numsAt_fit s n2⟩, H2.out.own.2.2.1, H2.out.own.2.2.2.1, H2.out.own.2.2.2.2⟩⟩, (K2.out.mono (fun _ e => Or.inl e)).trans ((Kept.own w2 pa 8 _).mono (fun _ e => Or.inr e))⟩

set_option maxHeartbeats 1000000 in
theorem rdr9 {pa pb pf p B : Nat} {four : Bool} {u : World} {s : RS} {a : At} {pv cv qv ov : Value} (h : RE pa pb pf p B four u s a pv cv qv ov) (hl : (s.got s.left).length ≤ 1000000) :
    Calls Tryz.prog 83 #[.pointer (some ⟨p, 0, none⟩), .pointer (some ⟨pb, 0, none⟩)] u fun e u' => e = .returned (.tuple #[]) ∧ (∃ pv' cv' qv', RE pa pb pf p B four u' ((s.pass s.left).fail ((Pt.read true (s.got s.left)).2 : Int)) { a with path4 := plains (Pt.read true (s.got s.left)).1 } pv' cv' qv' ov) ∧ Kept (Two2 p pa) u u' := by
  have H := Lib.hid h
  have c0 := h.bb.cell 0
  have HS := Lib.hid (Pt.read_small true (s.got s.left))
  clear h
  go_enter Tryz.func83, Tryz.ntmps83
  go_region_law (first
    | (go_simp; go_at_call 84; refine (fuse_bare _ _ _ (by exact O2.out.pts) (by have := HS.out.1; omega) (fun s h => by have := HS.out.2 s h; omega)).mono ?_; rintro e w3 ⟨v3, xs3, rfl, o3, h3, -, k3⟩; (have K3 := Lib.hid (K2.out.trans (k3.mono (fun _ x => x.elim)))); (have H3 := Lib.hid (H2.out.old k3)); (have c3 := H3.out.bb.cell 0); (have l1 := H3.out.blk.lt); (have f29 := H3.out.blk.free 9); (have d29 : w3.cell? ⟨pa, 9, none⟩ = some (qv) := H3.out.blk.cell 9); (have O3 := Lib.hid (show Pown w3 B v3 _ from Pown.weak ⟨xs3, o3, h3⟩ H2.out.ge)); (obtain ⟨A3, n3, rfl, -, -⟩ := ow_form o3); clear k3 o3 h3)
    | (go_simp; go_at_call 73; refine (read_path p s true _ (by exact H.out.rd.drewN 1) hl).mono ?_; rintro e w2 ⟨v2, rfl, o2, r2, k2⟩; (have K2 := Lib.hid ((Kept.refl (Only p) u).drew.trans k2)); (have H2 := Lib.hid ((H.out.old (Kept.refl Nothing u).drew).read r2 k2)); (have c2 := H2.out.bb.cell 0); (have O2 := Lib.hid o2); (obtain ⟨xs2, ox2, -⟩ := o2); (obtain ⟨A2, n2, rfl, -, -⟩ := ow_form ox2); clear r2 k2 ox2))
  all_goals
    go_end0
    exact ⟨rfl, ⟨pv, cv, _, H3.out.set1 9 _ rfl ⟨H3.out.own.1, H3.out.own.2.1, O3.out, H3.out.own.2.2.2.1, H3.out.own.2.2.2.2⟩⟩, (K3.out.mono (fun _ e => Or.inl e)).trans ((Kept.own w3 pa 9 _).mono (fun _ e => Or.inr e))⟩

theorem rdr6 {p : Nat} {u : World} : Calls Tryz.prog 78 #[.pointer (some ⟨p, 0, none⟩)] u fun e u' => e = .returned (.tuple #[]) ∧ u = u' := by
  go_enter Tryz.func78, Tryz.ntmps78
  go_wp2
  go_end0
  exact ⟨rfl, rfl⟩
end Go.Proofs.YteofbpdogmajoaaGreatDoor
