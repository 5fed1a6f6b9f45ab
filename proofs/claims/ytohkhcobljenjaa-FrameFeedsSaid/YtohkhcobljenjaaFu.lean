
/-
  What an intake tells of its fault; what the examples of chapter 3 say.
-/
import Derived.Test.YtohkhcobljenjaaFt
import Derived.Deep.RegionLaw
namespace Go.Proofs.Ytohkhcobljenjaa
open Go.RowKit

def FaultPost (w : World) (s : Fr.IS) (r : Ending) (w' : World) : Prop := ∃ v', r = .returned (.tuple #[.agg #[.int .u8 (codeOf s.s), .int .u8 (s.s : Int)], v']) ∧ Bs w' v' s.d ∧ New w v' ∧ Kept Nothing w w'

set_option maxHeartbeats 400000 in
theorem in_fault (p : Nat) (F D : Nat → Prop) (s : Fr.IS) (w : World) (h : In w F D p s) :
    Calls Try.prog 10 #[.pointer (some ⟨p, 0, none⟩)] w (FaultPost w s) := by
  obtain ⟨dv, hI, hD, hO, -, hok⟩ := h
  have hdl : s.d.length ≤ 1099511627776 := by
    by_cases h0 : s.s = 0
    · rw [(hok.1 h0).2]; decide
    · have := (hok.2 h0).2.2; omega
  have ka := (Kept.refl Nothing w).alloc (.cells #[.int .u8 0, .int .u8 0] 35)
  have HD := Lib.hid (hD.old ka)
  have IA := hI.old ka
  obtain ⟨bv, hF, hb, -, -, -⟩ := IA
  obtain ⟨⟨-, -, c2, c3, c4⟩, -⟩ := cellsI hb
  obtain ⟨A, c, rfl, _, _⟩ := hD.form
  have KA := Lib.hid ka
  have BF := Lib.hid (Blk.fresh w 35 #[.int .u8 0, .int .u8 0])
  have CL := Lib.hid (sl_clone (.slice A s.d.length c) s.d (w.alloc (.cells #[.int .u8 0, .int .u8 0] 35)).drew (HD.out.old ((Kept.refl Nothing _).drew)) hdl)
  clear hI hD hO hok hF hb ka
  go_enter Try.func10, Try.ntmps10
  go_wp2_with fail
  go_region_law (first
    | (go_simp; go_at_call 14; refine (CL.out).mono ?_; rintro e w8 ⟨v8, rfl, ho8, hk8⟩; (have b8 := BF.out.kept (((Kept.refl Nothing _).drew).trans hk8) (fun x => x)); (have r0 : w8.cell? ⟨w.heap.size, 0, none⟩ = some (.int .u8 0) := b8.cell 0); (have r1 : w8.cell? ⟨w.heap.size, 1, none⟩ = some (.int .u8 0) := b8.cell 1); (have f0 := b8.free 0); (have f1 := b8.free 1); (have d2 : w8.cell? ⟨p, 2, none⟩ = _ := hk8.cell_some (p := ⟨p, 2, none⟩) c2 (fun x => x)); (have d3 : w8.cell? ⟨p, 3, none⟩ = _ := hk8.cell_some (p := ⟨p, 3, none⟩) c3 (fun x => x)); (have B8 := Lib.hid b8); (have HV8 := Lib.hid ho8); (have HK8 := Lib.hid hk8); (obtain ⟨A8, c8, rfl, _, _⟩ := own_form ho8); clear ho8 hk8 b8))
  all_goals
    have e0 : (w8.setCell ⟨w.heap.size, 0, none⟩ (.int .u8 (codeOf s.s))).cell? ⟨w.heap.size, 0, none⟩ = some (.int .u8 (codeOf s.s)) := (B8.out.put 0 _).cell 0
    have e1 : ((w8.setCell ⟨w.heap.size, 0, none⟩ (.int .u8 (codeOf s.s))).setCell ⟨w.heap.size, 1, none⟩ (.int .u8 (s.s : Int))).cell? ⟨w.heap.size, 1, none⟩ = some (.int .u8 (s.s : Int)) := ((B8.out.put 0 _).put 1 _).cell 1
    go_wp2
    refine bodyPost_ret (v := .tuple #[.agg #[.int .u8 (codeOf s.s), .int .u8 (s.s : Int)], .slice A8 s.d.length c8]) (by simp [results, Try.results10, go_sem, e0, e1]) rfl ⟨_, rfl, ?_, ?_, ?_⟩
    · exact ((Bs.of_own HV8.out).kept (Kept.own w8 w.heap.size 0 _) (NoBytes.of_blk B8.out (by decide))).kept (Kept.own _ w.heap.size 1 _) (NoBytes.of_blk (B8.out.put 0 _) (by decide))
    · intro a m d e
      rcases HV8.out.2 with ⟨h0, _⟩ | ⟨g, cap, cur, h0, hb, _⟩
      · rw [h0] at e; cases e
      · rw [h0] at e
        injection e with e
        injection e with e
        rw [← e]
        have : (w.alloc (.cells #[.int .u8 0, .int .u8 0] 35)).heap.size ≤ g := hb
        rw [World.size_alloc] at this
        show w.heap.size ≤ g
        omega
    · exact (((KA.out.drew).trans HK8.out).setCell (p := ⟨w.heap.size, 0, none⟩) (fun h => absurd h (Nat.lt_irrefl _)) _).setCell (p := ⟨w.heap.size, 1, none⟩) (fun h => absurd h (Nat.lt_irrefl _)) _

theorem In.kept {w w' : World} {F D S : Nat → Prop} {p : Nat} {s : Fr.IS} (h : In w F D p s) (k : Kept S w w') (hf : ∀ g, F g → ¬ S g) (hd : ∀ g, D g → ¬ S g) : In w' F D p s := by
  obtain ⟨dv, hI, hD, hO, hN, hok⟩ := h
  exact ⟨dv, hI.kept k hf, hD.off k (fun a n c e h0 x => hd _ (hN a n c e h0) x), hO, hN, hok⟩
theorem In.old {w w' : World} {F D : Nat → Prop} {p : Nat} {s : Fr.IS} (h : In w F D p s) (k : Kept Nothing w w') : In w' F D p s := h.kept k (fun _ _ x => x) (fun _ _ x => x)
theorem In.lt {w : World} {F D : Nat → Prop} {p : Nat} {s : Fr.IS} (h : In w F D p s) {k : Nat} (hk : F k) : k < w.heap.size := by
  obtain ⟨dv, hI, _⟩ := h
  exact hI.lt hk
theorem In.noMs {w : World} {F D : Nat → Prop} {p : Nat} {s : Fr.IS} (h : In w F D p s) : NoMs w F := by
  obtain ⟨dv, hI, _⟩ := h
  exact hI.noMs
/-- The data lie in what is there. -/
theorem In.tight {w : World} {F D : Nat → Prop} {p : Nat} {s : Fr.IS} (h : In w F D p s) : In w F (fun k => D k ∧ k < w.heap.size) p s := by
  obtain ⟨dv, hI, hD, hO, hN, hok⟩ := h
  refine ⟨dv, hI, hD, hO, fun a n c e h0 => ⟨hN a n c e h0, ?_⟩, hok⟩
  obtain ⟨A', c', hv, _, _, hr⟩ := hD
  rw [hv] at e
  injection e with e1 e2 e3
  subst e1
  exact hr.lt (by rw [length_bys]; omega)
theorem Ms.base {w : World} {B B' : Nat} {F : Nat → Prop} {v : Value} {l : List Msg} (h : Ms w B F v l) (hb : B' ≤ B) : Ms w B' F v l := by
  obtain ⟨tl, h1, h2, h3⟩ := h
  refine ⟨tl, h1, ⟨h2.1, ?_⟩, fun x hx => ⟨(h3 x hx).1, (h3 x hx).2.1, fun a n c e h0 => Nat.le_trans hb ((h3 x hx).2.2 a n c e h0)⟩⟩
  rcases h2.2 with h | ⟨g, cap, cur, e, hg, r⟩
  · exact .inl h
  · exact .inr ⟨g, cap, cur, e, Nat.le_trans hb hg, r⟩
/-- Bodies from base on are off what lies below. -/
theorem Ms.below {w : World} {B : Nat} {F F' : Nat → Prop} {v : Value} {l : List Msg} (h : Ms w B F v l) (hs : ∀ k, F' k → k < B) : Ms w B F' v l := by
  obtain ⟨tl, h1, h2, h3⟩ := h
  refine ⟨tl, h1, h2, fun x hx => ⟨(h3 x hx).1, fun a n c e h0 y => ?_, (h3 x hx).2.2⟩⟩
  have := (h3 x hx).2.2 a n c e h0
  have := hs _ y
  omega

theorem in_new2 (w : World) :
    Calls Try.prog 4 #[] w fun r w' => ∃ p F, r = .returned (.pointer (some ⟨p, 0, none⟩)) ∧ In w' F Nothing p Fr.IS.new ∧ Kept Nothing w w' ∧ (∀ k, F k → w.heap.size ≤ k) :=
  (in_new w).mono fun _ w' ⟨p, F, he, h1, h2, h3⟩ => ⟨p, F, he, ⟨_, h1, (Bs.nil w').by, Off.empty _ _ _, On.empty (Bs.nil w').by _, Fr.IS.new_ok⟩, h2, h3⟩
theorem in_waits2 (p : Nat) (F D : Nat → Prop) (s : Fr.IS) (w : World) (h : In w F D p s) :
    Calls Try.prog 6 #[.pointer (some ⟨p, 0, none⟩)] w fun r w' => r = .returned (.int .i64 (s.l.length : Int)) ∧ w = w' := by
  obtain ⟨dv, h0, _⟩ := h
  exact in_waits p F s.l s.s dv w h0
end Go.Proofs.Ytohkhcobljenjaa
