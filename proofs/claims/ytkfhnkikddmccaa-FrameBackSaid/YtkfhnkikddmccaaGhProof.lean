
/-
  Proved here: the law FrameBack returns true for every input, and each argument reads behind the call as it did before. No condition.
-/
import Derived.Test.YtkfhnkikddmccaaGh
import Derived.Test.YtkfhnkikddmccaaLaw
namespace Go.Proofs.Ytkfhnkikddmccaa
open Go.ChangeShapes Go.WideShapes Go.ChangeAt Go.RowKit

set_option maxRecDepth 100000 in
theorem open_by1f {H : Type} {enc : TypeId × Value → H} {W : World} {n : Nat} {v : Value} {y : DataW H × List MemPlace}
    (hf : DataW.trod enc Try.prog W 0 (fun _ => true) true n 25 [v] = some y) : ∃ l, By W v l := by
  rcases open_ints Try.underlying25 Try.underlying5 (by kernel_rfl) hf with ⟨hcs, hx⟩ | ⟨a, len', cap', zs, hcs, _, hl, hm, hz, hx, hcell, hwz⟩
  · obtain rfl : v = _ := by simpa using hcs
    exact ⟨[], (Bs.nil W).by⟩
  · obtain rfl : v = _ := by simpa using hcs
    simp only [if_true] at hz
    refine ⟨(zs.take len').map (fun z => UInt8.ofNat z.toNat), some a, cap', ?_, ?_, hm, ?_⟩
    · rw [List.length_map, List.length_take]
      congr 1
      omega
    · rw [List.length_map, List.length_take]
      omega
    · have hlen : ((zs.take len').map (fun z => UInt8.ofNat z.toNat)).length = len' := by rw [List.length_map, List.length_take]; omega
      refine ⟨by rw [length_bys, Nat.mul_one], (fun h => by cases h), fun a' ha j u hu => ?_, fun u hu => ?_⟩
      · injection ha with ha
        subst ha
        have hj : j < len' := by
          have := (List.getElem?_eq_some_iff.1 hu).1
          rwa [length_bys, hlen] at this
        have hzj : zs[j]? = some (zs[j]'(by omega)) := List.getElem?_eq_getElem (by omega)
        have hc := hcell j (by omega)
        have hw := hwz (zs[j]'(by omega)) (List.getElem_mem _)
        have hr : 0 ≤ zs[j]'(by omega) ∧ zs[j]'(by omega) ≤ 255 := by simpa [Lit.wf, IntKind.min, IntKind.max, IntKind.signed, IntKind.bits] using hw
        rw [hc, ← hu]
        unfold bys by8
        rw [List.getElem?_map, List.getElem?_map, List.getElem?_take_of_lt hj, hzj]
        simp only [Option.map_some, List.getD_eq_getElem?_getD, hzj, Option.getD_some, UInt8.toNat_ofNat', Option.some.injEq, Value.int.injEq, true_and]
        omega
      · unfold bys at hu
        obtain ⟨b, _, rfl⟩ := List.mem_map.1 hu
        rfl

def w_msg (W : World) (a : Addr) (i : Nat) (z : Cp) : Prop := W.cell? (a.add (i * 2)) = some (by8 z.1) ∧ ∃ u, W.cell? (a.add (i * 2 + 1)) = some u ∧ By W u z.2
set_option maxRecDepth 100000 in
theorem open_msgs {H : Type} {enc : TypeId × Value → H} {W : World} {base : Nat} {v : Value} {d : DataW H} {p : List MemPlace} (hv : Value.okWide Try.prog W .any base 26 v)
    (h : DataW.Trod enc Try.prog W 0 (fun _ => true) true 26 v d p) : ∃ l, Cps W v l := by
  obtain ⟨a0, len, cap, rfl⟩ := okWide_slice Try.underlying26 hv
  obtain ⟨fuel, hf⟩ := h
  rcases Go.Deep.open_slice_pairs Try.underlying26 Try.underlying43 (by kernel_rfl) rfl rfl (by kernel_rfl) (by kernel_rfl) hf with ⟨hcs, hx⟩ | ⟨a, len', cap', m, n, V0, V1, D0, D1, P0, P1, hcs, _, hl, hm, hmm, hx, hi⟩
  · simp [Value.cells] at hcs
    obtain ⟨rfl, rfl, rfl⟩ := hcs
    exact ⟨[], Cps.nil W⟩
  · simp [Value.cells] at hcs
    obtain ⟨rfl, rfl, rfl⟩ := hcs
    simp only [if_true] at hmm
    have num : ∀ i, i < m → ∃ z : Cp, w_msg W a i z := fun i hi' => by
      obtain ⟨h0, h1, t0, t1⟩ := hi i hi'
      obtain ⟨z0, e0, _, w0⟩ := DataW.trod_int Try.underlying5 t0
      injection e0 with e0
      rw [e0] at h0
      obtain ⟨l, hl⟩ := open_by1f t1
      have hr : 0 ≤ z0 ∧ z0 ≤ 255 := by simpa [Lit.wf, IntKind.min, IntKind.max, IntKind.signed, IntKind.bits] using w0
      refine ⟨(UInt8.ofNat z0.toNat, l), ?_, _, h1, hl⟩
      rw [h0]
      unfold by8
      have : ((UInt8.ofNat z0.toNat).toNat : Int) = z0 := by rw [UInt8.toNat_ofNat']; omega
      rw [this]
    obtain ⟨z, hz⟩ := Go.Deep.choose_lt num
    refine ⟨(List.range len).map z, some a, cap, by simp, by simp; omega, hm, fun h0 => ?_⟩
    simp only [List.length_map, List.length_range] at h0 ⊢
    obtain ⟨b, off, spot⟩ := a
    have hspot : spot = none := by simpa [Addr.add] using World.cell?_spot (hz 0 (by omega)).1
    subst hspot
    refine ⟨b, off, rfl, fun i hi' => ?_⟩
    have := hz i (by omega)
    unfold w_msg at this
    rw [add_none, add_none] at this
    simpa [Nat.add_assoc] using this
theorem readable_allf {ts : List TypeId} (h : (ts.all fun t => Try.prog.readableRec t && decide (t < Try.prog.types.size)) = true) : ∀ t ∈ ts, Try.prog.readableRec t = true ∧ t < Try.prog.types.size := fun t ht => by
  have := List.all_eq_true.1 h t ht
  simpa using this

set_option maxRecDepth 100000 in
theorem back_lifted (os : Os) (started : os.Started) (H : Type) (enc : TypeId × Value → H) :
    ReturnsInHanded {} Try.checked os 4 .any (Rows.frameBackSpec.pre6 enc Try.prog Try.f4 Rows.frameBackRow.domain false) (Rows.frameBackSpec.post enc Try.prog Try.f4 false true false false) := by
  refine returnsInHanded_of_change (C := Try.checked) ownKnob_none started (by kernel_rfl) Try.func4
    (ChangeSpec.witness6 (enc := enc) (C := Try.checked) false ⟨#[], #[.slice none 0 0, .slice none 0 0], []⟩ 8 (by kernel_rfl) (by kernel_rfl) (by kernel_rfl) (by kernel_rfl)) ?_
  intro W base args ds gs before hval0 hW _ _
  have hval : ∀ (j : Nat) t v, Try.f4.params[j]? = some t → args[j]? = some v → Value.okWide Try.prog W .any base t v := hval0
  have hW' : DataW.Whole enc Try.prog Try.f4.params.toList Rows.frameBackSpec.vars false W args.toList ds gs before := hW
  obtain ⟨p, q, hA0, hV, rfl, hfz, hnd⟩ := hW
  have hA : DataW.TrodAll enc Try.prog W 0 (fun _ => true) true Try.f4.params.toList args.toList ds p := hA0
  rw [Try.params4] at hA hval
  obtain ⟨v0, v1, d0, d1, p0, p1, rfl, rfl, rfl, h0, h1⟩ := trodAll_two hA
  obtain ⟨rfl, rfl⟩ := trodVars_none hV
  obtain ⟨l, hl⟩ := open_msgs (hval 0 26 v0 rfl rfl) h0
  obtain ⟨bh, hbh⟩ := open_by (hval 1 25 v1 rfl rfl) h1
  refine (back_law v0 v1 l bh W hl hbh).mono fun e W' ⟨he, hk⟩ => ?_
  subst he
  exact ⟨_, rfl, law_post hW' rfl (by kernel_rfl) (by rw [Try.params4]; exact readable_allf (by kernel_rfl)) rfl rfl rfl hk.under⟩

theorem frameBack_holds : Rows.FrameBackSaid :=
  OpenClaim.holds_of_wide 4 Try.f4 rfl rfl rfl rfl rfl rfl rfl ⟨rfl, rfl, rfl, rfl, rfl⟩ rfl rfl rfl rfl rfl (by kernel_rfl) Try.func4 (by kernel_rfl)
    (of_decide_eq_true (by kernel_rfl)) (by unfold Func.isWrapper; first | (rw [if_pos (by decide +kernel)]; kernel_rfl) | (rw [if_neg (by decide +kernel)]; exact ⟨rfl, rfl⟩))
    (fun os started H enc _ => back_lifted os started H enc)
end Go.Proofs.Ytkfhnkikddmccaa
