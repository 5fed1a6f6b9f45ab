
/-
  Proved here: the law FrameFeeds returns true for every input, and each argument reads behind the call as it did before. No condition.
-/
import Derived.Test.YtohkhcobljenjaaGn
import Derived.Test.YtohkhcobljenjaaLaw
import Derived.Deep.Slices
namespace Go.Proofs.Ytohkhcobljenjaa
open Go.ChangeShapes Go.WideShapes Go.ChangeAt Go.RowKit

set_option maxRecDepth 100000 in
theorem open_by1f {H : Type} {enc : TypeId × Value → H} {W : World} {n : Nat} {v : Value} {y : DataW H × List MemPlace}
    (hf : DataW.trod enc Try.prog W 0 (fun _ => true) true n 25 [v] = some y) : ∃ l, By W v l := by
  rcases open_ints Try.underlying25 Try.underlying5 (by kernel_rfl) hf with ⟨hcs, hx⟩ | ⟨a, len', cap', zs, hcs, _, hl, hm, hz, hx, hcell, hwz⟩
  · obtain rfl : v = _ := by simpa using hcs
    exact ⟨[], (Bs.nil W).by⟩
  · obtain rfl : v = _ := by simpa using hcs
    simp only [if_true] at hz
    refine ⟨(zs.take len').map (fun z => UInt8.ofNat z.toNat), some a, cap', ?_, ?_, hm, ?_⟩
    · rw [List.length_map, List.length_take]
      congr 1
      omega
    · rw [List.length_map, List.length_take]
      omega
    · have hlen : ((zs.take len').map (fun z => UInt8.ofNat z.toNat)).length = len' := by rw [List.length_map, List.length_take]; omega
      refine ⟨by rw [length_bys, Nat.mul_one], (fun h => by cases h), fun a' ha j u hu => ?_, fun u hu => ?_⟩
      · injection ha with ha
        subst ha
        have hj : j < len' := by
          have := (List.getElem?_eq_some_iff.1 hu).1
          rwa [length_bys, hlen] at this
        have hzj : zs[j]? = some (zs[j]'(by omega)) := List.getElem?_eq_getElem (by omega)
        have hc := hcell j (by omega)
        have hw := hwz (zs[j]'(by omega)) (List.getElem_mem _)
        have hr : 0 ≤ zs[j]'(by omega) ∧ zs[j]'(by omega) ≤ 255 := by simpa [Lit.wf, IntKind.min, IntKind.max, IntKind.signed, IntKind.bits] using hw
        rw [hc, ← hu]
        unfold bys by8
        rw [List.getElem?_map, List.getElem?_map, List.getElem?_take_of_lt hj, hzj]
        simp only [Option.map_some, List.getD_eq_getElem?_getD, hzj, Option.getD_some, UInt8.toNat_ofNat', Option.some.injEq, Value.int.injEq, true_and]
        omega
      · unfold bys at hu
        obtain ⟨b, _, rfl⟩ := List.mem_map.1 hu
        rfl

set_option maxRecDepth 100000 in
theorem open_chunks {H : Type} {enc : TypeId × Value → H} {W : World} {base : Nat} {v : Value} {d : DataW H} {p : List MemPlace} (hv : Value.okWide Try.prog W .any base 22 v)
    (h : DataW.Trod enc Try.prog W 0 (fun _ => true) true 22 v d p) : ∃ l, Bss W v l := by
  obtain ⟨a0, len, cap, rfl⟩ := okWide_slice Try.underlying22 hv
  obtain ⟨fuel, hf⟩ := h
  rcases Go.Deep.open_slice1 Try.underlying22 (by kernel_rfl) hf with ⟨hcs, hx⟩ | ⟨a, len', cap', m, n, V, D, Pl, hcs, _, hl, hm, hmm, hx, hi⟩
  · simp [Value.cells] at hcs
    obtain ⟨rfl, rfl, rfl⟩ := hcs
    exact ⟨[], none, 0, rfl, by simp [maxLen], fun h => absurd h (by simp)⟩
  · simp [Value.cells] at hcs
    obtain ⟨rfl, rfl, rfl⟩ := hcs
    simp only [if_true] at hmm
    have num : ∀ i, i < m → ∃ z : List UInt8, W.cell? (a.add i) = some (V i) ∧ By W (V i) z := fun i hi' => by
      obtain ⟨h0, t0⟩ := hi i hi'
      obtain ⟨l, hl⟩ := open_by1f t0
      exact ⟨l, h0, hl⟩
    obtain ⟨z, hz⟩ := Go.Deep.choose_lt num
    refine ⟨(List.range len).map z, some a, cap, by simp, by simp; omega, fun h0 => ?_⟩
    simp only [List.length_map, List.length_range] at h0 ⊢
    obtain ⟨b, off, spot⟩ := a
    have hspot : spot = none := by simpa [Addr.add] using World.cell?_spot (hz 0 (by omega)).1
    subst hspot
    refine ⟨b, off, rfl, fun i hi' => ⟨V i, ?_, ?_⟩⟩
    · have := (hz i (by omega)).1
      rwa [add_none] at this
    · rw [getD_range _ _ _ _ hi']
      exact (hz i (by omega)).2
theorem readable_allf {ts : List TypeId} (h : (ts.all fun t => Try.prog.readableRec t && decide (t < Try.prog.types.size)) = true) : ∀ t ∈ ts, Try.prog.readableRec t = true ∧ t < Try.prog.types.size := fun t ht => by
  have := List.all_eq_true.1 h t ht
  simpa using this

set_option maxRecDepth 100000 in
theorem feeds_lifted (os : Os) (started : os.Started) (H : Type) (enc : TypeId × Value → H) :
    ReturnsInHanded {} Try.checked os 3 .any (Rows.frameFeedsSpec.pre6 enc Try.prog Try.f3 Rows.frameFeedsRow.domain false) (Rows.frameFeedsSpec.post enc Try.prog Try.f3 false true false false) := by
  refine returnsInHanded_of_change (C := Try.checked) ownKnob_none started (by kernel_rfl) Try.func3
    (ChangeSpec.witness6 (enc := enc) (C := Try.checked) false ⟨#[], #[.slice none 0 0], []⟩ 8 (by kernel_rfl) (by kernel_rfl) (by kernel_rfl) (by kernel_rfl)) ?_
  intro W base args ds gs before hval0 hW _ _
  have hval : ∀ (j : Nat) t v, Try.f3.params[j]? = some t → args[j]? = some v → Value.okWide Try.prog W .any base t v := hval0
  have hW' : DataW.Whole enc Try.prog Try.f3.params.toList Rows.frameFeedsSpec.vars false W args.toList ds gs before := hW
  obtain ⟨p, q, hA0, hV, rfl, hfz, hnd⟩ := hW
  have hA : DataW.TrodAll enc Try.prog W 0 (fun _ => true) true Try.f3.params.toList args.toList ds p := hA0
  rw [Try.params3] at hA hval
  obtain ⟨v0, d0, rfl, rfl, h0⟩ := trodAll_one hA
  obtain ⟨rfl, rfl⟩ := trodVars_none hV
  obtain ⟨l, hl⟩ := open_chunks (hval 0 22 v0 rfl rfl) h0
  refine (feeds_law v0 l W hl).mono fun e W' ⟨he, hk⟩ => ?_
  subst he
  exact ⟨_, rfl, law_post hW' rfl (by kernel_rfl) (by rw [Try.params3]; exact readable_allf (by kernel_rfl)) rfl rfl rfl hk.under⟩

theorem frameFeeds_holds : Rows.FrameFeedsSaid :=
  OpenClaim.holds_of_wide 3 Try.f3 rfl rfl rfl rfl rfl rfl rfl ⟨rfl, rfl, rfl, rfl, rfl⟩ rfl rfl rfl rfl rfl (by kernel_rfl) Try.func3 (by kernel_rfl)
    (of_decide_eq_true (by kernel_rfl)) (by unfold Func.isWrapper; first | (rw [if_pos (by decide +kernel)]; kernel_rfl) | (rw [if_neg (by decide +kernel)]; exact ⟨rfl, rfl⟩))
    (fun os started H enc _ => feeds_lifted os started H enc)
end Go.Proofs.Ytohkhcobljenjaa
