
/-
  Proved here: the law FrameLays returns true for every input, and each argument reads behind the call as it did before. No condition.
-/
import Derived.Test.YtgndhkhhjpffnaaGe
import Derived.Lib.SmallJoins
namespace Go.Proofs.Ytgndhkhhjpffnaa
open Go.ChangeShapes Go.WideShapes Go.ChangeAt Go.RowKit

theorem readable_one1 {t0 : TypeId} (h0 : Try.prog.readableRec t0 = true) (l0 : t0 < Try.prog.types.size) : ∀ t ∈ [t0], Try.prog.readableRec t = true ∧ t < Try.prog.types.size := by
  intro t ht
  rcases List.mem_cons.1 ht with rfl | ht
  · exact ⟨h0, l0⟩
  · cases ht
set_option maxRecDepth 100000 in
theorem open_by1 {H : Type} {enc : TypeId × Value → H} {W : World} {n : Nat} {v : Value} {y : DataW H × List MemPlace}
    (hf : DataW.trod enc Try.prog W 0 (fun _ => true) true n 25 [v] = some y) : ∃ l, By W v l := by
  rcases open_ints Try.underlying25 Try.underlying5 (by kernel_rfl) hf with ⟨hcs, hx⟩ | ⟨a, len', cap', zs, hcs, _, hl, hm, hz, hx, hcell, hwz⟩
  · obtain rfl : v = _ := by simpa using hcs
    exact ⟨[], (Bs.nil W).by⟩
  · obtain rfl : v = _ := by simpa using hcs
    simp only [if_true] at hz
    refine ⟨(zs.take len').map (fun z => UInt8.ofNat z.toNat), some a, cap', ?_, ?_, hm, ?_⟩
    · rw [List.length_map, List.length_take]
      congr 1
      omega
    · rw [List.length_map, List.length_take]
      omega
    · have hlen : ((zs.take len').map (fun z => UInt8.ofNat z.toNat)).length = len' := by rw [List.length_map, List.length_take]; omega
      refine ⟨by rw [length_bys, Nat.mul_one], (fun h => by cases h), fun a' ha j u hu => ?_, fun u hu => ?_⟩
      · injection ha with ha
        subst ha
        have hj : j < len' := by
          have := (List.getElem?_eq_some_iff.1 hu).1
          rwa [length_bys, hlen] at this
        have hzj : zs[j]? = some (zs[j]'(by omega)) := List.getElem?_eq_getElem (by omega)
        have hc := hcell j (by omega)
        have hw := hwz (zs[j]'(by omega)) (List.getElem_mem _)
        have hr : 0 ≤ zs[j]'(by omega) ∧ zs[j]'(by omega) ≤ 255 := by simpa [Lit.wf, IntKind.min, IntKind.max, IntKind.signed, IntKind.bits] using hw
        rw [hc, ← hu]
        unfold bys by8
        rw [List.getElem?_map, List.getElem?_map, List.getElem?_take_of_lt hj, hzj]
        simp only [Option.map_some, List.getD_eq_getElem?_getD, hzj, Option.getD_some, UInt8.toNat_ofNat', Option.some.injEq, Value.int.injEq, true_and]
        omega
      · unfold bys at hu
        obtain ⟨b, _, rfl⟩ := List.mem_map.1 hu
        rfl

set_option maxRecDepth 100000 in
theorem open_msg {H : Type} {enc : TypeId × Value → H} {W : World} {base : Nat} {v : Value} {d : DataW H} {p : List MemPlace} (hv : Value.okWide Try.prog W .any base 43 v)
    (h : DataW.Trod enc Try.prog W 0 (fun _ => true) true 43 v d p) : ∃ (t : UInt8) (bv : Value) (l : List UInt8), v = .agg #[.int .u8 (t.toNat : Int), bv] ∧ By W bv l := by
  obtain ⟨v0, v1, y0, y1, n, rfl, _, _, h0, h1⟩ := Joins.open_agg2 Try.underlying43 (by kernel_rfl) (by kernel_rfl) hv h
  obtain ⟨z0, e0, _, w0⟩ := DataW.trod_int Try.underlying5 h0
  injection e0 with e0
  subst e0
  obtain ⟨l, hl⟩ := open_by1 h1
  have hr : 0 ≤ z0 ∧ z0 ≤ 255 := by simpa [Lit.wf, IntKind.min, IntKind.max, IntKind.signed, IntKind.bits] using w0
  refine ⟨UInt8.ofNat z0.toNat, v1, l, ?_, hl⟩
  have : ((UInt8.ofNat z0.toNat).toNat : Int) = z0 := by rw [UInt8.toNat_ofNat']; omega
  rw [this]

set_option maxRecDepth 100000 in
theorem lays_lifted (os : Os) (started : os.Started) (H : Type) (enc : TypeId × Value → H) :
    ReturnsInHanded {} Try.checked os 4 .any (Rows.frameLaysSpec.pre6 enc Try.prog Try.f4 Rows.frameLaysRow.domain false) (Rows.frameLaysSpec.post enc Try.prog Try.f4 false true false false) := by
  refine returnsInHanded_of_change (C := Try.checked) ownKnob_none started (by kernel_rfl) Try.func4
    (ChangeSpec.witness6 (enc := enc) (C := Try.checked) false ⟨#[], #[.agg #[.int .u8 0, .slice none 0 0]], []⟩ 8 (by kernel_rfl) (by kernel_rfl) (by kernel_rfl) (by kernel_rfl)) ?_
  intro W base args ds gs before hval0 hW _ _
  have hval : ∀ (j : Nat) t v, Try.f4.params[j]? = some t → args[j]? = some v → Value.okWide Try.prog W .any base t v := hval0
  have hW' : DataW.Whole enc Try.prog Try.f4.params.toList Rows.frameLaysSpec.vars false W args.toList ds gs before := hW
  obtain ⟨p, q, hA0, hV, rfl, hfz, hnd⟩ := hW
  have hA : DataW.TrodAll enc Try.prog W 0 (fun _ => true) true Try.f4.params.toList args.toList ds p := hA0
  rw [Try.params4] at hA hval
  obtain ⟨v0, d0, rfl, rfl, h0⟩ := trodAll_one hA
  obtain ⟨rfl, rfl⟩ := trodVars_none hV
  obtain ⟨t, bv, l, rfl, hl⟩ := open_msg (hval 0 43 v0 rfl rfl) h0
  refine (lays_law t bv l W hl).mono fun e W' ⟨he, hk⟩ => ?_
  subst he
  exact ⟨_, rfl, law_post hW' rfl (by kernel_rfl) (by rw [Try.params4]; exact readable_one1 (by kernel_rfl) (of_decide_eq_true (by kernel_rfl))) rfl rfl rfl hk.under⟩

theorem frameLays_holds : Rows.FrameLaysSaid :=
  OpenClaim.holds_of_wide 4 Try.f4 rfl rfl rfl rfl rfl rfl rfl ⟨rfl, rfl, rfl, rfl, rfl⟩ rfl rfl rfl rfl rfl (by kernel_rfl) Try.func4 (by kernel_rfl)
    (of_decide_eq_true (by kernel_rfl)) (by unfold Func.isWrapper; first | (rw [if_pos (by decide +kernel)]; kernel_rfl) | (rw [if_neg (by decide +kernel)]; exact ⟨rfl, rfl⟩))
    (fun os started H enc _ => lays_lifted os started H enc)
end Go.Proofs.Ytgndhkhhjpffnaa
