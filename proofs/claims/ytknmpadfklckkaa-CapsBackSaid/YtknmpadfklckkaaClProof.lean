
/-
  Proved here: the law CapsBack returns true for every input, and each argument reads behind the call as it did before. No condition.
-/
import Derived.Test.YtknmpadfklckkaaCl
import Derived.Test.YtknmpadfklckkaaCy
import Derived.Lib.SmallJoins
namespace Go.Proofs.Ytknmpadfklckkaa
open Go.ChangeShapes Go.WideShapes Go.ChangeAt Go.RowKit

theorem readable_three {t0 t1 t2 : TypeId} (h0 : Try.prog.readableRec t0 = true) (h1 : Try.prog.readableRec t1 = true) (h2 : Try.prog.readableRec t2 = true) (l0 : t0 < Try.prog.types.size) (l1 : t1 < Try.prog.types.size) (l2 : t2 < Try.prog.types.size) : ∀ t ∈ [t0, t1, t2], Try.prog.readableRec t = true ∧ t < Try.prog.types.size := by
  intro t ht
  rcases List.mem_cons.1 ht with rfl | ht
  · exact ⟨h0, l0⟩
  · rcases List.mem_cons.1 ht with rfl | ht
    · exact ⟨h1, l1⟩
    · rcases List.mem_cons.1 ht with rfl | ht
      · exact ⟨h2, l2⟩
      · cases ht
theorem u8_nat {z : Int} (w : (Lit.int .u8 z).wf = true) : ∃ n : Nat, z = (n : Int) ∧ n < 256 := by
  have hr : 0 ≤ z ∧ z ≤ 255 := by simpa [Lit.wf, IntKind.min, IntKind.max, IntKind.signed, IntKind.bits] using w
  exact ⟨z.toNat, by omega, by omega⟩
set_option maxRecDepth 100000 in
theorem back_lifted (os : Os) (started : os.Started) (H : Type) (enc : TypeId × Value → H) :
    ReturnsInHanded {} Try.checked os 4 .any (Rows.capsBackSpec.pre6 enc Try.prog Try.f4 Rows.capsBackRow.domain false) (Rows.capsBackSpec.post enc Try.prog Try.f4 false true false false) := by
  refine returnsInHanded_of_change (C := Try.checked) ownKnob_none started (by kernel_rfl) Try.func4
    (ChangeSpec.witness6 (enc := enc) (C := Try.checked) false ⟨#[], #[.slice none 0 0, .slice none 0 0, .int .u8 0], []⟩ 8 (by kernel_rfl) (by kernel_rfl) (by kernel_rfl) (by kernel_rfl)) ?_
  intro W base args ds gs before hval0 hW _ _
  have hval : ∀ (j : Nat) t v, Try.f4.params[j]? = some t → args[j]? = some v → Value.okWide Try.prog W .any base t v := hval0
  have hW' : DataW.Whole enc Try.prog Try.f4.params.toList Rows.capsBackSpec.vars false W args.toList ds gs before := hW
  obtain ⟨p, q, hA0, hV, rfl, hfz, hnd⟩ := hW
  have hA : DataW.TrodAll enc Try.prog W 0 (fun _ => true) true Try.f4.params.toList args.toList ds p := hA0
  rw [Try.params4] at hA hval
  obtain ⟨v0, v1, v2, d0, d1, d2, p0, p1, p2, rfl, rfl, rfl, h0, h1, h2⟩ := trodAll_three hA
  obtain ⟨rfl, rfl⟩ := trodVars_none hV
  obtain ⟨l, hl⟩ := open_cps (hval 0 24 v0 rfl rfl) h0
  obtain ⟨b, hb⟩ := open_by (hval 1 22 v1 rfl rfl) h1
  obtain ⟨z, rfl, _, _, hz⟩ := open_int Try.underlying5 (hval 2 5 v2 rfl rfl) h2
  obtain ⟨n, rfl, hn⟩ := u8_nat hz
  refine (back_law v0 v1 l b n W hl hb hn).mono fun e W' ⟨he, hk⟩ => ?_
  subst he
  exact ⟨_, rfl, law_post hW' rfl (by kernel_rfl) (by rw [Try.params4]; exact readable_three (by kernel_rfl) (by kernel_rfl) (by kernel_rfl) (of_decide_eq_true (by kernel_rfl)) (of_decide_eq_true (by kernel_rfl)) (of_decide_eq_true (by kernel_rfl))) rfl rfl rfl hk.under⟩

theorem capsBack_holds : Rows.CapsBackSaid :=
  OpenClaim.holds_of_wide 4 Try.f4 rfl rfl rfl rfl rfl rfl rfl ⟨rfl, rfl, rfl, rfl, rfl⟩ rfl rfl rfl rfl rfl (by kernel_rfl) Try.func4 (by kernel_rfl)
    (of_decide_eq_true (by kernel_rfl)) (by unfold Func.isWrapper; first | (rw [if_pos (by decide +kernel)]; kernel_rfl) | (rw [if_neg (by decide +kernel)]; exact ⟨rfl, rfl⟩))
    (fun os started H enc _ => back_lifted os started H enc)
end Go.Proofs.Ytknmpadfklckkaa
