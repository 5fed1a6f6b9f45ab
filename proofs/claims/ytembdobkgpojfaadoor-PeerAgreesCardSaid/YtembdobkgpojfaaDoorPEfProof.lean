
/-
  Proved here: the law PeerAgrees returns true for every input, and each argument reads behind the call as it did before; the variable that the row lists (number.spans) holds what the program's text lays in it (tied). No other condition.
-/
import Derived.Test.YtembdobkgpojfaaDoorPEx
import Derived.Test.YtembdobkgpojfaaDoorPEf
namespace Go.Proofs.YtembdobkgpojfaaDoor
open Go.ChangeShapes Go.WideShapes Go.ChangeAt Go.RowKit

set_option maxRecDepth 100000 in
theorem peerAgrees_lifted (os : Os) (started : os.Started) (H : Type) (enc : TypeId × Value → H) :
    ReturnsInHanded {} Tryd.checked os 5 .any (fun w args => (Rows.peerAgreesSpec.pre enc Tryd.prog Tryd.f5 [] false w args ∧ laidMetH Tryd.prog laidPa w) ∧ sizedMet enc Tryd.prog Tryd.f5 (OpenSpec.ofChange Rows.peerAgreesSpec) false w args)
      (Rows.peerAgreesSpec.post enc Tryd.prog Tryd.f5 false true false false) := by
  refine returnsInHanded_of_change_and (C := Tryd.checked) (X := fun w _ => laidMetH Tryd.prog laidPa w) (fun _ _ _ hh h => h.of_heap hh) ownKnob_none started (by kernel_rfl) Tryd.func5
    (ChangeSpec.witness_shaped (enc := enc) (C := Tryd.checked) (os := os) (X := fun w _ => laidMetH Tryd.prog laidPa w) false (World.doorLaid Tryd.prog 52 os) #[.int .i64 0, .agg #[.int .i64 0, .int .u16 0, .slice none 0 0]] 8 rfl (World.shaped_of_RefB (by kernel_rfl) (by kernel_rfl)) (by kernel_rfl) (by kernel_rfl) (by kernel_rfl) (door_metPa os _)) ?_
  intro W base args ds gs before hval0 hW _ _ hL _
  have hval : ∀ (j : Nat) t v, Tryd.f5.params[j]? = some t → args[j]? = some v → Value.okWide Tryd.prog W .any base t v := hval0
  have hW' : DataW.Whole enc Tryd.prog Tryd.f5.params.toList Rows.peerAgreesSpec.vars false W args.toList ds gs before := hW
  obtain ⟨p, q, hA0, hV, rfl, hfz, hnd⟩ := hW
  have hA : DataW.TrodAll enc Tryd.prog W 0 (fun _ => true) true Tryd.f5.params.toList args.toList ds p := hA0
  rw [Tryd.params5] at hA hval
  obtain ⟨v0, vs0, d0, ds0, p0, q0, hvs, rfl, rfl, h0, hA0z⟩ := trodAll_cons hA
  obtain ⟨v1, vs1, d1, ds1, p1, q1, rfl, rfl, rfl, h1, hA1z⟩ := trodAll_cons hA0z
  obtain ⟨rfl, rfl, rfl⟩ := trodAll_nil hA1z
  obtain rfl : args = #[v0, v1] := by apply Array.ext'; exact hvs
  obtain ⟨rfl, rfl⟩ := trodVars_none hV
  have hs := of_laidPa hL
  obtain ⟨a0, rfl, ba⟩ := open_i64P (hval 0 2 v0 rfl rfl) h0
  obtain ⟨b1, f1, A1, c1, l1, rfl, bh, bf, hl1⟩ := open_openP (hval 1 77 v1 rfl rfl) h1
  refine (agrees15_law a0 ba b1 bh f1 bf A1 c1 l1 W hs hl1).mono fun e W' ⟨he, hk⟩ => ?_
  subst he
  exact ⟨_, rfl, law_post hW' rfl (by kernel_rfl) (by rw [Tryd.params5]; exact readableP (by kernel_rfl)) rfl rfl rfl hk.under⟩
theorem peerAgrees_row : Rows.PeerAgreesSaid :=
  OpenClaim.holds_of_wide 5 Tryd.f5 rfl rfl rfl rfl rfl rfl rfl ⟨rfl, rfl, rfl, rfl, rfl⟩ rfl rfl rfl rfl rfl (by kernel_rfl) Tryd.func5 (by kernel_rfl)
    (of_decide_eq_true (by kernel_rfl)) (by unfold Func.isWrapper; first | (rw [if_pos (by decide +kernel)]; kernel_rfl) | (rw [if_neg (by decide +kernel)]; exact ⟨rfl, rfl⟩))
    (fun os started H enc _ => peerAgrees_lifted os started H enc)
theorem peerAgrees_holds : Rows.PeerAgreesCardSaid :=
  Claim7.holds_tied_plain_at .later [] [.data] true Rows.peerAgreesCard.stood.harness false
    peerAgrees_row (fun _ h => by cases h) (by kernel_rfl) (fun _ h => by cases h) peerAgrees_row_tie rfl ⟨rfl, rfl⟩ (by kernel_rfl) rfl
    (fun f fn hf hfn => by
      obtain rfl : f = 5 := Option.some.inj ((show Tryd.prog.funcNamed "consulate/consulatelaw15.PeerAgrees" = some 5 by kernel_rfl).symm.trans hf) |>.symm
      obtain rfl : fn = Tryd.f5 := (Option.some.inj (Tryd.func5.symm.trans hfn)).symm
      exact ⟨by kernel_rfl, fun j t ht => by
        rw [Tryd.params5] at ht
        have hm : t ∈ [2, 77] := by simpa using Array.mem_of_getElem? ht
        have hall : ([2, 77].all fun u => !Tryd.prog.wantsStandIn u) = true := by kernel_rfl
        exact (show Tryd.prog.wantsStandIn t = false by simpa using List.all_eq_true.1 hall t hm)⟩)
    (by kernel_rfl)
end Go.Proofs.YtembdobkgpojfaaDoor
