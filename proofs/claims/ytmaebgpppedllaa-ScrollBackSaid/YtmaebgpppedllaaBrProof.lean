
/-
  Proved here: the law ScrollBack returns true for every input, and each argument reads behind the call as it did before. No condition.
-/
import Derived.Test.YtmaebgpppedllaaBr
import Derived.Test.YtmaebgpppedllaaLaw
namespace Go.Proofs.Ytmaebgpppedllaa
open Go.ChangeShapes Go.WideShapes Go.ChangeAt Go.RowKit

instance : Inhabited Nd := ⟨Nd.none⟩
def w_nd (d : Nat) (W : World) (a : Addr) (i : Nat) (z : Nd) : Prop :=
  W.cell? (a.add (i * 3)) = some (.int .u8 (z.wide : Int)) ∧ W.cell? (a.add (i * 3 + 1)) = some (.int .u32 (z.n : Int)) ∧ ∃ pv, W.cell? (a.add (i * 3 + 2)) = some pv ∧ z.wide < 256 ∧ z.n < 4294967296 ∧ Nds d W pv z.parts
set_option maxRecDepth 100000 in
theorem open_nds {H : Type} {enc : TypeId × Value → H} {W : World} : ∀ (d : Nat) {n : Nat} {v : Value} {y : DataW H × List MemPlace},
    DataW.trod enc Try.prog W 0 (fun _ => true) true n 22 [v] = some y → ∃ l, Nds d W v l
  | 0, n, v, y, h => by
    rcases Go.Deep.open_slice Try.underlying22 h with ⟨hcs, _⟩ | ⟨a, len, cap, m, n', D, Pl, hcs, _, hl, hm, _⟩
    · obtain rfl : v = _ := by simpa using hcs
      exact ⟨[], none, 0, rfl, by simp [maxLen]⟩
    · obtain rfl : v = _ := by simpa using hcs
      exact ⟨List.replicate len Nd.none, some a, cap, by simp, by simp; omega⟩
  | d + 1, n, v, y, h => by
    have ce : Try.prog.cellsOf 61 = 3 := by kernel_rfl
    have c8 : Try.prog.cellsOf 5 = 1 := by kernel_rfl
    have c32 : Try.prog.cellsOf 53 = 1 := by kernel_rfl
    have cn : Try.prog.cellsOf 22 = 1 := by kernel_rfl
    rcases Go.Deep.open_slice Try.underlying22 h with ⟨hcs, _⟩ | ⟨a, len, cap, m, n', D, Pl, hcs, _, hl, hm, hmm, hx, hi⟩
    · obtain rfl : v = _ := by simpa using hcs
      exact ⟨[], none, 0, rfl, by simp [maxLen], fun h0 => absurd h0 (by simp)⟩
    · obtain rfl : v = _ := by simpa using hcs
      simp only [if_true] at hmm
      have num : ∀ i, i < m → ∃ z : Nd, w_nd d W a i z := fun i hi' => by
        obtain ⟨cs', h1, h2⟩ := hi i hi'
        rw [ce] at h1
        obtain ⟨_, hlen, hcell⟩ := World.cells?_some h1
        obtain ⟨xs, k, hk, hxy, _, hxl, hf⟩ := DataW.trod_struct Try.underlying61 h2
        match xs, hxl, cs', hlen with
        | [y0, y1, y2], _, [v0, v1, v2], _ =>
          have g0 := hf 0 _ rfl
          have g1 := hf 1 _ rfl
          have g2 := hf 2 _ rfl
          simp [c8, c32, cn] at g0 g1 g2
          have e0 := hcell 0 (by omega)
          have e1 := hcell 1 (by omega)
          have e2 := hcell 2 (by omega)
          rw [Go.Deep.add_add] at e0 e1 e2
          obtain ⟨z0, q0, _, w0⟩ := DataW.trod_int Try.underlying5 g0
          obtain ⟨z1, q1, _, w1⟩ := DataW.trod_int Try.underlying53 g1
          obtain ⟨l, hl2⟩ := open_nds d g2
          injection q0 with q0
          injection q1 with q1
          have hr0 : 0 ≤ z0 ∧ z0 ≤ 255 := by simpa [Lit.wf, IntKind.min, IntKind.max, IntKind.signed, IntKind.bits] using w0
          have hr1 : 0 ≤ z1 ∧ z1 ≤ 4294967295 := by simpa [Lit.wf, IntKind.min, IntKind.max, IntKind.signed, IntKind.bits] using w1
          refine ⟨.mk z0.toNat z1.toNat l, ?_, ?_, v2, by simpa using e2, by show z0.toNat < 256; omega, by show z1.toNat < 4294967296; omega, hl2⟩
          · have : ((z0.toNat : Nat) : Int) = z0 := by omega
            show _ = some (Value.int .u8 ((z0.toNat : Nat) : Int))
            rw [this, ← q0]
            simpa using e0
          · have : ((z1.toNat : Nat) : Int) = z1 := by omega
            show _ = some (Value.int .u32 ((z1.toNat : Nat) : Int))
            rw [this, ← q1]
            simpa using e1
      obtain ⟨z, hz⟩ := Go.Deep.choose_lt num
      refine ⟨(List.range len).map z, some a, cap, by simp, by simp; omega, fun h0 => ?_⟩
      simp only [List.length_map, List.length_range] at h0 ⊢
      obtain ⟨b, off, spot⟩ := a
      have hspot : spot = none := by simpa [Addr.add] using World.cell?_spot (hz 0 (by omega)).1
      subst hspot
      refine ⟨b, off, rfl, fun i hi' => ?_⟩
      have := hz i (by omega)
      unfold w_nd at this
      obtain ⟨t0, t1, pv, t2, t3, t4, t5⟩ := this
      rw [add_none] at t0 t1 t2
      have hg : ((List.range len).map z).getD i Nd.none = z i := by simp [List.getD_eq_getElem?_getD, hi']
      rw [hg]
      exact ⟨pv, t0, by simpa [Nat.add_assoc] using t1, by simpa [Nat.add_assoc] using t2, t3, t4, t5⟩
theorem u16_natb {n : Int} (h : (Lit.int .u16 n).wf = true) : ∃ x : Nat, n = x ∧ x < 65536 := by
  have hr : 0 ≤ n ∧ n ≤ 65535 := by simpa [Lit.wf, IntKind.min, IntKind.max, IntKind.signed, IntKind.bits] using h
  exact ⟨n.toNat, by omega, by omega⟩
theorem readable_allb {ts : List TypeId} (h : (ts.all fun t => Try.prog.readableRec t && decide (t < Try.prog.types.size)) = true) : ∀ t ∈ ts, Try.prog.readableRec t = true ∧ t < Try.prog.types.size := fun t ht => by
  have := List.all_eq_true.1 h t ht
  simpa using this

set_option maxRecDepth 100000 in
theorem back_lifted (os : Os) (started : os.Started) (H : Type) (enc : TypeId × Value → H) :
    ReturnsInHanded {} Try.checked os 3 .any (Rows.scrollBackSpec.pre6 enc Try.prog Try.f3 Rows.scrollBackRow.domain false) (Rows.scrollBackSpec.post enc Try.prog Try.f3 false true false false) := by
  refine returnsInHanded_of_change (C := Try.checked) ownKnob_none started (by kernel_rfl) Try.func3
    (ChangeSpec.witness6 (enc := enc) (C := Try.checked) false ⟨#[], #[.slice none 0 0, .slice none 0 0, .int .u16 0], []⟩ 8 (by kernel_rfl) (by kernel_rfl) (by kernel_rfl) (by kernel_rfl)) ?_
  intro W base args ds gs before hval0 hW _ _
  have hval : ∀ (j : Nat) t v, Try.f3.params[j]? = some t → args[j]? = some v → Value.okWide Try.prog W .any base t v := hval0
  have hW' : DataW.Whole enc Try.prog Try.f3.params.toList Rows.scrollBackSpec.vars false W args.toList ds gs before := hW
  obtain ⟨p, q, hA0, hV, rfl, hfz, hnd⟩ := hW
  have hA : DataW.TrodAll enc Try.prog W 0 (fun _ => true) true Try.f3.params.toList args.toList ds p := hA0
  rw [Try.params3] at hA hval
  obtain ⟨v0, vs, d0, ds', p0, p', hvs, rfl, rfl, h0, hA1⟩ := trodAll_cons hA
  obtain ⟨v1, vs1, d1, ds1, p1, p'1, rfl, rfl, rfl, h1, hA2⟩ := trodAll_cons hA1
  obtain ⟨v2, vs2, d2, ds2, p2, p'2, rfl, rfl, rfl, h2, hA3⟩ := trodAll_cons hA2
  obtain ⟨rfl, rfl, rfl⟩ := trodAll_nil hA3
  have hargs : args = #[v0, v1, v2] := by
    apply Array.toList_inj.1
    simpa using hvs
  subst hargs
  obtain ⟨rfl, rfl⟩ := trodVars_none hV
  obtain ⟨a0, len, cap, rfl⟩ := okWide_slice Try.underlying22 (hval 0 22 v0 rfl rfl)
  obtain ⟨fuel, hf0⟩ := h0
  obtain ⟨l, hl⟩ := open_nds 4 hf0
  obtain ⟨bh, hbh⟩ := open_by (hval 1 23 v1 rfl rfl) h1
  obtain ⟨n, rfl, _, _, hw⟩ := open_int Try.underlying24 (hval 2 24 v2 rfl rfl) h2
  obtain ⟨x, rfl, hx⟩ := u16_natb hw
  refine (back_law _ v1 l bh x hx W hl hbh).mono fun e W' ⟨he, hk⟩ => ?_
  subst he
  exact ⟨_, rfl, law_post hW' rfl (by kernel_rfl) (by rw [Try.params3]; exact readable_allb (by kernel_rfl)) rfl rfl rfl hk.under⟩

theorem scrollBack_holds : Rows.ScrollBackSaid :=
  OpenClaim.holds_of_wide 3 Try.f3 rfl rfl rfl rfl rfl rfl rfl ⟨rfl, rfl, rfl, rfl, rfl⟩ rfl rfl rfl rfl rfl (by kernel_rfl) Try.func3 (by kernel_rfl)
    (of_decide_eq_true (by kernel_rfl)) (by unfold Func.isWrapper; first | (rw [if_pos (by decide +kernel)]; kernel_rfl) | (rw [if_neg (by decide +kernel)]; exact ⟨rfl, rfl⟩))
    (fun os started H enc _ => back_lifted os started H enc)
end Go.Proofs.Ytmaebgpppedllaa
