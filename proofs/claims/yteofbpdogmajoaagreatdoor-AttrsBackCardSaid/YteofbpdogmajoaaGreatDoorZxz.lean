
/-
  From a law of package attrs to the given card: what the listed variable gives; an argument of type Attrs opened.
-/
import Derived.Test.YteofbpdogmajoaaGreatDoorZa
import Derived.Test.YteofbpdogmajoaaGreatDoorZb
import Derived.Test.YteofbpdogmajoaaGreatDoorTie
import Derived.Test.YteofbpdogmajoaaGreatDoorCards
import Derived.LaidMore
import Derived.ChangeMaps5
import Derived.Stop.Joined
import Derived.SevenTiedAt
import Derived.Lib.LaidTab
import Derived.Carry
import Derived.Deep.SlicePairs
import Derived.Deep.Strs
import Derived.Test.YteofbpdogmajoaaGreatDoorZm
namespace Go.Proofs.YteofbpdogmajoaaGreatDoor
open Go.ChangeShapes Go.WideShapes Go.ChangeAt Go.RowKit

/-- What the rows list. -/
def laidU : List (String × DataW Unit) := Rows.attrsEndsRow.laid
theorem door_metU (os : Os) (args : Array Value) : laidMetH Tryz.prog laidU ((World.doorLaid Tryz.prog 38 os).forCall (fun _ _ => 0) ⟨#[], args, []⟩).memory :=
  laidMetH_of_parts3 (fuel := 8) (laidMet_of_run' 8 (by kernel_rfl) (by kernel_rfl)) (by kernel_rfl) (by kernel_rfl)
theorem wtd_of_laid {W : World} (h : laidMetH Tryz.prog laidU W) : Wtd W := by
  rw [MakeChecks.laidMetH_plain _ _ _ (by kernel_rfl)] at h
  have hl : laidU = [("consulate/attrs.wanted", Lib.tabData .u8 [0, 64, 64, 64, 128, 64, 64, 192, 192, 0, 0, 0, 0, 0, 0, 0, 0, 192, 192])] := by kernel_rfl
  rw [hl] at h
  have ht : Lib.TabIs Tryz.prog W "consulate/attrs.wanted" .u8 [0, 64, 64, 64, 128, 64, 64, 192, 192, 0, 0, 0, 0, 0, 0, 0, 0, 192, 192] := Lib.tabIs_of_head (g := 0) (t := 101) (by kernel_rfl) (by kernel_rfl) Tryz.underlying101 Tryz.underlying5 (by kernel_rfl) (by kernel_rfl) h
  have hg : Tryz.prog.globalNamed "consulate/attrs.wanted" = some 0 := by kernel_rfl
  unfold Lib.TabIs World.var? at ht
  rw [hg] at ht
  simp only [Option.bind_some] at ht
  split at ht
  next c t fr hh =>
    injection ht with ht
    subst ht
    exact ⟨t, fr, hh⟩
  next => cases ht
theorem readableU {ts : List TypeId} (h : (ts.all fun t => Tryz.prog.readableRec t && decide (t < Tryz.prog.types.size)) = true) : ∀ t ∈ ts, Tryz.prog.readableRec t = true ∧ t < Tryz.prog.types.size := fun t ht => by
  have := List.all_eq_true.1 h t ht
  simpa using this

theorem u32_natU {n : Int} (h : (Lit.int .u32 n).wf = true) : ∃ x : Nat, n = x ∧ x < 4294967296 := by
  have hr : 0 ≤ n ∧ n ≤ 4294967295 := by simpa [Lit.wf, IntKind.min, IntKind.max, IntKind.signed, IntKind.bits] using h
  exact ⟨n.toNat, by omega, by omega⟩
theorem u8_natU {n : Int} (h : (Lit.int .u8 n).wf = true) : ∃ x : UInt8, n = (x.toNat : Int) := by
  have hr : 0 ≤ n ∧ n ≤ 255 := by simpa [Lit.wf, IntKind.min, IntKind.max, IntKind.signed, IntKind.bits] using h
  exact ⟨UInt8.ofNat n.toNat, by rw [UInt8.toNat_ofNat']; omega⟩
set_option maxRecDepth 100000 in
theorem open_u8U {H : Type} {enc : TypeId × Value → H} {W : World} {base : Nat} {v : Value} {d : DataW H} {p : List MemPlace} (hv : Value.okWide Tryz.prog W .any base 5 v)
    (h : DataW.Trod enc Tryz.prog W 0 (fun _ => true) true 5 v d p) : ∃ x : UInt8, v = .int .u8 (x.toNat : Int) := by
  obtain ⟨n, rfl, _, _, hw⟩ := open_int Tryz.underlying5 hv h
  obtain ⟨x, rfl⟩ := u8_natU hw
  exact ⟨x, rfl⟩
set_option maxRecDepth 100000 in
theorem open_byU {H : Type} {enc : TypeId × Value → H} {W : World} {n : Nat} {v : Value} {y : DataW H × List MemPlace}
    (hf : DataW.trod enc Tryz.prog W 0 (fun _ => true) true n 22 [v] = some y) : ∃ l, By W v l := by
  rcases open_ints Tryz.underlying22 Tryz.underlying5 (by kernel_rfl) hf with ⟨hcs, hx⟩ | ⟨a, len', cap', zs, hcs, _, hl, hm, hz, hx, hcell, hwz⟩
  · obtain rfl : v = _ := by simpa using hcs
    exact ⟨[], (Bs.nil W).by⟩
  · obtain rfl : v = _ := by simpa using hcs
    simp only [if_true] at hz
    refine ⟨(zs.take len').map (fun z => UInt8.ofNat z.toNat), some a, cap', ?_, ?_, hm, ?_⟩
    · rw [List.length_map, List.length_take]
      congr 1
      omega
    · rw [List.length_map, List.length_take]
      omega
    · have hlen : ((zs.take len').map (fun z => UInt8.ofNat z.toNat)).length = len' := by rw [List.length_map, List.length_take]; omega
      refine ⟨by rw [length_bys, Nat.mul_one], (fun h => by cases h), fun a' ha j u hu => ?_, fun u hu => ?_⟩
      · injection ha with ha
        subst ha
        have hj : j < len' := by
          have := (List.getElem?_eq_some_iff.1 hu).1
          rwa [length_bys, hlen] at this
        have hzj : zs[j]? = some (zs[j]'(by omega)) := List.getElem?_eq_getElem (by omega)
        have hc := hcell j (by omega)
        have hw := hwz (zs[j]'(by omega)) (List.getElem_mem _)
        have hr : 0 ≤ zs[j]'(by omega) ∧ zs[j]'(by omega) ≤ 255 := by simpa [Lit.wf, IntKind.min, IntKind.max, IntKind.signed, IntKind.bits] using hw
        rw [hc, ← hu]
        unfold bys by8
        rw [List.getElem?_map, List.getElem?_map, List.getElem?_take_of_lt hj, hzj]
        simp only [Option.map_some, List.getD_eq_getElem?_getD, hzj, Option.getD_some, UInt8.toNat_ofNat', Option.some.injEq, Value.int.injEq, true_and]
        omega
      · unfold bys at hu
        obtain ⟨b, _, rfl⟩ := List.mem_map.1 hu
        rfl
set_option maxRecDepth 100000 in
theorem open_asU {H : Type} {enc : TypeId × Value → H} {W : World} {n : Nat} {v : Value} {y : DataW H × List MemPlace} {t e : TypeId} (ht : Tryz.prog.underlying t = some (.slice e)) (he : Tryz.prog.underlying e = some (.int .u32)) (hc1 : Tryz.prog.cellsOf e = 1)
    (hf : DataW.trod enc Tryz.prog W 0 (fun _ => true) true n t [v] = some y) : ∃ l, As W v l := by
  rcases open_ints ht he hc1 hf with ⟨hcs, hx⟩ | ⟨a, len', cap', zs, hcs, _, hl, hm, hz, hx, hcell, hwz⟩
  · obtain rfl : v = _ := by simpa using hcs
    exact ⟨[], As.nil W⟩
  · obtain rfl : v = _ := by simpa using hcs
    simp only [if_true] at hz
    have hr : ∀ z ∈ zs, 0 ≤ z ∧ z ≤ 4294967295 := fun z hz' => by
      have hw := hwz z hz'
      simpa [Lit.wf, IntKind.min, IntKind.max, IntKind.signed, IntKind.bits] using hw
    have hlen : ((zs.take len').map (fun z => z.toNat)).length = len' := by rw [List.length_map, List.length_take]; omega
    refine ⟨(zs.take len').map (fun z => z.toNat), fun n hn => ?_, some a, cap', by rw [hlen], by rw [hlen]; exact hl, hm, by rw [length_ass, Nat.mul_one], (fun h => by cases h), fun a' ha j u hu => ?_, fun u hu => ?_⟩
    · obtain ⟨z, hz', rfl⟩ := List.mem_map.1 hn
      have := hr z (List.mem_of_mem_take hz')
      omega
    · injection ha with ha
      subst ha
      have hj : j < len' := by
        have := (List.getElem?_eq_some_iff.1 hu).1
        rwa [length_ass, hlen] at this
      have hzj : zs[j]? = some (zs[j]'(by omega)) := List.getElem?_eq_getElem (by omega)
      have hc := hcell j (by omega)
      have h1 := hr (zs[j]'(by omega)) (List.getElem_mem _)
      rw [hc, ← hu]
      unfold ass
      rw [List.getElem?_map, List.getElem?_map, List.getElem?_take_of_lt hj, hzj]
      simp only [Option.map_some, List.getD_eq_getElem?_getD, hzj, Option.getD_some, Option.some.injEq, Value.int.injEq, true_and]
      omega
    · unfold ass at hu
      obtain ⟨b, _, rfl⟩ := List.mem_map.1 hu
      rfl
def w_segU (W : World) (a : Addr) (i : Nat) (z : Seg) : Prop := W.cell? (a.add (i * 2)) = some (by8 z.1) ∧ ∃ u, W.cell? (a.add (i * 2 + 1)) = some u ∧ As W u z.2
set_option maxRecDepth 100000 in
theorem open_ptsU {H : Type} {enc : TypeId × Value → H} {W : World} {k : Nat} {v : Value} {y : DataW H × List MemPlace}
    (hf : DataW.trod enc Tryz.prog W 0 (fun _ => true) true k 25 [v] = some y) : ∃ l, Pts W v l := by
  rcases Go.Deep.open_slice_pairs Tryz.underlying25 Tryz.underlying71 (by kernel_rfl) rfl rfl (by kernel_rfl) (by kernel_rfl) hf with ⟨hcs, hx⟩ | ⟨a, len', cap', m, n, V0, V1, D0, D1, P0, P1, hcs, _, hl, hm, hmm, hx, hi⟩
  · obtain rfl : v = _ := by simpa using hcs
    exact ⟨[], Pts.nil W⟩
  · obtain rfl : v = _ := by simpa using hcs
    simp only [if_true] at hmm
    have num : ∀ i, i < m → ∃ z : Seg, w_segU W a i z := fun i hi' => by
      obtain ⟨h0, h1, t0, t1⟩ := hi i hi'
      obtain ⟨z0, e0, _, w0⟩ := DataW.trod_int Tryz.underlying5 t0
      injection e0 with e0
      rw [e0] at h0
      obtain ⟨l, hl⟩ := open_asU Tryz.underlying69 Tryz.underlying27 (by kernel_rfl) t1
      have hr : 0 ≤ z0 ∧ z0 ≤ 255 := by simpa [Lit.wf, IntKind.min, IntKind.max, IntKind.signed, IntKind.bits] using w0
      refine ⟨(UInt8.ofNat z0.toNat, l), ?_, _, h1, hl⟩
      rw [h0]
      unfold by8
      have : ((UInt8.ofNat z0.toNat).toNat : Int) = z0 := by rw [UInt8.toNat_ofNat']; omega
      rw [this]
    obtain ⟨z, hz⟩ := Go.Deep.choose_lt num
    refine ⟨(List.range len').map z, some a, cap', by simp, by simp; omega, hm, fun h0 => ?_⟩
    simp only [List.length_map, List.length_range] at h0 ⊢
    obtain ⟨b, off, spot⟩ := a
    have hspot : spot = none := by simpa [Addr.add] using World.cell?_spot (hz 0 (by omega)).1
    subst hspot
    refine ⟨b, off, rfl, fun i hi' => ?_⟩
    have := hz i (by omega)
    unfold w_segU at this
    rw [add_none, add_none] at this
    simpa [Nat.add_assoc] using this
instance : Inhabited Ot := ⟨⟨0, 0, []⟩⟩
def w_otU (W : World) (a : Addr) (i : Nat) (z : Ot) : Prop := W.cell? (a.add (i * 3)) = some (by8 z.f) ∧ W.cell? (a.add (i * 3 + 1)) = some (by8 z.t) ∧ ∃ u, W.cell? (a.add (i * 3 + 2)) = some u ∧ By W u z.v
set_option maxRecDepth 100000 in
theorem open_otsU {H : Type} {enc : TypeId × Value → H} {W : World} {k : Nat} {v : Value} {y : DataW H × List MemPlace}
    (hf : DataW.trod enc Tryz.prog W 0 (fun _ => true) true k 31 [v] = some y) : ∃ l, Ots W v l := by
  have hce : Tryz.prog.cellsOf 73 = 3 := by kernel_rfl
  have hc1 : Tryz.prog.cellsOf 5 = 1 := by kernel_rfl
  have hc2 : Tryz.prog.cellsOf 22 = 1 := by kernel_rfl
  rcases Go.Deep.open_slice Tryz.underlying31 hf with ⟨hcs, hx⟩ | ⟨a, len', cap', m, n, D, Pl, hcs, _, hl, hm, hmm, hx, hi⟩
  · obtain rfl : v = _ := by simpa using hcs
    exact ⟨[], Ots.nil W⟩
  · obtain rfl : v = _ := by simpa using hcs
    simp only [if_true] at hmm
    have num : ∀ i, i < m → ∃ z : Ot, w_otU W a i z := fun i hi' => by
      obtain ⟨cs', h1, h2⟩ := hi i hi'
      rw [hce] at h1
      obtain ⟨_, hlen, hcell⟩ := World.cells?_some h1
      obtain ⟨y0, y1, y2, k', -, -, t0, t1, t2⟩ := Go.Deep.trod_struct3 Tryz.underlying73 h2
      simp only [hc1, hc2] at t0 t1 t2
      match cs', hlen with
      | [v0, v1, v2], _ =>
        have e0 := hcell 0 (by omega)
        have e1 := hcell 1 (by omega)
        have e2 := hcell 2 (by omega)
        rw [Go.Deep.add_add] at e0 e1 e2
        obtain ⟨z0, q0, _, w0⟩ := DataW.trod_int Tryz.underlying5 t0
        obtain ⟨z1, q1, _, w1⟩ := DataW.trod_int Tryz.underlying5 t1
        obtain ⟨x0, rfl⟩ := u8_natU w0
        obtain ⟨x1, rfl⟩ := u8_natU w1
        obtain ⟨l, hl2⟩ := open_byU (v := v2) (by simpa using t2)
        have q0' : v0 = .int .u8 (x0.toNat : Int) := by simpa using q0
        have q1' : v1 = .int .u8 (x1.toNat : Int) := by simpa using q1
        subst q0' q1'
        exact ⟨⟨x0, x1, l⟩, by simpa [by8] using e0, by simpa [by8] using e1, v2, by simpa using e2, hl2⟩
    obtain ⟨z, hz⟩ := Go.Deep.choose_lt num
    refine ⟨(List.range len').map z, some a, cap', by simp, by simp; omega, hm, fun h0 => ?_⟩
    simp only [List.length_map, List.length_range] at h0 ⊢
    obtain ⟨b, off, spot⟩ := a
    have hspot : spot = none := by simpa [Addr.add] using World.cell?_spot (hz 0 (by omega)).1
    subst hspot
    refine ⟨b, off, rfl, fun i hi' => ?_⟩
    have := hz i (by omega)
    unfold w_otU at this
    rw [add_none, add_none, add_none] at this
    simpa [Nat.add_assoc] using this
theorem array13 {α : Type} {cs : Array α} (h : cs.size = 13) : ∃ c0 c1 c2 c3 c4 c5 c6 c7 c8 c9 c10 c11 c12, cs = #[c0, c1, c2, c3, c4, c5, c6, c7, c8, c9, c10, c11, c12] := by
  obtain ⟨l⟩ := cs
  match l, h with
  | [c0, c1, c2, c3, c4, c5, c6, c7, c8, c9, c10, c11, c12], _ => exact ⟨c0, c1, c2, c3, c4, c5, c6, c7, c8, c9, c10, c11, c12, rfl⟩
set_option maxRecDepth 100000 in
theorem open_agU {H : Type} {enc : TypeId × Value → H} {W : World} {base : Nat} {v : Value} {d : DataW H} {p : List MemPlace} (hv : Value.okWide Tryz.prog W .any base 33 v)
    (h : DataW.Trod enc Tryz.prog W 0 (fun _ => true) true 33 v d p) : ∃ a pv cv qv ov, v = .agg (Ax.agg a pv cv qv ov) ∧ Atp W a pv cv qv ov := by
  have hc0 : Tryz.prog.cellsOf 23 = 1 := by kernel_rfl
  have hc1 : Tryz.prog.cellsOf 5 = 1 := by kernel_rfl
  have hc2 : Tryz.prog.cellsOf 25 = 1 := by kernel_rfl
  have hc3 : Tryz.prog.cellsOf 26 = 1 := by kernel_rfl
  have hc4 : Tryz.prog.cellsOf 29 = 2 := by kernel_rfl
  have hc5 : Tryz.prog.cellsOf 30 = 1 := by kernel_rfl
  have hc6 : Tryz.prog.cellsOf 31 = 1 := by kernel_rfl
  have hc7 : Tryz.prog.cellsOf 27 = 1 := by kernel_rfl
  obtain ⟨cs, rfl, hsz⟩ := okWide_struct Tryz.underlying33 hv
  obtain ⟨c0, c1, c2, c3, c4, c5, c6, c7, c8, c9, c10, c11, c12, rfl⟩ := array13 (hsz.trans (by kernel_rfl))
  obtain ⟨fuel, hf⟩ := h
  obtain ⟨xs, n, _, _, _, hlen, hf⟩ := DataW.trod_struct Tryz.underlying33 hf
  match xs, hlen with
  | [y0, y1, y2, y3, y4, y5, y6, y7, y8, y9, y10], _ =>
    have f0 := hf 0 _ rfl
    have f1 := hf 1 _ rfl
    have f2 := hf 2 _ rfl
    have f3 := hf 3 _ rfl
    have f4 := hf 4 _ rfl
    have f5 := hf 5 _ rfl
    have f6 := hf 6 _ rfl
    have f7 := hf 7 _ rfl
    have f8 := hf 8 _ rfl
    have f9 := hf 9 _ rfl
    have f10 := hf 10 _ rfl
    clear hf
    simp [Value.cells, hc0, hc1, hc2, hc3, hc4, hc5, hc6] at f0 f1 f2 f3 f4 f5 f6 f7 f8 f9 f10
    obtain ⟨z0, e0, _, w0⟩ := DataW.trod_int Tryz.underlying23 f0
    obtain ⟨z1, e1, _, w1⟩ := DataW.trod_int Tryz.underlying5 f1
    obtain ⟨l2, h2⟩ := open_ptsU f2
    obtain ⟨z3, e3, _, w3⟩ := DataW.trod_int Tryz.underlying26 f3
    obtain ⟨z4, e4, _, w4⟩ := DataW.trod_int Tryz.underlying23 f4
    obtain ⟨z5, e5, _, w5⟩ := DataW.trod_int Tryz.underlying23 f5
    obtain ⟨u0, u1, n6, _, _, g0, g1⟩ := trod_struct2 Tryz.underlying29 f6
    obtain ⟨l7, h7⟩ := open_asU Tryz.underlying30 Tryz.underlying23 hc0 f7
    obtain ⟨l8, h8⟩ := open_ptsU f8
    obtain ⟨u2, u3, n9, _, _, g2, g3⟩ := trod_struct2 Tryz.underlying29 f9
    obtain ⟨l10, h10⟩ := open_otsU f10
    simp [hc7, hc3] at g0 g1 g2 g3
    obtain ⟨z6, e6, _, w6⟩ := DataW.trod_int Tryz.underlying27 g0
    obtain ⟨z7, e7, _, w7⟩ := DataW.trod_int Tryz.underlying26 g1
    obtain ⟨z8, e8, _, w8⟩ := DataW.trod_int Tryz.underlying27 g2
    obtain ⟨z9, e9, _, w9⟩ := DataW.trod_int Tryz.underlying26 g3
    simp only [List.cons.injEq, and_true] at e0 e1 e3 e4 e5 e6 e7 e8 e9
    subst e0 e1 e3 e4 e5 e6 e7 e8 e9
    obtain ⟨x0, rfl, k0⟩ := u32_natU w0
    obtain ⟨x1, rfl⟩ := u8_natU w1
    obtain ⟨x3, rfl, k3⟩ := u32_natU w3
    obtain ⟨x4, rfl, k4⟩ := u32_natU w4
    obtain ⟨x5, rfl, k5⟩ := u32_natU w5
    obtain ⟨x6, rfl, k6⟩ := u32_natU w6
    obtain ⟨x7, rfl, k7⟩ := u32_natU w7
    obtain ⟨x8, rfl, k8⟩ := u32_natU w8
    obtain ⟨x9, rfl, k9⟩ := u32_natU w9
    exact ⟨⟨x0, x1, l2, x3, x4, x5, x6, x7, l7, l8, x8, x9, l10⟩, c2, c8, c9, c12, rfl, h2, h7, h8, h10, k0, k3, k4, k5, k6, k7, k8, k9⟩
end Go.Proofs.YteofbpdogmajoaaGreatDoor
