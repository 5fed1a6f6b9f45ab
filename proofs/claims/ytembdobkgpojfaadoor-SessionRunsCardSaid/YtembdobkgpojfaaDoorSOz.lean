
/-
  From a law of package session to the given card: what the listed variables give, arguments opened.
-/
import Derived.Test.YtembdobkgpojfaaDoorLaw
import Derived.Test.YtembdobkgpojfaaDoorSMw
import Derived.Test.YtembdobkgpojfaaDoorTie
import Derived.Test.YtembdobkgpojfaaDoorCards
import Derived.LaidMore
import Derived.ChangeMaps5
import Derived.Stop.Joined
import Derived.Stop.LaidErr
import Derived.SevenTiedAt
import Derived.Lib.LaidTab
import Derived.Deep.Slices
import Derived.Deep.Strs
namespace Go.Proofs.YtembdobkgpojfaaDoor
open Go.ChangeShapes Go.WideShapes Go.ChangeAt Go.RowKit

/-- What the rows list. -/
def laidS : List (String × DataW Unit) := Rows.sessionRunsRow.laid
theorem door_metS (os : Os) (args : Array Value) : laidMetH Tryd.prog laidS ((World.doorLaid Tryd.prog 52 os).forCall (fun _ _ => 0) ⟨#[], args, []⟩).memory :=
  laidMetH_of_parts3 (fuel := 8) (laidMet_of_run' 8 (by kernel_rfl) (by kernel_rfl)) (by kernel_rfl) (by kernel_rfl)
theorem readableS {ts : List TypeId} (h : (ts.all fun t => Tryd.prog.readableRec t && decide (t < Tryd.prog.types.size)) = true) : ∀ t ∈ ts, Tryd.prog.readableRec t = true ∧ t < Tryd.prog.types.size := fun t ht => by
  have := List.all_eq_true.1 h t ht
  simpa using this
set_option maxRecDepth 100000 in
theorem cells_of_flt {H : Type} {enc : TypeId × Value → H} {w : World} {base : Nat} {sp : Nat → Bool} {held : Bool} {fuel : Nat} {cs : List Value} {p : List MemPlace} {a b : Int}
    (h : DataW.trod enc Tryd.prog w base sp held fuel 28 cs = some (.agg [.lit (.int .u8 a), .lit (.int .u8 b)], p)) : cs = [.int .u8 a, .int .u8 b] := by
  have hct : Tryd.prog.cellsOf 28 = 2 := by kernel_rfl
  have hc1 : Tryd.prog.cellsOf 5 = 1 := by kernel_rfl
  obtain ⟨xs, n, _, hx, hl, hlen, hf⟩ := DataW.trod_struct Tryd.underlying28 h
  match xs, hlen with
  | [y0, y1], _ =>
    have h0 := hf 0 _ rfl
    have h1 := hf 1 _ rfl
    injection hx with hx _
    have hx' : (.agg [.lit (.int .u8 a), .lit (.int .u8 b)] : DataW H) = .agg [y0.1, y1.1] := hx
    simp only [DataW.agg.injEq, List.cons.injEq, and_true] at hx'
    rw [hct] at hl
    match cs, hl with
    | [c0, c1], _ =>
      simp [hc1] at h0 h1
      obtain ⟨z0, e0, r0, w0⟩ := DataW.trod_int Tryd.underlying5 h0
      obtain ⟨z1, e1, r1, w1⟩ := DataW.trod_int Tryd.underlying5 h1
      simp only [List.cons.injEq, and_true] at e0 e1
      subst e0 e1
      have q0 := hx'.1
      have q1 := hx'.2
      rw [r0] at q0
      rw [r1] at q1
      simp only [DataW.lit.injEq, Lit.int.injEq, true_and] at q0 q1
      subst q0 q1
      rfl
theorem flt_of {W : World} {nm : String} {g : Nat} {a b : Int} {r : List (String × DataW Unit)} (h : laidMet Tryd.prog ((nm, .agg [.lit (.int .u8 a), .lit (.int .u8 b)]) :: r) W) (h1 : Tryd.prog.globalNamed nm = some g) (h2 : (Tryd.prog.globals[g]?).map (·.type) = some 28) :
    W.cell? ⟨g, 0, none⟩ = some (.int .u8 a) ∧ W.cell? ⟨g, 1, none⟩ = some (.int .u8 b) := by
  obtain ⟨ps, ⟨g', t', cs, fuel, p, q, hg', ht', hvar, hd, _, _⟩, _⟩ := h
  obtain rfl := Option.some.inj (h1.symm.trans hg')
  obtain rfl := Option.some.inj (h2.symm.trans ht')
  have hcs := cells_of_flt hd
  have e : cs = #[.int .u8 a, .int .u8 b] := by cases cs; simp only at hcs; rw [hcs]
  subst e
  unfold World.var? at hvar
  rw [hg'] at hvar
  simp only [Option.bind_some] at hvar
  split at hvar
  next c t fr hh =>
    injection hvar with hvar
    subst hvar
    exact ⟨cell_of_row W _ 0 _ t fr hh, cell_of_row W _ 1 _ t fr hh⟩
  next => cases hvar
theorem rdS_of_laid {W : World} (h : laidMetH Tryd.prog laidS W) : RdS W := by
  rw [MakeChecks.laidMetH_plain _ _ _ (by kernel_rfl)] at h
  have hl : laidS = [("consulate/session.badType", .agg [.lit (.int .u8 1), .lit (.int .u8 3)]), ("consulate/session.badHold", .agg [.lit (.int .u8 2), .lit (.int .u8 6)]), ("consulate/session.expired", .agg [.lit (.int .u8 4), .lit (.int .u8 0)]), ("consulate/session.shutdown", .agg [.lit (.int .u8 6), .lit (.int .u8 2)])] := by kernel_rfl
  rw [hl] at h
  have h1 := laidMet.tail h
  have h2 := laidMet.tail h1
  have h3 := laidMet.tail h2
  exact ⟨flt_of h (g := 1) (by kernel_rfl) (by kernel_rfl), flt_of h1 (g := 2) (by kernel_rfl) (by kernel_rfl), flt_of h2 (g := 6) (by kernel_rfl) (by kernel_rfl), flt_of h3 (g := 5) (by kernel_rfl) (by kernel_rfl)⟩

theorem u8_natS {n : Int} (h : (Lit.int .u8 n).wf = true) : ∃ x : Nat, n = x ∧ x < 256 := by
  have hr : 0 ≤ n ∧ n ≤ 255 := by simpa [Lit.wf, IntKind.min, IntKind.max, IntKind.signed, IntKind.bits] using h
  exact ⟨n.toNat, by omega, by omega⟩
theorem weightsAll_mem {H : Type} {P : Program} {e : TypeId} {b : Nat} : ∀ {l : List (DataW H)}, (DataW.weightsAll P e l).all (· ≤ b) = true → ∀ x ∈ l, (x.weights P e).all (· ≤ b) = true
  | [], _, x, hx => by cases hx
  | d :: r, h, x, hx => by
    unfold DataW.weightsAll at h
    rw [List.all_append, Bool.and_eq_true] at h
    rcases List.mem_cons.1 hx with rfl | hx
    · exact h.1
    · exact weightsAll_mem h.2 x hx
set_option maxRecDepth 100000 in
/-- A slice of bytes that was read, and its size. -/
theorem open_byS {H : Type} {enc : TypeId × Value → H} {W : World} {n : Nat} {v : Value} {y : DataW H × List MemPlace}
    (hf : DataW.trod enc Tryd.prog W 0 (fun _ => true) true n 29 [v] = some y) (hw : (y.1.weights Tryd.prog 29).all (· ≤ reachBytes) = true) : ∃ dA dn dc l, v = .slice dA dn dc ∧ By W (.slice dA dn dc) l ∧ l.length ≤ 140737488355328 := by
  have hby : Tryd.prog.bytesOf 5 = 1 := by kernel_rfl
  rcases open_ints Tryd.underlying29 Tryd.underlying5 (by kernel_rfl) hf with ⟨hcs, hx⟩ | ⟨a, len', cap', zs, hcs, _, hl, hm, hz, hx, hcell, hwz⟩
  · obtain rfl : v = _ := by simpa using hcs
    exact ⟨none, 0, 0, [], rfl, (Bs.nil W).by, by simp⟩
  · obtain rfl : v = _ := by simpa using hcs
    simp only [if_true] at hz
    have hlen : ((zs.take len').map (fun z => UInt8.ofNat z.toNat)).length = len' := by rw [List.length_map, List.length_take]; omega
    refine ⟨some a, len', cap', (zs.take len').map (fun z => UInt8.ofNat z.toNat), rfl, ⟨some a, cap', ?_, ?_, hm, ?_⟩, ?_⟩
    · rw [hlen]
    · omega
    · refine ⟨by rw [length_bys, Nat.mul_one], (fun h => by cases h), fun a' ha j u hu => ?_, fun u hu => ?_⟩
      · injection ha with ha
        subst ha
        have hj : j < len' := by
          have := (List.getElem?_eq_some_iff.1 hu).1
          rwa [length_bys, hlen] at this
        have hzj : zs[j]? = some (zs[j]'(by omega)) := List.getElem?_eq_getElem (by omega)
        have hc := hcell j (by omega)
        have hw := hwz (zs[j]'(by omega)) (List.getElem_mem _)
        have hr : 0 ≤ zs[j]'(by omega) ∧ zs[j]'(by omega) ≤ 255 := by simpa [Lit.wf, IntKind.min, IntKind.max, IntKind.signed, IntKind.bits] using hw
        rw [hc, ← hu]
        unfold bys by8
        rw [List.getElem?_map, List.getElem?_map, List.getElem?_take_of_lt hj, hzj]
        simp only [Option.map_some, List.getD_eq_getElem?_getD, hzj, Option.getD_some, UInt8.toNat_ofNat', Option.some.injEq, Value.int.injEq, true_and]
        omega
      · unfold bys at hu
        obtain ⟨b, _, rfl⟩ := List.mem_map.1 hu
        rfl
    · rw [hlen]
      rw [hx] at hw
      unfold DataW.weights at hw
      rw [Tryd.underlying29] at hw
      simp only [List.all_cons, Bool.and_eq_true, decide_eq_true_eq, hby] at hw
      have h1 := hw.1
      simp only [lits, List.length_map, List.length_take, List.length_drop, reachBytes] at h1
      omega
def w_evS (W : World) (a : Addr) (i : Nat) (z : EvB) : Prop := z.2.length ≤ 140737488355328 ∧ (z.1.what < 256 ∧ z.1.code < 256 ∧ z.1.sub < 256) ∧ ∃ dA dn dc, By W (.slice dA dn dc) z.2 ∧ W.cell? (a.add (i * 6)) = some (.int .i64 z.1.kind) ∧ W.cell? (a.add (i * 6 + 1)) = some (.int .u8 z.1.what) ∧ W.cell? (a.add (i * 6 + 2)) = some (.int .i64 z.1.hold) ∧
  W.cell? (a.add (i * 6 + 3)) = some (.int .u8 z.1.code) ∧ W.cell? (a.add (i * 6 + 4)) = some (.int .u8 z.1.sub) ∧ W.cell? (a.add (i * 6 + 5)) = some (.slice dA dn dc)
instance : Inhabited EvB := ⟨(⟨0, 0, 0, 0, 0⟩, [])⟩
set_option maxRecDepth 100000 in
set_option maxHeartbeats 1000000 in
theorem open_evsS {H : Type} {enc : TypeId × Value → H} {W : World} {base : Nat} {v : Value} {d : DataW H} {p : List MemPlace} (hv : Value.okWide Tryd.prog W .any base 22 v)
    (h : DataW.Trod enc Tryd.prog W 0 (fun _ => true) true 22 v d p) (hw : (d.weights Tryd.prog 22).all (· ≤ reachBytes) = true) : ∃ l, Evs W v l ∧ ∀ p ∈ l, p.1.what < 256 ∧ p.1.code < 256 ∧ p.1.sub < 256 := by
  obtain ⟨a0, len, cap, rfl⟩ := okWide_slice Tryd.underlying22 hv
  obtain ⟨fuel, hf⟩ := h
  have hce : Tryd.prog.cellsOf 31 = 6 := by kernel_rfl
  have hc1 : Tryd.prog.cellsOf 3 = 1 := by kernel_rfl
  have hc2 : Tryd.prog.cellsOf 5 = 1 := by kernel_rfl
  have hc3 : Tryd.prog.cellsOf 2 = 1 := by kernel_rfl
  have hc4 : Tryd.prog.cellsOf 28 = 2 := by kernel_rfl
  have hc5 : Tryd.prog.cellsOf 29 = 1 := by kernel_rfl
  rcases Go.Deep.open_slice Tryd.underlying22 hf with ⟨hcs, hx⟩ | ⟨a, len', cap', m, n, D, Pl, hcs, _, hl, hm, hmm, hx, hi⟩
  · simp [Value.cells] at hcs
    obtain ⟨rfl, rfl, rfl⟩ := hcs
    exact ⟨[], ⟨none, 0, rfl, by simp [maxLen], (fun p hp => by cases hp), fun h => absurd h (by simp)⟩, fun p hp => by cases hp⟩
  · simp [Value.cells] at hcs
    obtain ⟨rfl, rfl, rfl⟩ := hcs
    simp only [if_true] at hmm
    have hd : d = .slice ((List.range len).map D) ((List.range (m - len)).map fun j => D (len + j)) := congrArg Prod.fst hx
    rw [hd] at hw
    unfold DataW.weights at hw
    rw [Tryd.underlying22] at hw
    simp only [List.all_cons, Bool.and_eq_true, List.all_append] at hw
    have hwD : ∀ i, i < len → ((D i).weights Tryd.prog 31).all (· ≤ reachBytes) = true := fun i hi => weightsAll_mem hw.2.1 _ (List.mem_map.2 ⟨i, List.mem_range.2 hi, rfl⟩)
    clear hw hd hx
    have num : ∀ i, i < len → ∃ z : EvB, w_evS W a i z := fun i hi' => by
      obtain ⟨cs', h1, h2⟩ := hi i (by omega)
      have hwi := hwD i hi'
      rw [hce] at h1
      obtain ⟨_, hlen, hcell⟩ := World.cells?_some h1
      obtain ⟨xs, k', _, hx, _, hlx, hfs⟩ := DataW.trod_struct Tryd.underlying31 h2
      match xs, hlx, cs', hlen with
      | [y0, y1, y2, y3, y4], _, [v0, v1, v2, v3, v4, v5], _ =>
        have t0 := hfs 0 _ rfl
        have t1 := hfs 1 _ rfl
        have t2 := hfs 2 _ rfl
        have t3 := hfs 3 _ rfl
        have t4 := hfs 4 _ rfl
        simp [hc1, hc2, hc3, hc4, hc5] at t0 t1 t2 t3 t4
        obtain ⟨z0, q0, _, w0⟩ := DataW.trod_int Tryd.underlying3 t0
        obtain ⟨z1, q1, _, w1⟩ := DataW.trod_int Tryd.underlying5 t1
        obtain ⟨z2, q2, _, w2⟩ := DataW.trod_int Tryd.underlying2 t2
        obtain ⟨ys, n3, _, _, _, hly, hft⟩ := DataW.trod_struct Tryd.underlying28 t3
        match ys, hly with
        | [u0, u1], _ =>
          have s0 := hft 0 _ rfl
          have s1 := hft 1 _ rfl
          simp [hc2] at s0 s1
          obtain ⟨z3, q3, _, w3⟩ := DataW.trod_int Tryd.underlying5 s0
          obtain ⟨z4, q4, _, w4⟩ := DataW.trod_int Tryd.underlying5 s1
          have hD : D i = .agg [y0.1, y1.1, y2.1, y3.1, y4.1] := congrArg Prod.fst hx
          have hw4 : (y4.1.weights Tryd.prog 29).all (· ≤ reachBytes) = true := by
            rw [hD] at hwi
            unfold DataW.weights at hwi
            rw [Tryd.underlying31] at hwi
            simp only [List.map_cons, List.map_nil, DataW.weightsEach, List.all_append, Bool.and_eq_true] at hwi
            exact hwi.2.2.2.2.1
          obtain ⟨dA, dn, dc, l, rfl, hby, hln⟩ := open_byS t4 hw4
          simp only [List.cons.injEq, and_true] at q0 q1 q2 q3 q4
          subst q0 q1 q2 q3 q4
          have c0 := hcell 0 (by simp)
          have c1 := hcell 1 (by simp)
          have c2 := hcell 2 (by simp)
          have c3 := hcell 3 (by simp)
          have c4 := hcell 4 (by simp)
          have c5 := hcell 5 (by simp)
          rw [Go.Deep.add_add] at c0 c1 c2 c3 c4 c5
          obtain ⟨x1, rfl, l1⟩ := u8_natS w1
          obtain ⟨x3, rfl, l3⟩ := u8_natS w3
          obtain ⟨x4, rfl, l4⟩ := u8_natS w4
          exact ⟨(⟨z0, x1, z2, x3, x4⟩, l), hln, ⟨l1, l3, l4⟩, dA, dn, dc, hby, by simpa using c0, by simpa using c1, by simpa using c2, by simpa using c3, by simpa using c4, by simpa using c5⟩
    obtain ⟨z, hz⟩ := Go.Deep.choose_lt num
    refine ⟨(List.range len).map z, ⟨some a, cap, by simp, by simp; omega, fun p hp => ?_, fun h0 => ?_⟩, fun p hp => ?_⟩
    rotate_left 2
    · obtain ⟨i, hi', rfl⟩ := List.mem_map.1 hp
      exact (hz i (List.mem_range.1 hi')).2.1
    · obtain ⟨i, hi', rfl⟩ := List.mem_map.1 hp
      exact (hz i (List.mem_range.1 hi')).1
    simp only [List.length_map, List.length_range] at h0
    obtain ⟨b, off, spot⟩ := a
    obtain ⟨_, _, _, _, _, _, k0, _⟩ := hz 0 h0
    have hspot : spot = none := by simpa [Addr.add] using World.cell?_spot k0
    subst hspot
    refine ⟨b, off, rfl, fun i hi' => ?_⟩
    have hi2 : i < len := by simpa using hi'
    have hg : ((List.range len).map z)[i] = z i := by simp
    obtain ⟨_, _, dA, dn, dc, h0, h1, h2, h3, h4, h5, h6⟩ := hz i hi2
    rw [hg]
    rw [add_none] at h1 h2 h3 h4 h5 h6
    exact ⟨dA, dn, dc, h0, h1, by simpa [Nat.add_assoc] using h2, by simpa [Nat.add_assoc] using h3, by simpa [Nat.add_assoc] using h4, by simpa [Nat.add_assoc] using h5, by simpa [Nat.add_assoc] using h6⟩
end Go.Proofs.YtembdobkgpojfaaDoor
