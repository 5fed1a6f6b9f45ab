
/-
  What the calls of package scroll's writer do: Fill.
-/
import Derived.Test.YthjljamngpddmaaGreatDoorY01
import Derived.Test.YthjljamngpddmaaGreatDoorY06
import Derived.Test.YthjljamngpddmaaGreatDoorY05
import Derived.Test.YthjljamngpddmaaGreatDoorTie
import Derived.Test.YthjljamngpddmaaGreatDoorCards
import Derived.LaidMore
import Derived.ChangeMaps5
import Derived.Stop.Joined
import Derived.Stop.LaidErr
import Derived.SevenTiedAt
import Derived.Lib.LaidTab
import Derived.Deep.Strs
import Derived.Deep.SlicePairs
import Derived.Test.YthjljamngpddmaaGreatDoorY02
import Derived.Deep.LoopGhost
namespace Go.Proofs.YthjljamngpddmaaGreatDoor
open Go.ChangeShapes Go.WideShapes Go.ChangeAt Go.RowKit

/-- What the rows list. -/
def laidJ : List (String × DataW Unit) := Rows.fuseNarrowRow.laid
theorem door_metJ (os : Os) (args : Array Value) : laidMetH Tryz.prog laidJ ((World.doorLaid Tryz.prog 71 os).forCall (fun _ _ => 0) ⟨#[], args, []⟩).memory :=
  laidMetH_of_parts3 (fuel := 8) (laidMet_of_run' 8 (by kernel_rfl) (by kernel_rfl)) (by kernel_rfl) (by kernel_rfl)
theorem starJ : "*" ++ "errors.errorString" = "*errors.errorString" := by decide
theorem row_ptrJ (u : TypeId) (h : Tryz.prog.typeName? 3 u = some "*errors.errorString") : u = 203 :=
  typeName_ptr_named (nm := "errors.errorString") (by rw [starJ]; kernel_rfl) (by kernel_rfl) (by decide) u (by rw [starJ]; exact h)
theorem tab_of {W : World} {x0 x1 : String × DataW Unit} {r : List (String × DataW Unit)}
    (h : laidMet Tryz.prog (x0 :: x1 :: ("internal/strconv.uint64pow10", Rows.laid_internal_strconv_uint64pow10) :: r) W) : Rdy W := by
  have h2 := laidMet.tail (laidMet.tail h)
  have hd : Rows.laid_internal_strconv_uint64pow10 (H := Unit) = Lib.tabData .u64 Lib.pow10Tab := by kernel_rfl
  rw [hd] at h2
  exact Lib.tabIs_of_head (g := 1) (t := 176) (by kernel_rfl) (by kernel_rfl) Tryz.underlying176 Tryz.underlying145 (by kernel_rfl) (by kernel_rfl) h2
theorem rdy_ofJ {W : World} {x0 x1 x3 : String × DataW Unit} {r : List (String × DataW Unit)}
    (h : laidMet Tryz.prog (x0 :: x1 :: ("internal/strconv.uint64pow10", Rows.laid_internal_strconv_uint64pow10) :: x3 :: ("strconv.ErrSyntax", Rows.laid_strconv_ErrSyntax) :: r) W) : Rdy2 W := by
  have h4 := laidMet.tail (laidMet.tail (laidMet.tail (laidMet.tail h)))
  refine ⟨tab_of h, ?_⟩
  obtain ⟨a, s, hv, _, _, _⟩ := laid_sentinel (g := 5) (ti := 93) (tp := 203) (te := 205) (ts := 9) h4 (by kernel_rfl) (by kernel_rfl) Tryz.underlying93 row_ptrJ Tryz.underlying203 Tryz.underlying205 rfl rfl Tryz.underlying9 (by kernel_rfl) (by kernel_rfl)
  exact ⟨_, _, by simpa using World.var?_cell (g := 5) (by kernel_rfl) hv 0⟩
theorem readableJ {ts : List TypeId} (h : (ts.all fun t => Tryz.prog.readableRec t && decide (t < Tryz.prog.types.size)) = true) : ∀ t ∈ ts, Tryz.prog.readableRec t = true ∧ t < Tryz.prog.types.size := fun t ht => by
  have := List.all_eq_true.1 h t ht
  simpa using this

/-- The table of brackets. -/
def bkD {H : Type} (i : Nat) : DataW H := .agg [.lit (.string (Pt.opens i)), .lit (.string (Pt.betw i)), .lit (.string (Pt.ends i))]
theorem bk_data {H : Type} : Rows.laid_consulate_path_brackets (H := H) = .agg ((List.range 5).map bkD) := by rfl
theorem str_of {s : ByteArray} {l : List UInt8} (h : l = s.data.toList) : (.string s : Value) = str l := by
  subst h
  rfl
theorem cells_of_bk {H : Type} {enc : TypeId × Value → H} {w : World} {base : Nat} {sp : Nat → Bool} {held : Bool} {fuel : Nat} {cs : List Value} {p : List MemPlace}
    (h : DataW.trod enc Tryz.prog w base sp held fuel 124 cs = some (Rows.laid_consulate_path_brackets, p)) : cs = bkc.toList := by
  rw [bk_data] at h
  have hce : Tryz.prog.cellsOf 123 = 3 := by kernel_rfl
  have hct : Tryz.prog.cellsOf 124 = 15 := by kernel_rfl
  have hc1 : Tryz.prog.cellsOf 9 = 1 := by kernel_rfl
  cases fuel with
  | zero => simp [DataW.trod] at h
  | succ fuel =>
    simp only [DataW.trod, Tryz.underlying124, hce, hct] at h
    split at h
    case isFalse => cases h
    next hl =>
    obtain ⟨xs, hm, hx⟩ := Option.map_eq_some_iff.1 h
    have hxs : xs.map (·.1) = (List.range 5).map (bkD (H := H)) := by
      have := congrArg Prod.fst hx
      simpa using this
    have key : ∀ i, i < 5 → cs[i * 3]? = some (str (Pt.opens i)) ∧ cs[i * 3 + 1]? = some (str (Pt.betw i)) ∧ cs[i * 3 + 2]? = some (str (Pt.ends i)) := fun i hi => by
      obtain ⟨b, hb, hf⟩ := Lib.mapM_at hm i i (by simp [hi])
      have h2 : (xs.map (·.1))[i]? = some b.1 := by simp [hb]
      rw [hxs] at h2
      have h3 : b.1 = bkD i := by simpa [hi] using h2.symm
      obtain ⟨y0, y1, y2, n, rfl, _, e0, e1, e2⟩ := Go.Deep.trod_struct3 Tryz.underlying123 hf
      obtain ⟨z0, q0, r0, _⟩ := DataW.trod_string Tryz.underlying9 e0
      obtain ⟨z1, q1, r1, _⟩ := DataW.trod_string Tryz.underlying9 e1
      obtain ⟨z2, q2, r2, _⟩ := DataW.trod_string Tryz.underlying9 e2
      subst r0 r1 r2
      simp only [bkD, DataW.agg.injEq, List.cons.injEq, DataW.lit.injEq, Lit.string.injEq, and_true] at h3
      obtain ⟨g0, g1, g2⟩ := h3
      simp only [hc1] at q0 q1 q2
      refine ⟨?_, ?_, ?_⟩
      · have := congrArg (·[0]?) q0
        rw [← str_of g0.symm]
        simpa [List.getElem?_take, List.getElem?_drop] using this
      · have := congrArg (·[0]?) q1
        rw [← str_of g1.symm]
        simpa [List.getElem?_take, List.getElem?_drop] using this
      · have := congrArg (·[0]?) q2
        rw [← str_of g2.symm]
        simpa [List.getElem?_take, List.getElem?_drop] using this
    apply List.ext_getElem?
    intro j
    by_cases hj : j < 15
    · have k := key (j / 3) (by omega)
      have s := bk_cells (j / 3) (by omega)
      rw [← Array.getElem?_toList, ← Array.getElem?_toList, ← Array.getElem?_toList] at s
      obtain e | e | e : j = j / 3 * 3 ∨ j = j / 3 * 3 + 1 ∨ j = j / 3 * 3 + 2 := by omega
      · rw [e, k.1, s.1]
      · rw [e, k.2.1, s.2.1]
      · rw [e, k.2.2, s.2.2]
    · rw [List.getElem?_eq_none (by omega), List.getElem?_eq_none (by have : bkc.toList.length = 15 := rfl; omega)]
theorem bkt_of {W : World} {r : List (String × DataW Unit)} (h : laidMet Tryz.prog (("consulate/path.brackets", Rows.laid_consulate_path_brackets) :: r) W) : Bkt W := by
  obtain ⟨ps, ⟨g', t', cs, fuel, p, q, hg', ht', hvar, hd, _, _⟩, _⟩ := h
  obtain rfl := Option.some.inj ((show Tryz.prog.globalNamed "consulate/path.brackets" = some 0 by kernel_rfl).symm.trans hg')
  obtain rfl := Option.some.inj ((show (Tryz.prog.globals[0]?).map (·.type) = some 124 by kernel_rfl).symm.trans ht')
  have hcs := cells_of_bk hd
  have e : cs = bkc := by cases cs; simp only at hcs; rw [hcs]
  subst e
  unfold World.var? at hvar
  rw [hg'] at hvar
  simp only [Option.bind_some] at hvar
  split at hvar
  next c t fr hh =>
    injection hvar with hvar
    subst hvar
    exact ⟨t, fr, hh⟩
  next => cases hvar
theorem rdyJ {W : World} (h : laidMetH Tryz.prog laidJ W) : Rdy2 W ∧ Bkt W := by
  rw [MakeChecks.laidMetH_plain _ _ _ (by kernel_rfl)] at h
  exact ⟨rdy_ofJ h, bkt_of (laidMet.tail (laidMet.tail (laidMet.tail (laidMet.tail (laidMet.tail h)))))⟩

set_option maxRecDepth 100000 in
theorem open_as1 {H : Type} {enc : TypeId × Value → H} {W : World} {n : Nat} {v : Value} {y : DataW H × List MemPlace}
    (hf : DataW.trod enc Tryz.prog W 0 (fun _ => true) true n 70 [v] = some y) : ∃ l, As W v l := by
  rcases open_ints Tryz.underlying70 Tryz.underlying54 (by kernel_rfl) hf with ⟨hcs, hx⟩ | ⟨a, len', cap', zs, hcs, _, hl, hm, hz, hx, hcell, hwz⟩
  · obtain rfl : v = _ := by simpa using hcs
    exact ⟨[], As.nil W⟩
  · obtain rfl : v = _ := by simpa using hcs
    simp only [if_true] at hz
    have hr : ∀ z ∈ zs, 0 ≤ z ∧ z ≤ 4294967295 := fun z hz' => by
      have hw := hwz z hz'
      simpa [Lit.wf, IntKind.min, IntKind.max, IntKind.signed, IntKind.bits] using hw
    have hlen : ((zs.take len').map (fun z => z.toNat)).length = len' := by rw [List.length_map, List.length_take]; omega
    refine ⟨(zs.take len').map (fun z => z.toNat), fun n hn => ?_, some a, cap', by rw [hlen], by rw [hlen]; exact hl, hm, by rw [length_ass, Nat.mul_one], (fun h => by cases h), fun a' ha j u hu => ?_, fun u hu => ?_⟩
    · obtain ⟨z, hz', rfl⟩ := List.mem_map.1 hn
      have := hr z (List.mem_of_mem_take hz')
      omega
    · injection ha with ha
      subst ha
      have hj : j < len' := by
        have := (List.getElem?_eq_some_iff.1 hu).1
        rwa [length_ass, hlen] at this
      have hzj : zs[j]? = some (zs[j]'(by omega)) := List.getElem?_eq_getElem (by omega)
      have hc := hcell j (by omega)
      have h1 := hr (zs[j]'(by omega)) (List.getElem_mem _)
      rw [hc, ← hu]
      unfold ass
      rw [List.getElem?_map, List.getElem?_map, List.getElem?_take_of_lt hj, hzj]
      simp only [Option.map_some, List.getD_eq_getElem?_getD, hzj, Option.getD_some, Option.some.injEq, Value.int.injEq, true_and]
      omega
    · unfold ass at hu
      obtain ⟨b, _, rfl⟩ := List.mem_map.1 hu
      rfl
def w_seg (W : World) (a : Addr) (i : Nat) (z : Seg) : Prop := W.cell? (a.add (i * 2)) = some (by8 z.1) ∧ ∃ u, W.cell? (a.add (i * 2 + 1)) = some u ∧ As W u z.2
set_option maxRecDepth 100000 in
theorem open_pts {H : Type} {enc : TypeId × Value → H} {W : World} {base : Nat} {v : Value} {d : DataW H} {p : List MemPlace} (hv : Value.okWide Tryz.prog W .any base 23 v)
    (h : DataW.Trod enc Tryz.prog W 0 (fun _ => true) true 23 v d p) : ∃ l, Pts W v l := by
  obtain ⟨a0, len, cap, rfl⟩ := okWide_slice Tryz.underlying23 hv
  obtain ⟨fuel, hf⟩ := h
  rcases Go.Deep.open_slice_pairs Tryz.underlying23 Tryz.underlying72 (by kernel_rfl) rfl rfl (by kernel_rfl) (by kernel_rfl) hf with ⟨hcs, hx⟩ | ⟨a, len', cap', m, n, V0, V1, D0, D1, P0, P1, hcs, _, hl, hm, hmm, hx, hi⟩
  · simp [Value.cells] at hcs
    obtain ⟨rfl, rfl, rfl⟩ := hcs
    exact ⟨[], Pts.nil W⟩
  · simp [Value.cells] at hcs
    obtain ⟨rfl, rfl, rfl⟩ := hcs
    simp only [if_true] at hmm
    have num : ∀ i, i < m → ∃ z : Seg, w_seg W a i z := fun i hi' => by
      obtain ⟨h0, h1, t0, t1⟩ := hi i hi'
      obtain ⟨z0, e0, _, w0⟩ := DataW.trod_int Tryz.underlying5 t0
      injection e0 with e0
      rw [e0] at h0
      obtain ⟨l, hl⟩ := open_as1 t1
      have hr : 0 ≤ z0 ∧ z0 ≤ 255 := by simpa [Lit.wf, IntKind.min, IntKind.max, IntKind.signed, IntKind.bits] using w0
      refine ⟨(UInt8.ofNat z0.toNat, l), ?_, _, h1, hl⟩
      rw [h0]
      unfold by8
      have : ((UInt8.ofNat z0.toNat).toNat : Int) = z0 := by rw [UInt8.toNat_ofNat']; omega
      rw [this]
    obtain ⟨z, hz⟩ := Go.Deep.choose_lt num
    refine ⟨(List.range len).map z, some a, cap, by simp, by simp; omega, hm, fun h0 => ?_⟩
    simp only [List.length_map, List.length_range] at h0 ⊢
    obtain ⟨b, off, spot⟩ := a
    have hspot : spot = none := by simpa [Addr.add] using World.cell?_spot (hz 0 (by omega)).1
    subst hspot
    refine ⟨b, off, rfl, fun i hi' => ?_⟩
    have := hz i (by omega)
    unfold w_seg at this
    rw [add_none, add_none] at this
    simpa [Nat.add_assoc] using this
end Go.Proofs.YthjljamngpddmaaGreatDoor
namespace Go.Proofs.YthjljamngpddmaaGreatDoor
open Go.RowKit

structure WS where
  l : List UInt8
  hs : List (Nat × Nat)
  e : Int

namespace WS
def note (s : WS) (x : Int) : WS := if s.e = 0 then { s with e := x } else s
def lay (s : WS) (b : List UInt8) : WS := if s.e = 0 then { s with l := s.l ++ b } else s
def hold (s : WS) (n : Int) : WS :=
  if n = 1 ∨ n = 2 then (if s.e = 0 then { s with l := s.l ++ List.replicate n.toNat 0, hs := s.hs ++ [(n.toNat, s.l.length + n.toNat)] } else s) else s.note 1
/-- The last w bytes ahead of place b tell n. -/
def tell (l : List UInt8) (b n : Nat) : Nat → List UInt8
  | 0 => l
  | i + 1 => (tell l b n i).set (b - 1 - i) (UInt8.ofNat (n / 256 ^ i))
def fill (s : WS) : WS :=
  if s.e = 0 then
    match s.hs.getLast? with
    | none => s.note 26
    | some h => if 256 ^ h.1 ≤ s.l.length - h.2 then s.note 3 else { s with l := tell s.l h.2 (s.l.length - h.2) h.1, hs := s.hs.dropLast }
  else s
def done (s : WS) : List UInt8 × Int := if s.e = 0 then (if s.hs = [] then (s.l, 0) else ([], 26)) else ([], s.e)
def ok (s : WS) : Prop := (∀ h ∈ s.hs, (h.1 = 1 ∨ h.1 = 2) ∧ h.1 ≤ h.2 ∧ h.2 ≤ s.l.length) ∧ s.l.length ≤ 1099511627776 ∧ s.hs.length ≤ 1099511627776
theorem note_ok {s : WS} (h : s.ok) (x : Int) : (s.note x).ok := by unfold note; split <;> exact h
theorem lay_ok {s : WS} (h : s.ok) {b : List UInt8} (hb : s.l.length + b.length ≤ 1099511627776) : (s.lay b).ok := by
  unfold lay
  split
  · refine ⟨fun x hx => ?_, by simpa using hb, h.2.2⟩
    have := h.1 x hx
    refine ⟨this.1, this.2.1, ?_⟩
    simp only [List.length_append]
    omega
  · exact h
theorem length_tell (l : List UInt8) (b n i : Nat) : (tell l b n i).length = l.length := by
  induction i with
  | zero => rfl
  | succ i ih => simp [tell, ih]
theorem hold_ok {s : WS} (h : s.ok) {n : Int} (hb : s.l.length + 2 ≤ 1099511627776) (hd : s.hs.length < 1099511627776) : (s.hold n).ok := by
  unfold hold
  split
  · next hn =>
    split
    · have hn' : n.toNat = 1 ∨ n.toNat = 2 := by omega
      refine ⟨fun x hx => ?_, by simp; omega, by simp; omega⟩
      rcases List.mem_append.1 hx with hx | hx
      · have := h.1 x hx
        refine ⟨this.1, this.2.1, ?_⟩
        simp only [List.length_append, List.length_replicate]
        omega
      · obtain rfl := List.mem_singleton.1 hx
        refine ⟨hn', by simp, ?_⟩
        simp
    · exact h
  · exact note_ok h _
theorem fill_ok {s : WS} (h : s.ok) : s.fill.ok := by
  unfold fill
  split
  · split
    · exact note_ok h _
    · split
      · exact note_ok h _
      · refine ⟨fun x hx => ?_, by simpa [length_tell] using h.2.1, by simp; have := h.2.2; omega⟩
        simp only [length_tell]
        exact h.1 x (List.dropLast_subset _ hx)
  · exact h
end WS

/-- The cells of holds. -/
def hcs (l : List (Nat × Nat)) : List Value := l.flatMap fun h => [.int .i64 (h.1 : Int), .int .i64 (h.2 : Int)]
theorem length_hcs (l : List (Nat × Nat)) : (hcs l).length = l.length * 2 := by
  induction l with
  | nil => rfl
  | cons a r ih => simp only [hcs, List.flatMap_cons, List.length_append, List.length_cons, List.length_nil] at ih ⊢; omega

/-- The blocks that a writer is made of. -/
def wown (p : Nat) (bv hv : Value) : Nat → Prop := fun k => k = p ∨ bv.ownBlock = some k ∨ hv.ownBlock = some k

/-- At block p lies a writer that Lay made, and it is s; it is made of the blocks F. -/
def Wr (w : World) (F : Nat → Prop) (p : Nat) (s : WS) : Prop :=
  ∃ bv hv, F = wown p bv hv ∧ Blk w p 116 #[.bool true, bv, hv, .int .i64 s.e] ∧
    w.ownsRow 0 5 1 bv s.l.length (bys s.l) ∧ w.ownsRow 0 220 2 hv s.hs.length (hcs s.hs) ∧ s.ok

/-- Blocks of F' are of F, or new. -/
def Sub (w : World) (F' F : Nat → Prop) : Prop := ∀ k, F' k → F k ∨ w.heap.size ≤ k
theorem Sub.refl (w : World) (F : Nat → Prop) : Sub w F F := fun _ h => .inl h
theorem Sub.trans {w w1 : World} {F F1 F2 : Nat → Prop} (h : Sub w F1 F) (k : Sub w1 F2 F1) (hz : w.heap.size ≤ w1.heap.size) : Sub w F2 F := fun i hi => by
  rcases k i hi with h1 | h1
  · exact h i h1
  · exact .inr (by omega)
theorem Kept.sub {w w1 w2 : World} {F F1 : Nat → Prop} (h : Kept F w w1) (hs : Sub w F1 F) (k : Kept F1 w1 w2) : Kept F w w2 :=
  h.trans_new k (fun i hi x => by rcases hs i x with y | y; exact y; omega)

theorem own_lt {w : World} {base : Nat} {e : TypeId} {size n : Nat} {v : Value} {xs : List Value} (h : w.ownsRow base e size v n xs) {g : Nat} (hg : v.ownBlock = some g) : ∃ cs, w.heap[g]? = some (.cells cs e (0, 0)) := by
  rcases h.2 with ⟨rfl, _⟩ | ⟨g', cap, cur, rfl, _, hh, _⟩
  · simp [Value.ownBlock] at hg
  · have : g' = g := by simpa [Value.ownBlock] using hg
    subst this
    exact ⟨cur, hh⟩
/-- What kinds of blocks a writer is made of. -/
theorem Wr.kinds {w : World} {F : Nat → Prop} {p : Nat} {s : WS} (h : Wr w F p s) {k : Nat} (hk : F k) : ∃ cs t, w.heap[k]? = some (.cells cs t (0, 0)) ∧ (t = 116 ∨ t = 5 ∨ t = 220) := by
  obtain ⟨bv, hv, rfl, hb, h1, h2, _⟩ := h
  rcases hk with rfl | hk | hk
  · exact ⟨_, _, hb, .inl rfl⟩
  · obtain ⟨cs, hcs⟩ := own_lt h1 hk; exact ⟨cs, _, hcs, .inr (.inl rfl)⟩
  · obtain ⟨cs, hcs⟩ := own_lt h2 hk; exact ⟨cs, _, hcs, .inr (.inr rfl)⟩
theorem Wr.lt {w : World} {F : Nat → Prop} {p : Nat} {s : WS} (h : Wr w F p s) {k : Nat} (hk : F k) : k < w.heap.size := by
  obtain ⟨cs, t, hh, _⟩ := h.kinds hk
  exact (Array.getElem?_eq_some_iff.1 hh).1
theorem Wr.ok {w : World} {F : Nat → Prop} {p : Nat} {s : WS} (h : Wr w F p s) : s.ok := by obtain ⟨_, _, _, _, _, _, h⟩ := h; exact h
theorem own_kept {S : Nat → Prop} {w w' : World} {base : Nat} {e : TypeId} {size n : Nat} {v : Value} {xs : List Value} (h : w.ownsRow base e size v n xs) (k : Kept S w w') (hs : ∀ g, v.ownBlock = some g → ¬ S g) : w'.ownsRow base e size v n xs := by
  obtain ⟨h1, h2⟩ := h
  refine ⟨h1, ?_⟩
  rcases h2 with h2 | ⟨g, cap, cur, rfl, hb, hh, r⟩
  · exact .inl h2
  · exact .inr ⟨g, cap, cur, rfl, hb, (k.block g (Array.getElem?_eq_some_iff.1 hh).1 (hs g rfl)).trans hh, r⟩
theorem Wr.kept {S F : Nat → Prop} {w w' : World} {p : Nat} {s : WS} (h : Wr w F p s) (k : Kept S w w') (hs : ∀ g, F g → ¬ S g) : Wr w' F p s := by
  obtain ⟨bv, hv, rfl, hb, h1, h2, h3⟩ := h
  exact ⟨bv, hv, rfl, hb.kept k (hs _ (.inl rfl)), own_kept h1 k (fun g hg => hs g (.inr (.inl hg))), own_kept h2 k (fun g hg => hs g (.inr (.inr hg))), h3⟩
theorem Wr.drewN {F : Nat → Prop} {w : World} {p : Nat} {s : WS} (h : Wr w F p s) (n : Nat) : Wr (w.drewN n) F p s := h.kept ((Kept.refl Nothing w).drewN n) (fun _ _ x => x)
/-- Behind a store of the error. -/
theorem Wr.put3 {F : Nat → Prop} {w : World} {p : Nat} {s : WS} (h : Wr w F p s) (x : Int) : Wr (w.setCell ⟨p, 3, none⟩ (.int .i64 x)) F p { s with e := x } ∧ Kept F w (w.setCell ⟨p, 3, none⟩ (.int .i64 x)) := by
  obtain ⟨bv, hv, rfl, hb, h1, h2, h3⟩ := h
  have k := Kept.own w p 3 (.int .i64 x)
  have nb : ∀ g, bv.ownBlock = some g → ¬ Only p g := fun g hg e => by
    obtain ⟨cs, hh⟩ := own_lt h1 hg
    exact hb.apart (t' := 5) hh (by decide) e.symm
  have nh : ∀ g, hv.ownBlock = some g → ¬ Only p g := fun g hg e => by
    obtain ⟨cs, hh⟩ := own_lt h2 hg
    exact hb.apart (t' := 220) hh (by decide) e.symm
  exact ⟨⟨bv, hv, rfl, hb.put 3 _, own_kept h1 k nb, own_kept h2 k nh, h3⟩, k.mono (fun _ e => .inl e)⟩
theorem cells4 {w : World} {p : Nat} {t : TypeId} {a b c d : Value} (h : Blk w p t #[a, b, c, d]) :
    (w.cell? ⟨p, 0, none⟩ = some a ∧ w.cell? ⟨p, 1, none⟩ = some b ∧ w.cell? ⟨p, 2, none⟩ = some c ∧ w.cell? ⟨p, 3, none⟩ = some d) ∧
    (w.frozen? ⟨p, 1, none⟩ = false ∧ w.frozen? ⟨p, 2, none⟩ = false ∧ w.frozen? ⟨p, 3, none⟩ = false) :=
  ⟨⟨h.cell 0, h.cell 1, h.cell 2, h.cell 3⟩, h.free 1, h.free 2, h.free 3⟩
theorem own_form {w : World} {base : Nat} {e : TypeId} {size n : Nat} {v : Value} {xs : List Value} (h : w.ownsRow base e size v n xs) : ∃ A c, v = .slice A n c ∧ n ≤ c ∧ c ≤ maxLen := by
  rcases h.2 with ⟨rfl, rfl⟩ | ⟨g, cap, cur, rfl, _, _, hn, hm, _⟩
  · exact ⟨none, 0, rfl, Nat.le_refl _, by simp [maxLen]⟩
  · exact ⟨_, cap, rfl, hn, hm⟩
end Go.Proofs.YthjljamngpddmaaGreatDoor
namespace Go.Proofs.YthjljamngpddmaaGreatDoor
open Go.RowKit

theorem wr_err (p : Nat) (F : Nat → Prop) (s : WS) (w : World) (h : Wr w F p s) :
    Calls Tryz.prog 75 #[.pointer (some ⟨p, 0, none⟩)] w fun r w' => r = .returned (.int .i64 s.e) ∧ w = w' := by
  obtain ⟨bv, hv, _, hb, _⟩ := h
  obtain ⟨⟨h0, -, -, h3⟩, -⟩ := cells4 hb
  clear hb
  go_enter Tryz.func75, Tryz.ntmps75
  go_wp2
  go_ret
  exact ⟨rfl, rfl⟩

theorem wr_lay (w : World) :
    Calls Tryz.prog 44 #[] w fun r w' => ∃ p F, r = .returned (.pointer (some ⟨p, 0, none⟩)) ∧ Wr w' F p ⟨[], [], 0⟩ ∧ Kept Nothing w w' ∧ Sub w F Nothing := by
  go_enter Tryz.func44, Tryz.ntmps44
  go_wp2
  go_ret
  refine ⟨w.heap.size, _, rfl, ⟨.slice none 0 0, .slice none 0 0, rfl, Blk.fresh w _ _, World.ownsRow_nil _ _ _ _, World.ownsRow_nil _ _ _ _, ⟨(fun _ h => by cases h), Nat.zero_le _, Nat.zero_le _⟩⟩, (Kept.refl _ w).alloc _, fun k hk => ?_⟩
  rcases hk with rfl | hk | hk
  · exact .inr (Nat.le_refl _)
  · simp [Value.ownBlock] at hk
  · simp [Value.ownBlock] at hk

/-- Behind append's store of the bytes. -/
theorem Wr.put1 {F : Nat → Prop} {w w1 : World} {p : Nat} {s : WS} {bv hv bv' : Value} {l : List UInt8} (hF : F = wown p bv hv) (hb : Blk w p 116 #[.bool true, bv, hv, .int .i64 s.e])
    (h1 : w.ownsRow 0 5 1 bv s.l.length (bys s.l)) (h2 : w.ownsRow 0 220 2 hv s.hs.length (hcs s.hs)) (hok : WS.ok { s with l := l })
    {n : Nat} {xs : List Value} (hn : n = l.length) (hx : xs = bys l) (ho : w1.ownsRow 0 5 1 bv' n xs) (hg : w.grownBy w1 bv.ownBlock) (hat : bv'.ownBlock = bv.ownBlock ∨ bv'.ownBlock = some w.heap.size) :
    ∃ F', Wr (w1.setCell ⟨p, 1, none⟩ bv') F' p { s with l := l } ∧ Kept F w (w1.setCell ⟨p, 1, none⟩ bv') ∧ Sub w F' F := by
  subst hF hn hx
  have kg : Kept (fun k => bv.ownBlock = some k) w w1 := (Kept.refl _ w).grown hg (fun k hk _ => hk)
  have nb : ∀ g, bv.ownBlock = some g → g ≠ p := fun g hg => by
    obtain ⟨cs, hh⟩ := own_lt h1 hg
    exact (hb.apart (t' := 5) hh (by decide)).symm
  have hb1 := hb.kept kg (fun e => nb p e rfl)
  have h21 := own_kept h2 kg (fun g hg e => by
    obtain ⟨cs, hh⟩ := own_lt h2 hg
    obtain ⟨cs', hh'⟩ := own_lt h1 e
    rw [hh] at hh'
    injection hh' with hh'
    injection hh' with _ ht
    exact absurd ht (by decide))
  have k1 := Kept.own w1 p 1 bv'
  refine ⟨wown p bv' hv, ⟨bv', hv, rfl, hb1.put 1 _, own_kept ho k1 (fun g hg e => ?_), own_kept h21 k1 (fun g hg e => ?_), hok⟩, ?_, ?_⟩
  · obtain ⟨cs, hh⟩ := own_lt ho hg
    exact hb1.apart (t' := 5) hh (by decide) e.symm
  · obtain ⟨cs, hh⟩ := own_lt h21 hg
    exact hb1.apart (t' := 220) hh (by decide) e.symm
  · exact (kg.mono (fun k hk => .inr (.inl hk))).trans (k1.mono (fun k e => .inl e))
  · intro k hk
    rcases hk with hk | hk | hk
    · exact .inl (.inl hk)
    · rcases hat with h | h
      · rw [h] at hk; exact .inl (.inr (.inl hk))
      · rw [h] at hk
        injection hk with hk
        exact .inr (by omega)
    · exact .inl (.inr (.inr hk))

theorem Wr.stays {w w1 : World} {p : Nat} {bv : Value} {l : List UInt8} {cs : Array Value} (hb : Blk w p 116 cs) (h1 : w.ownsRow 0 5 1 bv l.length (bys l)) (hg : w.grownBy w1 bv.ownBlock) : Blk w1 p 116 cs :=
  hb.kept ((Kept.refl (fun k => bv.ownBlock = some k) w).grown hg (fun k hk _ => hk)) (fun e => by
    obtain ⟨cs', hh⟩ := own_lt h1 e
    exact hb.apart (t' := 5) hh (by decide) rfl)

theorem wr_byte (p : Nat) (F : Nat → Prop) (s : WS) (v : Value) (l : List UInt8) (w : World) (h : Wr w F p s) (hv : By w v l) (hl : s.l.length + l.length ≤ 1099511627776) :
    Calls Tryz.prog 72 #[.pointer (some ⟨p, 0, none⟩), v] w fun r w' => ∃ F', r = .returned (.pointer (some ⟨p, 0, none⟩)) ∧ Wr w' F' p (s.lay l) ∧ Kept F w w' ∧ Sub w F' F := by
  have hE := Lib.hid (wr_err p F s w h)
  have HR := Lib.hid h
  by_cases he : s.e = 0
  · have HOK := Lib.hid (WS.lay_ok h.ok hl)
    have HF : Hid (s.lay l = { s with l := s.l ++ l }) := if_pos he
    have hn : (s.e == 0) = true := by simpa using he
    rw [HF.out] at HOK ⊢
    obtain ⟨bv, hw, hFF, hb, h1, h2, hok⟩ := h
    obtain ⟨⟨-, c1, -, -⟩, f1, -, -⟩ := cells4 hb
    obtain ⟨A, c, rfl, _, _⟩ := hv.form
    obtain ⟨A0, cc0, rfl, _, _⟩ := own_form h1
    have HS := Lib.hid hv.src
    have H1 := Lib.hid h1
    have H2 := Lib.hid h2
    have HB := Lib.hid hb
    have HFF := Lib.hid hFF
    obtain ⟨i0, hi, hz0, hz1, hz2⟩ := info_parts u8_info
    have HL : Hid (s.l.length + l.length ≤ maxLen ∧ (s.l.length + l.length) * 1 ≤ 140737488355328) := ⟨by unfold maxLen; omega, by omega⟩
    clear HF he hv h1 h2 hb hFF hok HR
    go_enter Tryz.func72, Tryz.ntmps72
    go_wp2_with (first
      | (go_at_call 75; refine (hE.out).mono ?_; rintro e w' ⟨rfl, rfl⟩)
      | (at_builtin; refine wpList_app _ rfl _ _ 28 rfl 0 5 i0 (.int .u8 0) 1 1 Tryz.underlying28 hi hz0 hz1 hz2 rfl (by decide) (.slice A0 s.l.length cc0) s.l.length (bys s.l) rfl H1.out A l.length c (bys l) rfl HS.out HL.out.1 HL.out.2 (Nat.zero_le _) ?_; intro v' w1 hown hg hat; (have HO := Lib.hid hown); (have HG := Lib.hid hg); (have HA := Lib.hid hat); (obtain ⟨⟨-, d1, -, -⟩, g1, -, -⟩ := cells4 (Wr.stays HB.out H1.out hg)); (obtain ⟨A2, cc2, rfl, _, _⟩ := own_form hown); clear hown hg hat))
    go_ret
    obtain ⟨F', a1, a2, a3⟩ := Wr.put1 HFF.out HB.out H1.out H2.out HOK.out List.length_append.symm (bys_append _ _).symm HO.out HG.out HA.out
    exact ⟨F', rfl, a1, a2, a3⟩
  · have hn : (s.e == 0) = false := by simpa using he
    have HF : Hid (s.lay l = s) := if_neg he
    rw [HF.out]
    clear HF he hv
    go_enter Tryz.func72, Tryz.ntmps72
    go_wp2_with (go_at_call 75; refine (hE.out).mono ?_; rintro e w' ⟨rfl, rfl⟩)
    go_ret
    exact ⟨F, rfl, HR.out, Kept.refl _ _, Sub.refl _ _⟩
end Go.Proofs.YthjljamngpddmaaGreatDoor
namespace Go.Proofs.YthjljamngpddmaaGreatDoor
open Go.RowKit

theorem hold_info : (Tryz.prog.info? 220).map (fun i => (i.zero, i.size, i.bytes)) = some (some (.agg #[.int .i64 0, .int .i64 0]), 2, 16) := by kernel_rfl
theorem make1 : ∀ w : World, (Instr.makeSlice 28 (.int .i64 1) (.int .i64 1)).run Tryz.prog w = .ok (.slice (some ⟨w.heap.size, 0, none⟩) 1 1) (w.alloc (.cells #[.int .u8 0] 5)) := fun _ => by kernel_rfl
theorem make2 : ∀ w : World, (Instr.makeSlice 28 (.int .i64 2) (.int .i64 2)).run Tryz.prog w = .ok (.slice (some ⟨w.heap.size, 0, none⟩) 2 2) (w.alloc (.cells #[.int .u8 0, .int .u8 0] 5)) := fun _ => by kernel_rfl

theorem hcs_append (a b : List (Nat × Nat)) : hcs (a ++ b) = hcs a ++ hcs b := List.flatMap_append

/-- Behind append's store of the holds. -/
theorem Wr.put2 {F : Nat → Prop} {w w1 : World} {p : Nat} {s : WS} {bv hv hv' : Value} {hs : List (Nat × Nat)} (hF : F = wown p bv hv) (hb : Blk w p 116 #[.bool true, bv, hv, .int .i64 s.e])
    (h1 : w.ownsRow 0 5 1 bv s.l.length (bys s.l)) (h2 : w.ownsRow 0 220 2 hv s.hs.length (hcs s.hs)) (hok : WS.ok { s with hs := hs })
    {n : Nat} {xs : List Value} (hn : n = hs.length) (hx : xs = hcs hs) (ho : w1.ownsRow 0 220 2 hv' n xs) (kg : Kept (fun k => hv.ownBlock = some k) w w1) (hat : hv'.ownBlock = hv.ownBlock ∨ ∃ g, hv'.ownBlock = some g ∧ w.heap.size ≤ g) :
    ∃ F', Wr (w1.setCell ⟨p, 2, none⟩ hv') F' p { s with hs := hs } ∧ Kept F w (w1.setCell ⟨p, 2, none⟩ hv') ∧ Sub w F' F := by
  subst hF hn hx
  have nb : ∀ g, hv.ownBlock = some g → g ≠ p := fun g hg => by
    obtain ⟨cs, hh⟩ := own_lt h2 hg
    exact (hb.apart (t' := 220) hh (by decide)).symm
  have hb1 := hb.kept kg (fun e => nb p e rfl)
  have h11 := own_kept h1 kg (fun g hg e => by
    obtain ⟨cs, hh⟩ := own_lt h1 hg
    obtain ⟨cs', hh'⟩ := own_lt h2 e
    rw [hh] at hh'
    injection hh' with hh'
    injection hh' with _ ht
    exact absurd ht (by decide))
  have k1 := Kept.own w1 p 2 hv'
  refine ⟨wown p bv hv', ⟨bv, hv', rfl, hb1.put 2 _, own_kept h11 k1 (fun g hg e => ?_), own_kept ho k1 (fun g hg e => ?_), hok⟩, ?_, ?_⟩
  · obtain ⟨cs, hh⟩ := own_lt h11 hg
    exact hb1.apart (t' := 5) hh (by decide) e.symm
  · obtain ⟨cs, hh⟩ := own_lt ho hg
    exact hb1.apart (t' := 220) hh (by decide) e.symm
  · exact (kg.mono (fun k hk => .inr (.inr hk))).trans (k1.mono (fun k e => .inl e))
  · intro k hk
    rcases hk with hk | hk | hk
    · exact .inl (.inl hk)
    · exact .inl (.inr (.inl hk))
    · rcases hat with h | ⟨g, h, hg⟩
      · rw [h] at hk; exact .inl (.inr (.inr hk))
      · rw [h] at hk
        injection hk with hk
        exact .inr (by omega)
theorem Wr.staysH {w w1 : World} {p : Nat} {hv : Value} {hs : List (Nat × Nat)} {cs : Array Value} (hb : Blk w p 116 cs) (h1 : w.ownsRow 0 220 2 hv hs.length (hcs hs)) (kg : Kept (fun k => hv.ownBlock = some k) w w1) : Blk w1 p 116 cs :=
  hb.kept kg (fun e => by
    obtain ⟨cs', hh⟩ := own_lt h1 e
    exact hb.apart (t' := 220) hh (by decide) rfl)

theorem Bs.made {w : World} {b : Nat} {l : List UInt8} {cs : Array Value} (h : Blk w b 5 cs) (hl : cs.toList = bys l) (hm : l.length ≤ maxLen) : Bs w (.slice (some ⟨b, 0, none⟩) l.length l.length) l :=
  ⟨_, _, rfl, Nat.le_refl _, hm, fun _ => ⟨b, 0, cs, _, rfl, h, fun i hi => by rw [Nat.zero_add, ← getD_bys l i hi, ← hl, Array.getElem?_toList]⟩⟩

theorem cells_src {w : World} {b : Nat} {t : TypeId} {cs : Array Value} (h : Blk w b t cs) {size m : Nat} (hl : cs.size = m * size) (h1 : ∀ u ∈ cs.toList, u.oneCell' = true) : Src w size (some ⟨b, 0, none⟩) m cs.toList := by
  refine ⟨by simpa using hl, (fun h => by cases h), fun a ha j u hu => ?_, h1⟩
  injection ha with ha
  subst ha
  rw [add_none, Nat.zero_add, h.cell j, ← hu, Array.getElem?_toList]
theorem src_new2 (w : World) (t : TypeId) (a b : Value) (ha : a.oneCell' = true) (hb : b.oneCell' = true) : Src (w.alloc (.cells #[a, b] t)).drew 2 (some ⟨w.heap.size, 0, none⟩) 1 [a, b] :=
  cells_src (cs := #[a, b]) (Blk.fresh w t #[a, b]).drew rfl (by intro u hu; simp at hu; rcases hu with rfl | rfl <;> assumption)

theorem Sub.less {S F F' : Nat → Prop} {w w1 : World} (k : Kept S w w1) (h : Sub w1 F' F) : Sub w F' F := fun i hi => (h i hi).imp (fun x => x) (fun x => Nat.le_trans k.size x)

theorem WS.hold_eq {s : WS} (he : s.e = 0) {n : Nat} (hn : n = 1 ∨ n = 2) : s.hold (n : Int) = { s with l := s.l ++ List.replicate n 0, hs := s.hs ++ [(n, s.l.length + n)] } := by
  unfold WS.hold
  rw [if_pos (by omega), if_pos he]
  simp

end Go.Proofs.YthjljamngpddmaaGreatDoor
namespace Go.Proofs.YthjljamngpddmaaGreatDoor
open Go.RowKit

theorem own_open {w : World} {base e size : Nat} {v : Value} {n : Nat} {xs : List Value} (h : w.ownsRow base e size v n xs) (h0 : 0 < n) :
    ∃ g cap cur, v = .slice (some ⟨g, 0, none⟩) n cap ∧ Blk w g e cur ∧ n ≤ cap ∧ cap ≤ maxLen ∧ cur.size = cap * size ∧ cur.toList.take (n * size) = xs := by
  rcases h.2 with ⟨rfl, h2⟩ | ⟨g, cap, cur, rfl, _, hh, hn, hm, hs, ht⟩
  · omega
  · exact ⟨g, cap, cur, rfl, hh, hn, hm, hs, ht⟩
theorem own_set {w : World} {e : TypeId} {g n c : Nat} {l : List UInt8} (h : w.ownsRow 0 e 1 (.slice (some ⟨g, 0, none⟩) n c) n (bys l)) {j : Nat} (hj : j < n) (b : UInt8) :
    (w.setCell ⟨g, j, none⟩ (by8 b)).ownsRow 0 e 1 (.slice (some ⟨g, 0, none⟩) n c) n (bys (l.set j b)) := by
  obtain ⟨g', cap, cur, hv, hb, hn, hm, hs, ht⟩ := own_open h (by omega)
  injection hv with h1 h2 h3
  injection h1 with h1
  injection h1 with h1
  subst h1 h3
  have hlen := h.1
  rw [length_bys] at hlen
  refine ⟨by rw [length_bys, List.length_set]; exact hlen, .inr ⟨g, c, _, rfl, Nat.zero_le _, hb.put j _, hn, hm, by simpa using hs, ?_⟩⟩
  unfold bys at ht ⊢
  rw [List.map_set, ← ht, Array.toList_setIfInBounds, List.take_set]

theorem by8_of {x : Int} {m : Nat} (h : x = ((m % 256 : Nat) : Int)) : (.int .u8 x : Value) = by8 (UInt8.ofNat m) := by
  unfold by8
  rw [h, UInt8.toNat_ofNat']

theorem own_shrink {w : World} {base e size g n c : Nat} {xs : List Value} (h : w.ownsRow base e size (.slice (some ⟨g, 0, none⟩) n c) n xs) {m : Nat} (hm : m ≤ n) :
    w.ownsRow base e size (.slice (some ⟨g, 0, none⟩) m c) m (xs.take (m * size)) := by
  rcases h.2 with ⟨h1, _⟩ | ⟨g', cap, cur, hv, hb, hh, hn, hx, hs, ht⟩
  · cases h1
  · injection hv with h1 h2 h3
    injection h1 with h1
    injection h1 with h1
    subst h1 h3
    have hle : m * size ≤ n * size := Nat.mul_le_mul_right _ hm
    refine ⟨by rw [List.length_take, h.1]; omega, .inr ⟨g, c, cur, rfl, hb, hh, by omega, hx, hs, ?_⟩⟩
    rw [← ht, List.take_take, Nat.min_eq_left hle]

/-- Behind Fill's stores. -/
theorem Wr.put_fill {F : Nat → Prop} {w W : World} {p g c q c2 : Nat} {l l' : List UInt8} {hs : List (Nat × Nat)} {x : Nat × Nat} (hF : F = wown p (.slice (some ⟨g, 0, none⟩) l.length c) (.slice (some ⟨q, 0, none⟩) (hs ++ [x]).length c2))
    (hb : Blk W p 116 #[.bool true, .slice (some ⟨g, 0, none⟩) l.length c, .slice (some ⟨q, 0, none⟩) (hs ++ [x]).length c2, .int .i64 0])
    (hl : l'.length = l.length) (h1 : W.ownsRow 0 5 1 (.slice (some ⟨g, 0, none⟩) l.length c) l.length (bys l'))
    (h2 : W.ownsRow 0 220 2 (.slice (some ⟨q, 0, none⟩) (hs ++ [x]).length c2) (hs ++ [x]).length (hcs (hs ++ [x]))) (hok : WS.ok ⟨l', hs, 0⟩) (hk : Kept F w W) :
    ∃ F', Wr (W.setCell ⟨p, 2, none⟩ (.slice (some ⟨q, 0, none⟩) hs.length c2)) F' p ⟨l', hs, 0⟩ ∧ Kept F w (W.setCell ⟨p, 2, none⟩ (.slice (some ⟨q, 0, none⟩) hs.length c2)) ∧ Sub w F' F := by
  rw [← hl] at hF hb h1
  have h3 := own_shrink h2 (m := hs.length) (by simp)
  rw [hcs_append, ← length_hcs, List.take_left] at h3
  obtain ⟨F', a1, a2, a3⟩ := Wr.put2 (s := ⟨l', hs ++ [x], 0⟩) (hs := hs) hF hb h1 h2 hok rfl rfl h3 (Kept.refl _ W) (.inl rfl)
  exact ⟨F', a1, hk.sub (Sub.refl _ _) a2, fun k hk2 => (a3 k hk2).imp (fun x => x) (fun x => Nat.le_trans hk.size x)⟩

end Go.Proofs.YthjljamngpddmaaGreatDoor
