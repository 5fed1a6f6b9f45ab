
/-
  From the law NoticeTexts to the given card: what the listed variables give, arguments opened (printed by wip/gen_mz.py).
-/
import Derived.Test.YtdhbfhjlholnlaaGreatDoorLaw
import Derived.Test.YtdhbfhjlholnlaaGreatDoorMf
import Derived.Test.YtdhbfhjlholnlaaGreatDoorTie
import Derived.Test.YtdhbfhjlholnlaaGreatDoorCards
import Derived.LaidMore
import Derived.ChangeMaps5
import Derived.Stop.Joined
import Derived.Stop.LaidErr
import Derived.SevenTiedAt
import Derived.Lib.LaidTab
import Derived.Lib.SmallJoins
import Derived.ChangeArms
namespace Go.Proofs.YtdhbfhjlholnlaaGreatDoor
open Go.ChangeShapes Go.WideShapes Go.ChangeAt Go.RowKit

/-- What the row lists. -/
def laidM : List (String × DataW Unit) := Rows.noticeTextsRow.laid
theorem door_metM (os : Os) (args : Array Value) : laidMetH Tryz.prog laidM ((World.doorLaid Tryz.prog 77 os).forCall (fun _ _ => 0) ⟨#[], args, []⟩).memory :=
  laidMetH_of_parts3 (fuel := 8) (laidMet_of_run' 8 (by kernel_rfl) (by kernel_rfl)) (by kernel_rfl) (by kernel_rfl)
theorem starM : "*" ++ "errors.errorString" = "*errors.errorString" := by decide
theorem row_ptrM (u : TypeId) (h : Tryz.prog.typeName? 3 u = some "*errors.errorString") : u = 205 :=
  typeName_ptr_named (nm := "errors.errorString") (by rw [starM]; kernel_rfl) (by kernel_rfl) (by decide) u (by rw [starM]; exact h)
theorem rdy_ofM {W : World} {x0 x1 x3 : String × DataW Unit} {r : List (String × DataW Unit)}
    (h : laidMet Tryz.prog (x0 :: x1 :: ("internal/strconv.uint64pow10", Rows.laid_internal_strconv_uint64pow10) :: x3 :: ("strconv.ErrSyntax", Rows.laid_strconv_ErrSyntax) :: r) W) : Rdy2 W := by
  have h2 := laidMet.tail (laidMet.tail h)
  have h4 := laidMet.tail (laidMet.tail h2)
  have hd : Rows.laid_internal_strconv_uint64pow10 (H := Unit) = Lib.tabData .u64 Lib.pow10Tab := by kernel_rfl
  rw [hd] at h2
  refine ⟨Lib.tabIs_of_head (g := 5) (t := 155) (by kernel_rfl) (by kernel_rfl) Tryz.underlying155 Tryz.underlying32 (by kernel_rfl) (by kernel_rfl) h2, ?_⟩
  obtain ⟨a, s, hv, _, _, _⟩ := laid_sentinel (g := 3) (ti := 71) (tp := 205) (te := 207) (ts := 9) h4 (by kernel_rfl) (by kernel_rfl) Tryz.underlying71 row_ptrM Tryz.underlying205 Tryz.underlying207 rfl rfl Tryz.underlying9 (by kernel_rfl) (by kernel_rfl)
  exact ⟨_, _, by simpa using World.var?_cell (g := 3) (by kernel_rfl) hv 0⟩
theorem readableM {ts : List TypeId} (h : (ts.all fun t => Tryz.prog.readableRec t && decide (t < Tryz.prog.types.size)) = true) : ∀ t ∈ ts, Tryz.prog.readableRec t = true ∧ t < Tryz.prog.types.size := fun t ht => by
  have := List.all_eq_true.1 h t ht
  simpa using this

theorem nm_data {H : Type} : Rows.laid_consulate_notice_names (H := H) = .agg ((List.range 6).map fun i => .lit (.string (Nt.name i))) := by rfl
theorem str_ofM {s : ByteArray} {l : List UInt8} (h : l = s.data.toList) : (.string s : Value) = .string ⟨l.toArray⟩ := by
  subst h
  rfl
theorem cells_of_nm {H : Type} {enc : TypeId × Value → H} {w : World} {base : Nat} {sp : Nat → Bool} {held : Bool} {fuel : Nat} {cs : List Value} {p : List MemPlace}
    (h : DataW.trod enc Tryz.prog w base sp held fuel 69 cs = some (Rows.laid_consulate_notice_names, p)) : cs = nmc.toList := by
  rw [nm_data] at h
  have hct : Tryz.prog.cellsOf 69 = 6 := by kernel_rfl
  have hc1 : Tryz.prog.cellsOf 9 = 1 := by kernel_rfl
  cases fuel with
  | zero => simp [DataW.trod] at h
  | succ fuel =>
    simp only [DataW.trod, Tryz.underlying69, hc1, hct] at h
    split at h
    case isFalse => cases h
    next hl =>
    obtain ⟨xs, hm, hx⟩ := Option.map_eq_some_iff.1 h
    have hxs : xs.map (·.1) = (List.range 6).map (fun i => (.lit (.string (Nt.name i)) : DataW H)) := by
      have := congrArg Prod.fst hx
      simpa using this
    have key : ∀ i, i < 6 → cs[i]? = some (.string ⟨(Nt.name i).toArray⟩) := fun i hi => by
      obtain ⟨b, hb, hf⟩ := Lib.mapM_at hm i i (by simp [hi])
      have h2 : (xs.map (·.1))[i]? = some b.1 := by simp [hb]
      rw [hxs] at h2
      have h3 : b.1 = .lit (.string (Nt.name i)) := by simpa [hi] using h2.symm
      obtain ⟨z0, q0, r0, _⟩ := DataW.trod_string Tryz.underlying9 hf
      rw [r0] at h3
      simp only [DataW.lit.injEq, Lit.string.injEq] at h3
      have := congrArg (·[0]?) q0
      rw [← str_ofM h3.symm]
      simpa [List.getElem?_take, List.getElem?_drop] using this
    have hn : cs.length = 6 := by simpa using hl
    match cs, hn, key with
    | [c0, c1, c2, c3, c4, c5], _, key =>
      have k0 := key 0 (by omega)
      have k1 := key 1 (by omega)
      have k2 := key 2 (by omega)
      have k3 := key 3 (by omega)
      have k4 := key 4 (by omega)
      have k5 := key 5 (by omega)
      obtain rfl := Option.some.inj (show some c0 = some _ from k0)
      obtain rfl := Option.some.inj (show some c1 = some _ from k1)
      obtain rfl := Option.some.inj (show some c2 = some _ from k2)
      obtain rfl := Option.some.inj (show some c3 = some _ from k3)
      obtain rfl := Option.some.inj (show some c4 = some _ from k4)
      obtain rfl := Option.some.inj (show some c5 = some _ from k5)
      rfl
theorem nms_of {W : World} {r : List (String × DataW Unit)} (h : laidMet Tryz.prog (("consulate/notice.names", Rows.laid_consulate_notice_names) :: r) W) : Nms W := by
  obtain ⟨ps, ⟨g', t', cs, fuel, p, q, hg', ht', hvar, hd, _, _⟩, _⟩ := h
  obtain rfl := Option.some.inj ((show Tryz.prog.globalNamed "consulate/notice.names" = some 0 by kernel_rfl).symm.trans hg')
  obtain rfl := Option.some.inj ((show (Tryz.prog.globals[0]?).map (·.type) = some 69 by kernel_rfl).symm.trans ht')
  have hcs := cells_of_nm hd
  have e : cs = nmc := by cases cs; simp only at hcs; rw [hcs]
  subst e
  unfold World.var? at hvar
  rw [hg'] at hvar
  simp only [Option.bind_some] at hvar
  split at hvar
  next c t fr hh =>
    injection hvar with hvar
    subst hvar
    exact ⟨t, fr, hh⟩
  next => cases hvar
set_option maxRecDepth 100000 in
theorem cells_of_un {H : Type} {enc : TypeId × Value → H} {w : World} {base : Nat} {sp : Nat → Bool} {held : Bool} {fuel : Nat} {cs : List Value} {p : List MemPlace}
    (h : DataW.trod enc Tryz.prog w base sp held fuel 59 cs = some (Rows.laid_consulate_notice_unicast, p)) : cs = unc.toList := by
  have hct : Tryz.prog.cellsOf 59 = 2 := by kernel_rfl
  have hc1 : Tryz.prog.cellsOf 37 = 1 := by kernel_rfl
  have hc2 : Tryz.prog.cellsOf 5 = 1 := by kernel_rfl
  obtain ⟨y0, y1, n, hx, hl, h0, h1⟩ := trod_struct2 Tryz.underlying59 h
  injection hx with hx _
  have hx' : (.agg [.lit (.int .u16 1), .lit (.int .u8 1)] : DataW H) = .agg [y0.1, y1.1] := hx
  simp only [DataW.agg.injEq, List.cons.injEq, and_true] at hx'
  rw [hct] at hl
  match cs, hl with
  | [c0, c1], _ =>
    simp [hc1, hc2] at h0 h1
    obtain ⟨z0, e0, r0, w0⟩ := DataW.trod_int Tryz.underlying37 h0
    obtain ⟨z1, e1, r1, w1⟩ := DataW.trod_int Tryz.underlying5 h1
    simp only [List.cons.injEq, and_true] at e0 e1
    subst e0 e1
    have q0 := hx'.1
    have q1 := hx'.2
    rw [r0] at q0
    rw [r1] at q1
    simp only [DataW.lit.injEq, Lit.int.injEq, true_and] at q0 q1
    subst q0 q1
    rfl
theorem uni_of {W : World} {r : List (String × DataW Unit)} (h : laidMet Tryz.prog (("consulate/notice.unicast", Rows.laid_consulate_notice_unicast) :: r) W) : Uni W := by
  obtain ⟨ps, ⟨g', t', cs, fuel, p, q, hg', ht', hvar, hd, _, _⟩, _⟩ := h
  obtain rfl := Option.some.inj ((show Tryz.prog.globalNamed "consulate/notice.unicast" = some 1 by kernel_rfl).symm.trans hg')
  obtain rfl := Option.some.inj ((show (Tryz.prog.globals[1]?).map (·.type) = some 59 by kernel_rfl).symm.trans ht')
  have hcs := cells_of_un hd
  have e : cs = unc := by cases cs; simp only at hcs; rw [hcs]
  subst e
  unfold World.var? at hvar
  rw [hg'] at hvar
  simp only [Option.bind_some] at hvar
  split at hvar
  next c t fr hh =>
    injection hvar with hvar
    subst hvar
    exact ⟨t, fr, hh⟩
  next => cases hvar
theorem rdyM {W : World} (h : laidMetH Tryz.prog laidM W) : Rdy2 W ∧ Nms W ∧ Uni W := by
  rw [MakeChecks.laidMetH_plain _ _ _ (by kernel_rfl)] at h
  have h6 := laidMet.tail (laidMet.tail (laidMet.tail (laidMet.tail (laidMet.tail (laidMet.tail h)))))
  exact ⟨rdy_ofM h, nms_of (laidMet.tail h6), uni_of h6⟩

theorem u8_natM {n : Int} (h : (Lit.int .u8 n).wf = true) : ∃ x : Nat, n = x ∧ x < 256 := by
  have hr : 0 ≤ n ∧ n ≤ 255 := by simpa [Lit.wf, IntKind.min, IntKind.max, IntKind.signed, IntKind.bits] using h
  exact ⟨n.toNat, by omega, by omega⟩
set_option maxRecDepth 100000 in
theorem open_faultM {H : Type} {enc : TypeId × Value → H} {W : World} {base : Nat} {v : Value} {d : DataW H} {p : List MemPlace} (hv : Value.okWide Tryz.prog W .any base 23 v)
    (h : DataW.Trod enc Tryz.prog W 0 (fun _ => true) true 23 v d p) : ∃ c s : Nat, v = .agg #[.int .u8 (c : Int), .int .u8 (s : Int)] ∧ c < 256 ∧ s < 256 := by
  obtain ⟨v0, v1, y0, y1, n, rfl, _, _, h0, h1⟩ := Joins.open_agg2 Tryz.underlying23 (by kernel_rfl) (by kernel_rfl) hv h
  obtain ⟨z0, e0, _, w0⟩ := DataW.trod_int Tryz.underlying5 h0
  obtain ⟨z1, e1, _, w1⟩ := DataW.trod_int Tryz.underlying5 h1
  injection e0 with e0
  injection e1 with e1
  subst e0 e1
  obtain ⟨c, rfl, hc⟩ := u8_natM w0
  obtain ⟨s, rfl, hs⟩ := u8_natM w1
  exact ⟨c, s, rfl, hc, hs⟩
end Go.Proofs.YtdhbfhjlholnlaaGreatDoor
