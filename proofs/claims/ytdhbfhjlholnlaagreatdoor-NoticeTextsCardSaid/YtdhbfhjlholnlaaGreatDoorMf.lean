
/-
  notice: Unicast, and what the law tells at its examples (printed by wip/gen_mf.py).
-/
import Derived.Test.YtdhbfhjlholnlaaGreatDoorMe
namespace Go.Proofs.YtdhbfhjlholnlaaGreatDoor
open Go.RowKit Go.Maps

/-- The family of plain routes. -/
def unc : Array Value := #[.int .u16 1, .int .u8 1]
def Uni (w : World) : Prop := ∃ t fr, w.heap[1]? = some (.cells unc t fr)
theorem Uni.kept {w w' : World} (h : Uni w) (k : Kept Nothing w w') : Uni w' := by
  obtain ⟨t, fr, h⟩ := h
  exact ⟨t, fr, (k.block _ (Array.getElem?_eq_some_iff.1 h).1 (fun x => x)).trans h⟩
theorem Uni.cell {w : World} (h : Uni w) (i : Nat) : w.cell? ⟨1, i, none⟩ = unc[i]? := by
  obtain ⟨t, fr, h⟩ := h
  exact cell_of_row w _ i _ t fr h
set_option maxRecDepth 100000 in
theorem n_unicast (w : World) (hu : Uni w) :
    Calls Tryz.prog 13 #[.agg #[.int .u16 1, .int .u8 1]] w fun e w' => e = .returned (.bool true) ∧ Kept Nothing w w' := by
  have k := (Kept.refl Nothing w).alloc (.cells #[.int .u16 1, .int .u8 1] 59)
  have hu1 := hu.kept k
  have x0 : (w.alloc (.cells #[.int .u16 1, .int .u8 1] 59)).cell? ⟨1, 0, none⟩ = some (.int .u16 1) := hu1.cell 0
  have x1 : (w.alloc (.cells #[.int .u16 1, .int .u8 1] 59)).cell? ⟨1, 1, none⟩ = some (.int .u8 1) := hu1.cell 1
  have y0 : (w.alloc (.cells #[.int .u16 1, .int .u8 1] 59)).cell? ⟨w.heap.size, 0, none⟩ = some (.int .u16 1) := (Blk.fresh w 59 #[.int .u16 1, .int .u8 1]).cell 0
  have y1 : (w.alloc (.cells #[.int .u16 1, .int .u8 1] 59)).cell? ⟨w.heap.size, 1, none⟩ = some (.int .u8 1) := (Blk.fresh w 59 #[.int .u16 1, .int .u8 1]).cell 1
  clear hu hu1
  go_enter Tryz.func13, Tryz.ntmps13
  go_upto_region 1 with fail
  change Code.wp _ _ _ _ (w.alloc (.cells #[.int .u16 1, .int .u8 1] 59))
  generalize w.alloc (.cells #[.int .u16 1, .int .u8 1] 59) = W at *
  go_wp2
  go_ret
  exact ⟨rfl, k⟩

theorem conv_strM {w : World} {v : Value} {l : List UInt8} (h : By w v l) : (convert 55 9 v).run Tryz.prog w = .ok (.string ⟨l.toArray⟩) w := by
  obtain ⟨A, c, rfl, _, _⟩ := h.form
  have hs := h.src
  rw [run_convert_bytes_string w _ _ 5 A l.length c Tryz.underlying55 Tryz.underlying5 Tryz.underlying9]
  cases A with
  | none =>
    obtain rfl : l = [] := List.eq_nil_of_length_eq_zero (hs.2.1 rfl)
    rfl
  | some a =>
    have hl := run_loadCells_list (P := Tryz.prog) w a (bys l) (fun j u hu => hs.2.2.1 a rfl j u hu)
    rw [length_bys] at hl
    rw [run_bytesToString w a l.length c (l.map fun b => (b.toNat : Int)) (by rw [hl]; simp [bys, by8, Function.comp_def]), foldl_push_byteCells]
    simp
theorem text_at (c s : Nat) (hc : c < 256) (hs : s < 256) {l : Array UInt8} (hl : (Nt.text c s).toArray = l) {x y : Int} (hx : (c : Int) = x) (hy : (s : Int) = y) (w : World) (hr : Rdy2 w) (hn : Nms w) :
    Calls Tryz.prog 5 #[.agg #[.int .u8 x, .int .u8 y]] w fun e w' => e = .returned (.string ⟨l⟩) ∧ Kept Nothing w w' := by
  subst hl hx hy
  exact ntext_any c s hc hs w hr hn

set_option maxRecDepth 100000 in
set_option maxHeartbeats 4000000 in
theorem n_tells (w : World) (hr : Rdy2 w) (hn : Nms w) (hu : Uni w) :
    Calls Tryz.prog 6 #[] w fun r w' => r = .returned (.bool true) ∧ Kept Nothing w w' := by
  have HR := Lib.hid hr
  have HN := Lib.hid hn
  have HU := Lib.hid hu
  clear hr hn hu
  go_enter Tryz.func6, Tryz.ntmps6
  go_wp2_with fail
  refine (nread3 _ _ (Bs.made (l := [6, 2, 7]) (Blk.fresh w 5 #[.int .u8 6, .int .u8 2, .int .u8 7]) rfl (by decide)).by).mono ?_
  rintro e w1 ⟨A5, m5, rfl, hb, hk⟩
  have K1 := Lib.hid (((Kept.refl Nothing w).alloc (.cells #[.int .u8 6, .int .u8 2, .int .u8 7] 5)).trans hk)
  clear hk
  have Z1 : Hid (Blk ((w1.alloc (.cells (msgc 0 0 0 (.slice none 0 0) 0 0) 61)).alloc (.cells nonc 57)) w1.heap.size 61 (msgc 0 0 0 (.slice none 0 0) 0 0)) := Lib.hid ((Blk.fresh w1 _ _).alloc _)
  have Z2 : Hid (Blk ((w1.alloc (.cells (msgc 0 0 0 (.slice none 0 0) 0 0) 61)).alloc (.cells nonc 57)) (w1.heap.size + 1) 57 nonc) := Lib.hid (by
    have := Blk.fresh (w1.alloc (.cells (msgc 0 0 0 (.slice none 0 0) 0 0) 61)) 57 nonc
    rwa [World.size_alloc] at this)
  have k4 : Kept Nothing w1 ((w1.alloc (.cells (msgc 0 0 0 (.slice none 0 0) 0 0) 61)).alloc (.cells nonc 57)) := ((Kept.refl Nothing w1).alloc _).alloc _
  have k5 := k4.trans_new (Kept.setRow w1.heap.size (msgc 3 6 2 (.slice A5 1 m5) 0 0)) (fun i hi (e : i = w1.heap.size) => by omega)
  have k6 := k5.trans_new (Kept.setRow (w1.heap.size + 1) nonc) (fun i hi (e : i = w1.heap.size + 1) => by omega)
  have c1 : Blk (((w1.alloc (.cells (msgc 0 0 0 (.slice none 0 0) 0 0) 61)).alloc (.cells nonc 57)).setRow w1.heap.size (msgc 3 6 2 (.slice A5 1 m5) 0 0)) w1.heap.size 61 (msgc 3 6 2 (.slice A5 1 m5) 0 0) := setRow_heap _ _ _ _ _ _ Z1.out
  have d1 := Blk.kept c1 (Kept.setRow (w1.heap.size + 1) nonc) (fun (e : w1.heap.size = w1.heap.size + 1) => by omega)
  have d2 : Blk ((((w1.alloc (.cells (msgc 0 0 0 (.slice none 0 0) 0 0) 61)).alloc (.cells nonc 57)).setRow w1.heap.size (msgc 3 6 2 (.slice A5 1 m5) 0 0)).setRow (w1.heap.size + 1) nonc) (w1.heap.size + 1) 57 nonc := setRow_heap _ _ _ _ _ _ (Z2.out.kept (Kept.setRow _ _) (fun (e : w1.heap.size + 1 = w1.heap.size) => by omega))
  have hb6 := Lib.hid (((hb.kept (((Kept.refl Nothing w1).alloc (.cells (msgc 0 0 0 (.slice none 0 0) 0 0) 61)).alloc (.cells nonc 57)) (NoBytes.nothing _)).kept (Kept.setRow w1.heap.size (msgc 3 6 2 (.slice A5 1 m5) 0 0)) (NoBytes.of_blk Z1.out (by decide))).kept (Kept.setRow (w1.heap.size + 1) nonc) (NoBytes.of_blk (Z2.out.kept (Kept.setRow _ _) (fun (e : w1.heap.size + 1 = w1.heap.size) => by omega)) (by decide)))
  have DA := Lib.hid d1
  have NA := Lib.hid d2
  have KA := Lib.hid (K1.out.trans k6)
  clear k4 k5 k6 c1 d1 d2 hb
  go_upto_region 2 with (first | (refine wpList_store_row rfl 61 _ _ rfl w1.heap.size (msgc 3 6 2 (.slice A5 1 m5) 0 0) rfl rfl 61 _ Z1.out (by kernel_rfl) rfl (rdmsg_one ..) ?_) | (refine wpList_store_row rfl 57 _ _ rfl (w1.heap.size + 1) nonc rfl rfl 57 _ (by exact Z2.out.kept (Kept.setRow _ _) (fun (e : w1.heap.size + 1 = w1.heap.size) => by omega)) (by kernel_rfl) rfl (by kernel_rfl) ?_))
  change Code.wp _ _ _ _ ((((w1.alloc (.cells (msgc 0 0 0 (.slice none 0 0) 0 0) 61)).alloc (.cells nonc 57)).setRow w1.heap.size (msgc 3 6 2 (.slice A5 1 m5) 0 0)).setRow (w1.heap.size + 1) nonc)
  generalize (((w1.alloc (.cells (msgc 0 0 0 (.slice none 0 0) 0 0) 61)).alloc (.cells nonc 57)).setRow w1.heap.size (msgc 3 6 2 (.slice A5 1 m5) 0 0)).setRow (w1.heap.size + 1) nonc = wa at *
  clear Z1 Z2
  generalize hgA : w1.heap.size = gA at *
  clear hgA
  go_wp2_with fail
  refine (nread5 _ _ (Bs.made (l := [0, 1, 0, 1]) (Blk.fresh wa 5 #[.int .u8 0, .int .u8 1, .int .u8 0, .int .u8 1]) rfl (by decide)).by).mono ?_
  rintro e w2 ⟨rfl, hk⟩
  have ka := ((Kept.refl Nothing wa).alloc (.cells #[.int .u8 0, .int .u8 1, .int .u8 0, .int .u8 1] 5)).trans hk
  have KA2 := Lib.hid ka
  clear hk ka
  have Z1 : Hid (Blk ((w2.alloc (.cells (msgc 0 0 0 (.slice none 0 0) 0 0) 61)).alloc (.cells nonc 57)) w2.heap.size 61 (msgc 0 0 0 (.slice none 0 0) 0 0)) := Lib.hid ((Blk.fresh w2 _ _).alloc _)
  have Z2 : Hid (Blk ((w2.alloc (.cells (msgc 0 0 0 (.slice none 0 0) 0 0) 61)).alloc (.cells nonc 57)) (w2.heap.size + 1) 57 nonc) := Lib.hid (by
    have := Blk.fresh (w2.alloc (.cells (msgc 0 0 0 (.slice none 0 0) 0 0) 61)) 57 nonc
    rwa [World.size_alloc] at this)
  have k4 : Kept Nothing w2 ((w2.alloc (.cells (msgc 0 0 0 (.slice none 0 0) 0 0) 61)).alloc (.cells nonc 57)) := ((Kept.refl Nothing w2).alloc _).alloc _
  have k5 := k4.trans_new (Kept.setRow w2.heap.size (msgc 5 0 0 (.slice none 0 0) 1 1)) (fun i hi (e : i = w2.heap.size) => by omega)
  have k6 := k5.trans_new (Kept.setRow (w2.heap.size + 1) nonc) (fun i hi (e : i = w2.heap.size + 1) => by omega)
  have c1 : Blk (((w2.alloc (.cells (msgc 0 0 0 (.slice none 0 0) 0 0) 61)).alloc (.cells nonc 57)).setRow w2.heap.size (msgc 5 0 0 (.slice none 0 0) 1 1)) w2.heap.size 61 (msgc 5 0 0 (.slice none 0 0) 1 1) := setRow_heap _ _ _ _ _ _ Z1.out
  have d1 := Blk.kept c1 (Kept.setRow (w2.heap.size + 1) nonc) (fun (e : w2.heap.size = w2.heap.size + 1) => by omega)
  have d2 : Blk ((((w2.alloc (.cells (msgc 0 0 0 (.slice none 0 0) 0 0) 61)).alloc (.cells nonc 57)).setRow w2.heap.size (msgc 5 0 0 (.slice none 0 0) 1 1)).setRow (w2.heap.size + 1) nonc) (w2.heap.size + 1) 57 nonc := setRow_heap _ _ _ _ _ _ (Z2.out.kept (Kept.setRow _ _) (fun (e : w2.heap.size + 1 = w2.heap.size) => by omega))
  have DB := Lib.hid d1
  have NB := Lib.hid d2
  have KB := Lib.hid (KA2.out.trans k6)
  clear k4 k5 k6 c1 d1 d2 
  go_upto_region 3 with (first | (refine wpList_store_row rfl 61 _ _ rfl w2.heap.size (msgc 5 0 0 (.slice none 0 0) 1 1) rfl rfl 61 _ Z1.out (by kernel_rfl) rfl (rdmsg_one ..) ?_) | (refine wpList_store_row rfl 57 _ _ rfl (w2.heap.size + 1) nonc rfl rfl 57 _ (by exact Z2.out.kept (Kept.setRow _ _) (fun (e : w2.heap.size + 1 = w2.heap.size) => by omega)) (by kernel_rfl) rfl (by kernel_rfl) ?_))
  change Code.wp _ _ _ _ ((((w2.alloc (.cells (msgc 0 0 0 (.slice none 0 0) 0 0) 61)).alloc (.cells nonc 57)).setRow w2.heap.size (msgc 5 0 0 (.slice none 0 0) 1 1)).setRow (w2.heap.size + 1) nonc)
  generalize (((w2.alloc (.cells (msgc 0 0 0 (.slice none 0 0) 0 0) 61)).alloc (.cells nonc 57)).setRow w2.heap.size (msgc 5 0 0 (.slice none 0 0) 1 1)).setRow (w2.heap.size + 1) nonc = wb at *
  clear Z1 Z2
  generalize hgB : w2.heap.size = gB at *
  clear hgB
  have DA2 := Lib.hid (DA.out.kept KB.out (fun x => x))
  have NA2 := Lib.hid (NA.out.kept KB.out (fun x => x))
  have hb7 := Lib.hid (hb6.out.kept KB.out (NoBytes.nothing _))
  have KW := Lib.hid (KA.out.trans KB.out)
  clear DA NA hb6 KA KB KA2 K1
  have HS := Lib.hid (fun u (k : Kept Nothing wb u) => show u.cell? ⟨gA + 1, 0, none⟩ = some (.int .u8 0) ∧ u.cell? ⟨gA + 1, 1, none⟩ = some (.int .u8 0) ∧ u.cell? ⟨gA, 22, none⟩ = some (.int .u8 6) ∧ u.cell? ⟨gA, 23, none⟩ = some (.int .u8 2) ∧ u.cell? ⟨gA, 24, none⟩ = some (.slice A5 1 m5) ∧ u.cell? ⟨gB + 1, 0, none⟩ = some (.int .u8 0) ∧ u.cell? ⟨gB + 1, 1, none⟩ = some (.int .u8 0) ∧ u.cell? ⟨gB, 25, none⟩ = some (.int .u16 1) ∧ u.cell? ⟨gB, 26, none⟩ = some (.int .u8 1) ∧ (convert 55 9 (.slice A5 1 m5)).run Tryz.prog u = .ok (.string ⟨#[7]⟩) u from
    ⟨(NA2.out.kept k (fun x => x)).cell 0, (NA2.out.kept k (fun x => x)).cell 1, (DA2.out.kept k (fun x => x)).cell 22, (DA2.out.kept k (fun x => x)).cell 23, (DA2.out.kept k (fun x => x)).cell 24, (NB.out.kept k (fun x => x)).cell 0, (NB.out.kept k (fun x => x)).cell 1, (DB.out.kept k (fun x => x)).cell 25, (DB.out.kept k (fun x => x)).cell 26, conv_strM (hb7.out.kept k (NoBytes.nothing _)).by⟩)
  have H62 := Lib.hid (fun u (k : Kept Nothing wb u) => text_at 6 2 (by decide) (by decide) (l := #[99, 101, 97, 115, 101, 47, 50]) (by kernel_rfl) (x := 6) (y := 2) rfl rfl u (HR.out.kept (KW.out.trans k)) (HN.out.kept (KW.out.trans k)))
  have H26 := Lib.hid (fun u (k : Kept Nothing wb u) => text_at 2 6 (by decide) (by decide) (l := #[111, 112, 101, 110, 47, 54]) (by kernel_rfl) (x := 2) (y := 6) rfl rfl u (HR.out.kept (KW.out.trans k)) (HN.out.kept (KW.out.trans k)))
  have H91 := Lib.hid (fun u (k : Kept Nothing wb u) => text_at 9 1 (by decide) (by decide) (l := #[57, 47, 49]) (by kernel_rfl) (x := 9) (y := 1) rfl rfl u (HR.out.kept (KW.out.trans k)) (HN.out.kept (KW.out.trans k)))
  have HUn := Lib.hid (fun u (k : Kept Nothing wb u) => n_unicast u (HU.out.kept (KW.out.trans k)))
  clear DA2 NA2 DB NB hb7 HR HN HU
  obtain ⟨q0, q1, q2, q3, q4, q5, q6, q7, q8, q9⟩ := HS.out _ (Kept.refl Nothing wb)
  go_wp2_with (first
      | (go_at_call 13; refine (HUn.out _ C3.out).mono ?_; rintro e v4 ⟨rfl, hk⟩; (have C4 := Lib.hid (C3.out.trans hk)); clear hk; obtain ⟨q0, q1, q2, q3, q4, q5, q6, q7, q8, q9⟩ := HS.out _ C4.out)
      | (go_at_call 5; refine (H91.out _ C2.out).mono ?_; rintro e v3 ⟨rfl, hk⟩; (have C3 := Lib.hid (C2.out.trans hk)); clear hk; obtain ⟨q0, q1, q2, q3, q4, q5, q6, q7, q8, q9⟩ := HS.out _ C3.out)
      | (go_at_call 5; refine (H26.out _ C1.out).mono ?_; rintro e v2 ⟨rfl, hk⟩; (have C2 := Lib.hid (C1.out.trans hk)); clear hk; obtain ⟨q0, q1, q2, q3, q4, q5, q6, q7, q8, q9⟩ := HS.out _ C2.out)
      | (go_at_call 5; refine (H62.out _ (Kept.refl Nothing wb)).mono ?_; rintro e v1 ⟨rfl, hk⟩; (have C1 := Lib.hid ((Kept.refl Nothing wb).trans hk)); clear hk; obtain ⟨q0, q1, q2, q3, q4, q5, q6, q7, q8, q9⟩ := HS.out _ C1.out))
  go_ret
  exact ⟨rfl, KW.out.trans C4.out⟩
end Go.Proofs.YtdhbfhjlholnlaaGreatDoor
