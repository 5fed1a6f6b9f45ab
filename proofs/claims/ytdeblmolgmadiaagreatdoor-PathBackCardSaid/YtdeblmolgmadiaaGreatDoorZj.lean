
/-
  The law's check of itself: what five texts are read as.
-/
import Derived.Test.YtdeblmolgmadiaaGreatDoorJk
import Derived.BigQuiet
import Derived.Test.YtdeblmolgmadiaaGreatDoorJi
namespace Go.Proofs.YtdeblmolgmadiaaGreatDoor
open Go.RowKit

/-- How far a reading is: what is left, what was read, the first error. -/
def SegSt (w0 : World) (p : Nat) (s : Pt.PS) (w : World) : Prop := ∃ rv, RB w p s.rest rv s.err ∧ Pown w w0.heap.size rv s.read ∧ Kept Nothing w0 w ∧ w0.heap.size ≤ p

theorem Pown.off {w w' : World} {B p : Nat} {v : Value} {l : List Seg} {cs : Array Value} (h : Pown w B v l) (hb : Blk w p 128 cs) (k : Kept (Only p) w w') : Pown w' B v l := by
  obtain ⟨xs, h1, h2⟩ := h
  refine ⟨xs, ow_kept h1 k (ow_far h1 hb (by decide)), h2.kept k (fun g cs' (e : g = p) hh => ?_)⟩
  subst e
  exact hb.apart (t' := 54) hh (by decide) rfl

/-- In the loop over a segment's numbers. -/
structure SegJ (w : World) (p k : Nat) (rv : Value) (bt en op : List UInt8) (L : Nat) (rest : List UInt8) (acc : List Nat) (err : Nat) (nv : Value) (wr : World) : Prop where
  rb : RB wr p rest rv err
  kp : Kept (Only p) w wr
  own : wr.ownsRow w.heap.size 54 1 nv acc.length (ass acc)
  b6 : Blk wr (w.heap.size + 1) 96 #[.int .u8 (k : Int), nv]
  b5 : Blk wr w.heap.size 174 #[.string ⟨op.toArray⟩, .string ⟨bt.toArray⟩, .string ⟨en.toArray⟩]
  lt : ∀ n ∈ acc, n < 4294967296
  asc : Asc rest
  len : acc.length + rest.length ≤ L
def rgm (p : Nat) (b : Value) (w : World) : Nat := 2 * (match w.cell? ⟨p, 0, none⟩ with | some (.string s) => s.size | _ => 0) + (match b with | .bool true => 1 | _ => 0)
theorem RB.rgm {w : World} {p : Nat} {rest : List UInt8} {rv : Value} {err : Nat} (h : RB w p rest rv err) (b : Bool) : rgm p (.bool b) w = 2 * rest.length + (if b then 1 else 0) := by
  unfold Go.Proofs.YtdeblmolgmadiaaGreatDoor.rgm
  rw [h.cell 0]
  cases b <;> simp <;> rfl

theorem SegJ.num {w w4 : World} {p k : Nat} {rv : Value} {bt en op : List UInt8} {L : Nat} {rest r2 : List UInt8} {acc : List Nat} {err e2 : Nat} {nv : Value} {wr : World} (h : SegJ w p k rv bt en op L rest acc err nv wr) (hp : p < w.heap.size)
    (hb : RB w4 p r2 rv e2) (k4 : Kept (Only p) wr w4) (ha : Asc r2) (hl : acc.length + r2.length ≤ L) : SegJ w p k rv bt en op L r2 acc e2 nv w4 :=
  ⟨hb, h.kp.trans k4, ow_kept h.own k4 (ow_far h.own h.rb (by decide)), h.b6.kept k4 (fun (e : w.heap.size + 1 = p) => by omega), h.b5.kept k4 (fun (e : w.heap.size = p) => by omega), h.lt, ha, hl⟩
theorem SegJ.grown6 {w w4 w6 : World} {p k : Nat} {rv : Value} {bt en op : List UInt8} {L : Nat} {rest : List UInt8} {acc : List Nat} {err : Nat} {nv : Value} (h : SegJ w p k rv bt en op L rest acc err nv w4) (o : Obj) (hg : (w4.alloc o).grownBy w6 nv.ownBlock) : Blk w6 (w.heap.size + 1) 96 #[.int .u8 (k : Int), nv] := by
  have ka := (Kept.refl Nothing w4).alloc o
  exact (h.b6.kept ka (fun x => x)).kept ((Kept.refl (fun g => nv.ownBlock = some g) _).grown hg (fun _ hk _ => hk)) (fun e => ow_far (ow_kept h.own ka (fun _ _ x => x)) (h.b6.kept ka (fun x => x)) (by decide) _ e rfl)
theorem SegJ.push {w w4 w6 : World} {p k : Nat} {rv : Value} {bt en op : List UInt8} {L : Nat} {rest : List UInt8} {acc : List Nat} {err : Nat} {nv v6 : Value} {n : Nat} (h : SegJ w p k rv bt en op L rest acc err nv w4) (hp : p < w.heap.size) (o : Obj)
    (ho : w6.ownsRow w.heap.size 54 1 v6 (acc.length + 1) (ass acc ++ [.int .u32 (n : Int)])) (hg : (w4.alloc o).grownBy w6 nv.ownBlock) (hn : n < 4294967296) (hl : acc.length + 1 + rest.length ≤ L) :
    SegJ w p k rv bt en op L rest (acc ++ [n]) err v6 (w6.setCell ⟨w.heap.size + 1, 1, none⟩ v6) := by
  have ka := (Kept.refl Nothing w4).alloc o
  have oa := ow_kept h.own ka (fun _ _ x => x)
  have kg : Kept (fun g => nv.ownBlock = some g) (w4.alloc o) w6 := (Kept.refl _ _).grown hg (fun _ hk _ => hk)
  have far : ∀ {g : Nat} {t : TypeId} {cs : Array Value}, Blk w4 g t cs → 54 ≠ t → Blk w6 g t cs := fun hb hne => (hb.kept ka (fun x => x)).kept kg (fun e => ow_far oa (hb.kept ka (fun x => x)) hne _ e rfl)
  have r6 : RB w6 p rest rv err := far h.rb (by decide)
  have b6 := far h.b6 (by decide)
  have b5 := far h.b5 (by decide)
  have ks := Kept.own w6 (w.heap.size + 1) 1 v6
  refine ⟨r6.kept ks (fun (e : p = w.heap.size + 1) => by omega), ?_, ?_, b6.put 1 v6, b5.kept ks (fun (e : w.heap.size = w.heap.size + 1) => by omega), fun x hx => ?_, h.asc, by rw [List.length_append]; exact hl⟩
  · exact ((h.kp.alloc o).grown hg (fun g hg' hlt => by have := (ow_ge h.own hg').1; omega)).setCell (p := ⟨w.heap.size + 1, 1, none⟩) (fun h => absurd h (by simp)) v6
  · rw [List.length_append, ass_append]
    exact ow_kept ho ks (ow_far ho b6 (by decide))
  · rcases List.mem_append.1 hx with hx | hx
    · exact h.lt x hx
    · obtain rfl := List.mem_singleton.1 hx
      exact hn

set_option maxRecDepth 20000 in
set_option maxHeartbeats 4000000 in
theorem rg_segment (w0 : World) (hr : Rdy2 w0) (hs : Bkt w0) (p k : Nat) (hk1 : 1 ≤ k) (hk4 : k ≤ 4) (s : Pt.PS) (w : World) (h : SegSt w0 p s w) (hpre : Lib.hasPrefix s.rest (Pt.opens k) = true) (ha : Asc s.rest) (hl : s.rest.length ≤ 100000) (hrl : s.read.length ≤ 100000) :
    Calls Tryz.prog 112 #[.pointer (some ⟨p, 0, none⟩), .int .u8 (k : Int)] w fun e w' => e = .returned (.bool (Pt.segM k s).2) ∧ SegSt w0 p (Pt.segM k s).1 w' := by
  obtain ⟨rv, hB, hP, hk0, hp0⟩ := h
  obtain ⟨⟨q0, q1, q2⟩, hsT⟩ : (w.cell? ⟨1, k * 3, none⟩ = some (.string ⟨(Pt.opens k).toArray⟩) ∧ w.cell? ⟨1, k * 3 + 1, none⟩ = some (.string ⟨(Pt.betw k).toArray⟩) ∧ w.cell? ⟨1, k * 3 + 2, none⟩ = some (.string ⟨(Pt.ends k).toArray⟩)) ∧ True := by
    have hb := hs.kept hk0
    have hc := bk_cells k (by omega)
    exact ⟨⟨by rw [hb.cell]; exact hc.1, by rw [hb.cell]; exact hc.2.1, by rw [hb.cell]; exact hc.2.2⟩, trivial⟩
  obtain ⟨i0, hi, hz0, hz1, hz2⟩ := info_parts as_info
  obtain ⟨j0, hj, hy0, hy1, hy2⟩ := info_parts sg_info
  obtain ⟨R, HRR⟩ : ∃ R, Hid (Pt.segL (s.rest.length + 1) (Pt.betw k) (s.rest.drop (Pt.opens k).length) [] s.err = R) := ⟨_, Lib.hid rfl⟩
  have HSM : Hid (Pt.segM k s = if R.2.2.2 = false then (⟨R.1, s.read, R.2.2.1⟩, false) else (⟨Lib.trimPrefix R.1 (Pt.ends k), s.read ++ [(UInt8.ofNat k, R.2.1)], R.2.2.1⟩, Lib.hasPrefix R.1 (Pt.ends k))) := Lib.hid (by unfold Pt.segM; rw [HRR.out])
  have hpw : p < w.heap.size := hB.lt
  have hki : (k : Int) < 5 := by omega
  have hk0i : (0 : Int) ≤ (k : Int) := by omega
  have HPP := Lib.hid hP
  have HB := Lib.hid hB
  have HK0 := Lib.hid hk0
  have HR2 := Lib.hid hr
  have HA := Lib.hid ha
  have HPR := Lib.hid hpre
  clear hP hB hk0 hr hs ha hpre hsT
  generalize Pt.opens k = op at *
  generalize Pt.betw k = bt at *
  generalize Pt.ends k = en at *
  go_enter Tryz.func112, Tryz.ntmps112
  go_upto_region 2 with fail
  have b5 := (Blk.fresh w 174 #[.string ⟨op.toArray⟩, .string ⟨bt.toArray⟩, .string ⟨en.toArray⟩]).alloc (.cells #[.int .u8 (k : Int), .slice none 0 0] 96)
  have b6 := Blk.fresh (w.alloc (.cells #[.string ⟨op.toArray⟩, .string ⟨bt.toArray⟩, .string ⟨en.toArray⟩] 174)) 96 #[.int .u8 (k : Int), .slice none 0 0]
  rw [World.size_alloc] at b6
  have k2 := ((Kept.refl Nothing w).alloc (.cells #[.string ⟨op.toArray⟩, .string ⟨bt.toArray⟩, .string ⟨en.toArray⟩] 174)).alloc (.cells #[.int .u8 (k : Int), .slice none 0 0] 96)
  generalize (w.alloc (.cells #[.string ⟨op.toArray⟩, .string ⟨bt.toArray⟩, .string ⟨en.toArray⟩] 174)).alloc (.cells #[.int .u8 (k : Int), .slice none 0 0] 96) = w2 at b5 b6 k2 ⊢
  have HCUT := rg_cut p s.rest op rv s.err w2 (HB.out.kept k2 (fun x => x))
  rw [HPR.out, show Lib.trimPrefix s.rest op = s.rest.drop op.length from by unfold Lib.trimPrefix; rw [HPR.out]; rfl] at HCUT
  have HCUT := Lib.hid HCUT
  have c5 := b5.cell 0
  have J2 : Hid (∀ w3, RB w3 p (s.rest.drop op.length) rv s.err → Kept (Only p) w2 w3 → SegJ w p k rv bt en op s.rest.length (s.rest.drop op.length) [] s.err (.slice none 0 0) w3) := Lib.hid (fun w3 h1 h2 =>
    ⟨h1, (k2.mono (fun _ x => x.elim)).trans h2, World.ownsRow_nil _ _ _ _, b6.kept h2 (fun (e : w.heap.size + 1 = p) => by omega), b5.kept h2 (fun (e : w.heap.size = p) => by omega), (fun _ h => by cases h), HA.out.drop _, by simp⟩)
  clear b5 b6 q0 q1 q2
  go_wp2_with (go_at_call 113; refine (HCUT.out).mono ?_; rintro e w3 ⟨rfl, r3, k3⟩)
  have J3 := Lib.hid (J2.out w3 r3 k3)
  have F3 : Hid ((s.rest.drop op.length).length < s.rest.length + 1) := Lib.hid (by rw [List.length_drop]; omega)
  clear J2 r3 k3 c5 k2 HCUT
  go_loopw [7] (fun more wr => ∃ (b : Bool) (f : Nat) (rest : List UInt8) (acc : List Nat) (err : Nat) (nv : Value), more = .bool b ∧ Hid (SegJ w p k rv bt en op s.rest.length rest acc err nv wr) ∧ Hid (b = true → rest.length < f ∧ Pt.segL f bt rest acc err = R) ∧ Hid (b = false → R = (rest, acc, err, true))) (fun more wr => rgm p more wr)
  case atStart => exact ⟨true, s.rest.length + 1, _, _, _, _, rfl, J3, Lib.hid (fun _ => ⟨F3.out, HRR.out⟩), Lib.hid (fun e => by cases e)⟩
  case round =>
    clear J3 F3
    obtain ⟨b, f, rest, acc, err, nv, rfl, HJ, HT, HF⟩ := hrel
    cases b with
    | true =>
      obtain ⟨hf, hseg⟩ := HT.out rfl
      obtain ⟨f, rfl⟩ : ∃ g, f = g + 1 := ⟨f - 1, by omega⟩
      have hL := HJ.out.len
      have HKW : Hid (Kept Nothing w0 wr) := Lib.hid (HK0.out.trans_new HJ.out.kp (fun i hi (e : i = p) => by omega))
      have HNUM := Lib.hid (rg_number p rest HJ.out.asc (by omega) rv err wr (HR2.out.kept HKW.out) HJ.out.rb)
      have hsz : rgm p (.bool true) wr = 2 * rest.length + 1 := HJ.out.rb.rgm true
      by_cases hu : Pt.unm rest = []
      · have hsg : R = (rest, acc, (if err = 0 then (parse (Pt.unm rest)).2 else err), false) := by rw [← hseg]; show Pt.segL (f + 1) bt rest acc err = _; unfold Pt.segL; rw [if_pos hu]
        have HRE := Lib.hid hsg
        rw [show decide (Pt.unm rest = []) = true from by simpa using hu, show rest.drop (Pt.unm rest).length = rest from by rw [hu]; rfl] at HNUM
        have HE : Hid (Pt.segM k s = (⟨rest, s.read, (if err = 0 then (parse (Pt.unm rest)).2 else err)⟩, false)) := Lib.hid (by rw [HSM.out, hsg]; rfl)
        clear hseg HT HF hsg hf hu HSM HRR HRE
        generalize (if err = 0 then (parse (Pt.unm rest)).2 else err) = e2 at *
        generalize (parse (Pt.unm rest)).1 = x at *
        go_wp2_with (go_at_call 154; refine (HNUM.out).mono ?_; rintro e w4 ⟨rfl, r4, k4⟩)
        go_ret
        rw [HE.out]
        exact ⟨rfl, rv, r4, (HPP.out.off HB.out (HJ.out.kp.trans k4)), HKW.out.trans_new k4 (fun i hi (e : i = p) => by omega), hp0⟩
      · have hul : 0 < (Pt.unm rest).length := List.length_pos_iff.2 hu
        have hule := Pt.unm_len rest
        have hd : decide (Pt.unm rest = []) = false := by simpa using hu
        have hnl := parse_lt (Pt.unm rest)
        rw [hd] at HNUM
        have hsg : R = if Lib.hasPrefix (rest.drop (Pt.unm rest).length) bt = true ∧ Pt.unm ((rest.drop (Pt.unm rest).length).drop bt.length) ≠ [] then Pt.segL f bt ((rest.drop (Pt.unm rest).length).drop bt.length) (acc ++ [(parse (Pt.unm rest)).1]) (if err = 0 then (parse (Pt.unm rest)).2 else err) else (rest.drop (Pt.unm rest).length, acc ++ [(parse (Pt.unm rest)).1], (if err = 0 then (parse (Pt.unm rest)).2 else err), true) := by
          rw [← hseg]
          conv => lhs; unfold Pt.segL
          rw [if_neg hu]
        have hr1 : (rest.drop (Pt.unm rest).length).length < rest.length := by rw [List.length_drop]; omega
        have ha1 := HJ.out.asc.drop (Pt.unm rest).length
        have HSG := Lib.hid hsg
        clear hseg HT HF hsg hd hu hul hule
        generalize (if err = 0 then (parse (Pt.unm rest)).2 else err) = e2 at *
        generalize (parse (Pt.unm rest)).1 = n at *
        generalize rest.drop (Pt.unm rest).length = r1 at *
        obtain ⟨An, cn, rfl, _, _⟩ := ow_form HJ.out.own
        have HX : Hid (acc.length + 1 ≤ maxLen ∧ (acc.length + 1) * 4 ≤ 140737488355328) := Lib.hid (by unfold maxLen; omega)
        have J4 : Hid (∀ w4, RB w4 p r1 rv e2 → Kept (Only p) wr w4 → SegJ w p k rv bt en op s.rest.length r1 acc e2 (.slice An acc.length cn) w4) := Lib.hid (fun w4 h1 h2 => HJ.out.num hpw h1 h2 ha1 (by omega))
        go_upto_region 8 with (first
          | (go_at_call 154; refine (HNUM.out).mono ?_; rintro e w4 ⟨rfl, r4, k4⟩; (have j4 := J4.out w4 r4 k4); (have s6 := j4.b6.cell 1); (have t6 := j4.b6.free 1); (have z6 := j4.b6.lt); (have J5 := Lib.hid j4); clear j4 r4 k4)
          | (at_builtin; refine wpList_app _ rfl _ _ 94 rfl w.heap.size 54 i0 (.int .u32 0) 1 4 Tryz.underlying94 hi hz0 hz1 hz2 rfl (by decide) (.slice An acc.length cn) acc.length (ass acc) rfl (ow_kept J5.out.own ((Kept.refl Nothing w4).alloc _) (fun _ _ x => x)) (some ⟨w4.heap.size, 0, none⟩) 1 1 [.int .u32 (n : Int)] rfl (src_new w4 _ #[.int .u32 (n : Int)] 1 1 rfl (by simp [Value.oneCell'])) HX.out.1 HX.out.2 (by have := J5.out.kp.size; simp; omega) ?_; intro v6 w6 hown6 hg6 _; (have g6 := J5.out.grown6 _ hg6); (have s7 := g6.cell 1); (have t7 := g6.free 1); (have HO6 := Lib.hid hown6); (have HG6 := Lib.hid hg6); (obtain ⟨A6, c6, rfl, _, _⟩ := ow_form hown6); clear hown6 hg6 g6))
        have J7 := Lib.hid (J5.out.push hpw (.cells #[.int .u32 (n : Int)] 54) HO6.out HG6.out hnl (by omega))
        have b75 := J7.out.b5.cell 1
        generalize w6.setCell ⟨w.heap.size + 1, 1, none⟩ (.slice A6 (acc.length + 1) c6) = w7 at *
        have HGO := Lib.hid (rg_goesOn p r1 bt ha1 (by omega) rv e2 w7 J7.out.rb)
        clear J5 HO6 HG6 s6 t6 z6 s7 t7 HNUM J4
        by_cases hg : Lib.hasPrefix r1 bt = true ∧ Pt.unm (r1.drop bt.length) ≠ []
        · rw [if_pos hg] at HGO HSG
          have hbv : (Lib.hasPrefix r1 bt && !decide (Pt.unm (r1.drop bt.length) = [])) = true := by rw [hg.1]; simp [hg.2]
          rw [hbv] at HGO
          clear hg hbv
          have hr2 : (r1.drop bt.length).length ≤ r1.length := by rw [List.length_drop]; omega
          have ha2 := ha1.drop bt.length
          generalize r1.drop bt.length = r2 at *
          go_wp2_with (go_at_call 155; refine (HGO.out).mono ?_; rintro e w8 ⟨rfl, r8, k8⟩)
          go_roundw
          case rel => exact ⟨true, f, r2, acc ++ [n], e2, _, rfl, Lib.hid (J7.out.num hpw r8 k8 ha2 (by rw [List.length_append]; simp; omega)), Lib.hid (fun _ => ⟨by omega, HSG.out.symm⟩), Lib.hid (fun e => by cases e)⟩
          case measure =>
            rw [r8.rgm true, hsz]
            simp
            omega
        · rw [if_neg hg] at HGO HSG
          have hbv : (Lib.hasPrefix r1 bt && !decide (Pt.unm (r1.drop bt.length) = [])) = false := by
            cases h1 : Lib.hasPrefix r1 bt with
            | false => rfl
            | true =>
              have : Pt.unm (r1.drop bt.length) = [] := by
                by_cases h2 : Pt.unm (r1.drop bt.length) = []
                · exact h2
                · exact absurd ⟨h1, h2⟩ hg
              simp [this]
          rw [hbv] at HGO
          clear hg hbv
          go_wp2_with (go_at_call 155; refine (HGO.out).mono ?_; rintro e w8 ⟨rfl, r8, k8⟩)
          go_roundw
          case rel => exact ⟨false, f, r1, acc ++ [n], e2, _, rfl, Lib.hid (J7.out.num hpw r8 k8 ha1 (by rw [List.length_append]; simp; omega)), Lib.hid (fun e => by cases e), Lib.hid (fun _ => HSG.out)⟩
          case measure =>
            rw [r8.rgm false, hsz]
            simp
            omega
    | false =>
      have hR := HF.out rfl
      have HE : Hid (Pt.segM k s = (⟨Lib.trimPrefix rest en, s.read ++ [(UInt8.ofNat k, acc)], err⟩, Lib.hasPrefix rest en)) := Lib.hid (by rw [HSM.out, hR]; rfl)
      have HKW : Hid (Kept Nothing w0 wr) := Lib.hid (HK0.out.trans_new HJ.out.kp (fun i hi (e : i = p) => by omega))
      obtain ⟨xs, oq, hrw⟩ := HPP.out.off HB.out HJ.out.kp
      obtain ⟨Aq, cq, rfl, _, _⟩ := ow_form oq
      obtain ⟨An, cn, rfl, _, _⟩ := ow_form HJ.out.own
      have OQ := Lib.hid oq
      have HRW := Lib.hid hrw
      have c1 := HJ.out.rb.cell 1
      have f1 := HJ.out.rb.free 1
      have s0 := HJ.out.b6.cell 0
      have s1 := HJ.out.b6.cell 1
      have hpz := HJ.out.rb.lt
      have HLn : Hid (s.read.length + 1 ≤ maxLen ∧ (s.read.length + 1) * 32 ≤ 140737488355328) := Lib.hid (by unfold maxLen; omega)
      have hbz : w0.heap.size ≤ wr.heap.size := HKW.out.size
      have EK : by8 (UInt8.ofNat k) = .int .u8 (k : Int) := by
        unfold by8
        rw [UInt8.toNat_ofNat', Nat.mod_eq_of_lt (by omega)]
      have EK := Lib.hid EK
      have hlt := HJ.out.lt
      have HLT := Lib.hid hlt
      have b5c := HJ.out.b5.cell 2
      have hwz := HJ.out.kp.size
      have hz5 := HJ.out.b5.lt
      clear oq hrw hR HT HF HSM HRR hlt
      go_upto_region 9 with fail
      go_region_law (first
        | (refine step_app _ (by rfl) _ _ 23 (by rfl) w0.heap.size 96 j0 _ 2 32 Tryz.underlying23 hj hy0 hy1 hy2 rfl (by decide) (.slice Aq s.read.length cq) s.read.length xs (by rfl) (ow_kept OQ.out (((Kept.refl Nothing wr).alloc _).drew) (fun _ _ x => x)) (some ⟨wr.heap.size, 0, none⟩) 1 1 [.int .u8 (k : Int), .slice An acc.length cn] (by rfl) ((src_new wr _ #[.int .u8 (k : Int), .slice An acc.length cn] 2 1 rfl (by simp [Value.oneCell'])).kept ((Kept.refl Nothing _).drew)) HLn.out.1 HLn.out.2 (Nat.le_trans hbz (by simp)) ?_; intro v7 w7 ho7 hg7 _; (have r7 : RB w7 p rest (.slice Aq s.read.length cq) err := (HJ.out.rb.kept (((Kept.refl Nothing wr).alloc _).drew) (fun x => x)).kept ((Kept.refl (fun g => (Value.slice Aq s.read.length cq).ownBlock = some g) _).grown hg7 (fun _ hk _ => hk)) (fun e => ow_far (ow_kept OQ.out (((Kept.refl Nothing wr).alloc (.cells #[.int .u8 (k : Int), .slice An acc.length cn] 96)).drew) (fun _ _ x => x)) (HJ.out.rb.kept (((Kept.refl Nothing wr).alloc _).drew) (fun x => x)) (by decide) _ e rfl)); (have d1 := r7.cell 1); (have e1 := r7.free 1); (have R7 := Lib.hid r7); (have HO7 := Lib.hid ho7); (have HG7 := Lib.hid hg7); (obtain ⟨A7, c7, rfl, _, _⟩ := ow_form ho7); clear ho7 hg7 r7))
      all_goals
        have ku := ((Kept.refl Nothing wr).alloc (.cells #[.int .u8 (k : Int), .slice An acc.length cn] 96)).drew
        have oq2 := ow_kept OQ.out ku (fun _ _ x => x)
        have hP7 : Pown w7 w0.heap.size (.slice A7 (s.read.length + 1) c7) (s.read ++ [(UInt8.ofNat k, acc)]) := by
          refine ⟨xs ++ [by8 (UInt8.ofNat k), .slice An acc.length cn], ?_, ?_⟩
          · rw [EK.out, List.length_append]; exact HO7.out
          · exact Rws.push (c := (UInt8.ofNat k, acc)) oq2 (HRW.out.old ku) (own_weakA (ow_kept HJ.out.own ku (fun _ _ x => x)) HK0.out.size) HLT.out HG7.out
        have kg : Kept (fun g => (Value.slice Aq s.read.length cq).ownBlock = some g) _ w7 := (Kept.refl _ _).grown HG7.out (fun _ hk _ => hk)
        have x5 : w7.cell? ⟨w.heap.size, 2, none⟩ = some (.string ⟨en.toArray⟩) := ((HJ.out.b5.kept ku (fun x => x)).kept kg (fun e => ow_far oq2 (HJ.out.b5.kept ku (fun x => x)) (by decide) _ e rfl)).cell 2
        have x6 : (w7.setCell ⟨p, 1, none⟩ (.slice A7 (s.read.length + 1) c7)).cell? ⟨w.heap.size, 2, none⟩ = some (.string ⟨en.toArray⟩) := by
          rw [← x5]
          exact (Kept.own w7 p 1 _).cell (World.block_lt_of_cell? _ _ x5) (fun (e : w.heap.size = p) => by omega)
        have K8 : Kept Nothing w0 (w7.setCell ⟨p, 1, none⟩ (.slice A7 (s.read.length + 1) c7)) := ((HKW.out.trans ku).own_grown oq2 (Nat.le_refl _) HG7.out).trans_new (Kept.own w7 p 1 _) (fun i hi (e : i = p) => by omega)
        have P8 := Lib.hid (hP7.off R7.out (Kept.own w7 p 1 (.slice A7 (s.read.length + 1) c7)))
        have R8 := Lib.hid (R7.out.put1 (.slice A7 (s.read.length + 1) c7))
        have HK8 := Lib.hid K8
        clear ku oq2 hP7 kg K8 x5 c1 f1 s0 s1 b5c d1 e1 HJ OQ HRW HO7 HG7 R7
        generalize w7.setCell ⟨p, 1, none⟩ (.slice A7 (s.read.length + 1) c7) = w8 at *
        have HCT := Lib.hid (rg_cut p rest en _ err w8 R8.out)
        go_wp2_with (go_at_call 113; refine (HCT.out).mono ?_; rintro e w9 ⟨rfl, r9, k9⟩)
        go_ret
        rw [HE.out]
        exact ⟨rfl, _, r9, P8.out.off R8.out k9, HK8.out.trans_new k9 (fun i hi (e : i = p) => by omega), hp0⟩
end Go.Proofs.YtdeblmolgmadiaaGreatDoor
namespace Go.Proofs.YtdeblmolgmadiaaGreatDoor
open Go.RowKit

namespace Pt
theorem segL_suffix (b : List UInt8) : ∀ (f : Nat) (rest : List UInt8) (acc : List Nat) (err : Nat), (segL f b rest acc err).1 <:+ rest
  | 0, rest, acc, err => by unfold segL; exact List.suffix_refl _
  | f + 1, rest, acc, err => by
    unfold segL
    split
    · exact List.suffix_refl _
    · split
      · exact (segL_suffix b f _ _ _).trans ((List.drop_suffix _ _).trans (List.drop_suffix _ _))
      · exact List.drop_suffix _ _
theorem segM_suffix (k : Nat) (s : PS) : (segM k s).1.rest <:+ s.rest := by
  have h := (segL_suffix (betw k) (s.rest.length + 1) (s.rest.drop (opens k).length) [] s.err).trans (List.drop_suffix _ _)
  unfold segM
  simp only
  split
  · exact h
  · refine List.IsSuffix.trans ?_ h
    show Lib.trimPrefix _ _ <:+ _
    unfold Lib.trimPrefix
    split
    · exact List.drop_suffix _ _
    · exact List.suffix_refl _
theorem segM_read (k : Nat) (s : PS) : (segM k s).1.read.length ≤ s.read.length + 1 := by
  unfold segM
  simp only
  split
  · exact Nat.le_succ _
  · simp
theorem gap_len (k m : Nat) : 1 ≤ (gap k m).length := by unfold gap; split <;> simp
theorem gap_open (k : Nat) (r : List UInt8) : Lib.hasPrefix (r.drop (gap k (kindOf (r.drop 1))).length) (opens (kindOf (r.drop 1))) = true := by
  by_cases h : k = 2 ∧ kindOf (r.drop 1) = 2
  · rw [h.2]
    simp [opens, Lib.hasPrefix]
  · have : gap k (kindOf (r.drop 1)) = [32] := if_neg h
    rw [this]
    exact (kind_open (r.drop 1)).1
end Pt
theorem Asc.suffix {l m : List UInt8} (h : Asc l) (hs : m <:+ l) : Asc m := fun b hb => h b (hs.subset hb)

set_option maxRecDepth 20000 in
set_option maxHeartbeats 4000000 in
theorem rg_path (w0 : World) (hr : Rdy2 w0) (hs : Bkt w0) (p : Nat) (s : Pt.PS) (w : World) (h : SegSt w0 p s w) (ha : Asc s.rest) (hl : s.read.length + s.rest.length ≤ 90000) :
    Calls Tryz.prog 63 #[.pointer (some ⟨p, 0, none⟩)] w fun e w' => e = .returned (.bool (Pt.pathL (s.rest.length + 1) (Pt.kindOf s.rest) s).2) ∧ SegSt w0 p (Pt.pathL (s.rest.length + 1) (Pt.kindOf s.rest) s).1 w' ∧ (Pt.pathL (s.rest.length + 1) (Pt.kindOf s.rest) s).1.read.length ≤ 100000 := by
  obtain ⟨R, HRR⟩ : ∃ R, Hid (Pt.pathL (s.rest.length + 1) (Pt.kindOf s.rest) s = R) := ⟨_, Lib.hid rfl⟩
  rw [HRR.out]
  have HS := Lib.hid hs
  have HR2 := Lib.hid hr
  have HST := Lib.hid h
  have HA := Lib.hid ha
  obtain ⟨rv, hB, hP, hk0, hp0⟩ := h
  have c0 := hB.cell 0
  have HKO := Lib.hid (kindOf_any s.rest w (hs.kept hk0))
  have HKP := Lib.hid (Pt.kind_open s.rest)
  have HB := Lib.hid hB
  have hpw := hB.lt
  clear hs hr hP hk0 hB ha
  generalize Pt.kindOf s.rest = k0 at *
  go_enter Tryz.func63, Tryz.ntmps63
  go_wp2_with (go_at_call 111; refine (HKO.out).mono ?_; rintro e w1 ⟨rfl, k1⟩)
  have ST1 : Hid (SegSt w0 p s w1) := Lib.hid (by
    obtain ⟨rv, hB, hP, hk0, hp0⟩ := HST.out
    exact ⟨rv, hB.kept k1 (fun x => x), hP.old k1, hk0.trans k1, hp0⟩)
  clear k1 c0 HB HKO HST
  go_loopw [3] (fun kd wr => ∃ (f k : Nat) (s2 : Pt.PS), kd = .int .u8 (k : Int) ∧ Hid (SegSt w0 p s2 wr) ∧ Hid (Lib.hasPrefix s2.rest (Pt.opens k) = true ∧ 1 ≤ k ∧ k ≤ 4) ∧ Hid (Asc s2.rest) ∧ s2.read.length + s2.rest.length ≤ 90000 ∧ Hid (s2.rest.length < f ∧ Pt.pathL f k s2 = R)) (fun _ wr => rgm p undef wr)
  case atStart => exact ⟨s.rest.length + 1, k0, s, rfl, ST1, HKP, HA, hl, Lib.hid ⟨by omega, HRR.out⟩⟩
  case round =>
    clear ST1 HKP HA hl HRR
    obtain ⟨f, k, s2, rfl, HST, HOP, HA, hl, HF⟩ := hrel
    obtain ⟨hf, hpl⟩ := HF.out
    obtain ⟨f, rfl⟩ : ∃ g, f = g + 1 := ⟨f - 1, by omega⟩
    have HSEG := Lib.hid (rg_segment w0 HR2.out HS.out p k HOP.out.2.1 HOP.out.2.2 s2 wr HST.out HOP.out.1 HA.out (by omega) (by omega))
    have hsz : rgm p undef wr = 2 * s2.rest.length := by
      obtain ⟨rv, hB, _⟩ := HST.out
      unfold rgm
      rw [hB.cell 0]
      simp
      rfl
    have hsx := Pt.segM_suffix k s2
    have hlen := hsx.length_le
    have hrd := Pt.segM_read k s2
    have HA1 := Lib.hid (HA.out.suffix hsx)
    have hpl2 : R = if (Pt.segM k s2).2 = false then ((Pt.segM k s2).1, false) else if (Pt.segM k s2).1.rest = [] then ((Pt.segM k s2).1, true) else if Lib.hasPrefix (Pt.segM k s2).1.rest (Pt.gap k (Pt.kindOf ((Pt.segM k s2).1.rest.drop 1))) = true then Pt.pathL f (Pt.kindOf ((Pt.segM k s2).1.rest.drop 1)) ⟨(Pt.segM k s2).1.rest.drop (Pt.gap k (Pt.kindOf ((Pt.segM k s2).1.rest.drop 1))).length, (Pt.segM k s2).1.read, (Pt.segM k s2).1.err⟩ else ((Pt.segM k s2).1, false) := by
      rw [← hpl]
      conv => lhs; unfold Pt.pathL
    have HPL := Lib.hid hpl2
    have hk1 := HOP.out.2.1
    have hk4 := HOP.out.2.2
    clear hpl hpl2 HF hsx HST
    generalize (Pt.segM k s2).2 = ok at *
    generalize (Pt.segM k s2).1 = s3 at *
    cases ok with
    | false =>
      have HE : Hid (R = (s3, false)) := Lib.hid (by rw [HPL.out]; rfl)
      clear HPL
      go_wp2_with (go_at_call 112; refine (HSEG.out).mono ?_; rintro e w4 ⟨rfl, st4⟩)
      go_ret
      rw [HE.out]
      exact ⟨rfl, st4, by show s3.read.length ≤ _; omega⟩
    | true =>
      by_cases he : s3.rest = []
      · have HE : Hid (R = (s3, true)) := Lib.hid (by rw [HPL.out, if_neg (by simp), if_pos he])
        clear HPL
        go_wp2_with (go_at_call 112; refine (HSEG.out).mono ?_; rintro e w4 ⟨rfl, st4⟩; (have ST4 := Lib.hid st4); (obtain ⟨rv4, b4, p4, kk4, -⟩ := st4); (have c4 := b4.cell 0); (have B4 := Lib.hid b4); (have P4 := Lib.hid p4); (have K4 := Lib.hid kk4); clear b4 p4 kk4)
        go_ret
        rw [HE.out]
        exact ⟨rfl, ST4.out, by show s3.read.length ≤ _; omega⟩
      · have hpos : 0 < s3.rest.length := List.length_pos_iff.2 he
        have hie : s3.rest.isEmpty = false := List.isEmpty_eq_false_iff.2 he
        have HE1 := ext_hi s3.rest 1
        have hlen1 : (1 : Int) ≤ (s3.rest.length : Int) := by omega
        have HKP := Lib.hid (Pt.kind_open (s3.rest.drop 1))
        have HGO := Lib.hid (Pt.gap_open k s3.rest)
        have hgl := Pt.gap_len k (Pt.kindOf (s3.rest.drop 1))
        have HKO := Lib.hid (fun w (h : Bkt w) => kindOf_any (s3.rest.drop 1) w h)
        have HGA := Lib.hid (fun w => gap_any k (Pt.kindOf (s3.rest.drop 1)) (by omega) (by have := HKP.out.2.2; omega) w)
        have HCT := Lib.hid (fun rv err w h => rg_cut p s3.rest (Pt.gap k (Pt.kindOf (s3.rest.drop 1))) rv err w h)
        have HTR : Hid (Lib.hasPrefix s3.rest (Pt.gap k (Pt.kindOf (s3.rest.drop 1))) = true → Lib.trimPrefix s3.rest (Pt.gap k (Pt.kindOf (s3.rest.drop 1))) = s3.rest.drop (Pt.gap k (Pt.kindOf (s3.rest.drop 1))).length) := Lib.hid (fun e => by unfold Lib.trimPrefix; rw [e]; rfl)
        have HTF : Hid (Lib.hasPrefix s3.rest (Pt.gap k (Pt.kindOf (s3.rest.drop 1))) = false → Lib.trimPrefix s3.rest (Pt.gap k (Pt.kindOf (s3.rest.drop 1))) = s3.rest) := Lib.hid (fun e => by unfold Lib.trimPrefix; rw [e]; rfl)
        have HPL2 := Lib.hid (HPL.out.trans ((if_neg (by simp)).trans (if_neg he)))
        clear HPL
        generalize Pt.kindOf (s3.rest.drop 1) = k2 at *
        generalize Pt.gap k k2 = gp at *
        generalize s3.rest.drop 1 = r1 at *
        cases hg : Lib.hasPrefix s3.rest gp with
        | true =>
          have HPL3 := Lib.hid (HPL2.out.trans (if_pos hg))
          have et := HTR.out hg
          rw [hg, et] at HCT
          clear hg HTR HTF HPL2 et
          have HA2 := Lib.hid (HA1.out.drop gp.length)
          have hr2 : (s3.rest.drop gp.length).length < s3.rest.length := by rw [List.length_drop]; omega
          go_wp2_with (first
            | (go_at_call 112; refine (HSEG.out).mono ?_; rintro e w4 ⟨rfl, st4⟩; (have ST4 := Lib.hid st4); (obtain ⟨rv4, b4, p4, kk4, -⟩ := st4); (have c4 := b4.cell 0); (have B4 := Lib.hid b4); (have P4 := Lib.hid p4); (have K4 := Lib.hid kk4); clear b4 p4 kk4)
            | (go_at_call 111; refine (HKO.out _ (HS.out.kept K4.out)).mono ?_; rintro e w5 ⟨rfl, k5⟩)
            | (go_at_call 53; refine (HGA.out _).mono ?_; rintro e w6 ⟨rfl, rfl⟩)
            | (go_at_call 113; refine (HCT.out _ _ _ (by exact B4.out.kept k5 (fun x => x))).mono ?_; rintro e w7 ⟨rfl, r7, k7⟩))
          go_roundw
          case rel =>
            refine ⟨f, k2, ⟨s3.rest.drop gp.length, s3.read, s3.err⟩, rfl, Lib.hid ⟨rv4, r7, (P4.out.old k5).off (B4.out.kept k5 (fun x => x)) k7, (K4.out.trans k5).trans_new k7 (fun i hi (e : i = p) => by omega), hp0⟩, Lib.hid ⟨HGO.out, HKP.out.2⟩, HA2, ?_, Lib.hid ⟨?_, HPL3.out.symm⟩⟩
            · show s3.read.length + (s3.rest.drop gp.length).length ≤ _
              omega
            · show (s3.rest.drop gp.length).length < f
              omega
          case measure =>
            have h7 : rgm p undef w7 = 2 * (s3.rest.drop gp.length).length := by
              unfold rgm
              rw [r7.cell 0]
              simp
              show 2 * (s3.rest.drop gp.length).length = _
              rw [List.length_drop]
            rw [h7, hsz]
            omega
        | false =>
          have HPL3 : Hid (R = (s3, false)) := Lib.hid (HPL2.out.trans (if_neg (by rw [hg]; simp)))
          have et := HTF.out hg
          rw [hg, et] at HCT
          clear hg HTR HTF HPL2 et
          go_wp2_with (first
            | (go_at_call 112; refine (HSEG.out).mono ?_; rintro e w4 ⟨rfl, st4⟩; (have ST4 := Lib.hid st4); (obtain ⟨rv4, b4, p4, kk4, -⟩ := st4); (have c4 := b4.cell 0); (have B4 := Lib.hid b4); (have P4 := Lib.hid p4); (have K4 := Lib.hid kk4); clear b4 p4 kk4)
            | (go_at_call 111; refine (HKO.out _ (HS.out.kept K4.out)).mono ?_; rintro e w5 ⟨rfl, k5⟩)
            | (go_at_call 53; refine (HGA.out _).mono ?_; rintro e w6 ⟨rfl, rfl⟩)
            | (go_at_call 113; refine (HCT.out _ _ _ (by exact B4.out.kept k5 (fun x => x))).mono ?_; rintro e w7 ⟨rfl, r7, k7⟩))
          go_ret
          rw [HPL3.out]
          exact ⟨rfl, ⟨rv4, r7, (P4.out.old k5).off (B4.out.kept k5 (fun x => x)) k7, (K4.out.trans k5).trans_new k7 (fun i hi (e : i = p) => by omega), hp0⟩, by show s3.read.length ≤ _; omega⟩
end Go.Proofs.YtdeblmolgmadiaaGreatDoor
namespace Go.Proofs.YtdeblmolgmadiaaGreatDoor
open Go.RowKit

set_option maxRecDepth 20000 in
set_option maxHeartbeats 4000000 in
theorem parseP_any (l : List UInt8) (ha : Asc l) (hl : l.length ≤ 90000) (w : World) (hr : Rdy2 w) (hs : Bkt w) :
    Calls Tryz.prog 29 #[.string ⟨l.toArray⟩] w fun e w' => ∃ rv, e = .returned (.tuple #[rv, .int .i64 ((Pt.parseP l).2 : Int)]) ∧ Pown w' w.heap.size rv (Pt.parseP l).1 ∧ Kept Nothing w w' := by
  obtain ⟨R, HRR⟩ : ∃ R, Hid (Pt.parseP l = R) := ⟨_, Lib.hid rfl⟩
  rw [HRR.out]
  by_cases h45 : l = [45]
  · have HE : Hid (R = ([], 0)) := Lib.hid (by rw [← HRR.out]; unfold Pt.parseP; rw [if_pos h45])
    clear HRR ha hr hs
    subst h45
    go_enter Tryz.func29, Tryz.ntmps29
    go_wp2
    go_ret2
    rw [HE.out]
    exact ⟨_, rfl, Pown.nil _ _, Kept.refl _ _⟩
  · have hq45 : (l == [45]) = false := beq_false_of_ne h45
    have HPA := Lib.hid (fun w1 (h : SegSt w w.heap.size ⟨l, [], 0⟩ w1) => rg_path w hr hs w.heap.size ⟨l, [], 0⟩ w1 h ha (by simpa using hl))
    have HR2 : Hid (R = let S := Pt.pathL (l.length + 1) (Pt.kindOf l) ⟨l, [], 0⟩; if S.2 = false then ([], 5) else if S.1.err ≠ 0 then ([], S.1.err) else if Pt.may S.1.read = false then ([], 7) else (S.1.read, 0)) := Lib.hid (by rw [← HRR.out]; unfold Pt.parseP; rw [if_neg h45])
    have HM := Lib.hid (fun v (l : List Seg) w h hl => path_may v l w h hl)
    clear HRR ha hr hs
    revert HPA HR2
    generalize Pt.pathL (l.length + 1) (Pt.kindOf l) ⟨l, [], 0⟩ = S
    intro HPA HR2
    obtain ⟨⟨sr, sl, se⟩, sb⟩ := S
    have ST0 : SegSt w w.heap.size ⟨l, [], 0⟩ (w.alloc (.cells #[.string ⟨l.toArray⟩, .slice none 0 0, .int .i64 0] 128)) :=
      ⟨.slice none 0 0, Blk.fresh _ _ _, Pown.nil _ _, (Kept.refl Nothing w).alloc _, Nat.le_refl _⟩
    simp only at HPA HR2
    cases sb with
    | false =>
      have HE : Hid (R = ([], 5)) := Lib.hid (by rw [HR2.out]; rfl)
      rw [HE.out]
      clear HR2 HE
      go_enter Tryz.func29, Tryz.ntmps29
      go_wp2_with (go_at_call 63; refine (HPA.out _ ST0).mono ?_; rintro e w4 ⟨rfl, st4, hrl⟩; (obtain ⟨rv4, b4, p4, kk4, -⟩ := st4); (have c4 := b4.cell 0); (have c41 := b4.cell 1); (have c42 := b4.cell 2); (have P4 := Lib.hid p4); (have K4 := Lib.hid kk4); clear b4 p4 kk4)
      go_ret2
      exact ⟨_, rfl, Pown.nil _ _, K4.out⟩
    | true =>
      by_cases he : se = 0
      · subst he
        cases hm : Pt.may sl with
        | false =>
          have HE : Hid (R = ([], 7)) := Lib.hid (by rw [HR2.out, if_neg (by simp), if_neg (by simp), if_pos hm])
          rw [HE.out]
          clear HR2 HE
          go_enter Tryz.func29, Tryz.ntmps29
          go_wp2_with (first | (go_at_call 63; refine (HPA.out _ ST0).mono ?_; rintro e w4 ⟨rfl, st4, hrl⟩; (obtain ⟨rv4, b4, p4, kk4, -⟩ := st4); (have c4 := b4.cell 0); (have c41 := b4.cell 1); (have c42 := b4.cell 2); (have P4 := Lib.hid p4); (have K4 := Lib.hid kk4); clear b4 p4 kk4) | (go_at_call 16; refine (HM.out _ _ _ P4.out.pts (by omega)).mono ?_; rw [hm]; rintro e w5 ⟨rfl, k5⟩))
          go_ret2
          exact ⟨_, rfl, Pown.nil _ _, K4.out.trans k5⟩
        | true =>
          have HE : Hid (R = (sl, 0)) := Lib.hid (by rw [HR2.out, if_neg (by simp), if_neg (by simp), if_neg (by simp [hm])])
          rw [HE.out]
          clear HR2 HE
          go_enter Tryz.func29, Tryz.ntmps29
          go_wp2_with (first | (go_at_call 63; refine (HPA.out _ ST0).mono ?_; rintro e w4 ⟨rfl, st4, hrl⟩; (obtain ⟨rv4, b4, p4, kk4, -⟩ := st4); (have c4 := b4.cell 0); (have c41 := b4.cell 1); (have c42 := b4.cell 2); (have B4 := Lib.hid b4); (have P4 := Lib.hid p4); (have K4 := Lib.hid kk4); clear b4 p4 kk4) | (go_at_call 16; refine (HM.out _ _ _ P4.out.pts (by omega)).mono ?_; rw [hm]; rintro e w5 ⟨rfl, k5⟩; (have c51 := (B4.out.kept k5 (fun x => x)).cell 1)))
          go_ret2
          exact ⟨_, rfl, P4.out.old k5, K4.out.trans k5⟩
      · have HE : Hid (R = ([], se)) := Lib.hid (by rw [HR2.out, if_neg (by simp), if_pos he])
        rw [HE.out]
        clear HR2 HE
        have hz : ¬ ((se : Int) = 0) := by omega
        go_enter Tryz.func29, Tryz.ntmps29
        go_upto_region 7 with (go_at_call 63; refine (HPA.out _ ST0).mono ?_; rintro e w4 ⟨rfl, st4, hrl⟩; (obtain ⟨rv4, b4, p4, kk4, -⟩ := st4); (have c4 := b4.cell 0); (have c41 := b4.cell 1); (have c42 := b4.cell 2); (have P4 := Lib.hid p4); (have K4 := Lib.hid kk4); clear b4 p4 kk4)
        go_quiet (fail)
        go_wp2_with fail
        go_ret2
        exact ⟨_, rfl, Pown.nil _ _, K4.out.drewN _⟩
end Go.Proofs.YtdeblmolgmadiaaGreatDoor
namespace Go.Proofs.YtdeblmolgmadiaaGreatDoor
open Go.RowKit

theorem wk1 : Pt.parseP [49, 48, 32, 50, 48, 32, 123, 51, 48, 44, 52, 48, 125] = ([(2, [10, 20]), (1, [30, 40])], 0) := by rfl
theorem wk1b : Pt.bytes [(2, [10, 20]), (1, [30, 40])] false = ([2, 2, 0, 10, 0, 20, 1, 2, 0, 30, 0, 40], 0) := by rfl
theorem wk2 : Pt.parseP [40, 54, 53, 48, 48, 49, 32, 54, 53, 48, 48, 50, 41, 32, 49, 48] = ([(3, [65001, 65002]), (2, [10])], 0) := by rfl
theorem wk3 : Pt.parseP [49, 32, 124, 32, 50] = ([(2, [1]), (2, [2])], 0) := by rfl
theorem wk4 : Pt.parseP [91, 55, 93] = ([(4, [7])], 0) := by rfl
theorem wk5 : Pt.parseP [45] = ([], 0) := by rfl

theorem made_by {w : World} {cs : Array Value} {l : List UInt8} {n : Nat} (hn : w.heap.size = n) (hl : cs.toList = bys l) (hm : l.length ≤ maxLen) : By (w.alloc (.cells cs 5)) (.slice (some ⟨n, 0, none⟩) l.length l.length) l := by
  subst hn
  exact (Bs.made (Blk.fresh w 5 cs) hl hm).by
theorem made_blk {w : World} {cs : Array Value} {t : TypeId} {n : Nat} (hn : w.heap.size = n) : Blk (w.alloc (.cells cs t)) n t cs := by
  subst hn
  exact Blk.fresh w t cs

theorem asc_of {l : List UInt8} (_ : l.all (fun b => b.toNat < 128) = true) : Asc l := asc_all l

set_option maxRecDepth 20000 in
set_option maxHeartbeats 4000000 in
theorem wakes_true (w : World) (hr : Rdy2 w) (hs : Bkt w) :
    Calls Tryz.prog 26 #[] w fun e w' => e = .returned (.bool true) ∧ Kept Nothing w w' := by
  have H1 := Lib.hid (parseP_any [49, 48, 32, 50, 48, 32, 123, 51, 48, 44, 52, 48, 125] (asc_of rfl) (by simp))
  have H2 := Lib.hid (parseP_any [40, 54, 53, 48, 48, 49, 32, 54, 53, 48, 48, 50, 41, 32, 49, 48] (asc_of rfl) (by simp))
  have H3 := Lib.hid (parseP_any [49, 32, 124, 32, 50] (asc_of rfl) (by simp))
  have H4 := Lib.hid (parseP_any [91, 55, 93] (asc_of rfl) (by simp))
  have H5 := Lib.hid (parseP_any [45] (asc_of rfl) (by simp))
  have HB := Lib.hid (fun v w (h : Pts w v [(2, [10, 20]), (1, [30, 40])]) => path_bytes v _ false w h (by simp) (by simp))
  rw [wk1] at H1
  rw [wk2] at H2
  rw [wk3] at H3
  rw [wk4] at H4
  rw [wk5] at H5
  rw [wk1b] at HB
  have HR := Lib.hid hr
  have HS := Lib.hid hs
  clear hr hs
  go_enter Tryz.func26, Tryz.ntmps26
  go_upto_region 2 with (go_at_call 29; refine (H1.out _ HR.out HS.out).mono ?_; rintro e w1 ⟨v1, rfl, p1, k1⟩; (have P1 := Lib.hid p1); (have R1 := Lib.hid (HR.out.kept k1)); (have S1 := Lib.hid (HS.out.kept k1)); (have K1 := Lib.hid k1); clear p1 k1)
  go_upto_region 3 with (go_at_call 13; refine (HB.out _ _ P1.out.pts).mono ?_; rintro e w2 ⟨v2, rfl, b2, k2⟩; (replace b2 := Bs.of_own b2); (have B2 := Lib.hid b2); (have R2 := Lib.hid (R1.out.kept k2)); (have S2 := Lib.hid (S1.out.kept k2)); (have K2 := Lib.hid k2); clear b2 k2)
  go_upto_region 4 with (go_at_call 29; refine (H2.out _ R2.out S2.out).mono ?_; rintro e w3 ⟨v3, rfl, p3, k3⟩; (have P3 := Lib.hid p3); (have R3 := Lib.hid (R2.out.kept k3)); (have S3 := Lib.hid (S2.out.kept k3)); (have K3 := Lib.hid k3); clear p3 k3)
  go_upto_region 5 with (go_at_call 29; refine (H3.out _ R3.out S3.out).mono ?_; rintro e w4 ⟨v4, rfl, p4, k4⟩; (have P4 := Lib.hid p4); (have R4 := Lib.hid (R3.out.kept k4)); (have S4 := Lib.hid (S3.out.kept k4)); (have K4 := Lib.hid k4); clear p4 k4)
  go_upto_region 6 with (go_at_call 29; refine (H4.out _ R4.out S4.out).mono ?_; rintro e w5 ⟨v5, rfl, p5, k5⟩; (have P5 := Lib.hid p5); (have R5 := Lib.hid (R4.out.kept k5)); (have S5 := Lib.hid (S4.out.kept k5)); (have K5 := Lib.hid k5); clear p5 k5)
  have K36 := Lib.hid (K4.out.trans K5.out)
  obtain ⟨A3, c3, rfl, -, -⟩ := P3.out.pts.form
  obtain ⟨A4, c4, rfl, -, -⟩ := P4.out.pts.form
  obtain ⟨A5, c5, rfl, -, -⟩ := P5.out.pts.form
  obtain ⟨b3, o3, _, _, rfl, x30, -, -⟩ := P3.out.pts.at2 (i := 0) (by simp)
  obtain ⟨b3', o3', _, _, e3, x31, -, -⟩ := P3.out.pts.at2 (i := 1) (by simp)
  obtain ⟨rfl, rfl⟩ : b3 = b3' ∧ o3 = o3' := by simpa using e3
  obtain ⟨b5, o5, _, _, rfl, x50, -, -⟩ := P5.out.pts.at2 (i := 0) (by simp)
  replace x30 := K36.out.cell_some x30 (fun x => x)
  replace x31 := K36.out.cell_some x31 (fun x => x)
  have X30 : Hid (w5.cell? ⟨b3, o3, none⟩ = some (.int .u8 3)) := Lib.hid x30
  have X31 : Hid (w5.cell? ⟨b3, o3 + 2, none⟩ = some (.int .u8 2)) := Lib.hid x31
  have X50 : Hid (w5.cell? ⟨b5, o5, none⟩ = some (.int .u8 4)) := Lib.hid x50
  have B5 := Lib.hid (B2.out.kept (K3.out.trans (K4.out.trans K5.out)) (NoBytes.nothing _))
  have KA := Lib.hid (K1.out.trans (K2.out.trans (K3.out.trans (K4.out.trans K5.out))))
  clear x30 x31 x50 P1 P3 P4 P5 B2 K1 K2 K3 K4 K5 K36 R1 R2 R3 R4 S1 S2 S3 S4 H1 H2 H3 H4 HB HR HS e3
  go_wp2_with (first
    | (go_at_call 29; refine (H5.out _ R5.out S5.out).mono ?_; rintro e w6 ⟨v6, rfl, p6, k6⟩; (obtain ⟨A6, c6, rfl, -, -⟩ := p6.pts.form); (have KZ := Lib.hid k6); (have B6 := Lib.hid (B5.out.kept k6 (NoBytes.nothing _))); (have K6 := Lib.hid (KA.out.trans k6)); clear p6 k6)
    | (go_at_call 15; refine (by_equal _ _ [2, 2, 0, 10, 0, 20, 1, 2, 0, 30, 0, 40] [2, 2, 0, 10, 0, 20, 1, 2, 0, 30, 0, 40] _ (B6.out.kept ((Kept.refl Nothing _).alloc _) (NoBytes.nothing _)).by (made_by (l := [2, 2, 0, 10, 0, 20, 1, 2, 0, 30, 0, 40]) rfl rfl (by simp [maxLen]))).mono ?_; rintro e w7 ⟨rfl, e7⟩; (have K7 : Hid (Kept Nothing w6 w7) := Lib.hid (by rw [← e7]; exact (Kept.refl Nothing _).alloc _)); (have y30 := (KZ.out.trans K7.out).cell_some X30.out (fun x => x)); (have y31 := (KZ.out.trans K7.out).cell_some X31.out (fun x => x)); (have y50 := (KZ.out.trans K7.out).cell_some X50.out (fun x => x)); clear e7))
  go_ret
  exact ⟨rfl, K6.out.trans K7.out⟩
end Go.Proofs.YtdeblmolgmadiaaGreatDoor
