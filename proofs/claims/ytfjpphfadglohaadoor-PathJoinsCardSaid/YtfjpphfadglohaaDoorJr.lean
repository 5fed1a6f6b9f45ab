
/-
  The law PathJoins.
-/
import Derived.Test.YtfjpphfadglohaaDoorJq
import Derived.Test.YtfjpphfadglohaaDoorJs
import Derived.Test.YtfjpphfadglohaaDoorJt
import Derived.Test.YtfjpphfadglohaaDoorIu
namespace Go.Proofs.YtfjpphfadglohaaDoor
open Go.RowKit Go.Shelf
attribute [local go_sem] Oper.semAt_some

theorem Pt.cnt_le2 (l : List Seg) (hn : ∀ s ∈ l, s.2.length ≤ 40) : Pt.cnt l ≤ 40 * l.length := by
  unfold Pt.cnt
  induction l with
  | nil => simp
  | cons s l ih =>
    have h1 := ih (fun x hx => hn x (List.mem_cons_of_mem _ hx))
    have h3 := hn s (List.mem_cons_self ..)
    rw [List.map_cons, List.sum_cons, List.length_cons, Nat.mul_add]
    omega
theorem bytes_may (v : Value) (l : List Seg) (w1 : World) (h : Pts w1 v l) (hm : Pt.may l = true) (h1 : l.length ≤ 16) (h2 : ∀ s ∈ l, s.2.length ≤ 40 ∧ s.2 ≠ [] ∧ 1 ≤ s.1.toNat ∧ s.1.toNat ≤ 4) :
    Calls Tryd.prog 13 #[v, .bool true] w1 fun e w' => ∃ u, e = .returned (.tuple #[u, .int .i64 0]) ∧ w'.ownsRow w1.heap.size 5 1 u (Pt.form true l).length (bys (Pt.form true l)) ∧ Kept Nothing w1 w' := by
  have := path_bytes v l true w1 h (by omega) (fun s hs => by have := (h2 s hs).1; omega)
  rw [bytes_of_may hm] at this
  exact this

/-- All numbers of a path. -/
def Pt.nus (l : List Seg) : List Nat := l.flatMap (·.2)
theorem Pt.nus_all (l : List Seg) : Pt.nus l = (Pt.all l).map Prod.snd := by
  unfold Pt.nus Pt.all
  rw [List.map_flatMap]
  congr 1
  funext s
  rw [List.map_map]
  exact (List.map_id _).symm
theorem Pt.nus_len (l : List Seg) : (Pt.nus l).length = Pt.cnt l := by rw [Pt.nus_all, List.length_map, Pt.length_all]
theorem Pt.nus_snoc (l : List Seg) (s : Seg) : Pt.nus (l ++ [s]) = Pt.nus l ++ s.2 := by unfold Pt.nus; rw [List.flatMap_append]; simp
theorem Pt.at_pre {l : List Seg} {pre : List (UInt8 × Nat)} {x : UInt8 × Nat} (h : pre ++ [x] <+: Pt.all l) : pre.length < (Pt.nus l).length ∧ (Pt.nus l).getD pre.length 0 = x.2 ∧ ∃ s ∈ l, x.1 = s.1 := by
  have hx : x ∈ Pt.all l := h.subset (by simp)
  obtain ⟨t, ht⟩ := h
  refine ⟨?_, ?_, ?_⟩
  · rw [Pt.nus_all, List.length_map, ← ht]; simp
  · rw [Pt.nus_all, ← ht]; simp
  · unfold Pt.all at hx
    obtain ⟨s, hs, hx⟩ := List.mem_flatMap.1 hx
    obtain ⟨n, _, rfl⟩ := List.mem_map.1 hx
    exact ⟨s, hs, rfl⟩
/-- The law's row of numbers, in its own cell. -/
def NS (W0 : World) (l : List Nat) (wr : World) : Prop := ∃ nv, Blk wr W0.heap.size 32 #[nv] ∧ wr.ownsRow W0.heap.size 37 1 nv l.length (ass l) ∧ Kept Nothing W0 wr
theorem NS.far {W0 wr w7 : World} {nv : Value} {n : Nat} {xs : List Value} (hb : Blk wr W0.heap.size 32 #[nv]) (ho : wr.ownsRow W0.heap.size 37 1 nv n xs) (o : Obj) (hg : (wr.alloc o).grownBy w7 nv.ownBlock) : Blk w7 W0.heap.size 32 #[nv] := by
  have ka := (Kept.refl Nothing wr).alloc o
  have oa := ow_kept ho ka (fun _ _ x => x)
  exact (hb.kept ka (fun x => x)).kept ((Kept.refl (fun g => nv.ownBlock = some g) _).grown hg (fun _ hk _ => hk)) (fun e => ow_far oa (hb.kept ka (fun x => x)) (by decide) _ e rfl)
theorem NS.push {W0 wr w7 : World} {nv v7 : Value} {l m : List Nat} (hb : Blk wr W0.heap.size 32 #[nv]) (ho : wr.ownsRow W0.heap.size 37 1 nv l.length (ass l)) (hk : Kept Nothing W0 wr) (o : Obj) (hg : (wr.alloc o).grownBy w7 nv.ownBlock)
    (h7 : w7.ownsRow W0.heap.size 37 1 v7 (l.length + m.length) (ass l ++ ass m)) : NS W0 (l ++ m) (w7.setCell ⟨W0.heap.size, 0, none⟩ v7) := by
  have b7 := NS.far hb ho o hg
  have oa := ow_kept ho ((Kept.refl Nothing wr).alloc o) (fun _ _ x => x)
  refine ⟨v7, b7.put 0 v7, ?_, ((hk.alloc o).own_grown oa (Nat.le_refl _) hg).setCell (p := ⟨W0.heap.size, 0, none⟩) (fun h => absurd h (Nat.lt_irrefl _)) v7⟩
  rw [List.length_append, ass_append]
  exact ow_kept h7 (Kept.own w7 W0.heap.size 0 v7) (ow_far h7 b7 (by decide))

set_option maxRecDepth 20000 in
set_option maxHeartbeats 8000000 in
theorem law_joins (v0 v1 : Value) (p q : List Seg) (far : Nat) (w : World) (hp : Pts w v0 p) (hq : Pts w v1 q) (hf : far < 256) (hr : Rdy2 w) (hs : Bkt w) :
    Calls Tryd.prog 3 #[v0, v1, .int .u8 (far : Int)] w fun e w' => e = .returned (.bool true) ∧ Kept Nothing w w' := by
  obtain ⟨i0, hi, hz0, hz1, hz2⟩ := info_parts sg_info
  have hmf := run_mkFunc
  have HB0 := Lib.hid (fun w1 (k : Kept Nothing w w1) => brought v0 p w1 (hp.old k))
  have HB1 := Lib.hid (fun w1 (k : Kept Nothing w w1) => brought v1 q w1 (hq.old k))
  have HM := Lib.hid (brF_may p q)
  have HM0 := Lib.hid (brF_may1 p)
  have HM1 := Lib.hid (brF_may1 q)
  have HN0 := Lib.hid (fun s hs => @brF_num p s hs)
  have HN1 := Lib.hid (fun s hs => @brF_num q s hs)
  have hl0 := brF_len p
  have hl1 := brF_len q
  have HR := Lib.hid hr
  have HS := Lib.hid hs
  clear hp hq hr hs
  generalize brF p = P at *
  generalize brF q = Q at *
  clear p q
  have HC := Lib.hid (fun (v : Value) (l : List Seg) (w1 : World) (h : Pts w1 v l) (h1 : l.length ≤ 16) (h2 : ∀ s ∈ l, s.2.length ≤ 40 ∧ s.2 ≠ [] ∧ 1 ≤ s.1.toNat ∧ s.1.toNat ≤ 4) => path_copy v l w1 h (by omega) (fun s hs => by have := (h2 s hs).1; omega))
  have HBY := Lib.hid bytes_may
  have HNN : Hid (∀ s ∈ P ++ Q, s.2.length ≤ 40 ∧ s.2 ≠ [] ∧ 1 ≤ s.1.toNat ∧ s.1.toNat ≤ 4) := Lib.hid (fun s hs => (List.mem_append.1 hs).elim (HN0.out s) (HN1.out s))
  refine (callsIn_wide (n := 4)).1 (callsIn_of_wp_marks Tryd.func3 rfl trivial ?_ rfl)
  rw [wpIn_wide]
  simp only [Tryd.ntmps3, List.size_toArray, List.length_cons, List.length_nil, Nat.reduceAdd, Nat.reduceSub, Array.replicate_succ, Array.replicate_zero, List.push_toArray, List.append_toArray, List.nil_append, List.cons_append]
  go_upto_region 1 with fail
  have kA := ((Kept.refl Nothing w).alloc (.cells #[.int .u8 (far : Int)] 5)).alloc (.cells #[.bool false] 4)
  have bF := (Blk.fresh w 5 #[.int .u8 (far : Int)]).alloc (.cells #[.bool false] 4)
  have bR := Blk.fresh (w.alloc (.cells #[.int .u8 (far : Int)] 5)) 4 #[.bool false]
  rw [World.size_alloc] at bR
  generalize (w.alloc (.cells #[.int .u8 (far : Int)] 5)).alloc (.cells #[.bool false] 4) = wA at kA bF bR ⊢
  have KA := Lib.hid kA
  have BF := Lib.hid bF
  have BR := Lib.hid bR
  clear kA bF bR
  go_upto_region 2 with (first
    | (go_at_call 11; refine (HB1.out _ (KA.out.trans K1.out)).mono ?_; rintro e w2 ⟨v3, rfl, p2, k2⟩; (have P2 := Lib.hid p2); (have K2 := Lib.hid k2); clear p2 k2)
    | (go_at_call 11; refine (HB0.out _ KA.out).mono ?_; rintro e w1 ⟨v2, rfl, p1, k1⟩; (have P1 := Lib.hid p1); (have K1 := Lib.hid k1); clear p1 k1))
  have PP2 := Lib.hid (P1.out.old K2.out)
  have HL1 : Hid (P.length + Q.length ≤ maxLen ∧ (P.length + Q.length) * 32 ≤ 140737488355328) := Lib.hid (by unfold maxLen; omega)
  go_upto_region 3 with (first
    | (at_builtin; refine wpList_app _ rfl _ _ 23 rfl w2.heap.size 34 i0 (.agg #[.int .u8 0, .slice none 0 0]) 2 32 Tryd.underlying23 hi hz0 hz1 hz2 rfl (by decide) (.slice A4 P.length c4) P.length xs4 rfl O4.out A5 Q.length c5 xs5 rfl (src_own O5.out R5.out.one) HL1.out.1 HL1.out.2 ((K3.out.trans K4.out).size) ?_; intro v6 w5 ho6 hg6 _; (have P6 : Hid (Pown w5 w2.heap.size v6 (P ++ Q)) := Lib.hid (Pown.cat (l := P) (m := Q) O4.out R4.out R5.out hg6 (by exact ho6))); (have K5 := Lib.hid ((K3.out.trans K4.out).own_grown O4.out (Nat.le_refl _) hg6)); clear ho6 hg6)
    | (go_at_call 12; refine (HC.out _ _ _ (P2.out.old K3.out).pts (by omega) HN1.out).mono ?_; rintro e w4 ⟨v5, rfl, p5, k4⟩; (obtain ⟨xs4, o4, r4⟩ := P4.out.old k4); (obtain ⟨xs5, o5, r5⟩ := p5.weak K3.out.size); (obtain ⟨A4, c4, rfl, _, _⟩ := ow_form o4); (obtain ⟨A5, c5, rfl, _, _⟩ := ow_form o5); (have O4 := Lib.hid o4); (have R4 := Lib.hid r4); (have O5 := Lib.hid o5); (have R5 := Lib.hid r5); (have K4 := Lib.hid k4); clear p5 k4 o4 r4 o5 r5 P4)
    | (go_at_call 12; refine (HC.out _ _ _ PP2.out.pts (by omega) HN0.out).mono ?_; rintro e w3 ⟨v4, rfl, p4, k3⟩; (have P4 := Lib.hid p4); (have K3 := Lib.hid k3); clear p4 k3))
  have PP := Lib.hid (PP2.out.old K5.out)
  have QQ := Lib.hid (P2.out.old K5.out)
  have K05 := Lib.hid (((KA.out.trans K1.out).trans K2.out).trans K5.out)
  clear O4 R4 O5 R5 K3 K4 PP2 P1 P2 HB0 HB1
  have hlA : (P ++ Q).length ≤ 16 := by rw [List.length_append]; omega
  go_upto_region 6 with (first
    | (go_at_call 13; refine (HBY.out _ _ _ (P6.out.old (K6.out.trans K7.out)).pts HM.out hlA HNN.out).mono ?_; rintro e w8 ⟨u3, rfl, o8, k8⟩; (have OC := Lib.hid o8); (have K8 := Lib.hid k8); clear o8 k8)
    | (go_at_call 13; refine (HBY.out _ _ _ (QQ.out.old K6.out).pts HM1.out (by omega) HN1.out).mono ?_; rintro e w7 ⟨u2, rfl, o7, k7⟩; (have OB := Lib.hid o7); (have K7 := Lib.hid k7); clear o7 k7)
    | (go_at_call 13; refine (HBY.out _ _ _ PP.out.pts HM0.out (by omega) HN0.out).mono ?_; rintro e w6 ⟨u1, rfl, o6, k6⟩; (have OA := Lib.hid o6); (have K6 := Lib.hid k6); clear o6 k6))
  have KA5 := Lib.hid ((K1.out.trans K2.out).trans K5.out)
  have K68 := Lib.hid (K6.out.trans (K7.out.trans K8.out))
  have oa := ow_kept OA.out (K7.out.trans K8.out) (fun _ _ x => x)
  have ob := ow_kept OB.out K8.out (fun _ _ x => x)
  have HFAR : Hid (∀ g, u1.ownBlock = some g → g < w7.heap.size) := Lib.hid (fun g hg => Nat.lt_of_lt_of_le (ow_ge OA.out hg).2 K7.out.size)
  have oc := OC.out
  rw [Pt.form_append] at oc
  obtain ⟨A1, c1, rfl, _, _⟩ := ow_form oa
  obtain ⟨A2, c2, rfl, _, _⟩ := ow_form ob
  obtain ⟨j0, hj, hy0, hy1, hy2⟩ := info_parts u8_info
  have LA := Pt.length_form true P (fun s hs => by have := (HN0.out s hs).1; omega)
  have LB := Pt.length_form true Q (fun s hs => by have := (HN1.out s hs).1; omega)
  have OA2 := Lib.hid oa
  have OB2 := Lib.hid (Bs.of_own ob).src
  have OC2 := Lib.hid oc
  clear oa ob oc OA OB OC
  have HL2 : Hid ((Pt.form true P).length + (Pt.form true Q).length ≤ maxLen ∧ ((Pt.form true P).length + (Pt.form true Q).length) * 1 ≤ 140737488355328) := Lib.hid (by unfold maxLen; omega)
  have HBE := Lib.hid (fun (a b : Value) (l : List UInt8) (w : World) (ha : By w a l) (hb : By w b l) => by_equal a b l l w ha hb)
  have HZZ : Hid (w5.heap.size ≤ w8.heap.size) := Lib.hid K68.out.size
  have HCT := Lib.hid (fun (v : Value) (l : List Seg) (w1 : World) (h : Pts w1 v l) (h1 : l.length ≤ 16) (h2 : ∀ s ∈ l, s.2.length ≤ 40 ∧ s.2 ≠ [] ∧ 1 ≤ s.1.toNat ∧ s.1.toNat ≤ 4) => path_count v l w1 h (by omega) (fun s hs => by have := (h2 s hs).1; omega))
  have hnP := Pt.cnt_le2 P (fun s hs => (HN0.out s hs).1)
  have hnQ := Pt.cnt_le2 Q (fun s hs => (HN1.out s hs).1)
  have HC1 := Lib.hid (HCT.out v6 (P ++ Q))
  rw [Pt.cnt_append] at HC1
  have HC2 := Lib.hid (HCT.out v2 P)
  have HC3 := Lib.hid (HCT.out v3 Q)
  have CNT : Hid (Pt.cnt P = Pt.cnt P) := Lib.hid rfl
  clear HCT
  generalize hfa : Pt.form true P = fa at *
  generalize hfb : Pt.form true Q = fb at *
  generalize hcP : Pt.cnt P = nP at *
  generalize hcQ : Pt.cnt Q = nQ at *
  have HCP := Lib.hid hcP
  have HFA := Lib.hid hfa
  clear hcP hcQ hfa hfb
  go_upto_region 8 with (first
    | (go_at_call 15; refine (HC3.out _ (QQ.out.old (K59.out.trans (K10.out.trans K11.out))).pts (by omega) HN1.out).mono ?_; rintro e w12 ⟨rfl, k12⟩; (have K12 := Lib.hid k12); clear k12)
    | (go_at_call 15; refine (HC2.out _ (PP.out.old (K59.out.trans K10.out)).pts (by omega) HN0.out).mono ?_; rintro e w11 ⟨rfl, k11⟩; (have K11 := Lib.hid k11); clear k11)
    | (go_at_call 15; refine (HC1.out _ (P6.out.old K59.out).pts hlA HNN.out).mono ?_; rintro e w10 ⟨rfl, k10⟩; (have K10 := Lib.hid k10); clear k10)
    | (go_at_call 14; refine (HBE.out _ _ (fa ++ fb) _ C9.out B9.out).mono ?_; rw [beq_self_eq_true]; rintro e w99 ⟨rfl, rfl⟩)
    | (refine wpList_app2 _ (by rfl) _ _ 26 rfl w5.heap.size 5 j0 _ 1 1 Tryd.underlying26 hj hy0 hy1 hy2 rfl (by decide) (.slice A1 fa.length c1) fa.length (bys fa) rfl OA2.out A2 fb.length c2 (bys fb) rfl OB2.out HL2.out.1 HL2.out.2 HZZ.out ?_; intro v9 w9 ho9 hg9 hc9; (have A9 := Lib.hid (bs_elder OA2.out rfl hc9)); (have B9 : Hid (By w9 v9 (fa ++ fb)) := Lib.hid (Bs.of_own (by rw [List.length_append, bys_append]; exact ho9)).by); (have K59 := Lib.hid (K68.out.own_grown OA2.out (Nat.le_refl _) hg9)); (have C9 : Hid (By w9 u3 (fa ++ fb)) := Lib.hid (Bs.of_own (ow_kept OC2.out ((Kept.refl (fun k => (Value.slice A1 fa.length c1).ownBlock = some k) _).grown hg9 (fun _ hk _ => hk)) (fun g hg x => Nat.lt_irrefl _ (Nat.lt_of_lt_of_le (HFAR.out g x) (ow_ge OC2.out hg).1)))).by); clear ho9 hg9 hc9))
  have PP12 := Lib.hid (PP.out.old (K59.out.trans (K10.out.trans (K11.out.trans K12.out))))
  have A12 := Lib.hid (A9.out.old (K10.out.trans (K11.out.trans K12.out)))
  have KA12 := Lib.hid (KA5.out.trans (K59.out.trans (K10.out.trans (K11.out.trans K12.out))))
  clear K1 K2 K5 K6 K7 K8 K59 K10 K11 K12 K68 K05 KA5 PP QQ P6 A9 B9 C9 OA2 OB2 OC2 HC1 HC3 HBE HM HM1 HNN HN1 HFAR HL1 HL2 HZZ
  obtain ⟨as0, has, ha0, ha1, ha2⟩ := info_parts as_info
  have hlP : (P.length : Int) ≤ 8 := by omega
  have N0 : Hid (NS w12 (Pt.nus (P.take 0)) (w12.alloc (.cells #[.slice none 0 0] 32))) := Lib.hid ⟨.slice none 0 0, Blk.fresh _ _ _, World.ownsRow_nil _ _ _ _, (Kept.refl Nothing w12).alloc _⟩
  have HPF := PP12.out.pts.form
  obtain ⟨Ap, cp, rfl, _, _⟩ := HPF
  go_upto_region 10 with fail
  go_loopw [78] (fun i wr => ∃ k : Nat, i = .int .i64 (k : Int) ∧ k ≤ P.length ∧ Hid (NS w12 (Pt.nus (P.take k)) wr)) (fun i _ => P.length - (intOf i).toNat)
  case atStart => exact ⟨0, rfl, Nat.zero_le _, N0⟩
  case round =>
    clear N0
    obtain ⟨k, rfl, hk, HNS⟩ := hrel
    by_cases hlt : k < P.length
    · obtain ⟨nv, nb, no, nk⟩ := HNS.out
      obtain ⟨b, o, Au, cu, rfl, p0, p1, hp⟩ := (PP12.out.pts.old nk).at2 hlt
      have i1 : (0 : Int) ≤ (k : Int) := by omega
      have i2 : (k : Int) < (P.length : Int) := by omega
      have hls : b < wr.heap.size := World.block_lt_of_cell? _ _ p0
      have hmem : P.getD k (0, []) ∈ P := by rw [getD_get hlt]; exact List.getElem_mem _
      have h40 := (HN0.out _ hmem).1
      have ET : Hid (Pt.nus (P.take (k + 1)) = Pt.nus (P.take k) ++ (P.getD k (0, [])).2) := Lib.hid (by rw [List.take_succ_eq_append_getElem hlt, Pt.nus_snoc, getD_get hlt])
      have hcl : (Pt.nus (P.take k)).length ≤ 320 := by
        rw [Pt.nus_len]
        have := Pt.cnt_le2 (P.take k) (fun s hs => (HN0.out s (List.mem_of_mem_take hs)).1)
        rw [List.length_take] at this
        omega
      generalize hsg : P.getD k (0, []) = sg at *
      obtain ⟨sk, sn⟩ := sg
      clear hsg hmem
      simp only at p0 p1 h40
      replace hp : As wr (.slice Au sn.length cu) sn := hp
      have NB := Lib.hid nb
      have NO := Lib.hid no
      have NK := Lib.hid nk
      have n0 := nb.cell 0
      obtain ⟨An, cn, rfl, _, _⟩ := ow_form no
      have HSR := Lib.hid (hp.old ((Kept.refl Nothing wr).alloc (.cells #[.int .u8 (sk.toNat : Int), .slice Au sn.length cu] 34))).src
      have HL3 : Hid ((Pt.nus (P.take k)).length + sn.length ≤ maxLen ∧ ((Pt.nus (P.take k)).length + sn.length) * 4 ≤ 140737488355328) := Lib.hid (by unfold maxLen; omega)
      have hnz := nb.lt
      clear nb no nk hp
      generalize Pt.nus (P.take k) = nl at *
      go_wp2_with (first
        | (at_builtin; refine wpList_app _ rfl _ _ 32 rfl w12.heap.size 37 as0 _ 1 4 Tryd.underlying32 has ha0 ha1 ha2 rfl (by decide) (.slice An nl.length cn) nl.length (ass nl) rfl (ow_kept NO.out ((Kept.refl Nothing wr).alloc _) (fun _ _ x => x)) Au sn.length cu (ass sn) rfl HSR.out HL3.out.1 HL3.out.2 (Nat.le_trans NK.out.size (by simp)) ?_; intro v7 w7 ho7 hg7 _; (obtain ⟨A7, c7, rfl, _, _⟩ := ow_form ho7); (have R7 := Lib.hid (NS.far NB.out NO.out _ hg7)); (have d1 := R7.out.cell 0); (have e1 := R7.out.free 0); (have NSP := Lib.hid (NS.push NB.out NO.out NK.out _ hg7 ho7)); clear ho7 hg7))
      go_roundw
      case rel => exact ⟨k + 1, by go_num, by omega, Lib.hid (by rw [ET.out]; exact NSP.out)⟩
      case measure => simp [intOf]; omega
    · obtain rfl : k = P.length := by omega
      rw [List.take_of_length_le (Nat.le_refl _)] at HNS
      obtain ⟨nv, nb, no, nk⟩ := HNS.out
      have PR := Lib.hid (PP12.out.old nk)
      have hnl : (Pt.nus P).length = nP := by rw [Pt.nus_len, HCP.out]
      have hfit := PP12.out.pts.fits
      have HAN := Lib.hid (As.of_own no (fun n hn => by
        obtain ⟨s, hs, hn⟩ := List.mem_flatMap.1 hn
        exact hfit s hs n hn))
      have BN := Lib.hid nb
      have KN := Lib.hid nk
      have BF2 := Lib.hid (BF.out.kept (KA12.out.trans nk) (fun x => x))
      obtain ⟨An, cn, rfl, _, _⟩ := ow_form no
      clear nb no nk hfit HNS PP12
      generalize hnus : Pt.nus P = nu at *
      have HNU := Lib.hid hnus
      clear hnus
      subst hnl
      go_wp2_with fail
      have hb1 := Blk.fresh wr 3 #[.int .i64 0]
      have k1 := (Kept.refl Nothing wr).alloc (.cells #[.int .i64 0] 3)
      have hz1 : (wr.alloc (.cells #[.int .i64 0] 3)).heap.size = wr.heap.size + 1 := World.size_alloc _ _
      generalize wr.alloc (.cells #[.int .i64 0] 3) = wK at hb1 k1 hz1 ⊢
      refine wp_rf2 (gf := 16) (fs := #[.slice Ap P.length cp]) (u := fun x : UInt8 × Nat => .int .u8 (x.1.toNat : Int)) (v := fun x => .int .u32 (x.2 : Int)) (q1 := 18) (q2 := 19) (xs := Pt.all P) (S := Only wr.heap.size) rfl (enters_of Tryd.func16 (by kernel_rfl) rfl) (fun k (e : k = wr.heap.size) => by omega)
        (all_seq wr _ P _ wK PR.out.pts k1 (fun k (e : k = wr.heap.size) => by omega) (fun k (e : k = wr.heap.size) => by omega) (by omega) (fun s hs => by have := (HN0.out s hs).1; omega))
        (fun pre W => Kept Nothing wr W ∧ Blk W wr.heap.size 3 #[.int .i64 (pre.length : Int)] ∧ (far = 0 ∨ pre.length < far)) (fun pre W => Kept Nothing wr W ∧ Blk W wr.heap.size 3 #[.int .i64 (pre.length : Int)] ∧ pre.length = far ∧ 0 < far)
        (fun s X Y hs hX hk => ⟨hs.1.trans_new hk (fun i hi x => by omega), hs.2.1.kept hk (by omega), hs.2.2⟩) (fun s X Y hs hX hk => ⟨hs.1.trans_new hk (fun i hi x => by omega), hs.2.1.kept hk (by omega), hs.2.2⟩) ⟨k1, hb1, by rw [List.length_nil]; omega⟩ ?assign ?body ?post
      case assign =>
        intro l x W K hK
        simp only [List.setIfInBounds_toArray, List.set_cons_succ, List.set_cons_zero] at hK ⊢
        gi_wp2
        exact hK
      case body =>
        rintro l pre x W ⟨hk, hb, hp⟩ hp2 hz
        simp only [List.setIfInBounds_toArray, List.set_cons_succ, List.set_cons_zero]
        obtain ⟨hi, hv, s1, hs1, he1⟩ := Pt.at_pre hp2
        rw [HNU.out] at hi hv
        obtain ⟨-, -, hk1, hk2⟩ := HN0.out s1 hs1
        rw [← he1] at hk1 hk2
        obtain ⟨bn, on, rfl, hcn⟩ := HAN.out.at (by omega)
        have x0 := hk.cell_some (hcn pre.length hi) (fun x => x)
        rw [hv] at x0
        have n0 := (BN.out.kept hk (fun x => x)).cell 0
        have c0 := hb.cell 0
        have f0 := hb.free 0
        have g0 := (BF2.out.kept hk (fun x => x)).cell 0
        have hne : w.heap.size ≠ wr.heap.size := Nat.ne_of_lt BF2.out.lt
        have g1 : ∀ v, (W.setCell ⟨wr.heap.size, 0, none⟩ v).cell? ⟨w.heap.size, 0, none⟩ = some (.int .u8 (far : Int)) := fun v => ((BF2.out.kept hk (fun x => x)).far (p := ⟨wr.heap.size, 0, none⟩) hne v).cell 0
        have i1 : (0 : Int) ≤ (pre.length : Int) := by omega
        have i2 : (pre.length : Int) < (nu.length : Int) := by omega
        have i3 : (nu.length : Int) ≤ 320 := by omega
        have hk1' : ¬ (x.1.toNat : Int) < 1 := by omega
        have hk2' : ¬ (4 : Int) < (x.1.toNat : Int) := by omega
        clear hs1 he1 hk1 hk2 hcn hv
        have hput := hb.put 0 (.int .i64 ((pre.length : Int) + 1))
        have hset := hk.setCell (p := ⟨wr.heap.size, 0, none⟩) (fun h => absurd h (Nat.lt_irrefl _)) (.int .i64 ((pre.length : Int) + 1))
        have hown := Kept.own W wr.heap.size 0 (.int .i64 ((pre.length : Int) + 1))
        have HPU := Lib.hid hput
        have HSE := Lib.hid hset
        have HOW := Lib.hid hown
        clear hput hset hown
        by_cases hf1 : pre.length + 1 = far
        · have hf2 : (pre.length : Int) + 1 = (far : Int) := by omega
          gi_wp2
          rw [hf2] at HPU HSE HOW
          refine ⟨HOW.out, rfl, HSE.out, ?_, by rw [List.length_append]; exact hf1, by omega⟩
          rw [List.length_append, show pre.length + [x].length = far from hf1]
          exact HPU.out
        · have hf2 : ¬ (pre.length : Int) + 1 = (far : Int) := by omega
          gi_wp2
          refine ⟨HOW.out, HSE.out, ?_, by rw [List.length_append]; simp only [List.length_cons, List.length_nil]; omega⟩
          rw [List.length_append]
          exact HPU.out
      case post =>
        intro D W hD hpo hd
        obtain ⟨kk, hk, hb, hkk⟩ : ∃ kk : Nat, Kept Nothing wr W ∧ Blk W wr.heap.size 3 #[.int .i64 (kk : Int)] ∧ kk ≤ nu.length ∧ (far = 0 ∨ kk = min nu.length far) := by
          have hal : (Pt.all P).length = nu.length := by rw [← HNU.out, Pt.nus_all, List.length_map]
          rcases hpo with ⟨h1, h2, h3⟩ | ⟨pre, hp, h1, h2, h3, h4⟩
          · exact ⟨_, h1, h2, by omega, by omega⟩
          · have := hp.length_le
            exact ⟨_, h1, h2, by omega, by omega⟩
        clear hpo
        obtain ⟨hkl, hkf⟩ := hkk
        have n0 := (BN.out.kept hk (fun x => x)).cell 0
        have c0 := hb.cell 0
        have g0 := (BF2.out.kept hk (fun x => x)).cell 0
        have HK := Lib.hid hk
        have HB := Lib.hid hb
        have HD := Lib.hid hd
        clear hk hb hd
        go_upto_region 22 with fail
        dsimp only
        go_cut [127] from 117 to 127 (fun c wx => c = .bool false ∧ wx = W)
        case first =>
          have hkl' : (kk : Int) ≤ (nu.length : Int) := by omega
          by_cases hf0 : far = 0
          · subst hf0
            go_wp2
            go_meet
            exact ⟨rfl, rfl⟩
          · have hfp : (0 : Int) < (far : Int) := by omega
            have hmin : (if (far : Int) < (nu.length : Int) then (far : Int) else (nu.length : Int)) = (kk : Int) := by split <;> omega
            go_wp2
            go_meet
            exact ⟨by rw [show min (nu.length : Int) (far : Int) = (kk : Int) by omega]; simp, rfl⟩
        case rest =>
          obtain ⟨rfl, hw⟩ := hcut
          rw [hw]
          clear hw
          have HCD := Lib.hid (path_copyD _ P _ (PR.out.old HK.out).pts (by omega) (fun s hs => by have := (HN0.out s hs).1; omega))
          have PW := Lib.hid (PR.out.old HK.out)
          go_upto_region 25 with (go_at_call 12; refine (HCD.out).mono ?_; rintro e w13 ⟨v20, xs20, rfl, o20, r20, d20, k20⟩; (obtain ⟨A20, c20, rfl, _, _⟩ := ow_form o20); (have O20 := Lib.hid o20); (have R20 := Lib.hid r20); (have D20 := Lib.hid d20); (have K20 := Lib.hid k20); clear o20 r20 d20 k20)
          go_upto_region 26 with fail
          clear HCD
          have R0 : Hid (w13.ownsRow W.heap.size 34 2 (.slice A20 P.length c20) P.length xs20 ∧ Rws w13 W.heap.size xs20 (Pt.incs 0 P) ∧ Kept Nothing W w13) := Lib.hid ⟨O20.out, R20.out, K20.out⟩
          go_loopw [132] (fun i wx => ∃ k : Nat, i = .int .i64 (k : Int) ∧ k ≤ P.length ∧ Hid (wx.ownsRow W.heap.size 34 2 (.slice A20 P.length c20) P.length xs20 ∧ Rws wx W.heap.size xs20 (Pt.incs k P) ∧ Kept Nothing W wx)) (fun i _ => P.length - (intOf i).toNat)
          case atStart => exact ⟨0, rfl, Nat.zero_le _, R0⟩
          case round =>
            clear R0
            obtain ⟨k, rfl, hk, HX⟩ := hrel
            by_cases hlt : k < P.length
            · obtain ⟨hx1, hx2, hx3⟩ := HX.out
              obtain ⟨gt, cpt, _, hvt, _, _⟩ := own_lies hx1 (by omega)
              injection hvt with hvt _ _
              subst hvt
              obtain ⟨nv, e0, e1, no, nf⟩ := hx2.at k (by rw [Pt.incs_len]; exact hlt)
              rw [Pt.incs_at hlt] at no nf
              have hmem : P.getD k (0, []) ∈ P := by rw [getD_get hlt]; exact List.getElem_mem _
              have hne := (HN0.out _ hmem).2.1
              have INC := fun (m : Nat) (hm : m < 4294967296) (g n : Nat) (t : List Nat) hg hl => Rws.inc (w := wr) (g := g) (n := n) (t := t) hm hx2 D20.out k (by rw [Pt.incs_len]; exact hlt) e1 hg hl
              rw [Pt.incs_at hlt] at INC
              have ES := Lib.hid (Pt.incs_succ hlt)
              have p1 := hx1.cells (g := gt) rfl _ _ e1
              rw [add_none, Nat.zero_add] at p1
              generalize P.getD k (0, []) = sg at *
              obtain ⟨sk, sn⟩ := sg
              simp only at no nf hne INC
              cases sn with
              | nil => exact absurd rfl hne
              | cons n t =>
                obtain ⟨g, cg, cur, rfl, hge, hbg⟩ := own_lies no (by simp)
                have q0 := no.cells (g := g) rfl 0 (.int .u32 (n : Int)) rfl
                rw [add_none, Nat.zero_add] at q0
                have qf := hbg.free 0
                have hwr := inc_wrap n
                have hml : (n + 1) % 4294967296 < 4294967296 := Nat.mod_lt _ (by decide)
                have INC2 := INC _ hml g n t rfl rfl
                have ES2 : Hid (Pt.incs (k + 1) P = (Pt.incs k P).set k (sk, (n + 1) % 4294967296 :: t)) := ES
                have HGE := Lib.hid hge
                have HBG := Lib.hid hbg
                have HI2 := Lib.hid INC2
                have HX1 := Lib.hid hx1
                have HX3 := Lib.hid hx3
                have hln : (0 : Int) < ((t.length + 1 : Nat) : Int) := by omega
                have i1 : (0 : Int) ≤ (k : Int) := by omega
                have i2 : (k : Int) < (P.length : Int) := by omega
                rw [List.length_cons] at p1
                clear INC INC2 hge hbg hx1 hx2 hx3 HX no nf hmem e0 e1 ES hml
                generalize (n + 1) % 4294967296 = m at *
                generalize t.length + 1 = ln at *
                go_wp2
                go_roundw
                case rel =>
                  refine ⟨k + 1, by go_num, by omega, Lib.hid ⟨ow_kept HX1.out (Kept.own _ _ 0 _) (ow_far HX1.out HBG.out (by decide)), ?_, HX3.out.setCell (p := ⟨g, 0, none⟩) (fun h => by have := HGE.out; exact absurd h (Nat.not_lt.2 this)) _⟩⟩
                  rw [ES2.out]
                  exact HI2.out
                case measure => simp [intOf]; omega
            · obtain rfl : k = P.length := by omega
              clear R20 K20 O20 D20
              obtain ⟨hx1, hx2, hx3⟩ := HX.out
              have TT := Lib.hid (Pown.pts ⟨xs20, by rw [Pt.incs_len]; exact hx1, hx2⟩ : Pts wr (.slice A20 P.length c20) (Pt.incs P.length P))
              have PP13 := Lib.hid (PW.out.old hx3).pts
              have KT := Lib.hid (KN.out.trans (HK.out.trans hx3))
              have KZ := Lib.hid ((KA.out.trans KA12.out).trans KT.out)
              have KW := Lib.hid hx3
              have A13 := Lib.hid (A12.out.old KT.out)
              have hsame : P ≠ [] → decide (Pt.incs P.length P = P) = false := fun h => by
                rw [decide_eq_false_iff_not]
                exact Pt.incs_ne h (fun s hs => (HN0.out s hs).2.1) PW.out.pts.fits
              have HSA := Lib.hid hsame
              clear hx1 hx2 hx3 HX hsame
              go_upto_region 31 with (go_at_call 13; refine (HBY.out _ _ _ PP13.out HM0.out (by omega) HN0.out).mono ?_; rw [HFA.out]; rintro e w14 ⟨u9, rfl, o14, k14⟩; (have B9 := Lib.hid (Bs.of_own o14).by); (have K14 := Lib.hid k14); clear o14 k14)
              have PP14 := Lib.hid (PP13.out.old K14.out)
              have TT14 := Lib.hid (TT.out.old K14.out)
              have A14 := Lib.hid (A13.out.old K14.out)
              have BN14 := Lib.hid (BN.out.kept ((HK.out.trans KW.out).trans K14.out) (fun x => x))
              have BR14 := Lib.hid (BR.out.kept ((KA12.out.trans KT.out).trans K14.out) (fun x => x))
              have HR14 := Lib.hid (HR.out.kept (KZ.out.trans K14.out))
              have HS14 := Lib.hid (HS.out.kept (KZ.out.trans K14.out))
              have HDZ : Hid (w.heap.size + 1 < D ∧ D < W.heap.size) := Lib.hid (by
                have h1 := BR.out.lt
                have h2 := KA12.out.size
                have h3 := KN.out.size
                exact ⟨by omega, (Array.getElem?_eq_some_iff.1 HD.out).1⟩)
              have HD14 : Hid (w14.heap[D]? = some (.deferred (some []))) := Lib.hid ((K14.out.block D (Nat.lt_of_lt_of_le HDZ.out.2 KW.out.size) (fun x => x)).trans ((KW.out.block D HDZ.out.2 (fun x => x)).trans HD.out))
              have HKZ := Lib.hid (KZ.out.trans K14.out)
              have HFIN : Hid (∀ (A : Act) (u : World) (Q : Exit → Act → World → Prop), Kept Nothing w14 u → A.tmps.getD 6 undef = .pointer (some ⟨w.heap.size + 1, 0, none⟩) → True) := Lib.hid (fun _ _ _ _ _ => trivial)
              clear HFIN
              rename_i zq1 zk3 za2 zlf zrt zk2 zq0 zk1 za1 zk0 za0
              clear za2 za1 hmf hi hz0 hz2 hj hy0 hy1 hy2 has ha0 ha1 ha2 n0 c0 g0 hkf
              clear zk1 zk2 zk3 zq0 zq1
              by_cases hP : P = []
              · have hPl : (P.length : Int) = 0 := by rw [hP]; rfl
                have hPb : ((P.length : Int) == 0) = true := by simp [hPl]
                clear hP hPl
                refine wp_region_last w14 (Facts [some (u9), some (.slice A1 fa.length c1), some (.bool true), some (.bool true), some (.slice Ap P.length cp), some (.int .i64 (P.length : Int)), some (.bool true), some (.bool true), some (undef), some (undef), some (undef), some (undef), some (.bool true), some (.bool true), some (.bool true), some (.slice Ap P.length cp), some (.int .i64 (nu.length : Int)), some (.slice An nu.length cn), some (.int .i64 (nu.length : Int)), some (.bool true), some (.bool true), some (.bool true), some (.bool true), some (.bool true)] (fun _ _ _ => True)) 24 _ (by rfl) (by rfl) (by kernel_rfl) (by rfl) (by rfl) (by kernel_rfl) (by decide +kernel) (by intro d hd; simp [dsts] at hd ⊢; omega) (ready_nil (by kernel_rfl)) (fun k => if k = 7 then true else true) (by kernel_rfl) ?_ (Facts.stab (fun _ _ _ _ _ h => h)) ((Kept.refl Nothing w14).drew) ?_ ?_
                · refine Facts.guards2 (gv := fun k => if k = 7 then true else true) (E := [3, 7, 14, 21]) (by kernel_rfl) ?_
                  repeat (first | refine List.forall_mem_cons.2 ⟨by rfl, ?_⟩ | exact List.forall_mem_nil _)
                · refine OweTo.cons ?_ (by rfl) ?_
                  · intro u a hk hf hfar
                    have v22 : a.tmps.getD 22 undef = u9 := hfar 22 (by decide)
                    have w22 := v22
                    rw [Array.getD_eq_getD_getElem?] at w22
                    clear hf hfar
                    go_simp
                    exact ⟨_, rfl, Kept.refl _ _, rfl⟩
                  refine OweTo.cons ?_ (by rfl) ?_
                  · intro u a hk hf hfar
                    have v8 : a.tmps.getD 8 undef = .slice A1 fa.length c1 := hfar 8 (by decide)
                    have w8 := v8
                    rw [Array.getD_eq_getD_getElem?] at w8
                    clear hf hfar
                    go_simp
                    exact ⟨_, rfl, Kept.refl _ _, rfl⟩
                  refine OweTo.cons ?_ (by rfl) ?_
                  · intro u a hk hf hfar
                    have v150 : a.tmps.getD 150 undef = u9 := hf 0 _ 150 rfl rfl ⟨⟨0, .data⟩, Array.mem_of_getElem? (i := 0) rfl, rfl, rfl⟩
                    have w150 := v150
                    rw [Array.getD_eq_getD_getElem?] at w150
                    have v151 : a.tmps.getD 151 undef = .slice A1 fa.length c1 := hf 1 _ 151 rfl rfl ⟨⟨1, .data⟩, Array.mem_of_getElem? (i := 1) rfl, rfl, rfl⟩
                    have w151 := v151
                    rw [Array.getD_eq_getD_getElem?] at w151
                    clear hf hfar
                    go_simp
                    refine (by_equal _ _ _ _ _ (B9.out.old hk) (A14.out.old hk)).mono ?_
                    rw [beq_self_eq_true]
                    rintro e u' ⟨rfl, rfl⟩
                    exact ⟨_, rfl, Kept.refl _ _, rfl⟩
                  refine OweTo.cons ?_ (by rfl) ?_
                  · intro u a hk hf hfar
                    have v152 : a.tmps.getD 152 undef = .bool true := hf 2 _ 152 rfl rfl ⟨⟨2, .data⟩, Array.mem_of_getElem? (i := 0) rfl, rfl, rfl⟩
                    have w152 := v152
                    rw [Array.getD_eq_getD_getElem?] at w152
                    clear hf hfar
                    go_simp
                    exact ⟨_, rfl, Kept.refl _ _, rfl⟩
                  refine OweTo.cons ?_ (by rfl) ?_
                  · intro u a hk hf hfar
                    have v0 : a.tmps.getD 0 undef = .slice Ap P.length cp := hfar 0 (by decide)
                    have w0 := v0
                    rw [Array.getD_eq_getD_getElem?] at w0
                    clear hf hfar
                    go_simp
                    exact ⟨_, rfl, Kept.refl _ _, rfl⟩
                  refine OweTo.cons ?_ (by rfl) ?_
                  · intro u a hk hf hfar
                    have v154 : a.tmps.getD 154 undef = .slice Ap P.length cp := hf 4 _ 154 rfl rfl ⟨⟨4, .data⟩, Array.mem_of_getElem? (i := 0) rfl, rfl, rfl⟩
                    have w154 := v154
                    rw [Array.getD_eq_getD_getElem?] at w154
                    clear hf hfar
                    go_simp
                    exact ⟨_, rfl, Kept.refl _ _, rfl⟩
                  refine OweTo.cons ?_ (by rfl) ?_
                  · intro u a hk hf hfar
                    have v155 : a.tmps.getD 155 undef = .int .i64 (P.length : Int) := hf 5 _ 155 rfl rfl ⟨⟨5, .data⟩, Array.mem_of_getElem? (i := 0) rfl, rfl, rfl⟩
                    have w155 := v155
                    rw [Array.getD_eq_getD_getElem?] at w155
                    clear hf hfar
                    go_simp
                    exact ⟨_, rfl, Kept.refl _ _, rfl⟩
                  refine OweTo.cons ?_ (by rfl) ?_
                  · intro u a hk hf hfar
                    have v156 : a.tmps.getD 156 undef = .bool true := hf 6 _ 156 rfl rfl ⟨⟨6, .data⟩, Array.mem_of_getElem? (i := 0) rfl, rfl, rfl⟩
                    have w156 := v156
                    rw [Array.getD_eq_getD_getElem?] at w156
                    clear hf hfar
                    go_simp
                    exact ⟨_, rfl, Kept.refl _ _, rfl⟩
                  refine OweTo.skip (fun u => rfl) (by rfl) ?_
                  refine OweTo.skip (fun u => rfl) (by rfl) ?_
                  refine OweTo.skip (fun u => rfl) (by rfl) ?_
                  refine OweTo.skip (fun u => rfl) (by rfl) ?_
                  refine OweTo.cons ?_ (by rfl) ?_
                  · intro u a hk hf hfar
                    have v157 : a.tmps.getD 157 undef = .bool true := hf 7 _ 157 rfl rfl ⟨⟨7, .data⟩, Array.mem_of_getElem? (i := 0) rfl, rfl, rfl⟩
                    have w157 := v157
                    rw [Array.getD_eq_getD_getElem?] at w157
                    clear hf hfar
                    go_simp
                    exact ⟨_, rfl, Kept.refl _ _, rfl⟩
                  refine OweTo.cons ?_ (by rfl) ?_
                  · intro u a hk hf hfar
                    have v153 : a.tmps.getD 153 undef = .bool true := hf 3 _ 153 rfl rfl ⟨⟨3, .data⟩, Array.mem_of_getElem? (i := 0) rfl, rfl, rfl⟩
                    have w153 := v153
                    rw [Array.getD_eq_getD_getElem?] at w153
                    have v162 : a.tmps.getD 162 undef = .bool true := hf 12 _ 162 rfl rfl ⟨⟨12, .data⟩, Array.mem_of_getElem? (i := 1) rfl, rfl, rfl⟩
                    have w162 := v162
                    rw [Array.getD_eq_getD_getElem?] at w162
                    clear hf hfar
                    go_simp
                    exact ⟨_, rfl, Kept.refl _ _, rfl⟩
                  refine OweTo.cons ?_ (by rfl) ?_
                  · intro u a hk hf hfar
                    have v163 : a.tmps.getD 163 undef = .bool true := hf 13 _ 163 rfl rfl ⟨⟨13, .data⟩, Array.mem_of_getElem? (i := 0) rfl, rfl, rfl⟩
                    have w163 := v163
                    rw [Array.getD_eq_getD_getElem?] at w163
                    clear hf hfar
                    go_simp
                    exact ⟨_, rfl, Kept.refl _ _, rfl⟩
                  refine OweTo.cons ?_ (by rfl) ?_
                  · intro u a hk hf hfar
                    have v0 : a.tmps.getD 0 undef = .slice Ap P.length cp := hfar 0 (by decide)
                    have w0 := v0
                    rw [Array.getD_eq_getD_getElem?] at w0
                    clear hf hfar
                    go_simp
                    exact ⟨_, rfl, Kept.refl _ _, rfl⟩
                  refine OweTo.cons ?_ (by rfl) ?_
                  · intro u a hk hf hfar
                    have v165 : a.tmps.getD 165 undef = .slice Ap P.length cp := hf 15 _ 165 rfl rfl ⟨⟨15, .data⟩, Array.mem_of_getElem? (i := 0) rfl, rfl, rfl⟩
                    have w165 := v165
                    rw [Array.getD_eq_getD_getElem?] at w165
                    clear hf hfar
                    go_simp
                    refine (HC2.out u (PP14.out.old hk) (by omega) HN0.out).mono ?_
                    rintro e u' ⟨rfl, hk'⟩
                    exact ⟨_, rfl, hk', rfl⟩
                  refine OweTo.cons ?_ (by rfl) ?_
                  · intro u a hk hf hfar
                    have v14 : a.tmps.getD 14 undef = .pointer (some ⟨w12.heap.size, 0, none⟩) := hfar 14 (by decide)
                    have w14 := v14
                    rw [Array.getD_eq_getD_getElem?] at w14
                    have s14 := (BN14.out.kept hk (fun x => x)).cell 0
                    clear hf hfar
                    go_simp
                    exact ⟨_, rfl, Kept.refl _ _, rfl⟩
                  refine OweTo.cons ?_ (by rfl) ?_
                  · intro u a hk hf hfar
                    have v167 : a.tmps.getD 167 undef = .slice An nu.length cn := hf 17 _ 167 rfl rfl ⟨⟨17, .data⟩, Array.mem_of_getElem? (i := 0) rfl, rfl, rfl⟩
                    have w167 := v167
                    rw [Array.getD_eq_getD_getElem?] at w167
                    clear hf hfar
                    go_simp
                    exact ⟨_, rfl, Kept.refl _ _, rfl⟩
                  refine OweTo.cons ?_ (by rfl) ?_
                  · intro u a hk hf hfar
                    have v166 : a.tmps.getD 166 undef = .int .i64 (nu.length : Int) := hf 16 _ 166 rfl rfl ⟨⟨16, .data⟩, Array.mem_of_getElem? (i := 0) rfl, rfl, rfl⟩
                    have w166 := v166
                    rw [Array.getD_eq_getD_getElem?] at w166
                    have v168 : a.tmps.getD 168 undef = .int .i64 (nu.length : Int) := hf 18 _ 168 rfl rfl ⟨⟨18, .data⟩, Array.mem_of_getElem? (i := 1) rfl, rfl, rfl⟩
                    have w168 := v168
                    rw [Array.getD_eq_getD_getElem?] at w168
                    clear hf hfar
                    go_simp
                    exact ⟨_, rfl, Kept.refl _ _, rfl⟩
                  refine OweTo.cons ?_ (by rfl) ?_
                  · intro u a hk hf hfar
                    have v164 : a.tmps.getD 164 undef = .bool true := hf 14 _ 164 rfl rfl ⟨⟨14, .data⟩, Array.mem_of_getElem? (i := 0) rfl, rfl, rfl⟩
                    have w164 := v164
                    rw [Array.getD_eq_getD_getElem?] at w164
                    have v169 : a.tmps.getD 169 undef = .bool true := hf 19 _ 169 rfl rfl ⟨⟨19, .data⟩, Array.mem_of_getElem? (i := 1) rfl, rfl, rfl⟩
                    have w169 := v169
                    rw [Array.getD_eq_getD_getElem?] at w169
                    clear hf hfar
                    go_simp
                    exact ⟨_, rfl, Kept.refl _ _, rfl⟩
                  refine OweTo.cons ?_ (by rfl) ?_
                  · intro u a hk hf hfar
                    have v170 : a.tmps.getD 170 undef = .bool true := hf 20 _ 170 rfl rfl ⟨⟨20, .data⟩, Array.mem_of_getElem? (i := 0) rfl, rfl, rfl⟩
                    have w170 := v170
                    rw [Array.getD_eq_getD_getElem?] at w170
                    clear hf hfar
                    go_simp
                    exact ⟨_, rfl, Kept.refl _ _, rfl⟩
                  refine OweTo.cons ?_ (by rfl) ?_
                  · intro u a hk hf hfar
                    clear hf hfar
                    go_simp
                    refine (wakes_true u (HR14.out.kept hk) (HS14.out.kept hk)).mono ?_
                    rintro e u' ⟨rfl, hk'⟩
                    exact ⟨_, rfl, hk', rfl⟩
                  refine OweTo.cons ?_ (by rfl) ?_
                  · intro u a hk hf hfar
                    have v171 : a.tmps.getD 171 undef = .bool true := hf 21 _ 171 rfl rfl ⟨⟨21, .data⟩, Array.mem_of_getElem? (i := 0) rfl, rfl, rfl⟩
                    have w171 := v171
                    rw [Array.getD_eq_getD_getElem?] at w171
                    have v172 : a.tmps.getD 172 undef = .bool true := hf 22 _ 172 rfl rfl ⟨⟨22, .data⟩, Array.mem_of_getElem? (i := 1) rfl, rfl, rfl⟩
                    have w172 := v172
                    rw [Array.getD_eq_getD_getElem?] at w172
                    clear hf hfar
                    go_simp
                    exact ⟨_, rfl, Kept.refl _ _, rfl⟩
                  exact OweTo.last (by decide)
                · intro A u hk hsz hdef hfar hfacts
                  have v6 : A.tmps.getD 6 undef = .pointer (some ⟨w.heap.size + 1, 0, none⟩) := hfar 6 (by decide)
                  have v173 : A.tmps.getD 173 undef = .bool true := hfacts 23 _ 173 rfl rfl
                  have w6 := v6
                  have w173 := v173
                  rw [Array.getD_eq_getD_getElem?] at w6 w173
                  have bR := BR14.out.kept hk (fun x => x)
                  have cR := bR.cell 0
                  have fR := bR.free 0
                  have e0 := ((bR.put 0 (.bool true)).putObj (D := D) (by have := HDZ.out; omega) (.deferred none)).cell 0
                  have hd2 : (u.setCell ⟨w.heap.size + 1, 0, none⟩ (.bool true)).heap[D]? = some (.deferred (some [])) := (Below.heap_setCell u ⟨w.heap.size + 1, 0, none⟩ _ D (by show D ≠ w.heap.size + 1; have := HDZ.out; omega)).trans ((hk.block D (Array.getElem?_eq_some_iff.1 HD14.out).1 (fun x => x)).trans HD14.out)
                  have kfin : Kept Nothing w ((u.setCell ⟨w.heap.size + 1, 0, none⟩ (.bool true)).putObj D (.deferred none)) := ((HKZ.out.trans hk).setCell (p := ⟨w.heap.size + 1, 0, none⟩) (fun (h : w.heap.size + 1 < w.heap.size) => absurd h (by omega)) _).trans_new ((Kept.putObj _ D _).mono (fun k (e : k = D) => e)) (fun i hi (e : i = D) => by have := HDZ.out; omega)
                  clear hfar hfacts
                  go_simp
                  obtain ⟨At, Ad⟩ := A
                  simp only at hdef v6 w6
                  subst hdef
                  go_wp2
                  refine ⟨by simp, .inl ⟨_, _, rfl, run_takeDeferred hd2, ?_⟩⟩
                  exact ⟨.bool true, by simp [results, Tryd.results3, go_sem, w6, e0], rfl, kfin⟩
              · have hPb : ((P.length : Int) == 0) = false := by have := List.length_pos_iff.2 hP; simp; omega
                have HSM := Lib.hid (fun w h1 h2 => path_same (.slice A20 P.length c20) (.slice Ap P.length cp) (Pt.incs P.length P) P w h1 h2)
                rw [HSA.out hP] at HSM
                clear hP
                refine wp_region_last w14 (Facts [some (u9), some (.slice A1 fa.length c1), some (.bool true), some (.bool true), some (.slice Ap P.length cp), some (.int .i64 (P.length : Int)), some (.bool false), some (.bool false), some (.slice A20 P.length c20), some (.slice Ap P.length cp), some (.bool false), some (.bool true), some (.bool true), some (.bool true), some (.bool true), some (.slice Ap P.length cp), some (.int .i64 (nu.length : Int)), some (.slice An nu.length cn), some (.int .i64 (nu.length : Int)), some (.bool true), some (.bool true), some (.bool true), some (.bool true), some (.bool true)] (fun _ _ _ => True)) 24 _ (by rfl) (by rfl) (by kernel_rfl) (by rfl) (by rfl) (by kernel_rfl) (by decide +kernel) (by intro d hd; simp [dsts] at hd ⊢; omega) (ready_nil (by kernel_rfl)) (fun k => if k = 7 then false else true) (by kernel_rfl) ?_ (Facts.stab (fun _ _ _ _ _ h => h)) ((Kept.refl Nothing w14).drew) ?_ ?_
                · refine Facts.guards2 (gv := fun k => if k = 7 then false else true) (E := [3, 7, 14, 21]) (by kernel_rfl) ?_
                  repeat (first | refine List.forall_mem_cons.2 ⟨by rfl, ?_⟩ | exact List.forall_mem_nil _)
                · refine OweTo.cons ?_ (by rfl) ?_
                  · intro u a hk hf hfar
                    have v22 : a.tmps.getD 22 undef = u9 := hfar 22 (by decide)
                    have w22 := v22
                    rw [Array.getD_eq_getD_getElem?] at w22
                    clear hf hfar
                    go_simp
                    exact ⟨_, rfl, Kept.refl _ _, rfl⟩
                  refine OweTo.cons ?_ (by rfl) ?_
                  · intro u a hk hf hfar
                    have v8 : a.tmps.getD 8 undef = .slice A1 fa.length c1 := hfar 8 (by decide)
                    have w8 := v8
                    rw [Array.getD_eq_getD_getElem?] at w8
                    clear hf hfar
                    go_simp
                    exact ⟨_, rfl, Kept.refl _ _, rfl⟩
                  refine OweTo.cons ?_ (by rfl) ?_
                  · intro u a hk hf hfar
                    have v150 : a.tmps.getD 150 undef = u9 := hf 0 _ 150 rfl rfl ⟨⟨0, .data⟩, Array.mem_of_getElem? (i := 0) rfl, rfl, rfl⟩
                    have w150 := v150
                    rw [Array.getD_eq_getD_getElem?] at w150
                    have v151 : a.tmps.getD 151 undef = .slice A1 fa.length c1 := hf 1 _ 151 rfl rfl ⟨⟨1, .data⟩, Array.mem_of_getElem? (i := 1) rfl, rfl, rfl⟩
                    have w151 := v151
                    rw [Array.getD_eq_getD_getElem?] at w151
                    clear hf hfar
                    go_simp
                    refine (by_equal _ _ _ _ _ (B9.out.old hk) (A14.out.old hk)).mono ?_
                    rw [beq_self_eq_true]
                    rintro e u' ⟨rfl, rfl⟩
                    exact ⟨_, rfl, Kept.refl _ _, rfl⟩
                  refine OweTo.cons ?_ (by rfl) ?_
                  · intro u a hk hf hfar
                    have v152 : a.tmps.getD 152 undef = .bool true := hf 2 _ 152 rfl rfl ⟨⟨2, .data⟩, Array.mem_of_getElem? (i := 0) rfl, rfl, rfl⟩
                    have w152 := v152
                    rw [Array.getD_eq_getD_getElem?] at w152
                    clear hf hfar
                    go_simp
                    exact ⟨_, rfl, Kept.refl _ _, rfl⟩
                  refine OweTo.cons ?_ (by rfl) ?_
                  · intro u a hk hf hfar
                    have v0 : a.tmps.getD 0 undef = .slice Ap P.length cp := hfar 0 (by decide)
                    have w0 := v0
                    rw [Array.getD_eq_getD_getElem?] at w0
                    clear hf hfar
                    go_simp
                    exact ⟨_, rfl, Kept.refl _ _, rfl⟩
                  refine OweTo.cons ?_ (by rfl) ?_
                  · intro u a hk hf hfar
                    have v154 : a.tmps.getD 154 undef = .slice Ap P.length cp := hf 4 _ 154 rfl rfl ⟨⟨4, .data⟩, Array.mem_of_getElem? (i := 0) rfl, rfl, rfl⟩
                    have w154 := v154
                    rw [Array.getD_eq_getD_getElem?] at w154
                    clear hf hfar
                    go_simp
                    exact ⟨_, rfl, Kept.refl _ _, rfl⟩
                  refine OweTo.cons ?_ (by rfl) ?_
                  · intro u a hk hf hfar
                    have v155 : a.tmps.getD 155 undef = .int .i64 (P.length : Int) := hf 5 _ 155 rfl rfl ⟨⟨5, .data⟩, Array.mem_of_getElem? (i := 0) rfl, rfl, rfl⟩
                    have w155 := v155
                    rw [Array.getD_eq_getD_getElem?] at w155
                    clear hf hfar
                    go_simp
                    exact ⟨_, rfl, Kept.refl _ _, rfl⟩
                  refine OweTo.cons ?_ (by rfl) ?_
                  · intro u a hk hf hfar
                    have v156 : a.tmps.getD 156 undef = .bool false := hf 6 _ 156 rfl rfl ⟨⟨6, .data⟩, Array.mem_of_getElem? (i := 0) rfl, rfl, rfl⟩
                    have w156 := v156
                    rw [Array.getD_eq_getD_getElem?] at w156
                    clear hf hfar
                    go_simp
                    exact ⟨_, rfl, Kept.refl _ _, rfl⟩
                  refine OweTo.cons ?_ (by rfl) ?_
                  · intro u a hk hf hfar
                    have v20 : a.tmps.getD 20 undef = .slice A20 P.length c20 := hfar 20 (by decide)
                    have w20 := v20
                    rw [Array.getD_eq_getD_getElem?] at w20
                    clear hf hfar
                    go_simp
                    exact ⟨_, rfl, Kept.refl _ _, rfl⟩
                  refine OweTo.cons ?_ (by rfl) ?_
                  · intro u a hk hf hfar
                    have v0 : a.tmps.getD 0 undef = .slice Ap P.length cp := hfar 0 (by decide)
                    have w0 := v0
                    rw [Array.getD_eq_getD_getElem?] at w0
                    clear hf hfar
                    go_simp
                    exact ⟨_, rfl, Kept.refl _ _, rfl⟩
                  refine OweTo.cons ?_ (by rfl) ?_
                  · intro u a hk hf hfar
                    have v158 : a.tmps.getD 158 undef = .slice A20 P.length c20 := hf 8 _ 158 rfl rfl ⟨⟨8, .data⟩, Array.mem_of_getElem? (i := 0) rfl, rfl, rfl⟩
                    have w158 := v158
                    rw [Array.getD_eq_getD_getElem?] at w158
                    have v159 : a.tmps.getD 159 undef = .slice Ap P.length cp := hf 9 _ 159 rfl rfl ⟨⟨9, .data⟩, Array.mem_of_getElem? (i := 1) rfl, rfl, rfl⟩
                    have w159 := v159
                    rw [Array.getD_eq_getD_getElem?] at w159
                    clear hf hfar
                    go_simp
                    refine (HSM.out u (TT14.out.old hk) (PP14.out.old hk)).mono ?_
                    rintro e u' ⟨rfl, hk'⟩
                    exact ⟨_, rfl, hk', rfl⟩
                  refine OweTo.cons ?_ (by rfl) ?_
                  · intro u a hk hf hfar
                    have v160 : a.tmps.getD 160 undef = .bool false := hf 10 _ 160 rfl rfl ⟨⟨10, .data⟩, Array.mem_of_getElem? (i := 0) rfl, rfl, rfl⟩
                    have w160 := v160
                    rw [Array.getD_eq_getD_getElem?] at w160
                    clear hf hfar
                    go_simp
                    exact ⟨_, rfl, Kept.refl _ _, rfl⟩
                  refine OweTo.cons ?_ (by rfl) ?_
                  · intro u a hk hf hfar
                    have v157 : a.tmps.getD 157 undef = .bool false := hf 7 _ 157 rfl rfl ⟨⟨7, .data⟩, Array.mem_of_getElem? (i := 0) rfl, rfl, rfl⟩
                    have w157 := v157
                    rw [Array.getD_eq_getD_getElem?] at w157
                    have v161 : a.tmps.getD 161 undef = .bool true := hf 11 _ 161 rfl rfl ⟨⟨11, .data⟩, Array.mem_of_getElem? (i := 1) rfl, rfl, rfl⟩
                    have w161 := v161
                    rw [Array.getD_eq_getD_getElem?] at w161
                    clear hf hfar
                    go_simp
                    exact ⟨_, rfl, Kept.refl _ _, rfl⟩
                  refine OweTo.cons ?_ (by rfl) ?_
                  · intro u a hk hf hfar
                    have v153 : a.tmps.getD 153 undef = .bool true := hf 3 _ 153 rfl rfl ⟨⟨3, .data⟩, Array.mem_of_getElem? (i := 0) rfl, rfl, rfl⟩
                    have w153 := v153
                    rw [Array.getD_eq_getD_getElem?] at w153
                    have v162 : a.tmps.getD 162 undef = .bool true := hf 12 _ 162 rfl rfl ⟨⟨12, .data⟩, Array.mem_of_getElem? (i := 1) rfl, rfl, rfl⟩
                    have w162 := v162
                    rw [Array.getD_eq_getD_getElem?] at w162
                    clear hf hfar
                    go_simp
                    exact ⟨_, rfl, Kept.refl _ _, rfl⟩
                  refine OweTo.cons ?_ (by rfl) ?_
                  · intro u a hk hf hfar
                    have v163 : a.tmps.getD 163 undef = .bool true := hf 13 _ 163 rfl rfl ⟨⟨13, .data⟩, Array.mem_of_getElem? (i := 0) rfl, rfl, rfl⟩
                    have w163 := v163
                    rw [Array.getD_eq_getD_getElem?] at w163
                    clear hf hfar
                    go_simp
                    exact ⟨_, rfl, Kept.refl _ _, rfl⟩
                  refine OweTo.cons ?_ (by rfl) ?_
                  · intro u a hk hf hfar
                    have v0 : a.tmps.getD 0 undef = .slice Ap P.length cp := hfar 0 (by decide)
                    have w0 := v0
                    rw [Array.getD_eq_getD_getElem?] at w0
                    clear hf hfar
                    go_simp
                    exact ⟨_, rfl, Kept.refl _ _, rfl⟩
                  refine OweTo.cons ?_ (by rfl) ?_
                  · intro u a hk hf hfar
                    have v165 : a.tmps.getD 165 undef = .slice Ap P.length cp := hf 15 _ 165 rfl rfl ⟨⟨15, .data⟩, Array.mem_of_getElem? (i := 0) rfl, rfl, rfl⟩
                    have w165 := v165
                    rw [Array.getD_eq_getD_getElem?] at w165
                    clear hf hfar
                    go_simp
                    refine (HC2.out u (PP14.out.old hk) (by omega) HN0.out).mono ?_
                    rintro e u' ⟨rfl, hk'⟩
                    exact ⟨_, rfl, hk', rfl⟩
                  refine OweTo.cons ?_ (by rfl) ?_
                  · intro u a hk hf hfar
                    have v14 : a.tmps.getD 14 undef = .pointer (some ⟨w12.heap.size, 0, none⟩) := hfar 14 (by decide)
                    have w14 := v14
                    rw [Array.getD_eq_getD_getElem?] at w14
                    have s14 := (BN14.out.kept hk (fun x => x)).cell 0
                    clear hf hfar
                    go_simp
                    exact ⟨_, rfl, Kept.refl _ _, rfl⟩
                  refine OweTo.cons ?_ (by rfl) ?_
                  · intro u a hk hf hfar
                    have v167 : a.tmps.getD 167 undef = .slice An nu.length cn := hf 17 _ 167 rfl rfl ⟨⟨17, .data⟩, Array.mem_of_getElem? (i := 0) rfl, rfl, rfl⟩
                    have w167 := v167
                    rw [Array.getD_eq_getD_getElem?] at w167
                    clear hf hfar
                    go_simp
                    exact ⟨_, rfl, Kept.refl _ _, rfl⟩
                  refine OweTo.cons ?_ (by rfl) ?_
                  · intro u a hk hf hfar
                    have v166 : a.tmps.getD 166 undef = .int .i64 (nu.length : Int) := hf 16 _ 166 rfl rfl ⟨⟨16, .data⟩, Array.mem_of_getElem? (i := 0) rfl, rfl, rfl⟩
                    have w166 := v166
                    rw [Array.getD_eq_getD_getElem?] at w166
                    have v168 : a.tmps.getD 168 undef = .int .i64 (nu.length : Int) := hf 18 _ 168 rfl rfl ⟨⟨18, .data⟩, Array.mem_of_getElem? (i := 1) rfl, rfl, rfl⟩
                    have w168 := v168
                    rw [Array.getD_eq_getD_getElem?] at w168
                    clear hf hfar
                    go_simp
                    exact ⟨_, rfl, Kept.refl _ _, rfl⟩
                  refine OweTo.cons ?_ (by rfl) ?_
                  · intro u a hk hf hfar
                    have v164 : a.tmps.getD 164 undef = .bool true := hf 14 _ 164 rfl rfl ⟨⟨14, .data⟩, Array.mem_of_getElem? (i := 0) rfl, rfl, rfl⟩
                    have w164 := v164
                    rw [Array.getD_eq_getD_getElem?] at w164
                    have v169 : a.tmps.getD 169 undef = .bool true := hf 19 _ 169 rfl rfl ⟨⟨19, .data⟩, Array.mem_of_getElem? (i := 1) rfl, rfl, rfl⟩
                    have w169 := v169
                    rw [Array.getD_eq_getD_getElem?] at w169
                    clear hf hfar
                    go_simp
                    exact ⟨_, rfl, Kept.refl _ _, rfl⟩
                  refine OweTo.cons ?_ (by rfl) ?_
                  · intro u a hk hf hfar
                    have v170 : a.tmps.getD 170 undef = .bool true := hf 20 _ 170 rfl rfl ⟨⟨20, .data⟩, Array.mem_of_getElem? (i := 0) rfl, rfl, rfl⟩
                    have w170 := v170
                    rw [Array.getD_eq_getD_getElem?] at w170
                    clear hf hfar
                    go_simp
                    exact ⟨_, rfl, Kept.refl _ _, rfl⟩
                  refine OweTo.cons ?_ (by rfl) ?_
                  · intro u a hk hf hfar
                    clear hf hfar
                    go_simp
                    refine (wakes_true u (HR14.out.kept hk) (HS14.out.kept hk)).mono ?_
                    rintro e u' ⟨rfl, hk'⟩
                    exact ⟨_, rfl, hk', rfl⟩
                  refine OweTo.cons ?_ (by rfl) ?_
                  · intro u a hk hf hfar
                    have v171 : a.tmps.getD 171 undef = .bool true := hf 21 _ 171 rfl rfl ⟨⟨21, .data⟩, Array.mem_of_getElem? (i := 0) rfl, rfl, rfl⟩
                    have w171 := v171
                    rw [Array.getD_eq_getD_getElem?] at w171
                    have v172 : a.tmps.getD 172 undef = .bool true := hf 22 _ 172 rfl rfl ⟨⟨22, .data⟩, Array.mem_of_getElem? (i := 1) rfl, rfl, rfl⟩
                    have w172 := v172
                    rw [Array.getD_eq_getD_getElem?] at w172
                    clear hf hfar
                    go_simp
                    exact ⟨_, rfl, Kept.refl _ _, rfl⟩
                  exact OweTo.last (by decide)
                · intro A u hk hsz hdef hfar hfacts
                  have v6 : A.tmps.getD 6 undef = .pointer (some ⟨w.heap.size + 1, 0, none⟩) := hfar 6 (by decide)
                  have v173 : A.tmps.getD 173 undef = .bool true := hfacts 23 _ 173 rfl rfl
                  have w6 := v6
                  have w173 := v173
                  rw [Array.getD_eq_getD_getElem?] at w6 w173
                  have bR := BR14.out.kept hk (fun x => x)
                  have cR := bR.cell 0
                  have fR := bR.free 0
                  have e0 := ((bR.put 0 (.bool true)).putObj (D := D) (by have := HDZ.out; omega) (.deferred none)).cell 0
                  have hd2 : (u.setCell ⟨w.heap.size + 1, 0, none⟩ (.bool true)).heap[D]? = some (.deferred (some [])) := (Below.heap_setCell u ⟨w.heap.size + 1, 0, none⟩ _ D (by show D ≠ w.heap.size + 1; have := HDZ.out; omega)).trans ((hk.block D (Array.getElem?_eq_some_iff.1 HD14.out).1 (fun x => x)).trans HD14.out)
                  have kfin : Kept Nothing w ((u.setCell ⟨w.heap.size + 1, 0, none⟩ (.bool true)).putObj D (.deferred none)) := ((HKZ.out.trans hk).setCell (p := ⟨w.heap.size + 1, 0, none⟩) (fun (h : w.heap.size + 1 < w.heap.size) => absurd h (by omega)) _).trans_new ((Kept.putObj _ D _).mono (fun k (e : k = D) => e)) (fun i hi (e : i = D) => by have := HDZ.out; omega)
                  clear hfar hfacts
                  go_simp
                  obtain ⟨At, Ad⟩ := A
                  simp only at hdef v6 w6
                  subst hdef
                  go_wp2
                  refine ⟨by simp, .inl ⟨_, _, rfl, run_takeDeferred hd2, ?_⟩⟩
                  exact ⟨.bool true, by simp [results, Tryd.results3, go_sem, w6, e0], rfl, kfin⟩
end Go.Proofs.YtfjpphfadglohaaDoor
