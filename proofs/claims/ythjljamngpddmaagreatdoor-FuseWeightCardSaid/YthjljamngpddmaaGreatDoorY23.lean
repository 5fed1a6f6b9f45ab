
/-
  The law's ahead: a number put ahead.
-/
import Derived.Test.YthjljamngpddmaaGreatDoorY22
import Derived.Test.YthjljamngpddmaaGreatDoorY16
namespace Go.Proofs.YthjljamngpddmaaGreatDoor
open Go.RowKit Go.Shelf

theorem one_row (w : World) (x : Value) : (w.alloc (.cells #[x] 54)).ownsRow w.heap.size 54 1 (.slice (some ⟨w.heap.size, 0, none⟩) 1 1) 1 [x] :=
  ⟨rfl, .inr ⟨w.heap.size, 1, #[x], rfl, Nat.le_refl _, heap_alloc_new w _, Nat.le_refl _, by simp [maxLen], rfl, rfl⟩⟩

set_option maxRecDepth 20000 in
set_option maxHeartbeats 2000000 in
theorem ahead_any (v : Value) (l : List Seg) (n : Nat) (hn32 : n < 4294967296) (w : World) (h : Pts w v l) (hl : l.length ≤ 1000000) (hn : ∀ s ∈ l, s.2.length ≤ 1000000) :
    Calls Tryz.prog 31 #[v, .int .u32 (n : Int)] w fun e w' => ∃ v', e = .returned v' ∧ Pown w' w.heap.size v' (Fz.ahd l n) ∧ Kept Nothing w w' := by
  obtain ⟨A, c, rfl, -, -⟩ := h.form
  obtain ⟨i0, hi, hz0, hz1, hz2⟩ := info_parts sg_info
  obtain ⟨j0, hj, hy0, hy1, hy2⟩ := info_parts as_info
  have HC := Lib.hid (path_copyD _ l w h hl hn)
  have HOF := Lib.hid (fun v w h => path_of1 2 n hn32 v w h)
  have HN := Lib.hid hn
  have HL1 : Hid (1 + l.length ≤ maxLen ∧ (1 + l.length) * 32 ≤ 140737488355328) := Lib.hid (by unfold maxLen; omega)
  clear h hn
  go_enter Tryz.func31, Tryz.ntmps31
  go_upto_region 2 with (go_at_call 18; refine (HC.out).mono ?_; rintro e w1 ⟨v1, xs, rfl, o1, r1, d1, k1⟩; (obtain ⟨A1, c1, rfl, _, _⟩ := ow_form o1); (have O1 := Lib.hid o1); (have R1 := Lib.hid r1); (have K1 := Lib.hid k1); clear o1 r1 d1 k1)
  clear HC
  have KAL := Lib.hid ((Kept.refl Nothing w1).alloc (.cells #[.int .u32 (n : Int)] 54))
  have MADE := Lib.hid (made_as w1 n hn32)
  cases l with
  | nil =>
    rw [show ([] : List Seg).length = 0 from rfl] at *
    go_wp2_with (first
      | (at_builtin; refine wpList_app _ rfl _ _ 23 rfl w.heap.size 72 i0 (.agg #[.int .u8 0, .slice none 0 0]) 2 32 Tryz.underlying23 hi hz0 hz1 hz2 rfl (by decide) (.slice A3 1 c3) 1 xs3 rfl O3.out A1 0 c1 xs rfl (src_own (ow_kept O1.out K3.out (fun _ _ x => x)) (R1.out.old K3.out).one) HL1.out.1 HL1.out.2 (K1.out.trans K3.out).size ?_; intro v6 w6 ho6 hg6 _)
      | (go_at_call 42; refine (HOF.out _ _ MADE.out).mono ?_; rintro e w3 ⟨v3, xs3, rfl, o3, r3, k3⟩; (obtain ⟨A3, c3, rfl, _, _⟩ := ow_form o3); (have O3 := Lib.hid (own_weakA o3 (K1.out.trans KAL.out).size)); (have R3 := Lib.hid (r3.weak (K1.out.trans KAL.out).size)); (have K3 := Lib.hid (KAL.out.trans k3)); clear o3 r3 k3))
    go_ret
    exact ⟨_, rfl, Pown.cat (l := [(2, [n])]) (m := []) O3.out R3.out (R1.out.old K3.out) hg6 ho6, (K1.out.trans K3.out).own_grown O3.out (Nat.le_refl _) hg6⟩
  | cons s r =>
    obtain ⟨sk, sn⟩ := s
    have hsl : sn.length ≤ 1000000 := HN.out (sk, sn) (List.mem_cons_self ..)
    have hrl : (((sk, sn) :: r).length : Int) = (r.length : Int) + 1 := by simp
    have i2 : (0 : Int) < (r.length : Int) + 1 := by omega
    clear hrl
    rw [show ((sk, sn) :: r).length = r.length + 1 from rfl] at *
    obtain ⟨nv, ys, rfl, no, nf, nr⟩ := R1.out.inv
    obtain ⟨g, cg, cur, hv, hge, hbg⟩ := own_lies O1.out (by omega)
    injection hv with e1 _ e3
    subst e1 e3
    have p0 := O1.out.cells (g := g) rfl 0 (.int .u8 (sk.toNat : Int)) rfl
    have p1 := O1.out.cells (g := g) rfl 1 nv rfl
    rw [add_none, Nat.zero_add] at p0 p1
    obtain ⟨An, cn, rfl, _, _⟩ := ow_form no
    have NO := Lib.hid no
    have NF := Lib.hid nf
    have NR := Lib.hid nr
    have HBG := Lib.hid hbg
    clear no nf nr
    by_cases hc : sk.toNat = 2 ∧ sn.length < 255
    · have HE := Lib.hid (Fz.ahd_yes (s := (sk, sn)) (r := r) (n := n) hc)
      have hkb : ((sk.toNat : Int) == 2) = true := by simp; omega
      have h255 : (sn.length : Int) < 255 := by omega
      have hb2 := hbg.kept KAL.out (fun x => x)
      have hgz := hbg.lt
      clear hc hbg
      go_wp2_with (at_builtin; refine wpList_app _ rfl _ _ 70 rfl w.heap.size 54 j0 (.int .u32 0) 1 4 Tryz.underlying70 hj hy0 hy1 hy2 rfl (by decide) (.slice (some ⟨w1.heap.size, 0, none⟩) 1 1) 1 [.int .u32 (n : Int)] rfl (own_weakA (one_row w1 _) K1.out.size) An sn.length cn (ass sn) rfl (src_own (ow_kept NO.out KAL.out (fun _ _ x => x)) (one_ass sn)) (by unfold maxLen; omega) (by omega) (K1.out.trans KAL.out).size ?_; intro v7 w7 ho7 hg7 _; (have hbk := hb2.kept ((Kept.refl (fun k => (Value.slice (some ⟨w1.heap.size, 0, none⟩) 1 1).ownBlock = some k) _).grown hg7 (fun _ hk _ => hk)) (fun e => by have : w1.heap.size = g := Option.some.inj e; omega)); (have f7 := hbk.free 1); (have c7 := (hbk.cell 1).trans ((HBG.out.cell 1).symm.trans p1)); (have O7 := Lib.hid ho7); (have G7 := Lib.hid hg7); (have HBK := Lib.hid hbk); (obtain ⟨A7, c7', rfl, _, _⟩ := ow_form ho7); clear ho7 hg7 hbk)
      go_ret
      have kg : Kept (fun k => (Value.slice (some ⟨w1.heap.size, 0, none⟩) 1 1).ownBlock = some k) _ w7 := (Kept.refl _ _).grown G7.out (fun _ hk _ => hk)
      have hnw : ∀ x : Value, (∀ q, x.ownBlock = some q → q < w1.heap.size) → ∀ q, x.ownBlock = some q → ¬ (Value.slice (some ⟨w1.heap.size, 0, none⟩) 1 1).ownBlock = some q := fun x hx q hq e => by
        have : w1.heap.size = q := Option.some.inj e
        have := hx q hq
        omega
      have oz2 := ow_kept (ow_kept O1.out KAL.out (fun _ _ x => x)) kg (hnw _ (fun q hq => (ow_ge O1.out hq).2))
      have hty : ∀ q cs, Only g q → w7.heap[q]? ≠ some (.cells cs 54 (0, 0)) := fun q cs (e : q = g) x => by
        subst e
        have := HBK.out
        unfold Blk at this
        rw [this] at x
        injection x with x
        injection x with _ e2
        exact absurd e2 (by decide)
      refine ⟨_, rfl, ?_, ?_⟩
      · rw [HE.out]
        refine ⟨.int .u8 (sk.toNat : Int) :: .slice A7 (1 + sn.length) c7' :: ys, own_set1 oz2 rfl, rfl, ?_, fun m hm => ?_, ((NR.out.old KAL.out).apart kg (fun u hu => hnw u (NR.out.lt u hu))).kept (Kept.own w7 g 1 _) hty⟩
        · have := ow_kept O7.out (Kept.own w7 g 1 (.slice A7 (1 + sn.length) c7')) (ow_far O7.out HBK.out (by decide))
          show World.ownsRow _ _ _ 1 _ (n :: sn).length (ass (n :: sn))
          rw [List.length_cons, Nat.add_comm sn.length 1]
          exact this
        · rcases List.mem_cons.1 hm with rfl | hm
          · exact hn32
          · exact NF.out m hm
      · exact ((K1.out.trans KAL.out).trans_new kg (fun i hi e => by have : w1.heap.size = i := Option.some.inj e; have := K1.out.size; omega)).setCell (p := ⟨g, 1, none⟩) (fun (h : g < w.heap.size) => by omega) _
    · have HE := Lib.hid (Fz.ahd_no (s := (sk, sn)) (r := r) (n := n) hc)
      obtain hk | ⟨hk, h2⟩ : sk.toNat ≠ 2 ∨ (sk.toNat = 2 ∧ ¬ sn.length < 255) := by
        by_cases h2 : sk.toNat = 2
        · exact .inr ⟨h2, fun h => hc ⟨h2, h⟩⟩
        · exact .inl h2
      case' inl => have hkb : ((sk.toNat : Int) == 2) = false := by simp; omega
      case' inr =>
        have hkb : ((sk.toNat : Int) == 2) = true := by simp; omega
        have h255 : ¬ (sn.length : Int) < 255 := by omega
      all_goals
        clear hc hbg
        go_wp2_with (first
          | (at_builtin; refine wpList_app _ rfl _ _ 23 rfl w.heap.size 72 i0 (.agg #[.int .u8 0, .slice none 0 0]) 2 32 Tryz.underlying23 hi hz0 hz1 hz2 rfl (by decide) (.slice A3 1 c3) 1 xs3 rfl O3.out (some ⟨g, 0, none⟩) (r.length + 1) c1 _ rfl (src_own (ow_kept O1.out K3.out (fun _ _ x => x)) (R1.out.old K3.out).one) HL1.out.1 HL1.out.2 (K1.out.trans K3.out).size ?_; intro v6 w6 ho6 hg6 _)
          | (go_at_call 42; refine (HOF.out _ _ MADE.out).mono ?_; rintro e w3 ⟨v3, xs3, rfl, o3, r3, k3⟩; (obtain ⟨A3, c3, rfl, _, _⟩ := ow_form o3); (have O3 := Lib.hid (own_weakA o3 (K1.out.trans KAL.out).size)); (have R3 := Lib.hid (r3.weak (K1.out.trans KAL.out).size)); (have K3 := Lib.hid (KAL.out.trans k3)); clear o3 r3 k3))
        go_ret
        exact ⟨_, rfl, by rw [HE.out]; exact Pown.cat (l := [(2, [n])]) (m := (sk, sn) :: r) O3.out R3.out (R1.out.old K3.out) hg6 ho6, (K1.out.trans K3.out).own_grown O3.out (Nat.le_refl _) hg6⟩
end Go.Proofs.YthjljamngpddmaaGreatDoor
