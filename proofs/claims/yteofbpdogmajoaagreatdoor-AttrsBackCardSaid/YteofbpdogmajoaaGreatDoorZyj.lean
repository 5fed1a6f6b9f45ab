
/-
  attrs: Same.
-/
import Derived.Test.YteofbpdogmajoaaGreatDoorZm
import Derived.Test.YteofbpdogmajoaaGreatDoorZv
namespace Go.Proofs.YteofbpdogmajoaaGreatDoor
open Go.RowKit

namespace Ax
def same (a b : At) : Bool :=
  (((a.has : Int)) == (b.has : Int)) && ((((a.origin.toNat : Int)) == (b.origin.toNat : Int)) && (decide (a.path = b.path) && ((((a.nh : Int)) == (b.nh : Int)) && ((((a.med : Int)) == (b.med : Int)) && ((((a.pref : Int)) == (b.pref : Int)) && ((((a.byA : Int)) == (b.byA : Int)) && ((((a.byI : Int)) == (b.byI : Int)) && ((a.comms == b.comms) && (decide (a.path4 = b.path4) && ((((a.by4A : Int)) == (b.by4A : Int)) && ((((a.by4I : Int)) == (b.by4I : Int)) && (decide (a.others = b.others)))))))))))))
end Ax
set_option maxRecDepth 20000 in
set_option maxHeartbeats 8000000 in
theorem at_same (a b : At) (pv cv qv ov pu cu qu ou : Value) (w : World) (h : Atp w a pv cv qv ov) (g : Atp w b pu cu qu ou)
    (C2' : ∀ u, Kept Nothing w u → Calls Tryz.prog 58 #[cv, cu] u fun e w' => e = .returned (.bool (a.comms == b.comms)) ∧ Kept Nothing u w') :
    Calls Tryz.prog 17 #[.agg (Ax.agg a pv cv qv ov), .agg (Ax.agg b pu cu qu ou)] w fun e w' => e = .returned (.bool (Ax.same a b)) ∧ Kept Nothing w w' := by
  have k1 := ((Kept.refl Nothing w).alloc (.cells (Ax.agg a pv cv qv ov) 33)).alloc (.cells (Ax.agg b pu cu qu ou) 33)
  have ba := (Blk.fresh w 33 (Ax.agg a pv cv qv ov)).alloc (.cells (Ax.agg b pu cu qu ou) 33)
  have bb := Blk.fresh (w.alloc (.cells (Ax.agg a pv cv qv ov) 33)) 33 (Ax.agg b pu cu qu ou)
  rw [World.size_alloc] at bb
  have HE : Hid (Ax.same a b = ((((a.has : Int)) == (b.has : Int)) && ((((a.origin.toNat : Int)) == (b.origin.toNat : Int)) && (decide (a.path = b.path) && ((((a.nh : Int)) == (b.nh : Int)) && ((((a.med : Int)) == (b.med : Int)) && ((((a.pref : Int)) == (b.pref : Int)) && ((((a.byA : Int)) == (b.byA : Int)) && ((((a.byI : Int)) == (b.byI : Int)) && ((a.comms == b.comms) && (decide (a.path4 = b.path4) && ((((a.by4A : Int)) == (b.by4A : Int)) && ((((a.by4I : Int)) == (b.by4I : Int)) && (decide (a.others = b.others))))))))))))))) := Lib.hid rfl
  have D1 := Lib.hid (fun u (k : Kept Nothing w u) => path_same pv pu a.path b.path u (h.1.old k) (g.1.old k))
  have D3 := Lib.hid (fun u (k : Kept Nothing w u) => path_same qv qu a.path4 b.path4 u (h.2.2.1.old k) (g.2.2.1.old k))
  have D4 := Lib.hid (fun u (k : Kept Nothing w u) => ots_equal ov ou a.others b.others u (h.2.2.2.1.old k) (g.2.2.2.1.old k))
  unfold Ax.agg at *
  clear h g
  go_enter Tryz.func17, Tryz.ntmps17
  go_upto_region 1 with fail
  generalize World.alloc _ _ = wB at k1 ba bb ⊢
  have HK := Lib.hid k1
  have QA := Lib.hid (fun u (k : Kept Nothing wB u) i => (ba.kept k (fun x => x)).cell i)
  have QB := Lib.hid (fun u (k : Kept Nothing wB u) i => (bb.kept k (fun x => x)).cell i)
  have C1 := Lib.hid (fun u (k : Kept Nothing wB u) => D1.out u (k1.trans k))
  have C2 := Lib.hid (fun u (k : Kept Nothing wB u) => C2' u (k1.trans k))
  have C3 := Lib.hid (fun u (k : Kept Nothing wB u) => D3.out u (k1.trans k))
  have C4 := Lib.hid (fun u (k : Kept Nothing wB u) => D4.out u (k1.trans k))
  clear C2' D1 D3 D4 ba bb k1
  generalize h_has : (((a.has : Int)) == (b.has : Int)) = e_has at *
  generalize h_ori : (((a.origin.toNat : Int)) == (b.origin.toNat : Int)) = e_ori at *
  generalize h_pth : decide (a.path = b.path) = e_pth at *
  generalize h_nh : (((a.nh : Int)) == (b.nh : Int)) = e_nh at *
  generalize h_med : (((a.med : Int)) == (b.med : Int)) = e_med at *
  generalize h_prf : (((a.pref : Int)) == (b.pref : Int)) = e_prf at *
  generalize h_bya : (((a.byA : Int)) == (b.byA : Int)) = e_bya at *
  generalize h_byi : (((a.byI : Int)) == (b.byI : Int)) = e_byi at *
  generalize h_com : (a.comms == b.comms) = e_com at *
  generalize h_p4 : decide (a.path4 = b.path4) = e_p4 at *
  generalize h_b4a : (((a.by4A : Int)) == (b.by4A : Int)) = e_b4a at *
  generalize h_b4i : (((a.by4I : Int)) == (b.by4I : Int)) = e_b4i at *
  generalize h_oth : decide (a.others = b.others) = e_oth at *
  simp only [List.append_eq, List.cons_append, List.nil_append]
  have K := Lib.hid (Kept.refl Nothing wB)
  have t1 : True := trivial
  have qa0 := QA.out _ K.out 0
  have qb0 := QB.out _ K.out 0
  have qa1 := QA.out _ K.out 1
  have qb1 := QB.out _ K.out 1
  have qa2 := QA.out _ K.out 2
  have qb2 := QB.out _ K.out 2
  have qa3 := QA.out _ K.out 3
  have qb3 := QB.out _ K.out 3
  have qa4 := QA.out _ K.out 4
  have qb4 := QB.out _ K.out 4
  have qa5 := QA.out _ K.out 5
  have qb5 := QB.out _ K.out 5
  have qa6 := QA.out _ K.out 6
  have qb6 := QB.out _ K.out 6
  have qa7 := QA.out _ K.out 7
  have qb7 := QB.out _ K.out 7
  have qa8 := QA.out _ K.out 8
  have qb8 := QB.out _ K.out 8
  have qa9 := QA.out _ K.out 9
  have qb9 := QB.out _ K.out 9
  have qa10 := QA.out _ K.out 10
  have qb10 := QB.out _ K.out 10
  have qa11 := QA.out _ K.out 11
  have qb11 := QB.out _ K.out 11
  have qa12 := QA.out _ K.out 12
  have qb12 := QB.out _ K.out 12
  cases e_has with
  | false =>
    go_wp2
    go_ret
    exact ⟨by rw [HE.out]; rfl, HK.out.trans K.out⟩
  | true =>
    cases e_ori with
    | false =>
      go_wp2
      go_ret
      exact ⟨by rw [HE.out]; rfl, HK.out.trans K.out⟩
    | true =>
      cases e_pth with
      | false =>
        go_wp2_with (first
          | (go_at_call 57; (have _t := t1); refine (C1.out _ K.out).mono ?_; rintro e w1 ⟨rfl, k1⟩; replace K := Lib.hid (K.out.trans k1); (have qa0 := QA.out _ K.out 0); (have qb0 := QB.out _ K.out 0); (have qa1 := QA.out _ K.out 1); (have qb1 := QB.out _ K.out 1); (have qa2 := QA.out _ K.out 2); (have qb2 := QB.out _ K.out 2); (have qa3 := QA.out _ K.out 3); (have qb3 := QB.out _ K.out 3); (have qa4 := QA.out _ K.out 4); (have qb4 := QB.out _ K.out 4); (have qa5 := QA.out _ K.out 5); (have qb5 := QB.out _ K.out 5); (have qa6 := QA.out _ K.out 6); (have qb6 := QB.out _ K.out 6); (have qa7 := QA.out _ K.out 7); (have qb7 := QB.out _ K.out 7); (have qa8 := QA.out _ K.out 8); (have qb8 := QB.out _ K.out 8); (have qa9 := QA.out _ K.out 9); (have qb9 := QB.out _ K.out 9); (have qa10 := QA.out _ K.out 10); (have qb10 := QB.out _ K.out 10); (have qa11 := QA.out _ K.out 11); (have qb11 := QB.out _ K.out 11); (have qa12 := QA.out _ K.out 12); (have qb12 := QB.out _ K.out 12); clear k1 t1))
        go_ret
        exact ⟨by rw [HE.out]; rfl, HK.out.trans K.out⟩
      | true =>
        cases e_nh with
        | false =>
          go_wp2_with (first
            | (go_at_call 57; (have _t := t1); refine (C1.out _ K.out).mono ?_; rintro e w1 ⟨rfl, k1⟩; replace K := Lib.hid (K.out.trans k1); (have qa0 := QA.out _ K.out 0); (have qb0 := QB.out _ K.out 0); (have qa1 := QA.out _ K.out 1); (have qb1 := QB.out _ K.out 1); (have qa2 := QA.out _ K.out 2); (have qb2 := QB.out _ K.out 2); (have qa3 := QA.out _ K.out 3); (have qb3 := QB.out _ K.out 3); (have qa4 := QA.out _ K.out 4); (have qb4 := QB.out _ K.out 4); (have qa5 := QA.out _ K.out 5); (have qb5 := QB.out _ K.out 5); (have qa6 := QA.out _ K.out 6); (have qb6 := QB.out _ K.out 6); (have qa7 := QA.out _ K.out 7); (have qb7 := QB.out _ K.out 7); (have qa8 := QA.out _ K.out 8); (have qb8 := QB.out _ K.out 8); (have qa9 := QA.out _ K.out 9); (have qb9 := QB.out _ K.out 9); (have qa10 := QA.out _ K.out 10); (have qb10 := QB.out _ K.out 10); (have qa11 := QA.out _ K.out 11); (have qb11 := QB.out _ K.out 11); (have qa12 := QA.out _ K.out 12); (have qb12 := QB.out _ K.out 12); clear k1 t1))
          go_ret
          exact ⟨by rw [HE.out]; rfl, HK.out.trans K.out⟩
        | true =>
          cases e_med with
          | false =>
            go_wp2_with (first
              | (go_at_call 57; (have _t := t1); refine (C1.out _ K.out).mono ?_; rintro e w1 ⟨rfl, k1⟩; replace K := Lib.hid (K.out.trans k1); (have qa0 := QA.out _ K.out 0); (have qb0 := QB.out _ K.out 0); (have qa1 := QA.out _ K.out 1); (have qb1 := QB.out _ K.out 1); (have qa2 := QA.out _ K.out 2); (have qb2 := QB.out _ K.out 2); (have qa3 := QA.out _ K.out 3); (have qb3 := QB.out _ K.out 3); (have qa4 := QA.out _ K.out 4); (have qb4 := QB.out _ K.out 4); (have qa5 := QA.out _ K.out 5); (have qb5 := QB.out _ K.out 5); (have qa6 := QA.out _ K.out 6); (have qb6 := QB.out _ K.out 6); (have qa7 := QA.out _ K.out 7); (have qb7 := QB.out _ K.out 7); (have qa8 := QA.out _ K.out 8); (have qb8 := QB.out _ K.out 8); (have qa9 := QA.out _ K.out 9); (have qb9 := QB.out _ K.out 9); (have qa10 := QA.out _ K.out 10); (have qb10 := QB.out _ K.out 10); (have qa11 := QA.out _ K.out 11); (have qb11 := QB.out _ K.out 11); (have qa12 := QA.out _ K.out 12); (have qb12 := QB.out _ K.out 12); clear k1 t1))
            go_ret
            exact ⟨by rw [HE.out]; rfl, HK.out.trans K.out⟩
          | true =>
            cases e_prf with
            | false =>
              go_wp2_with (first
                | (go_at_call 57; (have _t := t1); refine (C1.out _ K.out).mono ?_; rintro e w1 ⟨rfl, k1⟩; replace K := Lib.hid (K.out.trans k1); (have qa0 := QA.out _ K.out 0); (have qb0 := QB.out _ K.out 0); (have qa1 := QA.out _ K.out 1); (have qb1 := QB.out _ K.out 1); (have qa2 := QA.out _ K.out 2); (have qb2 := QB.out _ K.out 2); (have qa3 := QA.out _ K.out 3); (have qb3 := QB.out _ K.out 3); (have qa4 := QA.out _ K.out 4); (have qb4 := QB.out _ K.out 4); (have qa5 := QA.out _ K.out 5); (have qb5 := QB.out _ K.out 5); (have qa6 := QA.out _ K.out 6); (have qb6 := QB.out _ K.out 6); (have qa7 := QA.out _ K.out 7); (have qb7 := QB.out _ K.out 7); (have qa8 := QA.out _ K.out 8); (have qb8 := QB.out _ K.out 8); (have qa9 := QA.out _ K.out 9); (have qb9 := QB.out _ K.out 9); (have qa10 := QA.out _ K.out 10); (have qb10 := QB.out _ K.out 10); (have qa11 := QA.out _ K.out 11); (have qb11 := QB.out _ K.out 11); (have qa12 := QA.out _ K.out 12); (have qb12 := QB.out _ K.out 12); clear k1 t1))
              go_ret
              exact ⟨by rw [HE.out]; rfl, HK.out.trans K.out⟩
            | true =>
              cases e_bya with
              | false =>
                go_wp2_with (first
                  | (go_at_call 57; (have _t := t1); refine (C1.out _ K.out).mono ?_; rintro e w1 ⟨rfl, k1⟩; replace K := Lib.hid (K.out.trans k1); (have qa0 := QA.out _ K.out 0); (have qb0 := QB.out _ K.out 0); (have qa1 := QA.out _ K.out 1); (have qb1 := QB.out _ K.out 1); (have qa2 := QA.out _ K.out 2); (have qb2 := QB.out _ K.out 2); (have qa3 := QA.out _ K.out 3); (have qb3 := QB.out _ K.out 3); (have qa4 := QA.out _ K.out 4); (have qb4 := QB.out _ K.out 4); (have qa5 := QA.out _ K.out 5); (have qb5 := QB.out _ K.out 5); (have qa6 := QA.out _ K.out 6); (have qb6 := QB.out _ K.out 6); (have qa7 := QA.out _ K.out 7); (have qb7 := QB.out _ K.out 7); (have qa8 := QA.out _ K.out 8); (have qb8 := QB.out _ K.out 8); (have qa9 := QA.out _ K.out 9); (have qb9 := QB.out _ K.out 9); (have qa10 := QA.out _ K.out 10); (have qb10 := QB.out _ K.out 10); (have qa11 := QA.out _ K.out 11); (have qb11 := QB.out _ K.out 11); (have qa12 := QA.out _ K.out 12); (have qb12 := QB.out _ K.out 12); clear k1 t1))
                go_ret
                exact ⟨by rw [HE.out]; rfl, HK.out.trans K.out⟩
              | true =>
                cases e_byi with
                | false =>
                  go_wp2_with (first
                    | (go_at_call 57; (have _t := t1); refine (C1.out _ K.out).mono ?_; rintro e w1 ⟨rfl, k1⟩; replace K := Lib.hid (K.out.trans k1); (have qa0 := QA.out _ K.out 0); (have qb0 := QB.out _ K.out 0); (have qa1 := QA.out _ K.out 1); (have qb1 := QB.out _ K.out 1); (have qa2 := QA.out _ K.out 2); (have qb2 := QB.out _ K.out 2); (have qa3 := QA.out _ K.out 3); (have qb3 := QB.out _ K.out 3); (have qa4 := QA.out _ K.out 4); (have qb4 := QB.out _ K.out 4); (have qa5 := QA.out _ K.out 5); (have qb5 := QB.out _ K.out 5); (have qa6 := QA.out _ K.out 6); (have qb6 := QB.out _ K.out 6); (have qa7 := QA.out _ K.out 7); (have qb7 := QB.out _ K.out 7); (have qa8 := QA.out _ K.out 8); (have qb8 := QB.out _ K.out 8); (have qa9 := QA.out _ K.out 9); (have qb9 := QB.out _ K.out 9); (have qa10 := QA.out _ K.out 10); (have qb10 := QB.out _ K.out 10); (have qa11 := QA.out _ K.out 11); (have qb11 := QB.out _ K.out 11); (have qa12 := QA.out _ K.out 12); (have qb12 := QB.out _ K.out 12); clear k1 t1))
                  go_ret
                  exact ⟨by rw [HE.out]; rfl, HK.out.trans K.out⟩
                | true =>
                  cases e_com with
                  | false =>
                    go_wp2_with (first
                      | (go_at_call 58; refine (C2.out _ K.out).mono ?_; rintro e w2 ⟨rfl, k2⟩; replace K := Lib.hid (K.out.trans k2); (have qa0 := QA.out _ K.out 0); (have qb0 := QB.out _ K.out 0); (have qa1 := QA.out _ K.out 1); (have qb1 := QB.out _ K.out 1); (have qa2 := QA.out _ K.out 2); (have qb2 := QB.out _ K.out 2); (have qa3 := QA.out _ K.out 3); (have qb3 := QB.out _ K.out 3); (have qa4 := QA.out _ K.out 4); (have qb4 := QB.out _ K.out 4); (have qa5 := QA.out _ K.out 5); (have qb5 := QB.out _ K.out 5); (have qa6 := QA.out _ K.out 6); (have qb6 := QB.out _ K.out 6); (have qa7 := QA.out _ K.out 7); (have qb7 := QB.out _ K.out 7); (have qa8 := QA.out _ K.out 8); (have qb8 := QB.out _ K.out 8); (have qa9 := QA.out _ K.out 9); (have qb9 := QB.out _ K.out 9); (have qa10 := QA.out _ K.out 10); (have qb10 := QB.out _ K.out 10); (have qa11 := QA.out _ K.out 11); (have qb11 := QB.out _ K.out 11); (have qa12 := QA.out _ K.out 12); (have qb12 := QB.out _ K.out 12); clear k2)
                      | (go_at_call 57; (have _t := t1); refine (C1.out _ K.out).mono ?_; rintro e w1 ⟨rfl, k1⟩; replace K := Lib.hid (K.out.trans k1); (have qa0 := QA.out _ K.out 0); (have qb0 := QB.out _ K.out 0); (have qa1 := QA.out _ K.out 1); (have qb1 := QB.out _ K.out 1); (have qa2 := QA.out _ K.out 2); (have qb2 := QB.out _ K.out 2); (have qa3 := QA.out _ K.out 3); (have qb3 := QB.out _ K.out 3); (have qa4 := QA.out _ K.out 4); (have qb4 := QB.out _ K.out 4); (have qa5 := QA.out _ K.out 5); (have qb5 := QB.out _ K.out 5); (have qa6 := QA.out _ K.out 6); (have qb6 := QB.out _ K.out 6); (have qa7 := QA.out _ K.out 7); (have qb7 := QB.out _ K.out 7); (have qa8 := QA.out _ K.out 8); (have qb8 := QB.out _ K.out 8); (have qa9 := QA.out _ K.out 9); (have qb9 := QB.out _ K.out 9); (have qa10 := QA.out _ K.out 10); (have qb10 := QB.out _ K.out 10); (have qa11 := QA.out _ K.out 11); (have qb11 := QB.out _ K.out 11); (have qa12 := QA.out _ K.out 12); (have qb12 := QB.out _ K.out 12); clear k1 t1))
                    go_ret
                    exact ⟨by rw [HE.out]; rfl, HK.out.trans K.out⟩
                  | true =>
                    cases e_p4 with
                    | false =>
                      go_wp2_with (first
                        | (go_at_call 58; refine (C2.out _ K.out).mono ?_; rintro e w2 ⟨rfl, k2⟩; replace K := Lib.hid (K.out.trans k2); (have qa0 := QA.out _ K.out 0); (have qb0 := QB.out _ K.out 0); (have qa1 := QA.out _ K.out 1); (have qb1 := QB.out _ K.out 1); (have qa2 := QA.out _ K.out 2); (have qb2 := QB.out _ K.out 2); (have qa3 := QA.out _ K.out 3); (have qb3 := QB.out _ K.out 3); (have qa4 := QA.out _ K.out 4); (have qb4 := QB.out _ K.out 4); (have qa5 := QA.out _ K.out 5); (have qb5 := QB.out _ K.out 5); (have qa6 := QA.out _ K.out 6); (have qb6 := QB.out _ K.out 6); (have qa7 := QA.out _ K.out 7); (have qb7 := QB.out _ K.out 7); (have qa8 := QA.out _ K.out 8); (have qb8 := QB.out _ K.out 8); (have qa9 := QA.out _ K.out 9); (have qb9 := QB.out _ K.out 9); (have qa10 := QA.out _ K.out 10); (have qb10 := QB.out _ K.out 10); (have qa11 := QA.out _ K.out 11); (have qb11 := QB.out _ K.out 11); (have qa12 := QA.out _ K.out 12); (have qb12 := QB.out _ K.out 12); clear k2)
                        | (go_at_call 57; (have _t := t1); refine (C1.out _ K.out).mono ?_; rintro e w1 ⟨rfl, k1⟩; replace K := Lib.hid (K.out.trans k1); (have qa0 := QA.out _ K.out 0); (have qb0 := QB.out _ K.out 0); (have qa1 := QA.out _ K.out 1); (have qb1 := QB.out _ K.out 1); (have qa2 := QA.out _ K.out 2); (have qb2 := QB.out _ K.out 2); (have qa3 := QA.out _ K.out 3); (have qb3 := QB.out _ K.out 3); (have qa4 := QA.out _ K.out 4); (have qb4 := QB.out _ K.out 4); (have qa5 := QA.out _ K.out 5); (have qb5 := QB.out _ K.out 5); (have qa6 := QA.out _ K.out 6); (have qb6 := QB.out _ K.out 6); (have qa7 := QA.out _ K.out 7); (have qb7 := QB.out _ K.out 7); (have qa8 := QA.out _ K.out 8); (have qb8 := QB.out _ K.out 8); (have qa9 := QA.out _ K.out 9); (have qb9 := QB.out _ K.out 9); (have qa10 := QA.out _ K.out 10); (have qb10 := QB.out _ K.out 10); (have qa11 := QA.out _ K.out 11); (have qb11 := QB.out _ K.out 11); (have qa12 := QA.out _ K.out 12); (have qb12 := QB.out _ K.out 12); clear k1 t1)
                        | (go_at_call 57; refine (C3.out _ K.out).mono ?_; rintro e w3 ⟨rfl, k3⟩; replace K := Lib.hid (K.out.trans k3); (have qa0 := QA.out _ K.out 0); (have qb0 := QB.out _ K.out 0); (have qa1 := QA.out _ K.out 1); (have qb1 := QB.out _ K.out 1); (have qa2 := QA.out _ K.out 2); (have qb2 := QB.out _ K.out 2); (have qa3 := QA.out _ K.out 3); (have qb3 := QB.out _ K.out 3); (have qa4 := QA.out _ K.out 4); (have qb4 := QB.out _ K.out 4); (have qa5 := QA.out _ K.out 5); (have qb5 := QB.out _ K.out 5); (have qa6 := QA.out _ K.out 6); (have qb6 := QB.out _ K.out 6); (have qa7 := QA.out _ K.out 7); (have qb7 := QB.out _ K.out 7); (have qa8 := QA.out _ K.out 8); (have qb8 := QB.out _ K.out 8); (have qa9 := QA.out _ K.out 9); (have qb9 := QB.out _ K.out 9); (have qa10 := QA.out _ K.out 10); (have qb10 := QB.out _ K.out 10); (have qa11 := QA.out _ K.out 11); (have qb11 := QB.out _ K.out 11); (have qa12 := QA.out _ K.out 12); (have qb12 := QB.out _ K.out 12); clear k3))
                      go_ret
                      exact ⟨by rw [HE.out]; rfl, HK.out.trans K.out⟩
                    | true =>
                      cases e_b4a with
                      | false =>
                        go_wp2_with (first
                          | (go_at_call 58; refine (C2.out _ K.out).mono ?_; rintro e w2 ⟨rfl, k2⟩; replace K := Lib.hid (K.out.trans k2); (have qa0 := QA.out _ K.out 0); (have qb0 := QB.out _ K.out 0); (have qa1 := QA.out _ K.out 1); (have qb1 := QB.out _ K.out 1); (have qa2 := QA.out _ K.out 2); (have qb2 := QB.out _ K.out 2); (have qa3 := QA.out _ K.out 3); (have qb3 := QB.out _ K.out 3); (have qa4 := QA.out _ K.out 4); (have qb4 := QB.out _ K.out 4); (have qa5 := QA.out _ K.out 5); (have qb5 := QB.out _ K.out 5); (have qa6 := QA.out _ K.out 6); (have qb6 := QB.out _ K.out 6); (have qa7 := QA.out _ K.out 7); (have qb7 := QB.out _ K.out 7); (have qa8 := QA.out _ K.out 8); (have qb8 := QB.out _ K.out 8); (have qa9 := QA.out _ K.out 9); (have qb9 := QB.out _ K.out 9); (have qa10 := QA.out _ K.out 10); (have qb10 := QB.out _ K.out 10); (have qa11 := QA.out _ K.out 11); (have qb11 := QB.out _ K.out 11); (have qa12 := QA.out _ K.out 12); (have qb12 := QB.out _ K.out 12); clear k2)
                          | (go_at_call 57; (have _t := t1); refine (C1.out _ K.out).mono ?_; rintro e w1 ⟨rfl, k1⟩; replace K := Lib.hid (K.out.trans k1); (have qa0 := QA.out _ K.out 0); (have qb0 := QB.out _ K.out 0); (have qa1 := QA.out _ K.out 1); (have qb1 := QB.out _ K.out 1); (have qa2 := QA.out _ K.out 2); (have qb2 := QB.out _ K.out 2); (have qa3 := QA.out _ K.out 3); (have qb3 := QB.out _ K.out 3); (have qa4 := QA.out _ K.out 4); (have qb4 := QB.out _ K.out 4); (have qa5 := QA.out _ K.out 5); (have qb5 := QB.out _ K.out 5); (have qa6 := QA.out _ K.out 6); (have qb6 := QB.out _ K.out 6); (have qa7 := QA.out _ K.out 7); (have qb7 := QB.out _ K.out 7); (have qa8 := QA.out _ K.out 8); (have qb8 := QB.out _ K.out 8); (have qa9 := QA.out _ K.out 9); (have qb9 := QB.out _ K.out 9); (have qa10 := QA.out _ K.out 10); (have qb10 := QB.out _ K.out 10); (have qa11 := QA.out _ K.out 11); (have qb11 := QB.out _ K.out 11); (have qa12 := QA.out _ K.out 12); (have qb12 := QB.out _ K.out 12); clear k1 t1)
                          | (go_at_call 57; refine (C3.out _ K.out).mono ?_; rintro e w3 ⟨rfl, k3⟩; replace K := Lib.hid (K.out.trans k3); (have qa0 := QA.out _ K.out 0); (have qb0 := QB.out _ K.out 0); (have qa1 := QA.out _ K.out 1); (have qb1 := QB.out _ K.out 1); (have qa2 := QA.out _ K.out 2); (have qb2 := QB.out _ K.out 2); (have qa3 := QA.out _ K.out 3); (have qb3 := QB.out _ K.out 3); (have qa4 := QA.out _ K.out 4); (have qb4 := QB.out _ K.out 4); (have qa5 := QA.out _ K.out 5); (have qb5 := QB.out _ K.out 5); (have qa6 := QA.out _ K.out 6); (have qb6 := QB.out _ K.out 6); (have qa7 := QA.out _ K.out 7); (have qb7 := QB.out _ K.out 7); (have qa8 := QA.out _ K.out 8); (have qb8 := QB.out _ K.out 8); (have qa9 := QA.out _ K.out 9); (have qb9 := QB.out _ K.out 9); (have qa10 := QA.out _ K.out 10); (have qb10 := QB.out _ K.out 10); (have qa11 := QA.out _ K.out 11); (have qb11 := QB.out _ K.out 11); (have qa12 := QA.out _ K.out 12); (have qb12 := QB.out _ K.out 12); clear k3))
                        go_ret
                        exact ⟨by rw [HE.out]; rfl, HK.out.trans K.out⟩
                      | true =>
                        cases e_b4i with
                        | false =>
                          go_wp2_with (first
                            | (go_at_call 58; refine (C2.out _ K.out).mono ?_; rintro e w2 ⟨rfl, k2⟩; replace K := Lib.hid (K.out.trans k2); (have qa0 := QA.out _ K.out 0); (have qb0 := QB.out _ K.out 0); (have qa1 := QA.out _ K.out 1); (have qb1 := QB.out _ K.out 1); (have qa2 := QA.out _ K.out 2); (have qb2 := QB.out _ K.out 2); (have qa3 := QA.out _ K.out 3); (have qb3 := QB.out _ K.out 3); (have qa4 := QA.out _ K.out 4); (have qb4 := QB.out _ K.out 4); (have qa5 := QA.out _ K.out 5); (have qb5 := QB.out _ K.out 5); (have qa6 := QA.out _ K.out 6); (have qb6 := QB.out _ K.out 6); (have qa7 := QA.out _ K.out 7); (have qb7 := QB.out _ K.out 7); (have qa8 := QA.out _ K.out 8); (have qb8 := QB.out _ K.out 8); (have qa9 := QA.out _ K.out 9); (have qb9 := QB.out _ K.out 9); (have qa10 := QA.out _ K.out 10); (have qb10 := QB.out _ K.out 10); (have qa11 := QA.out _ K.out 11); (have qb11 := QB.out _ K.out 11); (have qa12 := QA.out _ K.out 12); (have qb12 := QB.out _ K.out 12); clear k2)
                            | (go_at_call 57; (have _t := t1); refine (C1.out _ K.out).mono ?_; rintro e w1 ⟨rfl, k1⟩; replace K := Lib.hid (K.out.trans k1); (have qa0 := QA.out _ K.out 0); (have qb0 := QB.out _ K.out 0); (have qa1 := QA.out _ K.out 1); (have qb1 := QB.out _ K.out 1); (have qa2 := QA.out _ K.out 2); (have qb2 := QB.out _ K.out 2); (have qa3 := QA.out _ K.out 3); (have qb3 := QB.out _ K.out 3); (have qa4 := QA.out _ K.out 4); (have qb4 := QB.out _ K.out 4); (have qa5 := QA.out _ K.out 5); (have qb5 := QB.out _ K.out 5); (have qa6 := QA.out _ K.out 6); (have qb6 := QB.out _ K.out 6); (have qa7 := QA.out _ K.out 7); (have qb7 := QB.out _ K.out 7); (have qa8 := QA.out _ K.out 8); (have qb8 := QB.out _ K.out 8); (have qa9 := QA.out _ K.out 9); (have qb9 := QB.out _ K.out 9); (have qa10 := QA.out _ K.out 10); (have qb10 := QB.out _ K.out 10); (have qa11 := QA.out _ K.out 11); (have qb11 := QB.out _ K.out 11); (have qa12 := QA.out _ K.out 12); (have qb12 := QB.out _ K.out 12); clear k1 t1)
                            | (go_at_call 57; refine (C3.out _ K.out).mono ?_; rintro e w3 ⟨rfl, k3⟩; replace K := Lib.hid (K.out.trans k3); (have qa0 := QA.out _ K.out 0); (have qb0 := QB.out _ K.out 0); (have qa1 := QA.out _ K.out 1); (have qb1 := QB.out _ K.out 1); (have qa2 := QA.out _ K.out 2); (have qb2 := QB.out _ K.out 2); (have qa3 := QA.out _ K.out 3); (have qb3 := QB.out _ K.out 3); (have qa4 := QA.out _ K.out 4); (have qb4 := QB.out _ K.out 4); (have qa5 := QA.out _ K.out 5); (have qb5 := QB.out _ K.out 5); (have qa6 := QA.out _ K.out 6); (have qb6 := QB.out _ K.out 6); (have qa7 := QA.out _ K.out 7); (have qb7 := QB.out _ K.out 7); (have qa8 := QA.out _ K.out 8); (have qb8 := QB.out _ K.out 8); (have qa9 := QA.out _ K.out 9); (have qb9 := QB.out _ K.out 9); (have qa10 := QA.out _ K.out 10); (have qb10 := QB.out _ K.out 10); (have qa11 := QA.out _ K.out 11); (have qb11 := QB.out _ K.out 11); (have qa12 := QA.out _ K.out 12); (have qb12 := QB.out _ K.out 12); clear k3))
                          go_ret
                          exact ⟨by rw [HE.out]; rfl, HK.out.trans K.out⟩
                        | true =>
                          cases e_oth with
                          | false =>
                            go_wp2_with (first
                              | (go_at_call 59; refine (C4.out _ K.out).mono ?_; rintro e w4 ⟨rfl, k4⟩; replace K := Lib.hid (K.out.trans k4); clear k4)
                              | (go_at_call 58; refine (C2.out _ K.out).mono ?_; rintro e w2 ⟨rfl, k2⟩; replace K := Lib.hid (K.out.trans k2); (have qa0 := QA.out _ K.out 0); (have qb0 := QB.out _ K.out 0); (have qa1 := QA.out _ K.out 1); (have qb1 := QB.out _ K.out 1); (have qa2 := QA.out _ K.out 2); (have qb2 := QB.out _ K.out 2); (have qa3 := QA.out _ K.out 3); (have qb3 := QB.out _ K.out 3); (have qa4 := QA.out _ K.out 4); (have qb4 := QB.out _ K.out 4); (have qa5 := QA.out _ K.out 5); (have qb5 := QB.out _ K.out 5); (have qa6 := QA.out _ K.out 6); (have qb6 := QB.out _ K.out 6); (have qa7 := QA.out _ K.out 7); (have qb7 := QB.out _ K.out 7); (have qa8 := QA.out _ K.out 8); (have qb8 := QB.out _ K.out 8); (have qa9 := QA.out _ K.out 9); (have qb9 := QB.out _ K.out 9); (have qa10 := QA.out _ K.out 10); (have qb10 := QB.out _ K.out 10); (have qa11 := QA.out _ K.out 11); (have qb11 := QB.out _ K.out 11); (have qa12 := QA.out _ K.out 12); (have qb12 := QB.out _ K.out 12); clear k2)
                              | (go_at_call 57; (have _t := t1); refine (C1.out _ K.out).mono ?_; rintro e w1 ⟨rfl, k1⟩; replace K := Lib.hid (K.out.trans k1); (have qa0 := QA.out _ K.out 0); (have qb0 := QB.out _ K.out 0); (have qa1 := QA.out _ K.out 1); (have qb1 := QB.out _ K.out 1); (have qa2 := QA.out _ K.out 2); (have qb2 := QB.out _ K.out 2); (have qa3 := QA.out _ K.out 3); (have qb3 := QB.out _ K.out 3); (have qa4 := QA.out _ K.out 4); (have qb4 := QB.out _ K.out 4); (have qa5 := QA.out _ K.out 5); (have qb5 := QB.out _ K.out 5); (have qa6 := QA.out _ K.out 6); (have qb6 := QB.out _ K.out 6); (have qa7 := QA.out _ K.out 7); (have qb7 := QB.out _ K.out 7); (have qa8 := QA.out _ K.out 8); (have qb8 := QB.out _ K.out 8); (have qa9 := QA.out _ K.out 9); (have qb9 := QB.out _ K.out 9); (have qa10 := QA.out _ K.out 10); (have qb10 := QB.out _ K.out 10); (have qa11 := QA.out _ K.out 11); (have qb11 := QB.out _ K.out 11); (have qa12 := QA.out _ K.out 12); (have qb12 := QB.out _ K.out 12); clear k1 t1)
                              | (go_at_call 57; refine (C3.out _ K.out).mono ?_; rintro e w3 ⟨rfl, k3⟩; replace K := Lib.hid (K.out.trans k3); (have qa0 := QA.out _ K.out 0); (have qb0 := QB.out _ K.out 0); (have qa1 := QA.out _ K.out 1); (have qb1 := QB.out _ K.out 1); (have qa2 := QA.out _ K.out 2); (have qb2 := QB.out _ K.out 2); (have qa3 := QA.out _ K.out 3); (have qb3 := QB.out _ K.out 3); (have qa4 := QA.out _ K.out 4); (have qb4 := QB.out _ K.out 4); (have qa5 := QA.out _ K.out 5); (have qb5 := QB.out _ K.out 5); (have qa6 := QA.out _ K.out 6); (have qb6 := QB.out _ K.out 6); (have qa7 := QA.out _ K.out 7); (have qb7 := QB.out _ K.out 7); (have qa8 := QA.out _ K.out 8); (have qb8 := QB.out _ K.out 8); (have qa9 := QA.out _ K.out 9); (have qb9 := QB.out _ K.out 9); (have qa10 := QA.out _ K.out 10); (have qb10 := QB.out _ K.out 10); (have qa11 := QA.out _ K.out 11); (have qb11 := QB.out _ K.out 11); (have qa12 := QA.out _ K.out 12); (have qb12 := QB.out _ K.out 12); clear k3))
                            go_ret
                            exact ⟨by rw [HE.out]; rfl, HK.out.trans K.out⟩
                          | true =>
                            go_wp2_with (first
                              | (go_at_call 59; refine (C4.out _ K.out).mono ?_; rintro e w4 ⟨rfl, k4⟩; replace K := Lib.hid (K.out.trans k4); clear k4)
                              | (go_at_call 58; refine (C2.out _ K.out).mono ?_; rintro e w2 ⟨rfl, k2⟩; replace K := Lib.hid (K.out.trans k2); (have qa0 := QA.out _ K.out 0); (have qb0 := QB.out _ K.out 0); (have qa1 := QA.out _ K.out 1); (have qb1 := QB.out _ K.out 1); (have qa2 := QA.out _ K.out 2); (have qb2 := QB.out _ K.out 2); (have qa3 := QA.out _ K.out 3); (have qb3 := QB.out _ K.out 3); (have qa4 := QA.out _ K.out 4); (have qb4 := QB.out _ K.out 4); (have qa5 := QA.out _ K.out 5); (have qb5 := QB.out _ K.out 5); (have qa6 := QA.out _ K.out 6); (have qb6 := QB.out _ K.out 6); (have qa7 := QA.out _ K.out 7); (have qb7 := QB.out _ K.out 7); (have qa8 := QA.out _ K.out 8); (have qb8 := QB.out _ K.out 8); (have qa9 := QA.out _ K.out 9); (have qb9 := QB.out _ K.out 9); (have qa10 := QA.out _ K.out 10); (have qb10 := QB.out _ K.out 10); (have qa11 := QA.out _ K.out 11); (have qb11 := QB.out _ K.out 11); (have qa12 := QA.out _ K.out 12); (have qb12 := QB.out _ K.out 12); clear k2)
                              | (go_at_call 57; (have _t := t1); refine (C1.out _ K.out).mono ?_; rintro e w1 ⟨rfl, k1⟩; replace K := Lib.hid (K.out.trans k1); (have qa0 := QA.out _ K.out 0); (have qb0 := QB.out _ K.out 0); (have qa1 := QA.out _ K.out 1); (have qb1 := QB.out _ K.out 1); (have qa2 := QA.out _ K.out 2); (have qb2 := QB.out _ K.out 2); (have qa3 := QA.out _ K.out 3); (have qb3 := QB.out _ K.out 3); (have qa4 := QA.out _ K.out 4); (have qb4 := QB.out _ K.out 4); (have qa5 := QA.out _ K.out 5); (have qb5 := QB.out _ K.out 5); (have qa6 := QA.out _ K.out 6); (have qb6 := QB.out _ K.out 6); (have qa7 := QA.out _ K.out 7); (have qb7 := QB.out _ K.out 7); (have qa8 := QA.out _ K.out 8); (have qb8 := QB.out _ K.out 8); (have qa9 := QA.out _ K.out 9); (have qb9 := QB.out _ K.out 9); (have qa10 := QA.out _ K.out 10); (have qb10 := QB.out _ K.out 10); (have qa11 := QA.out _ K.out 11); (have qb11 := QB.out _ K.out 11); (have qa12 := QA.out _ K.out 12); (have qb12 := QB.out _ K.out 12); clear k1 t1)
                              | (go_at_call 57; refine (C3.out _ K.out).mono ?_; rintro e w3 ⟨rfl, k3⟩; replace K := Lib.hid (K.out.trans k3); (have qa0 := QA.out _ K.out 0); (have qb0 := QB.out _ K.out 0); (have qa1 := QA.out _ K.out 1); (have qb1 := QB.out _ K.out 1); (have qa2 := QA.out _ K.out 2); (have qb2 := QB.out _ K.out 2); (have qa3 := QA.out _ K.out 3); (have qb3 := QB.out _ K.out 3); (have qa4 := QA.out _ K.out 4); (have qb4 := QB.out _ K.out 4); (have qa5 := QA.out _ K.out 5); (have qb5 := QB.out _ K.out 5); (have qa6 := QA.out _ K.out 6); (have qb6 := QB.out _ K.out 6); (have qa7 := QA.out _ K.out 7); (have qb7 := QB.out _ K.out 7); (have qa8 := QA.out _ K.out 8); (have qb8 := QB.out _ K.out 8); (have qa9 := QA.out _ K.out 9); (have qb9 := QB.out _ K.out 9); (have qa10 := QA.out _ K.out 10); (have qb10 := QB.out _ K.out 10); (have qa11 := QA.out _ K.out 11); (have qb11 := QB.out _ K.out 11); (have qa12 := QA.out _ K.out 12); (have qb12 := QB.out _ K.out 12); clear k3))
                            go_ret
                            exact ⟨by rw [HE.out]; rfl, HK.out.trans K.out⟩
end Go.Proofs.YteofbpdogmajoaaGreatDoor
