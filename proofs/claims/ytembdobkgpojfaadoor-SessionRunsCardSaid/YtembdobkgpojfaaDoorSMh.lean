
/-
  session: ends.
-/
import Derived.Test.YtembdobkgpojfaaDoorSMg
namespace Go.Proofs.YtembdobkgpojfaaDoor
open Go.RowKit

theorem ends_false (st c s : Nat) (d : Bool) : Sm.ends st false c s d = (⟨1, 0⟩, (Sm.ends st true c s d).2 ++ [Sm.set 1 120]) := by
  unfold Sm.ends
  simp [List.append_assoc]
set_option maxHeartbeats 4000000 in
theorem se_ends (st hd c s : Nat) (A : Option Addr) (n cc : Nat) (d : Bool) (dA : Option Addr) (dn dc : Nat) (bs : List UInt8) (w : World) (hb : By w (.slice dA dn dc) bs) (hC : Clo w A n cc d bs) :
    Calls Tryd.prog 114 #[.agg #[.int .i64 st, .int .i64 hd], .agg #[.int .u8 c, .int .u8 s], .slice A n cc] w fun e w' => Res .u8 w w' e (Sm.ends st false c s d) bs := by
  rw [ends_false]
  have HL : Hid ((Sm.ends st true c s d).2.length ≤ 10) := Lib.hid (by
    unfold Sm.ends Sm.tell
    split <;> split <;> simp)
  have HH : Hid (∀ u, Kept Nothing w u → Calls Tryd.prog 91 #[.agg #[.int .i64 st, .int .i64 hd], .agg #[.int .u8 c, .int .u8 s], .slice A n cc] u fun e w' => ∃ A1 n1 c1 eA en ec, e = .returned (.tuple #[.agg #[.int .i64 1, .int .i64 0], .slice A1 n1 c1]) ∧ n1 = (Sm.ends st true c s d).2.length ∧ w'.ownsRow u.heap.size 109 6 (.slice A1 n1 c1) n1 (Sm.cls .u8 (.slice eA en ec) (Sm.ends st true c s d).2) ∧ Dv w w' (.slice eA en ec) bs ∧ Kept Nothing u w') :=
    Lib.hid (fun u hu => (se_halts st hd c s A n cc d dA dn dc bs w u hu hb hC).mono fun _ _ h => h)
  clear hb hC
  generalize (Sm.ends st true c s d).2 = L at *
  obtain ⟨M0, F0, R0, K0⟩ := boxesH w #[.int .i64 st, .int .i64 hd] #[.int .u8 c, .int .u8 s] #[.int .i64 0, .int .i64 0]
  go_enter Tryd.func114, Tryd.ntmps114
  go_upto_region 1 with fail
  change Code.wp _ _ _ _ (((w.alloc (.cells #[.int .i64 st, .int .i64 hd] 24)).alloc (.cells #[.int .u8 c, .int .u8 s] 28)).alloc (.cells #[.int .i64 0, .int .i64 0] 24))
  generalize ((w.alloc (.cells #[.int .i64 st, .int .i64 hd] 24)).alloc (.cells #[.int .u8 c, .int .u8 s] 28)).alloc (.cells #[.int .i64 0, .int .i64 0] 24) = W0 at *
  obtain ⟨f0, f1⟩ := fcells F0
  obtain ⟨m0, m1, -, -⟩ := mcells M0
  replace M0 := Lib.hid M0
  replace R0 := Lib.hid R0
  replace K0 := Lib.hid K0
  go_wp2_with fail
  refine (HH.out _ K0.out).mono ?_
  rintro e w1 ⟨A1, n1, c1, eA, en, ec, rfl, hn1, ho1, hD1, hk1⟩
  have M1 := Lib.hid (M0.out.kept hk1 (fun x => x))
  have R1 := Lib.hid (R0.out.kept hk1 (fun x => x))
  have K1 := Lib.hid (K0.out.trans hk1)
  have O1 := Lib.hid (ow_weak ho1 K0.out.size)
  have D1 := Lib.hid hD1
  have N1 := Lib.hid hn1
  clear hn1 ho1 hD1 hk1 HH f0 f1 m0 m1
  obtain ⟨y0, y1, y2, y3⟩ := mcells M1.out
  go_upto_region 2 with fail
  have kk := kept_two (v := w1) w.heap.size (.int .i64 1) (.int .i64 0)
  have M2 := Lib.hid (fin_blk (st := 1) (hd := 0) M1.out)
  have R2 := Lib.hid (R1.out.kept kk (fun (e : w.heap.size + 1 + 1 = w.heap.size) => by omega))
  have K2 := Lib.hid (K1.out.trans_new kk (fun i hi (e : i = w.heap.size) => by omega))
  have O2 := Lib.hid (ow_kept O1.out kk (ow_far O1.out M1.out (by decide)))
  have D2 : Hid (Dv w ((w1.setCell ⟨w.heap.size, 0, none⟩ (.int .i64 1)).setCell ⟨w.heap.size, 1, none⟩ (.int .i64 0)) (.slice eA en ec) bs) := Lib.hid (D1.out.imp id (fun h => h.kept kk (NoBytes.of_blk M1.out (by decide))))
  clear kk M1 R1 K1 O1 D1 y0 y1 y2 y3
  generalize (w1.setCell ⟨w.heap.size, 0, none⟩ (.int .i64 1)).setCell ⟨w.heap.size, 1, none⟩ (.int .i64 0) = W2 at *
  obtain ⟨y0, y1, -, -⟩ := mcells M2.out
  go_region_law (first
    | (go_simp; go_at_call 93; refine (se_set 1 120 _).mono ?_; rintro e w3 ⟨rfl, hk⟩; (have K3 := Lib.hid (K2.out.drew.trans hk)); (have R3 := Lib.hid (R2.out.drew.kept hk (fun x => x))); (have M3 := Lib.hid (M2.out.drew.kept hk (fun x => x))); (obtain ⟨d0, d1, -, -⟩ := mcells M3.out); (have k4 := (Kept.refl Nothing w3).alloc (.cells #[.int .i64 3, .int .u8 1, .int .i64 120, .int .u8 0, .int .u8 0, .slice none 0 0] 109)); (have K4 := Lib.hid (K3.out.trans k4)); (have R4 := Lib.hid (R3.out.kept k4 (fun x => x))); (have M4 := Lib.hid (M3.out.kept k4 (fun x => x))); (obtain ⟨x0, x1, -, -⟩ := mcells M4.out); (have O4 := Lib.hid (ow_kept (ow_kept O2.out ((Kept.refl Nothing W2).drew.trans hk) (fun _ _ x => x)) k4 (fun _ _ x => x))); (have D4 := Lib.hid ((D2.out.old ((Kept.refl Nothing W2).drew.trans hk)).old k4)); clear hk k4)
    | (refine step_appS rfl _ _ rfl w (.slice eA en ec) A1 n1 c1 L [Sm.set 1 120] N1.out rfl O4.out (some ⟨w3.heap.size, 0, none⟩) 1 1 rfl rfl (src_lit w3 eA en ec [Sm.set 1 120] _ rfl) (by have := HL.out; simp; omega) K4.out ?_; intro A5 n5 c5 w5 hn5 ho5 hk5 hb5 hy5; (have R5 := Lib.hid (hb5 _ _ _ (by decide) R4.out)); (obtain ⟨z0, z1, z2, z3⟩ := mcells R5.out); (obtain ⟨v0, v1, -, -⟩ := mcells (hb5 _ _ _ (by decide) M4.out)); (have D5 := Lib.hid (D4.out.app hy5)); (have K5 := Lib.hid hk5); (have O5 := Lib.hid ho5); (have N5 := Lib.hid hn5); clear hn5 ho5 hk5 hb5 hy5))
  all_goals
    go_wp2
    refine bodyPost_ret (ret_mach rfl _ _ (w.heap.size + 1 + 1) _ _ _ rfl rfl (fin_blk R5.out)) rfl ((resO_fin2 N5.out O5.out D5.out R5.out K5.out (by omega)).res (Kept.refl _ w))
end Go.Proofs.YtembdobkgpojfaaDoor
