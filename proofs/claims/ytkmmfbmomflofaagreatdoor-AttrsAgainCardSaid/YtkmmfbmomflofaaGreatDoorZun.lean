
/-
  The law AttrsAgain: what was read is laid again, and read as the same (printed by wip/gen_un.py).
-/
import Derived.Test.YtkmmfbmomflofaaGreatDoorZum
import Derived.Test.YtkmmfbmomflofaaGreatDoorZuf
import Derived.Test.YtkmmfbmomflofaaGreatDoorZui
import Derived.Test.YtkmmfbmomflofaaGreatDoorZiv
namespace Go.Proofs.YtkmmfbmomflofaaGreatDoor
open Go.RowKit

theorem at_get3 (v : Value) (D : List UInt8) (four outside : Bool) (W : World) (hv : By W v D) (hD : D.length ≤ 100000000) (ht : Wtd W) {a : At} {c : Nat} {d : List UInt8} (hR : Ax.get D four outside = (a, c, d)) :
    Calls Tryz.prog 14 #[v, .bool four, .bool outside] W fun e w' => ∃ Ap np Ac nc Aq nq Ao no Ad nd, e = .returned (.tuple #[.agg #[.int .u32 (a.has : Int), .int .u8 (a.origin.toNat : Int), .slice Ap a.path.length np, .int .u32 (a.nh : Int), .int .u32 (a.med : Int), .int .u32 (a.pref : Int), .int .u32 (a.byA : Int), .int .u32 (a.byI : Int), .slice Ac a.comms.length nc, .slice Aq a.path4.length nq, .int .u32 (a.by4A : Int), .int .u32 (a.by4I : Int), .slice Ao a.others.length no], .agg #[.int .i64 (c : Int), .int .u8 (if c = 3 then 3 else 0), .int .u8 (if c = 3 then 2 else 0), .slice Ad d.length nd]]) ∧
      Atp w' a (.slice Ap a.path.length np) (.slice Ac a.comms.length nc) (.slice Aq a.path4.length nq) (.slice Ao a.others.length no) ∧ Kept Nothing W w' := by
  have h := at_get v D four outside W hv hD ht
  rw [hR] at h
  refine h.mono ?_
  rintro e w' ⟨pv, cv, qv, ov, dv, rfl, h1, h2, h3⟩
  have h4 := h1.atp (Oown.ots h1.2.2.2.1)
  have h5 := (Bs.of_own h2).by
  obtain ⟨Ap, np, rfl, -, -⟩ := (show ∃ A c, pv = .slice A a.path.length c ∧ _ ∧ _ from h4.1.form)
  obtain ⟨Ac, nc, rfl, -, -⟩ := h4.2.1.form
  obtain ⟨Aq, nq, rfl, -, -⟩ := (show ∃ A c, qv = .slice A a.path4.length c ∧ _ ∧ _ from h4.2.2.1.form)
  obtain ⟨Ao, no, rfl, -, -⟩ := h4.2.2.2.1.form
  obtain ⟨Ad, nd, rfl, -, -⟩ := h5.form
  exact ⟨Ap, np, Ac, nc, Aq, nq, Ao, no, Ad, nd, rfl, h4, h3⟩
theorem at_get0 (v : Value) (D : List UInt8) (four outside : Bool) (W : World) (hv : By W v D) (hD : D.length ≤ 100000000) (ht : Wtd W) {a : At} (hR : Ax.get D four outside = (a, 0, [])) :
    Calls Tryz.prog 14 #[v, .bool four, .bool outside] W fun e w' => ∃ Ap np Ac nc Aq nq Ao no Ad nd, e = .returned (.tuple #[.agg #[.int .u32 (a.has : Int), .int .u8 (a.origin.toNat : Int), .slice Ap a.path.length np, .int .u32 (a.nh : Int), .int .u32 (a.med : Int), .int .u32 (a.pref : Int), .int .u32 (a.byA : Int), .int .u32 (a.byI : Int), .slice Ac a.comms.length nc, .slice Aq a.path4.length nq, .int .u32 (a.by4A : Int), .int .u32 (a.by4I : Int), .slice Ao a.others.length no], .agg #[.int .i64 0, .int .u8 0, .int .u8 0, .slice Ad 0 nd]]) ∧
      Atp w' a (.slice Ap a.path.length np) (.slice Ac a.comms.length nc) (.slice Aq a.path4.length nq) (.slice Ao a.others.length no) ∧ Kept Nothing W w' := by
  refine (at_get3 v D four outside W hv hD ht hR).mono ?_
  rintro e w' ⟨Ap, np, Ac, nc, Aq, nq, Ao, no, Ad, nd, rfl, h1, h2⟩
  exact ⟨Ap, np, Ac, nc, Aq, nq, Ao, no, Ad, nd, rfl, h1, h2⟩
/-- The first bytes of the input. -/
def headB (D : List UInt8) : List UInt8 := D.take (min D.length 700)

theorem at_getZ2 (v : Value) (D : List UInt8) (four outside : Bool) (W : World) (hv : By W v D) (hD : D.length ≤ 100000000) (ht : Wtd W) (d : List UInt8) (hdl : d.length = 0) (hR : Ax.get D four outside = (Ax.zeroA, 2, d)) :
    Calls Tryz.prog 14 #[v, .bool four, .bool outside] W fun e w' => ∃ Ap np Ac nc Aq nq Ao no Ad nd, e = .returned (.tuple #[.agg #[.int .u32 0, .int .u8 0, .slice Ap 0 np, .int .u32 0, .int .u32 0, .int .u32 0, .int .u32 0, .int .u32 0, .slice Ac 0 nc, .slice Aq 0 nq, .int .u32 0, .int .u32 0, .slice Ao 0 no], .agg #[.int .i64 2, .int .u8 0, .int .u8 0, .slice Ad 0 nd]]) ∧
      Atp w' Ax.zeroA (.slice Ap 0 np) (.slice Ac 0 nc) (.slice Aq 0 nq) (.slice Ao 0 no) ∧ Kept Nothing W w' := by
  refine (at_get3 v D four outside W hv hD ht hR).mono ?_
  rintro e w' ⟨Ap, np, Ac, nc, Aq, nq, Ao, no, Ad, nd, rfl, h1, h2⟩
  exact ⟨Ap, np, Ac, nc, Aq, nq, Ao, no, Ad, nd, by rw [hdl]; rfl, h1, h2⟩
def kls2 (q _dn : Nat) (Ap Ac Aq Ao Ad : Option Addr) (np nc nq no nd : Nat) : List (Option Value) := [some (.agg #[.int .u32 0, .int .u8 0, .slice Ap 0 np, .int .u32 0, .int .u32 0, .int .u32 0, .int .u32 0, .int .u32 0, .slice Ac 0 nc, .slice Aq 0 nq, .int .u32 0, .int .u32 0, .slice Ao 0 no]), some (.agg #[.int .u32 0, .int .u8 0, .slice none 0 0, .int .u32 0, .int .u32 0, .int .u32 0, .int .u32 0, .int .u32 0, .slice none 0 0, .slice none 0 0, .int .u32 0, .int .u32 0, .slice none 0 0]), some (.bool true), some (.bool true), some (.pointer (some ⟨q + 1, 0, none⟩)), some (.int .i64 2), some (.bool false), some (.pointer (some ⟨q + 1, 1, none⟩)), some (.agg #[.int .u8 0, .int .u8 0]), some (.agg #[.int .u8 3, .int .u8 2]), some (.bool false), some (.bool true), some (.bool true), some (.bool true), some (.pointer (some ⟨q + 1, 0, none⟩)), some (.int .i64 2), some (.bool false), some (.pointer (some ⟨q + 1, 3, none⟩)), some (.slice Ad 0 nd), some (.int .i64 0), some (.bool false), some (.bool true), some (.bool true), some (.bool true), some (.pointer (some ⟨q + 1, 0, none⟩)), some (.int .i64 2), some (.bool true), some (.bool true), some (.bool true), some (.bool true), some (.bool true), some (.bool true)]

set_option maxRecDepth 20000 in
set_option maxHeartbeats 8000000 in
theorem again_2 (v : Value) (D : List UInt8) (four outside : Bool) (W : World) (hv : By W v D) (ht : Wtd W) (d : List UInt8) (dn : Nat) (hdl : d.length = 0) (hR : Ax.get (headB D) four outside = (Ax.zeroA, 2, d)) :
    Calls Tryz.prog 5 #[v, .bool four, .bool outside] W fun e w' => e = .returned (.bool true) ∧ Kept Nothing W w' := by
  obtain ⟨A, cc, rfl, hlc, hm⟩ := hv.form
  have hby := hv.pre (m := min D.length 700) (Nat.min_le_left _ _)
  obtain ⟨m, hmm⟩ : ∃ m, min D.length 700 = m := ⟨_, rfl⟩
  have hlen : (headB D).length ≤ 700 := by unfold headB; rw [List.length_take]; omega
  have i1 : min (D.length : Int) 700 = (m : Int) := by omega
  have i2 : (m : Int) ≤ (cc : Int) := by omega
  rw [hmm] at hby
  have HG := Lib.hid (at_getZ2 _ (headB D) four outside W (by unfold headB; rw [hmm]; exact hby) (by omega) ht d hdl hR)
  have HT := Lib.hid ht
  skip
  clear hv hby hmm ht hR hlen hlc hm hdl 
  go_enter Tryz.func5, Tryz.ntmps5
  go_upto_region 2 with (go_at_call 14; refine (HG.out).mono ?_; rintro e x1 ⟨Ap, np, Ac, nc, Aq, nq, Ao, no, Ad, nd, rfl, ha, hk⟩)
  obtain ⟨W1, hW1⟩ : ∃ W1, (x1.alloc (.cells #[.int .u32 0, .int .u8 0, .slice Ap 0 np, .int .u32 0, .int .u32 0, .int .u32 0, .int .u32 0, .int .u32 0, .slice Ac 0 nc, .slice Aq 0 nq, .int .u32 0, .int .u32 0, .slice Ao 0 no] 33)).alloc (.cells #[.int .i64 2, .int .u8 0, .int .u8 0, .slice Ad 0 nd] 37) = W1 := ⟨_, rfl⟩
  have kz : Kept Nothing x1 W1 := by rw [← hW1]; exact ((Kept.refl Nothing _).alloc _).alloc _
  have BA : Blk W1 x1.heap.size 33 #[.int .u32 0, .int .u8 0, .slice Ap 0 np, .int .u32 0, .int .u32 0, .int .u32 0, .int .u32 0, .int .u32 0, .slice Ac 0 nc, .slice Aq 0 nq, .int .u32 0, .int .u32 0, .slice Ao 0 no] := by rw [← hW1]; exact (Blk.fresh x1 _ _).alloc _
  have BF : Blk W1 (x1.heap.size + 1) 37 #[.int .i64 2, .int .u8 0, .int .u8 0, .slice Ad 0 nd] := by
    have h := Blk.fresh (x1.alloc (.cells #[.int .u32 0, .int .u8 0, .slice Ap 0 np, .int .u32 0, .int .u32 0, .int .u32 0, .int .u32 0, .int .u32 0, .slice Ac 0 nc, .slice Aq 0 nq, .int .u32 0, .int .u32 0, .slice Ao 0 no] 33)) 37 #[.int .i64 2, .int .u8 0, .int .u8 0, .slice Ad 0 nd]
    rw [World.size_alloc] at h
    rw [← hW1]
    exact h
  have KW := Lib.hid (hk.trans kz)
  have HA := Lib.hid (ha.old kz)
  rw [hW1]
  clear hW1 kz hk ha HG i1 i2
  generalize x1.heap.size = q at *
  have c0 : W1.cell? ⟨q + 1, 0, none⟩ = some (.int .i64 2) := BF.cell 0
  have Z0 := Lib.hid c0
  have Z1 : Hid (W1.cell? ⟨q + 1, 1, none⟩ = some (.int .u8 0)) := Lib.hid (BF.cell 1)
  have Z2 : Hid (W1.cell? ⟨q + 1, 2, none⟩ = some (.int .u8 0)) := Lib.hid (BF.cell 2)
  have Z3 : Hid (W1.cell? ⟨q + 1, 3, none⟩ = some (.slice Ad 0 nd)) := Lib.hid (BF.cell 3)
  have Y0 : Hid (W1.cell? ⟨q, 0, none⟩ = some (.int .u32 0)) := Lib.hid (BA.cell 0)
  have Y1 : Hid (W1.cell? ⟨q, 1, none⟩ = some (.int .u8 0)) := Lib.hid (BA.cell 1)
  have Y2 : Hid (W1.cell? ⟨q, 2, none⟩ = some (.slice Ap 0 np)) := Lib.hid (BA.cell 2)
  have Y3 : Hid (W1.cell? ⟨q, 3, none⟩ = some (.int .u32 0)) := Lib.hid (BA.cell 3)
  have Y4 : Hid (W1.cell? ⟨q, 4, none⟩ = some (.int .u32 0)) := Lib.hid (BA.cell 4)
  have Y5 : Hid (W1.cell? ⟨q, 5, none⟩ = some (.int .u32 0)) := Lib.hid (BA.cell 5)
  have Y6 : Hid (W1.cell? ⟨q, 6, none⟩ = some (.int .u32 0)) := Lib.hid (BA.cell 6)
  have Y7 : Hid (W1.cell? ⟨q, 7, none⟩ = some (.int .u32 0)) := Lib.hid (BA.cell 7)
  have Y8 : Hid (W1.cell? ⟨q, 8, none⟩ = some (.slice Ac 0 nc)) := Lib.hid (BA.cell 8)
  have Y9 : Hid (W1.cell? ⟨q, 9, none⟩ = some (.slice Aq 0 nq)) := Lib.hid (BA.cell 9)
  have Y10 : Hid (W1.cell? ⟨q, 10, none⟩ = some (.int .u32 0)) := Lib.hid (BA.cell 10)
  have Y11 : Hid (W1.cell? ⟨q, 11, none⟩ = some (.int .u32 0)) := Lib.hid (BA.cell 11)
  have Y12 : Hid (W1.cell? ⟨q, 12, none⟩ = some (.slice Ao 0 no)) := Lib.hid (BA.cell 12)
  have HS := Lib.hid (fun u (k : Kept Nothing W1 u) => show Calls Tryz.prog 23 #[.agg #[.int .u32 0, .int .u8 0, .slice Ap 0 np, .int .u32 0, .int .u32 0, .int .u32 0, .int .u32 0, .int .u32 0, .slice Ac 0 nc, .slice Aq 0 nq, .int .u32 0, .int .u32 0, .slice Ao 0 no], .agg #[.int .u32 0, .int .u8 0, .slice none 0 0, .int .u32 0, .int .u32 0, .int .u32 0, .int .u32 0, .int .u32 0, .slice none 0 0, .slice none 0 0, .int .u32 0, .int .u32 0, .slice none 0 0]] u _ from at_same2 Ax.zeroA Ax.zeroA _ _ _ _ (.slice none 0 0) (.slice none 0 0) (.slice none 0 0) (.slice none 0 0) u (HA.out.old k) ⟨(Pown.nil u 0).pts, As.nil u, (Pown.nil u 0).pts, Ots.nil u, by unfold Ax.fit; simp [Ax.zeroA]⟩)
  rw [Ax.same_self] at HS
  clear BA BF HA
  go_upto_region 3 with fail
  clear c0
  refine wp_region_grow1 W1 (Facts (kls2 q dn Ap Ac Aq Ao Ad np nc nq no nd) (fun _ _ _ => True)) 31 6 (by rfl) (by kernel_rfl) (by decide +kernel) (by intro d hd; simp [dsts] at hd ⊢; omega) (ready_nil (by kernel_rfl)) (by kernel_rfl) (Facts.guards (E := [(3, true), (13, true), (23, true), (28, true)]) (by kernel_rfl) ?_) (Facts.stab (fun _ _ _ _ _ _ => trivial)) (Kept.refl Nothing W1).drew ?_ ?_
  · repeat (first | refine List.forall_mem_cons.2 ⟨by rfl, ?_⟩ | exact List.forall_mem_nil _)
  · refine OweAll.cons ?_ ?_
    · intro u a hk hf hfar
      have v7 : a.tmps.getD 7 undef = .pointer (some ⟨q, 0, none⟩) := hfar 7 (by decide)
      have w7 := v7
      rw [Array.getD_eq_getD_getElem?] at w7
      have b0 := hk.cell_some Y0.out (fun x => x)
      have b1 := hk.cell_some Y1.out (fun x => x)
      have b2 := hk.cell_some Y2.out (fun x => x)
      have b3 := hk.cell_some Y3.out (fun x => x)
      have b4 := hk.cell_some Y4.out (fun x => x)
      have b5 := hk.cell_some Y5.out (fun x => x)
      have b6 := hk.cell_some Y6.out (fun x => x)
      have b7 := hk.cell_some Y7.out (fun x => x)
      have b8 := hk.cell_some Y8.out (fun x => x)
      have b9 := hk.cell_some Y9.out (fun x => x)
      have b10 := hk.cell_some Y10.out (fun x => x)
      have b11 := hk.cell_some Y11.out (fun x => x)
      have b12 := hk.cell_some Y12.out (fun x => x)
      clear hf hfar
      go_simp
      exact ⟨_, rfl, Kept.refl _ _, rfl⟩
    refine OweAll.cons ?_ ?_
    · intro u a hk hf hfar
      clear hf hfar
      go_simp
      exact ⟨_, rfl, Kept.refl _ _, rfl⟩
    refine OweAll.cons ?_ ?_
    · intro u a hk hf hfar
      have v27 : a.tmps.getD 27 undef = .agg #[.int .u32 0, .int .u8 0, .slice Ap 0 np, .int .u32 0, .int .u32 0, .int .u32 0, .int .u32 0, .int .u32 0, .slice Ac 0 nc, .slice Aq 0 nq, .int .u32 0, .int .u32 0, .slice Ao 0 no] := hf 0 _ 27 rfl rfl ⟨⟨0, .data⟩, Array.mem_of_getElem? (i := 0) rfl, rfl, rfl⟩
      have w27 := v27
      rw [Array.getD_eq_getD_getElem?] at w27
      have v28 : a.tmps.getD 28 undef = .agg #[.int .u32 0, .int .u8 0, .slice none 0 0, .int .u32 0, .int .u32 0, .int .u32 0, .int .u32 0, .int .u32 0, .slice none 0 0, .slice none 0 0, .int .u32 0, .int .u32 0, .slice none 0 0] := hf 1 _ 28 rfl rfl ⟨⟨1, .data⟩, Array.mem_of_getElem? (i := 1) rfl, rfl, rfl⟩
      have w28 := v28
      rw [Array.getD_eq_getD_getElem?] at w28
      clear hf hfar
      go_simp
      refine (HS.out u hk).mono ?_
      rintro e u' ⟨rfl, hk'⟩
      exact ⟨_, rfl, hk', rfl⟩
    refine OweAll.cons ?_ ?_
    · intro u a hk hf hfar
      have v29 : a.tmps.getD 29 undef = .bool true := hf 2 _ 29 rfl rfl ⟨⟨2, .data⟩, Array.mem_of_getElem? (i := 0) rfl, rfl, rfl⟩
      have w29 := v29
      rw [Array.getD_eq_getD_getElem?] at w29
      clear hf hfar
      go_simp
      exact ⟨_, rfl, Kept.refl _ _, rfl⟩
    refine OweAll.cons ?_ ?_
    · intro u a hk hf hfar
      have v8 : a.tmps.getD 8 undef = .pointer (some ⟨q + 1, 0, none⟩) := hfar 8 (by decide)
      have w8 := v8
      rw [Array.getD_eq_getD_getElem?] at w8
      clear hf hfar
      go_simp
      exact ⟨_, rfl, Kept.refl _ _, rfl⟩
    refine OweAll.cons ?_ ?_
    · intro u a hk hf hfar
      have v31 : a.tmps.getD 31 undef = .pointer (some ⟨q + 1, 0, none⟩) := hf 4 _ 31 rfl rfl ⟨⟨4, .data⟩, Array.mem_of_getElem? (i := 0) rfl, rfl, rfl⟩
      have w31 := v31
      rw [Array.getD_eq_getD_getElem?] at w31
      have b0 := hk.cell_some Z0.out (fun x => x)
      clear hf hfar
      go_simp
      exact ⟨_, rfl, Kept.refl _ _, rfl⟩
    refine OweAll.cons ?_ ?_
    · intro u a hk hf hfar
      have v32 : a.tmps.getD 32 undef = .int .i64 2 := hf 5 _ 32 rfl rfl ⟨⟨5, .data⟩, Array.mem_of_getElem? (i := 0) rfl, rfl, rfl⟩
      have w32 := v32
      rw [Array.getD_eq_getD_getElem?] at w32
      clear hf hfar
      go_simp
      exact ⟨_, rfl, Kept.refl _ _, rfl⟩
    refine OweAll.cons ?_ ?_
    · intro u a hk hf hfar
      have v8 : a.tmps.getD 8 undef = .pointer (some ⟨q + 1, 0, none⟩) := hfar 8 (by decide)
      have w8 := v8
      rw [Array.getD_eq_getD_getElem?] at w8
      clear hf hfar
      go_simp
      exact ⟨_, rfl, Kept.refl _ _, rfl⟩
    refine OweAll.cons ?_ ?_
    · intro u a hk hf hfar
      have v34 : a.tmps.getD 34 undef = .pointer (some ⟨q + 1, 1, none⟩) := hf 7 _ 34 rfl rfl ⟨⟨7, .data⟩, Array.mem_of_getElem? (i := 0) rfl, rfl, rfl⟩
      have w34 := v34
      rw [Array.getD_eq_getD_getElem?] at w34
      have b1 := hk.cell_some Z1.out (fun x => x)
      have b2 := hk.cell_some Z2.out (fun x => x)
      clear hf hfar
      go_simp
      exact ⟨_, rfl, Kept.refl _ _, rfl⟩
    refine OweAll.cons ?_ ?_
    · intro u a hk hf hfar
      clear hf hfar
      go_simp
      exact ⟨_, rfl, Kept.refl _ _, rfl⟩
    refine OweAll.cons ?_ ?_
    · intro u a hk hf hfar
      have v35 : a.tmps.getD 35 undef = .agg #[.int .u8 0, .int .u8 0] := hf 8 _ 35 rfl rfl ⟨⟨8, .data⟩, Array.mem_of_getElem? (i := 0) rfl, rfl, rfl⟩
      have w35 := v35
      rw [Array.getD_eq_getD_getElem?] at w35
      have v36 : a.tmps.getD 36 undef = .agg #[.int .u8 3, .int .u8 2] := hf 9 _ 36 rfl rfl ⟨⟨9, .data⟩, Array.mem_of_getElem? (i := 1) rfl, rfl, rfl⟩
      have w36 := v36
      rw [Array.getD_eq_getD_getElem?] at w36
      clear hf hfar
      go_simp
      exact ⟨_, rfl, Kept.refl _ _, rfl⟩
    refine OweAll.cons ?_ ?_
    · intro u a hk hf hfar
      have v33 : a.tmps.getD 33 undef = .bool false := hf 6 _ 33 rfl rfl ⟨⟨6, .data⟩, Array.mem_of_getElem? (i := 0) rfl, rfl, rfl⟩
      have w33 := v33
      rw [Array.getD_eq_getD_getElem?] at w33
      have v37 : a.tmps.getD 37 undef = .bool false := hf 10 _ 37 rfl rfl ⟨⟨10, .data⟩, Array.mem_of_getElem? (i := 1) rfl, rfl, rfl⟩
      have w37 := v37
      rw [Array.getD_eq_getD_getElem?] at w37
      clear hf hfar
      go_simp
      exact ⟨_, rfl, Kept.refl _ _, rfl⟩
    refine OweAll.cons ?_ ?_
    · intro u a hk hf hfar
      have v30 : a.tmps.getD 30 undef = .bool true := hf 3 _ 30 rfl rfl ⟨⟨3, .data⟩, Array.mem_of_getElem? (i := 0) rfl, rfl, rfl⟩
      have w30 := v30
      rw [Array.getD_eq_getD_getElem?] at w30
      have v38 : a.tmps.getD 38 undef = .bool true := hf 11 _ 38 rfl rfl ⟨⟨11, .data⟩, Array.mem_of_getElem? (i := 1) rfl, rfl, rfl⟩
      have w38 := v38
      rw [Array.getD_eq_getD_getElem?] at w38
      clear hf hfar
      go_simp
      exact ⟨_, rfl, Kept.refl _ _, rfl⟩
    refine OweAll.cons ?_ ?_
    · intro u a hk hf hfar
      have v39 : a.tmps.getD 39 undef = .bool true := hf 12 _ 39 rfl rfl ⟨⟨12, .data⟩, Array.mem_of_getElem? (i := 0) rfl, rfl, rfl⟩
      have w39 := v39
      rw [Array.getD_eq_getD_getElem?] at w39
      clear hf hfar
      go_simp
      exact ⟨_, rfl, Kept.refl _ _, rfl⟩
    refine OweAll.cons ?_ ?_
    · intro u a hk hf hfar
      have v8 : a.tmps.getD 8 undef = .pointer (some ⟨q + 1, 0, none⟩) := hfar 8 (by decide)
      have w8 := v8
      rw [Array.getD_eq_getD_getElem?] at w8
      clear hf hfar
      go_simp
      exact ⟨_, rfl, Kept.refl _ _, rfl⟩
    refine OweAll.cons ?_ ?_
    · intro u a hk hf hfar
      have v41 : a.tmps.getD 41 undef = .pointer (some ⟨q + 1, 0, none⟩) := hf 14 _ 41 rfl rfl ⟨⟨14, .data⟩, Array.mem_of_getElem? (i := 0) rfl, rfl, rfl⟩
      have w41 := v41
      rw [Array.getD_eq_getD_getElem?] at w41
      have b0 := hk.cell_some Z0.out (fun x => x)
      clear hf hfar
      go_simp
      exact ⟨_, rfl, Kept.refl _ _, rfl⟩
    refine OweAll.cons ?_ ?_
    · intro u a hk hf hfar
      have v42 : a.tmps.getD 42 undef = .int .i64 2 := hf 15 _ 42 rfl rfl ⟨⟨15, .data⟩, Array.mem_of_getElem? (i := 0) rfl, rfl, rfl⟩
      have w42 := v42
      rw [Array.getD_eq_getD_getElem?] at w42
      clear hf hfar
      go_simp
      exact ⟨_, rfl, Kept.refl _ _, rfl⟩
    refine OweAll.cons ?_ ?_
    · intro u a hk hf hfar
      have v8 : a.tmps.getD 8 undef = .pointer (some ⟨q + 1, 0, none⟩) := hfar 8 (by decide)
      have w8 := v8
      rw [Array.getD_eq_getD_getElem?] at w8
      clear hf hfar
      go_simp
      exact ⟨_, rfl, Kept.refl _ _, rfl⟩
    refine OweAll.cons ?_ ?_
    · intro u a hk hf hfar
      have v44 : a.tmps.getD 44 undef = .pointer (some ⟨q + 1, 3, none⟩) := hf 17 _ 44 rfl rfl ⟨⟨17, .data⟩, Array.mem_of_getElem? (i := 0) rfl, rfl, rfl⟩
      have w44 := v44
      rw [Array.getD_eq_getD_getElem?] at w44
      have b3 := hk.cell_some Z3.out (fun x => x)
      clear hf hfar
      go_simp
      exact ⟨_, rfl, Kept.refl _ _, rfl⟩
    refine OweAll.cons ?_ ?_
    · intro u a hk hf hfar
      have v45 : a.tmps.getD 45 undef = .slice Ad 0 nd := hf 18 _ 45 rfl rfl ⟨⟨18, .data⟩, Array.mem_of_getElem? (i := 0) rfl, rfl, rfl⟩
      have w45 := v45
      rw [Array.getD_eq_getD_getElem?] at w45
      clear hf hfar
      go_simp
      exact ⟨_, rfl, Kept.refl _ _, rfl⟩
    refine OweAll.cons ?_ ?_
    · intro u a hk hf hfar
      have v46 : a.tmps.getD 46 undef = .int .i64 0 := hf 19 _ 46 rfl rfl ⟨⟨19, .data⟩, Array.mem_of_getElem? (i := 0) rfl, rfl, rfl⟩
      have w46 := v46
      rw [Array.getD_eq_getD_getElem?] at w46
      clear hf hfar
      go_simp
      exact ⟨_, rfl, Kept.refl _ _, rfl⟩
    refine OweAll.cons ?_ ?_
    · intro u a hk hf hfar
      have v43 : a.tmps.getD 43 undef = .bool false := hf 16 _ 43 rfl rfl ⟨⟨16, .data⟩, Array.mem_of_getElem? (i := 0) rfl, rfl, rfl⟩
      have w43 := v43
      rw [Array.getD_eq_getD_getElem?] at w43
      have v47 : a.tmps.getD 47 undef = .bool false := hf 20 _ 47 rfl rfl ⟨⟨20, .data⟩, Array.mem_of_getElem? (i := 1) rfl, rfl, rfl⟩
      have w47 := v47
      rw [Array.getD_eq_getD_getElem?] at w47
      clear hf hfar
      go_simp
      exact ⟨_, rfl, Kept.refl _ _, rfl⟩
    refine OweAll.cons ?_ ?_
    · intro u a hk hf hfar
      have v40 : a.tmps.getD 40 undef = .bool true := hf 13 _ 40 rfl rfl ⟨⟨13, .data⟩, Array.mem_of_getElem? (i := 0) rfl, rfl, rfl⟩
      have w40 := v40
      rw [Array.getD_eq_getD_getElem?] at w40
      have v48 : a.tmps.getD 48 undef = .bool true := hf 21 _ 48 rfl rfl ⟨⟨21, .data⟩, Array.mem_of_getElem? (i := 1) rfl, rfl, rfl⟩
      have w48 := v48
      rw [Array.getD_eq_getD_getElem?] at w48
      clear hf hfar
      go_simp
      exact ⟨_, rfl, Kept.refl _ _, rfl⟩
    refine OweAll.cons ?_ ?_
    · intro u a hk hf hfar
      have v49 : a.tmps.getD 49 undef = .bool true := hf 22 _ 49 rfl rfl ⟨⟨22, .data⟩, Array.mem_of_getElem? (i := 0) rfl, rfl, rfl⟩
      have w49 := v49
      rw [Array.getD_eq_getD_getElem?] at w49
      clear hf hfar
      go_simp
      exact ⟨_, rfl, Kept.refl _ _, rfl⟩
    refine OweAll.cons ?_ ?_
    · intro u a hk hf hfar
      have v8 : a.tmps.getD 8 undef = .pointer (some ⟨q + 1, 0, none⟩) := hfar 8 (by decide)
      have w8 := v8
      rw [Array.getD_eq_getD_getElem?] at w8
      clear hf hfar
      go_simp
      exact ⟨_, rfl, Kept.refl _ _, rfl⟩
    refine OweAll.cons ?_ ?_
    · intro u a hk hf hfar
      have v51 : a.tmps.getD 51 undef = .pointer (some ⟨q + 1, 0, none⟩) := hf 24 _ 51 rfl rfl ⟨⟨24, .data⟩, Array.mem_of_getElem? (i := 0) rfl, rfl, rfl⟩
      have w51 := v51
      rw [Array.getD_eq_getD_getElem?] at w51
      have b0 := hk.cell_some Z0.out (fun x => x)
      clear hf hfar
      go_simp
      exact ⟨_, rfl, Kept.refl _ _, rfl⟩
    refine OweAll.cons ?_ ?_
    · intro u a hk hf hfar
      have v52 : a.tmps.getD 52 undef = .int .i64 2 := hf 25 _ 52 rfl rfl ⟨⟨25, .data⟩, Array.mem_of_getElem? (i := 0) rfl, rfl, rfl⟩
      have w52 := v52
      rw [Array.getD_eq_getD_getElem?] at w52
      clear hf hfar
      go_simp
      exact ⟨_, rfl, Kept.refl _ _, rfl⟩
    refine OweAll.cons ?_ ?_
    · intro u a hk hf hfar
      have v50 : a.tmps.getD 50 undef = .bool true := hf 23 _ 50 rfl rfl ⟨⟨23, .data⟩, Array.mem_of_getElem? (i := 0) rfl, rfl, rfl⟩
      have w50 := v50
      rw [Array.getD_eq_getD_getElem?] at w50
      have v53 : a.tmps.getD 53 undef = .bool true := hf 26 _ 53 rfl rfl ⟨⟨26, .data⟩, Array.mem_of_getElem? (i := 1) rfl, rfl, rfl⟩
      have w53 := v53
      rw [Array.getD_eq_getD_getElem?] at w53
      clear hf hfar
      go_simp
      exact ⟨_, rfl, Kept.refl _ _, rfl⟩
    refine OweAll.cons ?_ ?_
    · intro u a hk hf hfar
      have v54 : a.tmps.getD 54 undef = .bool true := hf 27 _ 54 rfl rfl ⟨⟨27, .data⟩, Array.mem_of_getElem? (i := 0) rfl, rfl, rfl⟩
      have w54 := v54
      rw [Array.getD_eq_getD_getElem?] at w54
      clear hf hfar
      go_simp
      exact ⟨_, rfl, Kept.refl _ _, rfl⟩
    refine OweAll.cons ?_ ?_
    · intro u a hk hf hfar
      clear hf hfar
      go_simp
      refine (tells10 u (HT.out.kept (KW.out.trans hk))).mono ?_
      rintro e u' ⟨rfl, hk'⟩
      exact ⟨_, rfl, hk', rfl⟩
    refine OweAll.cons ?_ ?_
    · intro u a hk hf hfar
      have v55 : a.tmps.getD 55 undef = .bool true := hf 28 _ 55 rfl rfl ⟨⟨28, .data⟩, Array.mem_of_getElem? (i := 0) rfl, rfl, rfl⟩
      have w55 := v55
      rw [Array.getD_eq_getD_getElem?] at w55
      have v56 : a.tmps.getD 56 undef = .bool true := hf 29 _ 56 rfl rfl ⟨⟨29, .data⟩, Array.mem_of_getElem? (i := 1) rfl, rfl, rfl⟩
      have w56 := v56
      rw [Array.getD_eq_getD_getElem?] at w56
      clear hf hfar
      go_simp
      exact ⟨_, rfl, Kept.refl _ _, rfl⟩
    refine OweAll.cons ?_ ?_
    · intro u a hk hf hfar
      have v57 : a.tmps.getD 57 undef = .bool true := hf 30 _ 57 rfl rfl ⟨⟨30, .data⟩, Array.mem_of_getElem? (i := 0) rfl, rfl, rfl⟩
      have w57 := v57
      rw [Array.getD_eq_getD_getElem?] at w57
      clear hf hfar
      go_simp
      exact ⟨_, rfl, Kept.refl _ _, rfl⟩
    exact OweAll.nil
  · intro A u hku hA hdef
    have hA' : A.tmps.getD 6 undef = .bool true := hA
    have hr := results_tmp (fn := Tryz.f5) (t := 6) (by rfl) A.tmps Tryz.prog u
    rw [hA'] at hr
    go_wp2
    exact bodyPost_ret hr (hdef.trans rfl) ⟨rfl, KW.out.trans hku⟩
theorem at_getZ3 (v : Value) (D : List UInt8) (four outside : Bool) (W : World) (hv : By W v D) (hD : D.length ≤ 100000000) (ht : Wtd W) (d : List UInt8) (dn : Nat) (hdl : d.length = dn) (hR : Ax.get D four outside = (Ax.zeroA, 3, d)) :
    Calls Tryz.prog 14 #[v, .bool four, .bool outside] W fun e w' => ∃ Ap np Ac nc Aq nq Ao no Ad nd, e = .returned (.tuple #[.agg #[.int .u32 0, .int .u8 0, .slice Ap 0 np, .int .u32 0, .int .u32 0, .int .u32 0, .int .u32 0, .int .u32 0, .slice Ac 0 nc, .slice Aq 0 nq, .int .u32 0, .int .u32 0, .slice Ao 0 no], .agg #[.int .i64 3, .int .u8 3, .int .u8 2, .slice Ad dn nd]]) ∧
      Atp w' Ax.zeroA (.slice Ap 0 np) (.slice Ac 0 nc) (.slice Aq 0 nq) (.slice Ao 0 no) ∧ Kept Nothing W w' := by
  refine (at_get3 v D four outside W hv hD ht hR).mono ?_
  rintro e w' ⟨Ap, np, Ac, nc, Aq, nq, Ao, no, Ad, nd, rfl, h1, h2⟩
  exact ⟨Ap, np, Ac, nc, Aq, nq, Ao, no, Ad, nd, by rw [hdl]; rfl, h1, h2⟩
def kls3 (q dn : Nat) (Ap Ac Aq Ao Ad : Option Addr) (np nc nq no nd : Nat) : List (Option Value) := [some (.agg #[.int .u32 0, .int .u8 0, .slice Ap 0 np, .int .u32 0, .int .u32 0, .int .u32 0, .int .u32 0, .int .u32 0, .slice Ac 0 nc, .slice Aq 0 nq, .int .u32 0, .int .u32 0, .slice Ao 0 no]), some (.agg #[.int .u32 0, .int .u8 0, .slice none 0 0, .int .u32 0, .int .u32 0, .int .u32 0, .int .u32 0, .int .u32 0, .slice none 0 0, .slice none 0 0, .int .u32 0, .int .u32 0, .slice none 0 0]), some (.bool true), some (.bool true), some (.pointer (some ⟨q + 1, 0, none⟩)), some (.int .i64 3), some (.bool true), some (.pointer (some ⟨q + 1, 1, none⟩)), some (.agg #[.int .u8 3, .int .u8 2]), some (.agg #[.int .u8 3, .int .u8 2]), some (.bool true), some (.bool true), some (.bool true), some (.bool true), some (.pointer (some ⟨q + 1, 0, none⟩)), some (.int .i64 3), some (.bool true), some (.pointer (some ⟨q + 1, 3, none⟩)), some (.slice Ad dn nd), some (.int .i64 dn), some (.bool true), some (.bool true), some (.bool true), some (.bool true), some (.pointer (some ⟨q + 1, 0, none⟩)), some (.int .i64 3), some (.bool true), some (.bool true), some (.bool true), some (.bool true), some (.bool true), some (.bool true)]

set_option maxRecDepth 20000 in
set_option maxHeartbeats 8000000 in
theorem again_3 (v : Value) (D : List UInt8) (four outside : Bool) (W : World) (hv : By W v D) (ht : Wtd W) (d : List UInt8) (dn : Nat) (hdn : 0 < dn) (hdl : d.length = dn) (hR : Ax.get (headB D) four outside = (Ax.zeroA, 3, d)) :
    Calls Tryz.prog 5 #[v, .bool four, .bool outside] W fun e w' => e = .returned (.bool true) ∧ Kept Nothing W w' := by
  obtain ⟨A, cc, rfl, hlc, hm⟩ := hv.form
  have hby := hv.pre (m := min D.length 700) (Nat.min_le_left _ _)
  obtain ⟨m, hmm⟩ : ∃ m, min D.length 700 = m := ⟨_, rfl⟩
  have hlen : (headB D).length ≤ 700 := by unfold headB; rw [List.length_take]; omega
  have i1 : min (D.length : Int) 700 = (m : Int) := by omega
  have i2 : (m : Int) ≤ (cc : Int) := by omega
  rw [hmm] at hby
  have HG := Lib.hid (at_getZ3 _ (headB D) four outside W (by unfold headB; rw [hmm]; exact hby) (by omega) ht d dn hdl hR)
  have HT := Lib.hid ht
  have HDN : Hid ((0 : Int) < (dn : Int)) := Lib.hid (by omega)
  clear hv hby hmm ht hR hlen hlc hm hdl hdn
  go_enter Tryz.func5, Tryz.ntmps5
  go_upto_region 2 with (go_at_call 14; refine (HG.out).mono ?_; rintro e x1 ⟨Ap, np, Ac, nc, Aq, nq, Ao, no, Ad, nd, rfl, ha, hk⟩)
  obtain ⟨W1, hW1⟩ : ∃ W1, (x1.alloc (.cells #[.int .u32 0, .int .u8 0, .slice Ap 0 np, .int .u32 0, .int .u32 0, .int .u32 0, .int .u32 0, .int .u32 0, .slice Ac 0 nc, .slice Aq 0 nq, .int .u32 0, .int .u32 0, .slice Ao 0 no] 33)).alloc (.cells #[.int .i64 3, .int .u8 3, .int .u8 2, .slice Ad dn nd] 37) = W1 := ⟨_, rfl⟩
  have kz : Kept Nothing x1 W1 := by rw [← hW1]; exact ((Kept.refl Nothing _).alloc _).alloc _
  have BA : Blk W1 x1.heap.size 33 #[.int .u32 0, .int .u8 0, .slice Ap 0 np, .int .u32 0, .int .u32 0, .int .u32 0, .int .u32 0, .int .u32 0, .slice Ac 0 nc, .slice Aq 0 nq, .int .u32 0, .int .u32 0, .slice Ao 0 no] := by rw [← hW1]; exact (Blk.fresh x1 _ _).alloc _
  have BF : Blk W1 (x1.heap.size + 1) 37 #[.int .i64 3, .int .u8 3, .int .u8 2, .slice Ad dn nd] := by
    have h := Blk.fresh (x1.alloc (.cells #[.int .u32 0, .int .u8 0, .slice Ap 0 np, .int .u32 0, .int .u32 0, .int .u32 0, .int .u32 0, .int .u32 0, .slice Ac 0 nc, .slice Aq 0 nq, .int .u32 0, .int .u32 0, .slice Ao 0 no] 33)) 37 #[.int .i64 3, .int .u8 3, .int .u8 2, .slice Ad dn nd]
    rw [World.size_alloc] at h
    rw [← hW1]
    exact h
  have KW := Lib.hid (hk.trans kz)
  have HA := Lib.hid (ha.old kz)
  rw [hW1]
  clear hW1 kz hk ha HG i1 i2
  generalize x1.heap.size = q at *
  have c0 : W1.cell? ⟨q + 1, 0, none⟩ = some (.int .i64 3) := BF.cell 0
  have Z0 := Lib.hid c0
  have Z1 : Hid (W1.cell? ⟨q + 1, 1, none⟩ = some (.int .u8 3)) := Lib.hid (BF.cell 1)
  have Z2 : Hid (W1.cell? ⟨q + 1, 2, none⟩ = some (.int .u8 2)) := Lib.hid (BF.cell 2)
  have Z3 : Hid (W1.cell? ⟨q + 1, 3, none⟩ = some (.slice Ad dn nd)) := Lib.hid (BF.cell 3)
  have Y0 : Hid (W1.cell? ⟨q, 0, none⟩ = some (.int .u32 0)) := Lib.hid (BA.cell 0)
  have Y1 : Hid (W1.cell? ⟨q, 1, none⟩ = some (.int .u8 0)) := Lib.hid (BA.cell 1)
  have Y2 : Hid (W1.cell? ⟨q, 2, none⟩ = some (.slice Ap 0 np)) := Lib.hid (BA.cell 2)
  have Y3 : Hid (W1.cell? ⟨q, 3, none⟩ = some (.int .u32 0)) := Lib.hid (BA.cell 3)
  have Y4 : Hid (W1.cell? ⟨q, 4, none⟩ = some (.int .u32 0)) := Lib.hid (BA.cell 4)
  have Y5 : Hid (W1.cell? ⟨q, 5, none⟩ = some (.int .u32 0)) := Lib.hid (BA.cell 5)
  have Y6 : Hid (W1.cell? ⟨q, 6, none⟩ = some (.int .u32 0)) := Lib.hid (BA.cell 6)
  have Y7 : Hid (W1.cell? ⟨q, 7, none⟩ = some (.int .u32 0)) := Lib.hid (BA.cell 7)
  have Y8 : Hid (W1.cell? ⟨q, 8, none⟩ = some (.slice Ac 0 nc)) := Lib.hid (BA.cell 8)
  have Y9 : Hid (W1.cell? ⟨q, 9, none⟩ = some (.slice Aq 0 nq)) := Lib.hid (BA.cell 9)
  have Y10 : Hid (W1.cell? ⟨q, 10, none⟩ = some (.int .u32 0)) := Lib.hid (BA.cell 10)
  have Y11 : Hid (W1.cell? ⟨q, 11, none⟩ = some (.int .u32 0)) := Lib.hid (BA.cell 11)
  have Y12 : Hid (W1.cell? ⟨q, 12, none⟩ = some (.slice Ao 0 no)) := Lib.hid (BA.cell 12)
  have HS := Lib.hid (fun u (k : Kept Nothing W1 u) => show Calls Tryz.prog 23 #[.agg #[.int .u32 0, .int .u8 0, .slice Ap 0 np, .int .u32 0, .int .u32 0, .int .u32 0, .int .u32 0, .int .u32 0, .slice Ac 0 nc, .slice Aq 0 nq, .int .u32 0, .int .u32 0, .slice Ao 0 no], .agg #[.int .u32 0, .int .u8 0, .slice none 0 0, .int .u32 0, .int .u32 0, .int .u32 0, .int .u32 0, .int .u32 0, .slice none 0 0, .slice none 0 0, .int .u32 0, .int .u32 0, .slice none 0 0]] u _ from at_same2 Ax.zeroA Ax.zeroA _ _ _ _ (.slice none 0 0) (.slice none 0 0) (.slice none 0 0) (.slice none 0 0) u (HA.out.old k) ⟨(Pown.nil u 0).pts, As.nil u, (Pown.nil u 0).pts, Ots.nil u, by unfold Ax.fit; simp [Ax.zeroA]⟩)
  rw [Ax.same_self] at HS
  clear BA BF HA
  go_upto_region 3 with fail
  clear c0
  refine wp_region_grow1 W1 (Facts (kls3 q dn Ap Ac Aq Ao Ad np nc nq no nd) (fun _ _ _ => True)) 31 6 (by rfl) (by kernel_rfl) (by decide +kernel) (by intro d hd; simp [dsts] at hd ⊢; omega) (ready_nil (by kernel_rfl)) (by kernel_rfl) (Facts.guards (E := [(3, true), (13, true), (23, true), (28, true)]) (by kernel_rfl) ?_) (Facts.stab (fun _ _ _ _ _ _ => trivial)) (Kept.refl Nothing W1).drew ?_ ?_
  · repeat (first | refine List.forall_mem_cons.2 ⟨by rfl, ?_⟩ | exact List.forall_mem_nil _)
  · refine OweAll.cons ?_ ?_
    · intro u a hk hf hfar
      have v7 : a.tmps.getD 7 undef = .pointer (some ⟨q, 0, none⟩) := hfar 7 (by decide)
      have w7 := v7
      rw [Array.getD_eq_getD_getElem?] at w7
      have b0 := hk.cell_some Y0.out (fun x => x)
      have b1 := hk.cell_some Y1.out (fun x => x)
      have b2 := hk.cell_some Y2.out (fun x => x)
      have b3 := hk.cell_some Y3.out (fun x => x)
      have b4 := hk.cell_some Y4.out (fun x => x)
      have b5 := hk.cell_some Y5.out (fun x => x)
      have b6 := hk.cell_some Y6.out (fun x => x)
      have b7 := hk.cell_some Y7.out (fun x => x)
      have b8 := hk.cell_some Y8.out (fun x => x)
      have b9 := hk.cell_some Y9.out (fun x => x)
      have b10 := hk.cell_some Y10.out (fun x => x)
      have b11 := hk.cell_some Y11.out (fun x => x)
      have b12 := hk.cell_some Y12.out (fun x => x)
      clear hf hfar
      go_simp
      exact ⟨_, rfl, Kept.refl _ _, rfl⟩
    refine OweAll.cons ?_ ?_
    · intro u a hk hf hfar
      clear hf hfar
      go_simp
      exact ⟨_, rfl, Kept.refl _ _, rfl⟩
    refine OweAll.cons ?_ ?_
    · intro u a hk hf hfar
      have v27 : a.tmps.getD 27 undef = .agg #[.int .u32 0, .int .u8 0, .slice Ap 0 np, .int .u32 0, .int .u32 0, .int .u32 0, .int .u32 0, .int .u32 0, .slice Ac 0 nc, .slice Aq 0 nq, .int .u32 0, .int .u32 0, .slice Ao 0 no] := hf 0 _ 27 rfl rfl ⟨⟨0, .data⟩, Array.mem_of_getElem? (i := 0) rfl, rfl, rfl⟩
      have w27 := v27
      rw [Array.getD_eq_getD_getElem?] at w27
      have v28 : a.tmps.getD 28 undef = .agg #[.int .u32 0, .int .u8 0, .slice none 0 0, .int .u32 0, .int .u32 0, .int .u32 0, .int .u32 0, .int .u32 0, .slice none 0 0, .slice none 0 0, .int .u32 0, .int .u32 0, .slice none 0 0] := hf 1 _ 28 rfl rfl ⟨⟨1, .data⟩, Array.mem_of_getElem? (i := 1) rfl, rfl, rfl⟩
      have w28 := v28
      rw [Array.getD_eq_getD_getElem?] at w28
      clear hf hfar
      go_simp
      refine (HS.out u hk).mono ?_
      rintro e u' ⟨rfl, hk'⟩
      exact ⟨_, rfl, hk', rfl⟩
    refine OweAll.cons ?_ ?_
    · intro u a hk hf hfar
      have v29 : a.tmps.getD 29 undef = .bool true := hf 2 _ 29 rfl rfl ⟨⟨2, .data⟩, Array.mem_of_getElem? (i := 0) rfl, rfl, rfl⟩
      have w29 := v29
      rw [Array.getD_eq_getD_getElem?] at w29
      clear hf hfar
      go_simp
      exact ⟨_, rfl, Kept.refl _ _, rfl⟩
    refine OweAll.cons ?_ ?_
    · intro u a hk hf hfar
      have v8 : a.tmps.getD 8 undef = .pointer (some ⟨q + 1, 0, none⟩) := hfar 8 (by decide)
      have w8 := v8
      rw [Array.getD_eq_getD_getElem?] at w8
      clear hf hfar
      go_simp
      exact ⟨_, rfl, Kept.refl _ _, rfl⟩
    refine OweAll.cons ?_ ?_
    · intro u a hk hf hfar
      have v31 : a.tmps.getD 31 undef = .pointer (some ⟨q + 1, 0, none⟩) := hf 4 _ 31 rfl rfl ⟨⟨4, .data⟩, Array.mem_of_getElem? (i := 0) rfl, rfl, rfl⟩
      have w31 := v31
      rw [Array.getD_eq_getD_getElem?] at w31
      have b0 := hk.cell_some Z0.out (fun x => x)
      clear hf hfar
      go_simp
      exact ⟨_, rfl, Kept.refl _ _, rfl⟩
    refine OweAll.cons ?_ ?_
    · intro u a hk hf hfar
      have v32 : a.tmps.getD 32 undef = .int .i64 3 := hf 5 _ 32 rfl rfl ⟨⟨5, .data⟩, Array.mem_of_getElem? (i := 0) rfl, rfl, rfl⟩
      have w32 := v32
      rw [Array.getD_eq_getD_getElem?] at w32
      clear hf hfar
      go_simp
      exact ⟨_, rfl, Kept.refl _ _, rfl⟩
    refine OweAll.cons ?_ ?_
    · intro u a hk hf hfar
      have v8 : a.tmps.getD 8 undef = .pointer (some ⟨q + 1, 0, none⟩) := hfar 8 (by decide)
      have w8 := v8
      rw [Array.getD_eq_getD_getElem?] at w8
      clear hf hfar
      go_simp
      exact ⟨_, rfl, Kept.refl _ _, rfl⟩
    refine OweAll.cons ?_ ?_
    · intro u a hk hf hfar
      have v34 : a.tmps.getD 34 undef = .pointer (some ⟨q + 1, 1, none⟩) := hf 7 _ 34 rfl rfl ⟨⟨7, .data⟩, Array.mem_of_getElem? (i := 0) rfl, rfl, rfl⟩
      have w34 := v34
      rw [Array.getD_eq_getD_getElem?] at w34
      have b1 := hk.cell_some Z1.out (fun x => x)
      have b2 := hk.cell_some Z2.out (fun x => x)
      clear hf hfar
      go_simp
      exact ⟨_, rfl, Kept.refl _ _, rfl⟩
    refine OweAll.cons ?_ ?_
    · intro u a hk hf hfar
      clear hf hfar
      go_simp
      exact ⟨_, rfl, Kept.refl _ _, rfl⟩
    refine OweAll.cons ?_ ?_
    · intro u a hk hf hfar
      have v35 : a.tmps.getD 35 undef = .agg #[.int .u8 3, .int .u8 2] := hf 8 _ 35 rfl rfl ⟨⟨8, .data⟩, Array.mem_of_getElem? (i := 0) rfl, rfl, rfl⟩
      have w35 := v35
      rw [Array.getD_eq_getD_getElem?] at w35
      have v36 : a.tmps.getD 36 undef = .agg #[.int .u8 3, .int .u8 2] := hf 9 _ 36 rfl rfl ⟨⟨9, .data⟩, Array.mem_of_getElem? (i := 1) rfl, rfl, rfl⟩
      have w36 := v36
      rw [Array.getD_eq_getD_getElem?] at w36
      clear hf hfar
      go_simp
      exact ⟨_, rfl, Kept.refl _ _, rfl⟩
    refine OweAll.cons ?_ ?_
    · intro u a hk hf hfar
      have v33 : a.tmps.getD 33 undef = .bool true := hf 6 _ 33 rfl rfl ⟨⟨6, .data⟩, Array.mem_of_getElem? (i := 0) rfl, rfl, rfl⟩
      have w33 := v33
      rw [Array.getD_eq_getD_getElem?] at w33
      have v37 : a.tmps.getD 37 undef = .bool true := hf 10 _ 37 rfl rfl ⟨⟨10, .data⟩, Array.mem_of_getElem? (i := 1) rfl, rfl, rfl⟩
      have w37 := v37
      rw [Array.getD_eq_getD_getElem?] at w37
      clear hf hfar
      go_simp
      exact ⟨_, rfl, Kept.refl _ _, rfl⟩
    refine OweAll.cons ?_ ?_
    · intro u a hk hf hfar
      have v30 : a.tmps.getD 30 undef = .bool true := hf 3 _ 30 rfl rfl ⟨⟨3, .data⟩, Array.mem_of_getElem? (i := 0) rfl, rfl, rfl⟩
      have w30 := v30
      rw [Array.getD_eq_getD_getElem?] at w30
      have v38 : a.tmps.getD 38 undef = .bool true := hf 11 _ 38 rfl rfl ⟨⟨11, .data⟩, Array.mem_of_getElem? (i := 1) rfl, rfl, rfl⟩
      have w38 := v38
      rw [Array.getD_eq_getD_getElem?] at w38
      clear hf hfar
      go_simp
      exact ⟨_, rfl, Kept.refl _ _, rfl⟩
    refine OweAll.cons ?_ ?_
    · intro u a hk hf hfar
      have v39 : a.tmps.getD 39 undef = .bool true := hf 12 _ 39 rfl rfl ⟨⟨12, .data⟩, Array.mem_of_getElem? (i := 0) rfl, rfl, rfl⟩
      have w39 := v39
      rw [Array.getD_eq_getD_getElem?] at w39
      clear hf hfar
      go_simp
      exact ⟨_, rfl, Kept.refl _ _, rfl⟩
    refine OweAll.cons ?_ ?_
    · intro u a hk hf hfar
      have v8 : a.tmps.getD 8 undef = .pointer (some ⟨q + 1, 0, none⟩) := hfar 8 (by decide)
      have w8 := v8
      rw [Array.getD_eq_getD_getElem?] at w8
      clear hf hfar
      go_simp
      exact ⟨_, rfl, Kept.refl _ _, rfl⟩
    refine OweAll.cons ?_ ?_
    · intro u a hk hf hfar
      have v41 : a.tmps.getD 41 undef = .pointer (some ⟨q + 1, 0, none⟩) := hf 14 _ 41 rfl rfl ⟨⟨14, .data⟩, Array.mem_of_getElem? (i := 0) rfl, rfl, rfl⟩
      have w41 := v41
      rw [Array.getD_eq_getD_getElem?] at w41
      have b0 := hk.cell_some Z0.out (fun x => x)
      clear hf hfar
      go_simp
      exact ⟨_, rfl, Kept.refl _ _, rfl⟩
    refine OweAll.cons ?_ ?_
    · intro u a hk hf hfar
      have v42 : a.tmps.getD 42 undef = .int .i64 3 := hf 15 _ 42 rfl rfl ⟨⟨15, .data⟩, Array.mem_of_getElem? (i := 0) rfl, rfl, rfl⟩
      have w42 := v42
      rw [Array.getD_eq_getD_getElem?] at w42
      clear hf hfar
      go_simp
      exact ⟨_, rfl, Kept.refl _ _, rfl⟩
    refine OweAll.cons ?_ ?_
    · intro u a hk hf hfar
      have v8 : a.tmps.getD 8 undef = .pointer (some ⟨q + 1, 0, none⟩) := hfar 8 (by decide)
      have w8 := v8
      rw [Array.getD_eq_getD_getElem?] at w8
      clear hf hfar
      go_simp
      exact ⟨_, rfl, Kept.refl _ _, rfl⟩
    refine OweAll.cons ?_ ?_
    · intro u a hk hf hfar
      have v44 : a.tmps.getD 44 undef = .pointer (some ⟨q + 1, 3, none⟩) := hf 17 _ 44 rfl rfl ⟨⟨17, .data⟩, Array.mem_of_getElem? (i := 0) rfl, rfl, rfl⟩
      have w44 := v44
      rw [Array.getD_eq_getD_getElem?] at w44
      have b3 := hk.cell_some Z3.out (fun x => x)
      clear hf hfar
      go_simp
      exact ⟨_, rfl, Kept.refl _ _, rfl⟩
    refine OweAll.cons ?_ ?_
    · intro u a hk hf hfar
      have v45 : a.tmps.getD 45 undef = .slice Ad dn nd := hf 18 _ 45 rfl rfl ⟨⟨18, .data⟩, Array.mem_of_getElem? (i := 0) rfl, rfl, rfl⟩
      have w45 := v45
      rw [Array.getD_eq_getD_getElem?] at w45
      clear hf hfar
      go_simp
      exact ⟨_, rfl, Kept.refl _ _, rfl⟩
    refine OweAll.cons ?_ ?_
    · intro u a hk hf hfar
      have v46 : a.tmps.getD 46 undef = .int .i64 dn := hf 19 _ 46 rfl rfl ⟨⟨19, .data⟩, Array.mem_of_getElem? (i := 0) rfl, rfl, rfl⟩
      have w46 := v46
      rw [Array.getD_eq_getD_getElem?] at w46
      clear hf hfar
      go_simp
      rw [decide_eq_true (show 0 < dn by have := HDN.out; omega)]
      exact ⟨_, rfl, Kept.refl _ _, rfl⟩
    refine OweAll.cons ?_ ?_
    · intro u a hk hf hfar
      have v43 : a.tmps.getD 43 undef = .bool true := hf 16 _ 43 rfl rfl ⟨⟨16, .data⟩, Array.mem_of_getElem? (i := 0) rfl, rfl, rfl⟩
      have w43 := v43
      rw [Array.getD_eq_getD_getElem?] at w43
      have v47 : a.tmps.getD 47 undef = .bool true := hf 20 _ 47 rfl rfl ⟨⟨20, .data⟩, Array.mem_of_getElem? (i := 1) rfl, rfl, rfl⟩
      have w47 := v47
      rw [Array.getD_eq_getD_getElem?] at w47
      clear hf hfar
      go_simp
      exact ⟨_, rfl, Kept.refl _ _, rfl⟩
    refine OweAll.cons ?_ ?_
    · intro u a hk hf hfar
      have v40 : a.tmps.getD 40 undef = .bool true := hf 13 _ 40 rfl rfl ⟨⟨13, .data⟩, Array.mem_of_getElem? (i := 0) rfl, rfl, rfl⟩
      have w40 := v40
      rw [Array.getD_eq_getD_getElem?] at w40
      have v48 : a.tmps.getD 48 undef = .bool true := hf 21 _ 48 rfl rfl ⟨⟨21, .data⟩, Array.mem_of_getElem? (i := 1) rfl, rfl, rfl⟩
      have w48 := v48
      rw [Array.getD_eq_getD_getElem?] at w48
      clear hf hfar
      go_simp
      exact ⟨_, rfl, Kept.refl _ _, rfl⟩
    refine OweAll.cons ?_ ?_
    · intro u a hk hf hfar
      have v49 : a.tmps.getD 49 undef = .bool true := hf 22 _ 49 rfl rfl ⟨⟨22, .data⟩, Array.mem_of_getElem? (i := 0) rfl, rfl, rfl⟩
      have w49 := v49
      rw [Array.getD_eq_getD_getElem?] at w49
      clear hf hfar
      go_simp
      exact ⟨_, rfl, Kept.refl _ _, rfl⟩
    refine OweAll.cons ?_ ?_
    · intro u a hk hf hfar
      have v8 : a.tmps.getD 8 undef = .pointer (some ⟨q + 1, 0, none⟩) := hfar 8 (by decide)
      have w8 := v8
      rw [Array.getD_eq_getD_getElem?] at w8
      clear hf hfar
      go_simp
      exact ⟨_, rfl, Kept.refl _ _, rfl⟩
    refine OweAll.cons ?_ ?_
    · intro u a hk hf hfar
      have v51 : a.tmps.getD 51 undef = .pointer (some ⟨q + 1, 0, none⟩) := hf 24 _ 51 rfl rfl ⟨⟨24, .data⟩, Array.mem_of_getElem? (i := 0) rfl, rfl, rfl⟩
      have w51 := v51
      rw [Array.getD_eq_getD_getElem?] at w51
      have b0 := hk.cell_some Z0.out (fun x => x)
      clear hf hfar
      go_simp
      exact ⟨_, rfl, Kept.refl _ _, rfl⟩
    refine OweAll.cons ?_ ?_
    · intro u a hk hf hfar
      have v52 : a.tmps.getD 52 undef = .int .i64 3 := hf 25 _ 52 rfl rfl ⟨⟨25, .data⟩, Array.mem_of_getElem? (i := 0) rfl, rfl, rfl⟩
      have w52 := v52
      rw [Array.getD_eq_getD_getElem?] at w52
      clear hf hfar
      go_simp
      exact ⟨_, rfl, Kept.refl _ _, rfl⟩
    refine OweAll.cons ?_ ?_
    · intro u a hk hf hfar
      have v50 : a.tmps.getD 50 undef = .bool true := hf 23 _ 50 rfl rfl ⟨⟨23, .data⟩, Array.mem_of_getElem? (i := 0) rfl, rfl, rfl⟩
      have w50 := v50
      rw [Array.getD_eq_getD_getElem?] at w50
      have v53 : a.tmps.getD 53 undef = .bool true := hf 26 _ 53 rfl rfl ⟨⟨26, .data⟩, Array.mem_of_getElem? (i := 1) rfl, rfl, rfl⟩
      have w53 := v53
      rw [Array.getD_eq_getD_getElem?] at w53
      clear hf hfar
      go_simp
      exact ⟨_, rfl, Kept.refl _ _, rfl⟩
    refine OweAll.cons ?_ ?_
    · intro u a hk hf hfar
      have v54 : a.tmps.getD 54 undef = .bool true := hf 27 _ 54 rfl rfl ⟨⟨27, .data⟩, Array.mem_of_getElem? (i := 0) rfl, rfl, rfl⟩
      have w54 := v54
      rw [Array.getD_eq_getD_getElem?] at w54
      clear hf hfar
      go_simp
      exact ⟨_, rfl, Kept.refl _ _, rfl⟩
    refine OweAll.cons ?_ ?_
    · intro u a hk hf hfar
      clear hf hfar
      go_simp
      refine (tells10 u (HT.out.kept (KW.out.trans hk))).mono ?_
      rintro e u' ⟨rfl, hk'⟩
      exact ⟨_, rfl, hk', rfl⟩
    refine OweAll.cons ?_ ?_
    · intro u a hk hf hfar
      have v55 : a.tmps.getD 55 undef = .bool true := hf 28 _ 55 rfl rfl ⟨⟨28, .data⟩, Array.mem_of_getElem? (i := 0) rfl, rfl, rfl⟩
      have w55 := v55
      rw [Array.getD_eq_getD_getElem?] at w55
      have v56 : a.tmps.getD 56 undef = .bool true := hf 29 _ 56 rfl rfl ⟨⟨29, .data⟩, Array.mem_of_getElem? (i := 1) rfl, rfl, rfl⟩
      have w56 := v56
      rw [Array.getD_eq_getD_getElem?] at w56
      clear hf hfar
      go_simp
      exact ⟨_, rfl, Kept.refl _ _, rfl⟩
    refine OweAll.cons ?_ ?_
    · intro u a hk hf hfar
      have v57 : a.tmps.getD 57 undef = .bool true := hf 30 _ 57 rfl rfl ⟨⟨30, .data⟩, Array.mem_of_getElem? (i := 0) rfl, rfl, rfl⟩
      have w57 := v57
      rw [Array.getD_eq_getD_getElem?] at w57
      clear hf hfar
      go_simp
      exact ⟨_, rfl, Kept.refl _ _, rfl⟩
    exact OweAll.nil
  · intro A u hku hA hdef
    have hA' : A.tmps.getD 6 undef = .bool true := hA
    have hr := results_tmp (fn := Tryz.f5) (t := 6) (by rfl) A.tmps Tryz.prog u
    rw [hA'] at hr
    go_wp2
    exact bodyPost_ret hr (hdef.trans rfl) ⟨rfl, KW.out.trans hku⟩

set_option maxRecDepth 20000 in
set_option maxHeartbeats 8000000 in
theorem again_good (v : Value) (D : List UInt8) (four outside : Bool) (W : World) (hv : By W v D) (ht : Wtd W) (a : At) (c : Nat) (hc : c ≤ 1) (hR : Ax.get (headB D) four outside = (a, c, [])) (hgv : Ax.Gv four outside a) (hov : Ax.Ov a.others) (hso : a.others.Pairwise Ax.lessO) :
    Calls Tryz.prog 5 #[v, .bool four, .bool outside] W fun e w' => e = .returned (.bool true) ∧ Kept Nothing W w' := by
  obtain ⟨A, cc, rfl, hlc, hm⟩ := hv.form
  have hby := hv.pre (m := min D.length 700) (Nat.min_le_left _ _)
  obtain ⟨m, hmm⟩ : ∃ m, min D.length 700 = m := ⟨_, rfl⟩
  have hlen : (headB D).length ≤ 700 := by unfold headB; rw [List.length_take]; omega
  have i1 : min (D.length : Int) 700 = (m : Int) := by omega
  have i2 : (m : Int) ≤ (cc : Int) := by omega
  rw [hmm] at hby
  have HG := Lib.hid (at_get3 _ (headB D) four outside W (by unfold headB; rw [hmm]; exact hby) (by omega) ht hR)
  have HT := Lib.hid ht
  obtain ⟨hmay, hpe, hback⟩ := Ax.put_get hgv hov hso
  obtain ⟨hsm, hcl, hol⟩ := Ax.bounds hgv hso
  have hpl := Ax.put_len hgv hov hso
  have hnp : (outside && Ax.is a 5) = false := by
    cases outside with
    | false => rfl
    | true => rw [Ax.no_pref hgv]; rfl
  have HP := Lib.hid (fun (pv cv qv ov : Value) u (h : Atp u a pv cv qv ov) (ht : Wtd u) => at_put a pv cv qv ov four u h ht hsm hcl (by omega))
  have HMY := Lib.hid (fun (pv cv qv ov : Value) u (h : Atp u a pv cv qv ov) (ht : Wtd u) => at_may a pv cv qv ov u h ht hsm)
  have HIS := Lib.hid (fun (pv cv qv ov : Value) u (h : Atp u a pv cv qv ov) (ht : Wtd u) => at_is a pv cv qv ov 5 u h ht)
  rw [hmay] at HMY
  have HG2 := Lib.hid (fun (x : Value) u (h : By u x (Ax.putM a four).1) (ht : Wtd u) => at_get0 x _ four outside u h hpl ht hback)
  rw [hpe] at HP
  clear hv hby hmm ht hR hlen hlc hm hmay hpe hback hsm hcl hol hpl hgv hov hso
  generalize (Ax.putM a four).1 = pl at *
  have i3 : ¬ (2 : Int) ≤ (c : Int) := by omega
  have i4 : (0 : Int) ≤ (c : Int) := by omega
  have HC := Lib.hid i3
  have HC2 := Lib.hid i4
  clear i3 i4 hc
  go_enter Tryz.func5, Tryz.ntmps5
  go_upto_region 2 with (go_at_call 14; refine (HG.out).mono ?_; rintro e x1 ⟨Ap, np, Ac, nc, Aq, nq, Ao, no, Ad, nd, rfl, ha, hk⟩)
  have hc3 : (if c = 3 then (3 : Int) else 0) = 0 := if_neg (by have := HC.out; omega)
  have hc4 : (if c = 3 then (2 : Int) else 0) = 0 := if_neg (by have := HC.out; omega)
  rw [hc3, hc4]
  clear hc3 hc4
  obtain ⟨W1, hW1⟩ : ∃ W1, (x1.alloc (.cells #[.int .u32 (a.has : Int), .int .u8 (a.origin.toNat : Int), .slice Ap a.path.length np, .int .u32 (a.nh : Int), .int .u32 (a.med : Int), .int .u32 (a.pref : Int), .int .u32 (a.byA : Int), .int .u32 (a.byI : Int), .slice Ac a.comms.length nc, .slice Aq a.path4.length nq, .int .u32 (a.by4A : Int), .int .u32 (a.by4I : Int), .slice Ao a.others.length no] 33)).alloc (.cells #[.int .i64 (c : Int), .int .u8 0, .int .u8 0, .slice Ad 0 nd] 37) = W1 := ⟨_, rfl⟩
  have kz : Kept Nothing x1 W1 := by rw [← hW1]; exact ((Kept.refl Nothing _).alloc _).alloc _
  have BA : Hid (Blk W1 x1.heap.size 33 #[.int .u32 (a.has : Int), .int .u8 (a.origin.toNat : Int), .slice Ap a.path.length np, .int .u32 (a.nh : Int), .int .u32 (a.med : Int), .int .u32 (a.pref : Int), .int .u32 (a.byA : Int), .int .u32 (a.byI : Int), .slice Ac a.comms.length nc, .slice Aq a.path4.length nq, .int .u32 (a.by4A : Int), .int .u32 (a.by4I : Int), .slice Ao a.others.length no]) := Lib.hid (by rw [← hW1]; exact (Blk.fresh x1 _ _).alloc _)
  have BF : Hid (Blk W1 (x1.heap.size + 1) 37 #[.int .i64 (c : Int), .int .u8 0, .int .u8 0, .slice Ad 0 nd]) := Lib.hid (by
    have h := Blk.fresh (x1.alloc (.cells #[.int .u32 (a.has : Int), .int .u8 (a.origin.toNat : Int), .slice Ap a.path.length np, .int .u32 (a.nh : Int), .int .u32 (a.med : Int), .int .u32 (a.pref : Int), .int .u32 (a.byA : Int), .int .u32 (a.byI : Int), .slice Ac a.comms.length nc, .slice Aq a.path4.length nq, .int .u32 (a.by4A : Int), .int .u32 (a.by4I : Int), .slice Ao a.others.length no] 33)) 37 #[.int .i64 (c : Int), .int .u8 0, .int .u8 0, .slice Ad 0 nd]
    rw [World.size_alloc] at h
    rw [← hW1]
    exact h)
  have KW := Lib.hid (hk.trans kz)
  have HA := Lib.hid (ha.old kz)
  rw [hW1]
  clear hW1 kz hk ha HG i1 i2
  generalize x1.heap.size = q at *
  have c0 : W1.cell? ⟨q + 1, 0, none⟩ = some (.int .i64 (c : Int)) := BF.out.cell 0
  have i3 := HC.out
  go_upto_region 5 with (first
    | (refine wpList_load_row rfl 33 _ rfl q rfl 33 _ (0, 0) _ BA.out Tryz.underlying33 rfl (by kernel_rfl) ?_)
    | (go_at_call 21; refine (HP.out _ _ _ _ W1 HA.out (HT.out.kept KW.out)).mono ?_; rintro e x2 ⟨u2, rfl, o2, k2⟩; (have hb2 := (Bs.of_own o2).by); (obtain ⟨Au, cu, rfl, -, -⟩ := hb2.form); (have HB2 := Lib.hid hb2); (have K2 := Lib.hid k2); clear o2 k2 hb2))
  clear c0 i3 HP
  have KW2 := Lib.hid (KW.out.trans K2.out)
  go_upto_region 6 with (go_at_call 14; refine (HG2.out _ x2 HB2.out (HT.out.kept KW2.out)).mono ?_; rintro e x3 ⟨Bp, mp, Bc, mc, Bq, mq, Bo, mo, Bd, md, rfl, ha2, hk2⟩)
  obtain ⟨W2, hW2⟩ : ∃ W2, (x3.alloc (.cells #[.int .u32 (a.has : Int), .int .u8 (a.origin.toNat : Int), .slice Bp a.path.length mp, .int .u32 (a.nh : Int), .int .u32 (a.med : Int), .int .u32 (a.pref : Int), .int .u32 (a.byA : Int), .int .u32 (a.byI : Int), .slice Bc a.comms.length mc, .slice Bq a.path4.length mq, .int .u32 (a.by4A : Int), .int .u32 (a.by4I : Int), .slice Bo a.others.length mo] 33)).alloc (.cells #[.int .i64 0, .int .u8 0, .int .u8 0, .slice Bd 0 md] 37) = W2 := ⟨_, rfl⟩
  have kz : Kept Nothing x3 W2 := by rw [← hW2]; exact ((Kept.refl Nothing _).alloc _).alloc _
  have BA2 : Hid (Blk W2 x3.heap.size 33 #[.int .u32 (a.has : Int), .int .u8 (a.origin.toNat : Int), .slice Bp a.path.length mp, .int .u32 (a.nh : Int), .int .u32 (a.med : Int), .int .u32 (a.pref : Int), .int .u32 (a.byA : Int), .int .u32 (a.byI : Int), .slice Bc a.comms.length mc, .slice Bq a.path4.length mq, .int .u32 (a.by4A : Int), .int .u32 (a.by4I : Int), .slice Bo a.others.length mo]) := Lib.hid (by rw [← hW2]; exact (Blk.fresh x3 _ _).alloc _)
  have BF2 : Hid (Blk W2 (x3.heap.size + 1) 37 #[.int .i64 0, .int .u8 0, .int .u8 0, .slice Bd 0 md]) := Lib.hid (by
    have h := Blk.fresh (x3.alloc (.cells #[.int .u32 (a.has : Int), .int .u8 (a.origin.toNat : Int), .slice Bp a.path.length mp, .int .u32 (a.nh : Int), .int .u32 (a.med : Int), .int .u32 (a.pref : Int), .int .u32 (a.byA : Int), .int .u32 (a.byI : Int), .slice Bc a.comms.length mc, .slice Bq a.path4.length mq, .int .u32 (a.by4A : Int), .int .u32 (a.by4I : Int), .slice Bo a.others.length mo] 33)) 37 #[.int .i64 0, .int .u8 0, .int .u8 0, .slice Bd 0 md]
    rw [World.size_alloc] at h
    rw [← hW2]
    exact h)
  have K12 := Lib.hid ((K2.out.trans hk2).trans kz)
  have KW3 := Lib.hid (KW.out.trans K12.out)
  have HA1 := Lib.hid (HA.out.old K12.out)
  have HA2 := Lib.hid (ha2.old kz)
  have BA1 := Lib.hid (BA.out.kept K12.out (fun x => x))
  have BF1 := Lib.hid (BF.out.kept K12.out (fun x => x))
  rw [hW2]
  clear hW2 kz hk2 ha2 HG2 K2 KW2 HB2 BA BF HA KW K12
  generalize x3.heap.size = r at *
  have HMY1 := Lib.hid (HMY.out _ _ _ _ W2 HA1.out (HT.out.kept KW3.out))
  have HSM := Lib.hid (fun u (k : Kept Nothing W2 u) => at_same2 a a _ _ _ _ _ _ _ _ u (HA1.out.old k) (HA2.out.old k))
  rw [Ax.same_self] at HSM
  have HIS1 := Lib.hid (fun u (k : Kept Nothing W2 u) => HIS.out _ _ _ _ u (HA1.out.old k) (HT.out.kept (KW3.out.trans k)))
  have HTL := Lib.hid (fun u (k : Kept Nothing W2 u) => tells10 u (HT.out.kept (KW3.out.trans k)))
  unfold Ax.agg at HMY1 HSM HIS1
  have c0 : W2.cell? ⟨q + 1, 0, none⟩ = some (.int .i64 (c : Int)) := BF1.out.cell 0
  have i4 := HC2.out
  have m0 := BA1.out.cell 0
  have m1 := BA1.out.cell 1
  have m2 := BA1.out.cell 2
  have m3 := BA1.out.cell 3
  have m4 := BA1.out.cell 4
  have m5 := BA1.out.cell 5
  have m6 := BA1.out.cell 6
  have m7 := BA1.out.cell 7
  have m8 := BA1.out.cell 8
  have m9 := BA1.out.cell 9
  have m10 := BA1.out.cell 10
  have m11 := BA1.out.cell 11
  have m12 := BA1.out.cell 12
  clear HMY HIS HA1 HA2
  cases outside with
  | true =>
    have hq : Ax.is a 5 = false := by simpa using hnp
    rw [hq] at HIS1
    clear hq hnp
    go_wp2_with (first
      | (go_at_call 20; refine (HMY1.out).mono ?_; rintro e y1 ⟨rfl, k1⟩; (have z0 : y1.cell? ⟨r + 1, 0, none⟩ = some (.int .i64 0) := (BF2.out.kept k1 (fun x => x)).cell 0); (have p0 := (BA1.out.kept k1 (fun x => x)).cell 0); (have p1 := (BA1.out.kept k1 (fun x => x)).cell 1); (have p2 := (BA1.out.kept k1 (fun x => x)).cell 2); (have p3 := (BA1.out.kept k1 (fun x => x)).cell 3); (have p4 := (BA1.out.kept k1 (fun x => x)).cell 4); (have p5 := (BA1.out.kept k1 (fun x => x)).cell 5); (have p6 := (BA1.out.kept k1 (fun x => x)).cell 6); (have p7 := (BA1.out.kept k1 (fun x => x)).cell 7); (have p8 := (BA1.out.kept k1 (fun x => x)).cell 8); (have p9 := (BA1.out.kept k1 (fun x => x)).cell 9); (have p10 := (BA1.out.kept k1 (fun x => x)).cell 10); (have p11 := (BA1.out.kept k1 (fun x => x)).cell 11); (have p12 := (BA1.out.kept k1 (fun x => x)).cell 12); (have o0 := (BA2.out.kept k1 (fun x => x)).cell 0); (have o1 := (BA2.out.kept k1 (fun x => x)).cell 1); (have o2 := (BA2.out.kept k1 (fun x => x)).cell 2); (have o3 := (BA2.out.kept k1 (fun x => x)).cell 3); (have o4 := (BA2.out.kept k1 (fun x => x)).cell 4); (have o5 := (BA2.out.kept k1 (fun x => x)).cell 5); (have o6 := (BA2.out.kept k1 (fun x => x)).cell 6); (have o7 := (BA2.out.kept k1 (fun x => x)).cell 7); (have o8 := (BA2.out.kept k1 (fun x => x)).cell 8); (have o9 := (BA2.out.kept k1 (fun x => x)).cell 9); (have o10 := (BA2.out.kept k1 (fun x => x)).cell 10); (have o11 := (BA2.out.kept k1 (fun x => x)).cell 11); (have o12 := (BA2.out.kept k1 (fun x => x)).cell 12); (have Y1 := Lib.hid k1); clear k1)
      | (go_at_call 23; refine (HSM.out _ Y1.out).mono ?_; rintro e y2 ⟨rfl, k2⟩; (have Y2 := Lib.hid (Y1.out.trans k2)); clear k2; (have z3 : y2.cell? ⟨q + 1, 3, none⟩ = some (.slice Ad 0 nd) := (BF1.out.kept Y2.out (fun x => x)).cell 3); (have t0 := (BA1.out.kept Y2.out (fun x => x)).cell 0); (have t1 := (BA1.out.kept Y2.out (fun x => x)).cell 1); (have t2 := (BA1.out.kept Y2.out (fun x => x)).cell 2); (have t3 := (BA1.out.kept Y2.out (fun x => x)).cell 3); (have t4 := (BA1.out.kept Y2.out (fun x => x)).cell 4); (have t5 := (BA1.out.kept Y2.out (fun x => x)).cell 5); (have t6 := (BA1.out.kept Y2.out (fun x => x)).cell 6); (have t7 := (BA1.out.kept Y2.out (fun x => x)).cell 7); (have t8 := (BA1.out.kept Y2.out (fun x => x)).cell 8); (have t9 := (BA1.out.kept Y2.out (fun x => x)).cell 9); (have t10 := (BA1.out.kept Y2.out (fun x => x)).cell 10); (have t11 := (BA1.out.kept Y2.out (fun x => x)).cell 11); (have t12 := (BA1.out.kept Y2.out (fun x => x)).cell 12))
      | (go_at_call 24; refine (HIS1.out _ Y2.out).mono ?_; rintro e y3 ⟨rfl, k3⟩; (have Y3 := Lib.hid (Y2.out.trans k3)); clear k3)
      | (go_at_call 18; refine (HTL.out _ Y3.out).mono ?_; rintro e y4 ⟨rfl, k4⟩; (have Y4 := Lib.hid (Y3.out.trans k4)); clear k4))
    go_ret
    exact ⟨rfl, KW3.out.trans Y4.out⟩
  | false =>
    clear hnp HIS1
    go_wp2_with (first
      | (go_at_call 20; refine (HMY1.out).mono ?_; rintro e y1 ⟨rfl, k1⟩; (have z0 : y1.cell? ⟨r + 1, 0, none⟩ = some (.int .i64 0) := (BF2.out.kept k1 (fun x => x)).cell 0); (have p0 := (BA1.out.kept k1 (fun x => x)).cell 0); (have p1 := (BA1.out.kept k1 (fun x => x)).cell 1); (have p2 := (BA1.out.kept k1 (fun x => x)).cell 2); (have p3 := (BA1.out.kept k1 (fun x => x)).cell 3); (have p4 := (BA1.out.kept k1 (fun x => x)).cell 4); (have p5 := (BA1.out.kept k1 (fun x => x)).cell 5); (have p6 := (BA1.out.kept k1 (fun x => x)).cell 6); (have p7 := (BA1.out.kept k1 (fun x => x)).cell 7); (have p8 := (BA1.out.kept k1 (fun x => x)).cell 8); (have p9 := (BA1.out.kept k1 (fun x => x)).cell 9); (have p10 := (BA1.out.kept k1 (fun x => x)).cell 10); (have p11 := (BA1.out.kept k1 (fun x => x)).cell 11); (have p12 := (BA1.out.kept k1 (fun x => x)).cell 12); (have o0 := (BA2.out.kept k1 (fun x => x)).cell 0); (have o1 := (BA2.out.kept k1 (fun x => x)).cell 1); (have o2 := (BA2.out.kept k1 (fun x => x)).cell 2); (have o3 := (BA2.out.kept k1 (fun x => x)).cell 3); (have o4 := (BA2.out.kept k1 (fun x => x)).cell 4); (have o5 := (BA2.out.kept k1 (fun x => x)).cell 5); (have o6 := (BA2.out.kept k1 (fun x => x)).cell 6); (have o7 := (BA2.out.kept k1 (fun x => x)).cell 7); (have o8 := (BA2.out.kept k1 (fun x => x)).cell 8); (have o9 := (BA2.out.kept k1 (fun x => x)).cell 9); (have o10 := (BA2.out.kept k1 (fun x => x)).cell 10); (have o11 := (BA2.out.kept k1 (fun x => x)).cell 11); (have o12 := (BA2.out.kept k1 (fun x => x)).cell 12); (have Y1 := Lib.hid k1); clear k1)
      | (go_at_call 23; refine (HSM.out _ Y1.out).mono ?_; rintro e y2 ⟨rfl, k2⟩; (have Y2 := Lib.hid (Y1.out.trans k2)); clear k2; (have z3 : y2.cell? ⟨q + 1, 3, none⟩ = some (.slice Ad 0 nd) := (BF1.out.kept Y2.out (fun x => x)).cell 3); (have t0 := (BA1.out.kept Y2.out (fun x => x)).cell 0); (have t1 := (BA1.out.kept Y2.out (fun x => x)).cell 1); (have t2 := (BA1.out.kept Y2.out (fun x => x)).cell 2); (have t3 := (BA1.out.kept Y2.out (fun x => x)).cell 3); (have t4 := (BA1.out.kept Y2.out (fun x => x)).cell 4); (have t5 := (BA1.out.kept Y2.out (fun x => x)).cell 5); (have t6 := (BA1.out.kept Y2.out (fun x => x)).cell 6); (have t7 := (BA1.out.kept Y2.out (fun x => x)).cell 7); (have t8 := (BA1.out.kept Y2.out (fun x => x)).cell 8); (have t9 := (BA1.out.kept Y2.out (fun x => x)).cell 9); (have t10 := (BA1.out.kept Y2.out (fun x => x)).cell 10); (have t11 := (BA1.out.kept Y2.out (fun x => x)).cell 11); (have t12 := (BA1.out.kept Y2.out (fun x => x)).cell 12))
      | (go_at_call 18; refine (HTL.out _ Y2.out).mono ?_; rintro e y4 ⟨rfl, k4⟩; (have Y4 := Lib.hid (Y2.out.trans k4)); clear k4))
    go_ret
    exact ⟨rfl, KW3.out.trans Y4.out⟩

theorem again_law (v : Value) (D : List UInt8) (four outside : Bool) (W : World) (hv : By W v D) (ht : Wtd W) :
    Calls Tryz.prog 5 #[v, .bool four, .bool outside] W fun e w' => e = .returned (.bool true) ∧ Kept Nothing W w' := by
  have h := Ax.get_good (headB D) four outside
  obtain ⟨⟨a, c, d⟩, hR⟩ : ∃ R, Ax.get (headB D) four outside = R := ⟨_, rfl⟩
  rw [hR] at h
  rcases h with ⟨h1, h2, h3, h4, h5⟩ | ⟨h1, ⟨h2, h3⟩ | ⟨h2, h3⟩⟩
  · simp only at h1 h2 h3 h4 h5
    subst h2
    exact again_good v D four outside W hv ht a c h1 hR h3 h4 h5
  · simp only at h1 h2 h3
    subst h1 h2 h3
    exact again_2 v D four outside W hv ht [] 0 rfl hR
  · simp only at h1 h2 h3
    subst h1 h2
    exact again_3 v D four outside W hv ht d d.length (List.length_pos_iff.2 h3) rfl hR
end Go.Proofs.YtkmmfbmomflofaaGreatDoor
