
/-
  The law OpenTells: it returns true, whatever it is given, and leaves what was there as it was.
-/
import Derived.Test.YtohgkibpcgfihaaDoorEs
import Derived.Test.YtohgkibpcgfihaaDoorEh
import Derived.Test.YtohgkibpcgfihaaDoorEd
import Derived.Test.YtohgkibpcgfihaaDoorIw
import Derived.Deep.DeepCutAuto
import Derived.Deep.CutBlock
namespace Go.Proofs.YtohgkibpcgfihaaDoor
open Go.RowKit

theorem full3 {w : World} {p : Nat} {t : TypeId} {a b c : Value} (h : Blk w p t #[a, b, c]) :
    (w.cell? ⟨p, 0, none⟩ = some a ∧ w.cell? ⟨p, 1, none⟩ = some b ∧ w.cell? ⟨p, 2, none⟩ = some c) ∧ w.frozen? ⟨p, 0, none⟩ = false ∧ w.frozen? ⟨p, 1, none⟩ = false ∧ w.frozen? ⟨p, 2, none⟩ = false :=
  ⟨⟨h.cell 0, h.cell 1, h.cell 2⟩, h.free 0, h.free 1, h.free 2⟩
theorem shortN_lt (n : Nat) : shortN n < 65536 := by unfold shortN; split <;> omega
theorem law_ofn (n h2 own : Nat) (_ : n < 4294967296) (hh : h2 < 65536) (ho : own < 4294967296) (v : Value) (w : World) (hv : Cps w v (oursL n)) :
    Calls Tryd.prog 12 #[.agg #[.int .u8 4, .int .u16 (shortN n : Nat), .int .u16 (h2 : Int), .int .u32 (own : Int), v]] w fun e w' =>
      ∃ rv, e = .returned (.agg #[.int .i64 4, .int .i64 (shortN n : Nat), .int .i64 (h2 : Int), .int .u32 (own : Int), rv]) ∧ Cps w' rv (oursL n) ∧ Kept Nothing w w' :=
  law_of ⟨4, shortN n, h2, own, oursL n⟩ ⟨by show 4 < 256; decide, shortN_lt n, hh, ho⟩ v w hv (by simp [oursL])
theorem law_liken (n h2 own : Nat) (v1 v2 : Value) (w : World) (h1 : Cps w v1 (oursL n)) (h2' : Cps w v2 (oursL n)) :
    Calls Tryd.prog 11 #[.agg #[.int .i64 4, .int .i64 (shortN n : Nat), .int .i64 (h2 : Int), .int .u32 (own : Int), v1], .agg #[.int .i64 4, .int .i64 (shortN n : Nat), .int .i64 (h2 : Int), .int .u32 (own : Int), v2]] w fun e w' => e = .returned (.bool true) ∧ Kept Nothing w w' :=
  law_like ⟨4, shortN n, h2, own, oursL n⟩ v1 v2 w h1 h2' (by simp [oursL])
structure TS (W : World) (ver asn hold id : Nat) (fl : List Cp) (pn own : Nat) (ins : Bool) (p0 p1 p2 : Nat) (A1 A2 : Option Addr) (c1 c2 : Nat) (w : World) : Prop where
  d : Cps w (.slice A1 fl.length c1) fl
  e : Cps w (.slice A2 fl.length c2) fl
  y : Blk w p0 28 #[.int .u8 (ver : Int), .int .u16 (asn : Int), .int .u16 (hold : Int), .int .u32 (id : Int), .slice A1 fl.length c1]
  x : Blk w p2 35 #[.int .i64 (ver : Int), .int .i64 (asn : Int), .int .i64 (hold : Int), .int .u32 (id : Int), .slice A2 fl.length c2]
  wn : Blk w p1 44 #[.int .u32 (pn : Int), .int .u32 (own : Int), .bool ins]
  k : Kept Nothing W w
theorem TS.old {W : World} {ver asn hold id : Nat} {fl : List Cp} {pn own : Nat} {ins : Bool} {p0 p1 p2 : Nat} {A1 A2 : Option Addr} {c1 c2 : Nat} {w w' : World} (h : TS W ver asn hold id fl pn own ins p0 p1 p2 A1 A2 c1 c2 w) (k : Kept Nothing w w') : TS W ver asn hold id fl pn own ins p0 p1 p2 A1 A2 c1 c2 w' :=
  ⟨h.d.old k, h.e.old k, h.y.kept k (fun x => x), h.x.kept k (fun x => x), h.wn.kept k (fun x => x), h.k.trans k⟩
theorem code_lt {s : Nat} (_ : s < 256) : codeOf s < 256 := by unfold codeOf; split <;> omega
theorem sub_lt (o : Opn) (n me : Nat) (ins : Bool) : o.sub n me ins < 256 := by
  rw [sub_first]
  unfold firstW
  repeat' split
  all_goals decide
def klt (n h2 own p1 : Nat) : List (Option Value) := [some (.int .u32 (n : Int)), some (.int .u16 (h2 : Int)), some (.pointer (some ⟨p1, 1, none⟩)), some (.int .u32 (own : Int)), none, none, some (.int .u32 (n : Int)), some (.int .u16 (h2 : Int)), some (.int .i64 (h2 : Int)), some (.pointer (some ⟨p1, 1, none⟩)), some (.int .u32 (own : Int)), none, some (.bool true), some (.bool true)]
def kst (n h2 own : Nat) : Nat → Value → World → Prop
  | 4, v, w => ∃ rv, v = .agg #[.int .u8 4, .int .u16 (shortN n : Nat), .int .u16 (h2 : Int), .int .u32 (own : Int), rv] ∧ Cps w rv (oursL n)
  | 5, v, w => ∃ rv, v = .agg #[.int .i64 4, .int .i64 (shortN n : Nat), .int .i64 (h2 : Int), .int .u32 (own : Int), rv] ∧ Cps w rv (oursL n)
  | 11, v, w => ∃ rv, v = .agg #[.int .i64 4, .int .i64 (shortN n : Nat), .int .i64 (h2 : Int), .int .u32 (own : Int), rv] ∧ Cps w rv (oursL n)
  | _, _, _ => True
theorem kst_stab (n h2 own : Nat) (k : Nat) (v : Value) (w w' : World) (kk : Kept Nothing w w') (h : kst n h2 own k v w) : kst n h2 own k v w' := by
  unfold kst at h ⊢
  split at h
  all_goals first
    | (obtain ⟨rv, h1, h2⟩ := h; exact ⟨rv, h1, h2.old kk⟩)
    | trivial

set_option maxRecDepth 20000 in
set_option maxHeartbeats 16000000 in
theorem opentells_law (o : Opn) (ho : o.fine) (v : Value) (pn own n h2 : Nat) (ins : Bool) (hn : n < 4294967296) (hown : own < 4294967296) (hh : h2 < 65536) (W : World) (hv : Cps W v o.caps) (hr : RdC W) :
    Calls Tryd.prog 4 #[.agg #[.int .u8 (o.ver : Int), .int .u16 (o.asn : Int), .int .u16 (o.hold : Int), .int .u32 (o.id : Int), v], .agg #[.int .u32 (pn : Int), .int .u32 (own : Int), .bool ins], .int .u32 (n : Int), .int .u16 (h2 : Int)] W fun e w' => e = .returned (.bool true) ∧ Kept Nothing W w' := by
  obtain ⟨A0, c0, rfl, _, _⟩ := hv.form
  have KA := ((Kept.refl Nothing W).alloc (.cells #[.int .u8 (o.ver : Int), .int .u16 (o.asn : Int), .int .u16 (o.hold : Int), .int .u32 (o.id : Int), .slice A0 o.caps.length c0] 28)).alloc (.cells #[.int .u32 (pn : Int), .int .u32 (own : Int), .bool ins] 44)
  have HF := Lib.hid (law_few_off (Only W.heap.size) o _ _ ((hv.offo (P := Only W.heap.size) (fun k (e : k = W.heap.size) => by omega)).old KA) (fun k (e : k = W.heap.size) => by rw [World.size_alloc, World.size_alloc]; omega))
  have B0 := Lib.hid ((Blk.fresh W 28 #[.int .u8 (o.ver : Int), .int .u16 (o.asn : Int), .int .u16 (o.hold : Int), .int .u32 (o.id : Int), .slice A0 o.caps.length c0]).alloc (.cells #[.int .u32 (pn : Int), .int .u32 (own : Int), .bool ins] 44))
  have bw := Blk.fresh (W.alloc (.cells #[.int .u8 (o.ver : Int), .int .u16 (o.asn : Int), .int .u16 (o.hold : Int), .int .u32 (o.id : Int), .slice A0 o.caps.length c0] 28)) 44 #[.int .u32 (pn : Int), .int .u32 (own : Int), .bool ins]
  rw [World.size_alloc] at bw
  have BW := Lib.hid bw
  have K0 := Lib.hid KA
  have RW := Lib.hid hr
  have hfl : (few6 o.caps).length ≤ 100000 := by have := few6_len o.caps; omega
  obtain ⟨f0, f1, f2, f3⟩ := ho
  obtain ⟨ver, asn, hold, id, caps⟩ := o
  simp only at f0 f1 f2 f3 HF B0 BW K0 hfl
  have HFI : Hid ((⟨ver, asn, hold, id, few6 caps⟩ : Opn).fine) := Lib.hid ⟨f0, f1, f2, f3⟩
  have HL : Hid ((few6 caps).length ≤ 100000) := Lib.hid hfl
  have HNL := Lib.hid hn
  have HHL := Lib.hid hh
  have HOL := Lib.hid hown
  have HAS := Lib.hid f1
  generalize few6 caps = fl at *
  clear hv hr KA f0 f1 f2 f3 bw hfl hn hown
  go_enter Tryd.func4, Tryd.ntmps4
  go_wp2_with fail
  refine HF.out.mono ?_
  rintro _ w1 ⟨rv, rfl, hc1, hk1⟩
  obtain ⟨A1, c1, rfl, _, _⟩ := hc1.form
  have b1 := B0.out.kept hk1 (fun x => x)
  obtain ⟨⟨a0, a1, a2, a3, a4⟩, a5, a6, a7, a8, a9⟩ := full5 b1
  have l1 := b1.lt
  have C1 := Lib.hid hc1
  have KB := Lib.hid (K0.out.trans hk1)
  have BB := Lib.hid b1
  have BW1 := Lib.hid (BW.out.kept hk1 (fun x => x))
  clear hc1 hk1 b1 B0 K0 HF BW
  go_upto_region 2 with fail
  have k2 : Kept (Only W.heap.size) w1 (((((w1.setCell ⟨W.heap.size, 0, none⟩ (.int .u8 (ver : Int))).setCell ⟨W.heap.size, 1, none⟩ (.int .u16 (asn : Int))).setCell ⟨W.heap.size, 2, none⟩ (.int .u16 (hold : Int))).setCell ⟨W.heap.size, 3, none⟩ (.int .u32 (id : Int))).setCell ⟨W.heap.size, 4, none⟩ (.slice A1 fl.length c1)) := kept_5 _ _ _ _ _
  have x0 : Blk (((((w1.setCell ⟨W.heap.size, 0, none⟩ (.int .u8 (ver : Int))).setCell ⟨W.heap.size, 1, none⟩ (.int .u16 (asn : Int))).setCell ⟨W.heap.size, 2, none⟩ (.int .u16 (hold : Int))).setCell ⟨W.heap.size, 3, none⟩ (.int .u32 (id : Int))).setCell ⟨W.heap.size, 4, none⟩ (.slice A1 fl.length c1)) W.heap.size 28 #[.int .u8 (ver : Int), .int .u16 (asn : Int), .int .u16 (hold : Int), .int .u32 (id : Int), .slice A1 fl.length c1] := ((((BB.out.put 0 _).put 1 _).put 2 _).put 3 _).put 4 _
  have X0 := Lib.hid x0
  have XW2 := Lib.hid (BW1.out.kept k2 (fun e => by have e' : W.heap.size + 1 = W.heap.size := e; omega))
  have K2 := Lib.hid (KB.out.late k2 (fun i (e : i = W.heap.size) => by omega))
  have D1 := Lib.hid (C1.out.off k2).cps
  generalize (((((w1.setCell ⟨W.heap.size, 0, none⟩ (.int .u8 (ver : Int))).setCell ⟨W.heap.size, 1, none⟩ (.int .u16 (asn : Int))).setCell ⟨W.heap.size, 2, none⟩ (.int .u16 (hold : Int))).setCell ⟨W.heap.size, 3, none⟩ (.int .u32 (id : Int))).setCell ⟨W.heap.size, 4, none⟩ (.slice A1 fl.length c1)) = w2 at *
  obtain ⟨p1, hp1⟩ : ∃ p1, W.heap.size + 1 = p1 := ⟨_, rfl⟩
  rw [hp1] at XW2
  rw [hp1]
  clear hp1 x0 k2 C1 KB BB a0 a1 a2 a3 a4 a5 a6 a7 a8 a9 l1 BW1
  generalize W.heap.size = p0 at *
  have HOf := Lib.hid (law_of ⟨ver, asn, hold, id, fl⟩ HFI.out _ w2 D1.out (by have := HL.out; show fl.length ≤ 1000000; omega))
  simp only at HOf
  obtain ⟨⟨m0, m1, m2, m3, m4⟩, -⟩ := full5 X0.out
  go_wp2_with fail
  refine HOf.out.mono ?_
  rintro _ w3 ⟨rv2, rfl, hc2, hk⟩
  obtain ⟨A2, c2, rfl, _, _⟩ := hc2.form
  have k4 := (Kept.refl Nothing w3).alloc (.cells #[.int .i64 (ver : Int), .int .i64 (asn : Int), .int .i64 (hold : Int), .int .u32 (id : Int), .slice A2 fl.length c2] 35)
  have X2 := Lib.hid (Blk.fresh w3 35 #[.int .i64 (ver : Int), .int .i64 (asn : Int), .int .i64 (hold : Int), .int .u32 (id : Int), .slice A2 fl.length c2])
  have E4 := Lib.hid (hc2.old k4)
  have D4 := Lib.hid ((D1.out.old hk).old k4)
  have Y4 := Lib.hid ((X0.out.kept hk (fun x => x)).kept k4 (fun x => x))
  have XW4 := Lib.hid ((XW2.out.kept hk (fun x => x)).kept k4 (fun x => x))
  have K4 := Lib.hid ((K2.out.trans hk).trans k4)
  clear hc2 hk k4 K2 D1 X0 XW2 HOf m0 m1 m2 m3 m4
  go_upto_region 3 with fail
  generalize w3.alloc (.cells #[.int .i64 (ver : Int), .int .i64 (asn : Int), .int .i64 (hold : Int), .int .u32 (id : Int), .slice A2 fl.length c2] 35) = w4 at *
  generalize w3.heap.size = p2 at *
  have T4 : Hid (TS W ver asn hold id fl pn own ins p0 p1 p2 A1 A2 c1 c2 w4) := Lib.hid ⟨D4.out, E4.out, Y4.out, X2.out, XW4.out, K4.out⟩
  clear D4 E4 Y4 X2 XW4 K4
  have HL2 : Hid (fl.length ≤ 1000000) := Lib.hid (by have := HL.out; omega)
  have HPut := Lib.hid (op_put ⟨ver, asn, hold, id, fl⟩ HFI.out _ w4 T4.out.d HL2.out)
  have HRP := Lib.hid (fun w (h : Cps w (.slice A2 fl.length c2) fl) => rop_put ⟨ver, asn, hold, id, fl⟩ HFI.out _ w h HL.out)
  have HNm := Lib.hid (fun w (h : Cps w (.slice A1 fl.length c1) fl) => op_number (ver : Int) (hold : Int) (id : Int) asn HAS.out _ fl w h HL2.out)
  have HRN := Lib.hid (fun w (h : Cps w (.slice A2 fl.length c2) fl) => rop_number (ver : Int) (hold : Int) (id : Int) asn HAS.out _ fl w h HL2.out)
  have HCk := Lib.hid (fun w (hr : RdC w) (h : Cps w (.slice A1 fl.length c1) fl) => op_check ⟨ver, asn, hold, id, fl⟩ HFI.out _ pn own ins w hr h HL2.out)
  have HRC := Lib.hid (fun w (h : Cps w (.slice A2 fl.length c2) fl) => rop_check ⟨ver, asn, hold, id, fl⟩ HFI.out _ pn own ins w h HL2.out)
  have HSL := Lib.hid (sub_lt ⟨ver, asn, hold, id, fl⟩ pn own ins)
  simp only at HPut HRP HNm HRN HCk HRC
  generalize (⟨ver, asn, hold, id, fl⟩ : Opn).put = X at *
  obtain ⟨x, e⟩ := X
  generalize (⟨ver, asn, hold, id, fl⟩ : Opn).sub pn own ins = ss at *
  generalize Opn.own asn (Cp.number fl) = N at *
  obtain ⟨m, tt⟩ := N
  have HCL := Lib.hid (code_lt HSL.out)
  generalize codeOf ss = cc at *
  generalize Opn.data ss = dd at *
  simp only at HPut HRP HNm HRN
  obtain ⟨⟨m0, m1, m2, m3, m4⟩, -⟩ := full5 T4.out.y
  obtain ⟨⟨r0, r1, r2, r3, r4⟩, -⟩ := full5 T4.out.x
  obtain ⟨⟨s0, s1, s2⟩, -⟩ := full3 T4.out.wn
  go_wp2_with fail
  refine HPut.out.mono ?_
  rintro _ w5 ⟨xv, rfl, hx, hk⟩
  obtain ⟨Ax, cx, rfl, _, _⟩ := hx.form
  have T5 := Lib.hid (T4.out.old hk)
  have B5 := Lib.hid hx.by
  clear hx hk HPut T4
  clear m0 m1 m2 m3 m4 r0 r1 r2 r3 r4 s0 s1 s2
  obtain ⟨⟨m0, m1, m2, m3, m4⟩, -⟩ := full5 T5.out.y
  obtain ⟨⟨r0, r1, r2, r3, r4⟩, -⟩ := full5 T5.out.x
  obtain ⟨⟨s0, s1, s2⟩, -⟩ := full3 T5.out.wn
  go_wp2_with fail
  refine (HRP.out _ T5.out.e).mono ?_
  rintro _ w6 ⟨yv, rfl, hx, hk⟩
  obtain ⟨Ay, cy, rfl, _, _⟩ := hx.form
  have T6 := Lib.hid (T5.out.old hk)
  have B6 := Lib.hid (B5.out.old hk)
  have V6 := Lib.hid hx
  clear hx hk HRP T5 B5
  clear m0 m1 m2 m3 m4 r0 r1 r2 r3 r4 s0 s1 s2
  obtain ⟨⟨m0, m1, m2, m3, m4⟩, -⟩ := full5 T6.out.y
  obtain ⟨⟨r0, r1, r2, r3, r4⟩, -⟩ := full5 T6.out.x
  obtain ⟨⟨s0, s1, s2⟩, -⟩ := full3 T6.out.wn
  go_wp2_with fail
  refine (HNm.out _ T6.out.d).mono ?_
  rintro _ w7 ⟨rfl, hk⟩
  have T7 := Lib.hid (T6.out.old hk)
  have B7 := Lib.hid (B6.out.old hk)
  have V7 := Lib.hid (V6.out.old hk)
  clear hk HNm T6 B6 V6
  clear m0 m1 m2 m3 m4 r0 r1 r2 r3 r4 s0 s1 s2
  obtain ⟨⟨m0, m1, m2, m3, m4⟩, -⟩ := full5 T7.out.y
  obtain ⟨⟨r0, r1, r2, r3, r4⟩, -⟩ := full5 T7.out.x
  obtain ⟨⟨s0, s1, s2⟩, -⟩ := full3 T7.out.wn
  go_wp2_with fail
  refine (HRN.out _ T7.out.e).mono ?_
  rintro _ w8 ⟨rfl, hk⟩
  have T8 := Lib.hid (T7.out.old hk)
  have B8 := Lib.hid (B7.out.old hk)
  have V8 := Lib.hid (V7.out.old hk)
  clear hk HRN T7 B7 V7
  clear m0 m1 m2 m3 m4 r0 r1 r2 r3 r4 s0 s1 s2
  obtain ⟨⟨m0, m1, m2, m3, m4⟩, -⟩ := full5 T8.out.y
  obtain ⟨⟨r0, r1, r2, r3, r4⟩, -⟩ := full5 T8.out.x
  obtain ⟨⟨s0, s1, s2⟩, -⟩ := full3 T8.out.wn
  go_wp2_with fail
  refine (HCk.out _ (RW.out.kept T8.out.k) T8.out.d).mono ?_
  rintro _ w10 ⟨dv, rfl, hb, hk⟩
  obtain ⟨Ad, cd, rfl, _, _⟩ := hb.form
  have k11 := hk.alloc (.cells #[.int .u8 (cc : Int), .int .u8 (ss : Int)] 30)
  have ka := (Kept.refl Nothing w10).alloc (.cells #[.int .u8 (cc : Int), .int .u8 (ss : Int)] 30)
  have T11 := Lib.hid (T8.out.old k11)
  have B11 := Lib.hid (B8.out.old k11)
  have V11 := Lib.hid (V8.out.old k11)
  have G11 := Lib.hid (hb.old ka)
  have F11 := Lib.hid (Blk.fresh w10 30 #[.int .u8 (cc : Int), .int .u8 (ss : Int)])
  clear hk HCk T8 B8 V8 k11 ka hb
  clear m0 m1 m2 m3 m4 r0 r1 r2 r3 r4 s0 s1 s2
  go_upto_region 8 with fail
  generalize w10.alloc (.cells #[.int .u8 (cc : Int), .int .u8 (ss : Int)] 30) = w11 at *
  generalize w10.heap.size = p3 at *
  obtain ⟨⟨m0, m1, m2, m3, m4⟩, -⟩ := full5 T11.out.y
  obtain ⟨⟨r0, r1, r2, r3, r4⟩, -⟩ := full5 T11.out.x
  obtain ⟨⟨s0, s1, s2⟩, -⟩ := full3 T11.out.wn
  go_wp2_with fail
  refine (HRC.out _ T11.out.e).mono ?_
  rintro _ w9 ⟨ev, rfl, hb, hk⟩
  obtain ⟨Ae, ce, rfl, _, _⟩ := hb.form
  have T9 := Lib.hid (T11.out.old hk)
  have B9 := Lib.hid (B11.out.old hk)
  have V9 := Lib.hid (V11.out.old hk)
  have G9 := Lib.hid (G11.out.old hk)
  have H9 := Lib.hid hb
  have F9 := Lib.hid (F11.out.kept hk (fun x => x))
  have XW := Lib.hid T9.out.wn
  have RD := Lib.hid (RW.out.kept T9.out.k)
  clear hk HRC T11 B11 V11 G11 F11 hb
  clear m0 m1 m2 m3 m4 r0 r1 r2 r3 r4 s0 s1 s2
  go_upto_region 9 with fail
  refine wp_region_grow w9 (Facts (klt n h2 own p1) (kst n h2 own)) (by kernel_rfl) (by decide +kernel) (by intro d hd; simp [dsts] at hd ⊢; omega) (ready_nil (by kernel_rfl)) (by kernel_rfl) (Facts.guards (E := []) (by kernel_rfl) (fun _ h => by cases h)) (Facts.stab (kst_stab n h2 own)) (Kept.refl Nothing w9).drew ?_ ?_
  · refine OweAll.cons ?_ ?_
    · intro u a hk hf hfar
      have v2 : a.tmps.getD 2 undef = .int .u32 (n : Int) := hfar 2 (by decide)
      have w2 := v2
      rw [Array.getD_eq_getD_getElem?] at w2
      clear hf hfar
      go_simp
      exact ⟨_, rfl, Kept.refl _ _, rfl⟩
    refine OweAll.cons ?_ ?_
    · intro u a hk hf hfar
      have v3 : a.tmps.getD 3 undef = .int .u16 (h2 : Int) := hfar 3 (by decide)
      have w3 := v3
      rw [Array.getD_eq_getD_getElem?] at w3
      clear hf hfar
      go_simp
      exact ⟨_, rfl, Kept.refl _ _, rfl⟩
    refine OweAll.cons ?_ ?_
    · intro u a hk hf hfar
      have v5 : a.tmps.getD 5 undef = .pointer (some ⟨p1, 0, none⟩) := hfar 5 (by decide)
      have w5 := v5
      rw [Array.getD_eq_getD_getElem?] at w5
      clear hf hfar
      go_simp
      exact ⟨_, rfl, Kept.refl _ _, rfl⟩
    refine OweAll.cons ?_ ?_
    · intro u a hk hf hfar
      have v68 : a.tmps.getD 68 undef = .pointer (some ⟨p1, 1, none⟩) := hf 2 _ 68 rfl rfl ⟨⟨2, .data⟩, Array.mem_of_getElem? (i := 0) rfl, rfl, rfl⟩
      have w68 := v68
      rw [Array.getD_eq_getD_getElem?] at w68
      obtain ⟨⟨q0, q1, q2⟩, -⟩ := full3 (XW.out.kept hk (fun x => x))
      clear hf hfar
      go_simp
      exact ⟨_, rfl, Kept.refl _ _, rfl⟩
    refine OweAll.cons ?_ ?_
    · intro u a hk hf hfar
      have v66 : a.tmps.getD 66 undef = .int .u32 (n : Int) := hf 0 _ 66 rfl rfl ⟨⟨0, .data⟩, Array.mem_of_getElem? (i := 0) rfl, rfl, rfl⟩
      have w66 := v66
      rw [Array.getD_eq_getD_getElem?] at w66
      have v67 : a.tmps.getD 67 undef = .int .u16 (h2 : Int) := hf 1 _ 67 rfl rfl ⟨⟨1, .data⟩, Array.mem_of_getElem? (i := 1) rfl, rfl, rfl⟩
      have w67 := v67
      rw [Array.getD_eq_getD_getElem?] at w67
      have v69 : a.tmps.getD 69 undef = .int .u32 (own : Int) := hf 3 _ 69 rfl rfl ⟨⟨3, .data⟩, Array.mem_of_getElem? (i := 2) rfl, rfl, rfl⟩
      have w69 := v69
      rw [Array.getD_eq_getD_getElem?] at w69
      clear hf hfar
      go_simp
      refine (op_ours n h2 own HNL.out _ (RD.out.kept hk)).mono ?_
      rintro _ u' ⟨rv, rfl, hc, hk'⟩
      have hz : ∃ r, (.agg #[.int .u8 4, .int .u16 (shortN n : Nat), .int .u16 (h2 : Int), .int .u32 (own : Int), rv] : Value) = .agg #[.int .u8 4, .int .u16 (shortN n : Nat), .int .u16 (h2 : Int), .int .u32 (own : Int), r] ∧ Cps u' r (oursL n) := ⟨_, rfl, hc.cps⟩
      exact ⟨_, rfl, hk', hz⟩
    refine OweAll.cons ?_ ?_
    · intro u a hk hf hfar
      have z70 : ∃ rv, (a.tmps.getD 70 undef) = .agg #[.int .u8 4, .int .u16 (shortN n : Nat), .int .u16 (h2 : Int), .int .u32 (own : Int), rv] ∧ Cps u rv (oursL n) := hf 4 _ 70 rfl rfl ⟨⟨4, .data⟩, Array.mem_of_getElem? (i := 0) rfl, rfl, rfl⟩
      obtain ⟨rv70, v70, hrv70⟩ := z70
      obtain ⟨Av70, cv70, rfl, _, _⟩ := hrv70.form
      have w70 := v70
      rw [Array.getD_eq_getD_getElem?] at w70
      clear hf hfar
      go_simp
      refine (law_ofn n h2 own HNL.out HHL.out HOL.out _ _ hrv70).mono ?_
      rintro _ u' ⟨rv, rfl, hc, hk'⟩
      have hz : ∃ r, (.agg #[.int .i64 4, .int .i64 (shortN n : Nat), .int .i64 (h2 : Int), .int .u32 (own : Int), rv] : Value) = .agg #[.int .i64 4, .int .i64 (shortN n : Nat), .int .i64 (h2 : Int), .int .u32 (own : Int), r] ∧ Cps u' r (oursL n) := ⟨_, rfl, hc⟩
      exact ⟨_, rfl, hk', hz⟩
    refine OweAll.cons ?_ ?_
    · intro u a hk hf hfar
      have v2 : a.tmps.getD 2 undef = .int .u32 (n : Int) := hfar 2 (by decide)
      have w2 := v2
      rw [Array.getD_eq_getD_getElem?] at w2
      clear hf hfar
      go_simp
      exact ⟨_, rfl, Kept.refl _ _, rfl⟩
    refine OweAll.cons ?_ ?_
    · intro u a hk hf hfar
      have v3 : a.tmps.getD 3 undef = .int .u16 (h2 : Int) := hfar 3 (by decide)
      have w3 := v3
      rw [Array.getD_eq_getD_getElem?] at w3
      clear hf hfar
      go_simp
      exact ⟨_, rfl, Kept.refl _ _, rfl⟩
    refine OweAll.cons ?_ ?_
    · intro u a hk hf hfar
      have v73 : a.tmps.getD 73 undef = .int .u16 (h2 : Int) := hf 7 _ 73 rfl rfl ⟨⟨7, .data⟩, Array.mem_of_getElem? (i := 0) rfl, rfl, rfl⟩
      have w73 := v73
      rw [Array.getD_eq_getD_getElem?] at w73
      clear hf hfar
      go_simp
      first | exact ⟨_, rfl, Kept.refl _ _, rfl⟩ | exact ⟨_, rfl, Kept.refl _ _, congrArg (Value.int .i64) (IntWalk.i64_in _ (by omega))⟩
    refine OweAll.cons ?_ ?_
    · intro u a hk hf hfar
      have v5 : a.tmps.getD 5 undef = .pointer (some ⟨p1, 0, none⟩) := hfar 5 (by decide)
      have w5 := v5
      rw [Array.getD_eq_getD_getElem?] at w5
      clear hf hfar
      go_simp
      exact ⟨_, rfl, Kept.refl _ _, rfl⟩
    refine OweAll.cons ?_ ?_
    · intro u a hk hf hfar
      have v75 : a.tmps.getD 75 undef = .pointer (some ⟨p1, 1, none⟩) := hf 9 _ 75 rfl rfl ⟨⟨9, .data⟩, Array.mem_of_getElem? (i := 0) rfl, rfl, rfl⟩
      have w75 := v75
      rw [Array.getD_eq_getD_getElem?] at w75
      obtain ⟨⟨q0, q1, q2⟩, -⟩ := full3 (XW.out.kept hk (fun x => x))
      clear hf hfar
      go_simp
      exact ⟨_, rfl, Kept.refl _ _, rfl⟩
    refine OweAll.cons ?_ ?_
    · intro u a hk hf hfar
      have v72 : a.tmps.getD 72 undef = .int .u32 (n : Int) := hf 6 _ 72 rfl rfl ⟨⟨6, .data⟩, Array.mem_of_getElem? (i := 0) rfl, rfl, rfl⟩
      have w72 := v72
      rw [Array.getD_eq_getD_getElem?] at w72
      have v74 : a.tmps.getD 74 undef = .int .i64 (h2 : Int) := hf 8 _ 74 rfl rfl ⟨⟨8, .data⟩, Array.mem_of_getElem? (i := 1) rfl, rfl, rfl⟩
      have w74 := v74
      rw [Array.getD_eq_getD_getElem?] at w74
      have v76 : a.tmps.getD 76 undef = .int .u32 (own : Int) := hf 10 _ 76 rfl rfl ⟨⟨10, .data⟩, Array.mem_of_getElem? (i := 2) rfl, rfl, rfl⟩
      have w76 := v76
      rw [Array.getD_eq_getD_getElem?] at w76
      clear hf hfar
      go_simp
      refine (rop_ours n h2 own HNL.out _).mono ?_
      rintro _ u' ⟨rv, rfl, hc, hk'⟩
      have hz : ∃ r, (.agg #[.int .i64 4, .int .i64 (shortN n : Nat), .int .i64 (h2 : Int), .int .u32 (own : Int), rv] : Value) = .agg #[.int .i64 4, .int .i64 (shortN n : Nat), .int .i64 (h2 : Int), .int .u32 (own : Int), r] ∧ Cps u' r (oursL n) := ⟨_, rfl, hc⟩
      exact ⟨_, rfl, hk', hz⟩
    refine OweAll.cons ?_ ?_
    · intro u a hk hf hfar
      have z71 : ∃ rv, (a.tmps.getD 71 undef) = .agg #[.int .i64 4, .int .i64 (shortN n : Nat), .int .i64 (h2 : Int), .int .u32 (own : Int), rv] ∧ Cps u rv (oursL n) := hf 5 _ 71 rfl rfl ⟨⟨5, .data⟩, Array.mem_of_getElem? (i := 0) rfl, rfl, rfl⟩
      obtain ⟨rv71, v71, hrv71⟩ := z71
      obtain ⟨Av71, cv71, rfl, _, _⟩ := hrv71.form
      have w71 := v71
      rw [Array.getD_eq_getD_getElem?] at w71
      have z77 : ∃ rv, (a.tmps.getD 77 undef) = .agg #[.int .i64 4, .int .i64 (shortN n : Nat), .int .i64 (h2 : Int), .int .u32 (own : Int), rv] ∧ Cps u rv (oursL n) := hf 11 _ 77 rfl rfl ⟨⟨11, .data⟩, Array.mem_of_getElem? (i := 1) rfl, rfl, rfl⟩
      obtain ⟨rv77, v77, hrv77⟩ := z77
      obtain ⟨Av77, cv77, rfl, _, _⟩ := hrv77.form
      have w77 := v77
      rw [Array.getD_eq_getD_getElem?] at w77
      clear hf hfar
      go_simp
      refine (law_liken n h2 own _ _ _ hrv71 hrv77).mono ?_
      rintro _ u' ⟨rfl, hk'⟩
      exact ⟨_, rfl, hk', rfl⟩
    refine OweAll.cons ?_ ?_
    · intro u a hk hf hfar
      have v78 : a.tmps.getD 78 undef = .bool true := hf 12 _ 78 rfl rfl ⟨⟨12, .data⟩, Array.mem_of_getElem? (i := 0) rfl, rfl, rfl⟩
      have w78 := v78
      rw [Array.getD_eq_getD_getElem?] at w78
      clear hf hfar
      go_simp
      exact ⟨_, rfl, Kept.refl _ _, rfl⟩
    exact OweAll.nil
  · intro vals u hku hV
    have e23 : vals 13 = .bool true := hV 13 _ 23 rfl rfl
    have KU := Lib.hid (T9.out.k.trans hku)
    have WT := Lib.hid (op_tells u (RD.out.kept hku))
    have hcv1 := run_conv (B9.out.old hku)
    have hcv2 := run_conv (V9.out.old hku)
    have hcv3 := run_conv (G9.out.old hku)
    have hcv4 := run_conv (H9.out.old hku)
    obtain ⟨⟨q0, q1⟩, -⟩ := full2 (F9.out.kept hku (fun x => x))
    have hcc := HCL.out
    have hss := HSL.out
    clear hV hku T9 XW RD B9 V9 G9 H9 F9 HCL HSL
    simp [putAll, Act.put, Array.setIfInBounds, e23]
    clear e23
    go_wp2_with (go_at_call 13; refine WT.out.mono ?_; rintro _ w12 ⟨rfl, hk9⟩)
    go_ret
    exact ⟨rfl, KU.out.trans hk9⟩
end Go.Proofs.YtohgkibpcgfihaaDoor
