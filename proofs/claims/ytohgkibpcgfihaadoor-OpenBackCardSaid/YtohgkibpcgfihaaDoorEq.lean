
/-
  The law OpenBack: it returns true, whatever it is given, and leaves what was there as it was.
-/
import Derived.Test.YtohgkibpcgfihaaDoorEp
import Derived.Test.YtohgkibpcgfihaaDoorIw
import Derived.Deep.DeepCutAuto
import Derived.Deep.CutBlock
namespace Go.Proofs.YtohgkibpcgfihaaDoor
open Go.RowKit

theorem get_ok4 (asn hold id : Nat) (caps : List Cp) (v : Value) (b : List UInt8) (w : World) (h : Opn.get b = (⟨4, asn, hold, id, caps⟩, 0, 0, [])) (hv : By w v b) (hb : b.length ≤ 100000) :
    Calls Tryd.prog 9 #[v] w fun e w' => ∃ A c Ad nd cd, e = .returned (.tuple #[.agg #[.int .u8 4, .int .u16 (asn : Int), .int .u16 (hold : Int), .int .u32 (id : Int), .slice A caps.length c], .agg #[.int .u8 0, .int .u8 0], .slice Ad nd cd]) ∧ Cps w' (.slice A caps.length c) caps ∧ Kept Nothing w w' := by
  have C := op_get v b w hv hb
  rw [h] at C
  refine C.mono ?_
  rintro e w' ⟨rv, d, rfl, hc, hd, hk⟩
  obtain ⟨A, c, rfl, _, _⟩ := hc.form
  obtain ⟨Ad, cd, rfl, _, _⟩ := hd.form
  exact ⟨A, c, Ad, _, cd, rfl, hc, hk⟩
theorem get_no (s : Nat) (z : Int) (hz : z = (s : Int)) (v : Value) (b : List UInt8) (w : World) (h1 : (Opn.get b).1 = Opn.zero) (h2 : (Opn.get b).2.1 = 2) (h3 : (Opn.get b).2.2.1 = s) (hv : By w v b) (hb : b.length ≤ 100000) :
    Calls Tryd.prog 9 #[v] w fun e w' => ∃ A c Ad nd cd, e = .returned (.tuple #[.agg #[.int .u8 0, .int .u16 0, .int .u16 0, .int .u32 0, .slice A 0 c], .agg #[.int .u8 2, .int .u8 z], .slice Ad nd cd]) ∧ Kept Nothing w w' := by
  subst hz
  have C := op_get v b w hv hb
  rw [h1, h2, h3] at C
  refine C.mono ?_
  rintro e w' ⟨rv, d, rfl, hc, hd, hk⟩
  obtain ⟨A, c, rfl, _, _⟩ := hc.form
  obtain ⟨Ad, cd, rfl, _, _⟩ := hd.form
  exact ⟨A, c, Ad, _, cd, rfl, hk⟩
theorem get_bad0 (v : Value) (b : List UInt8) (w : World) (h : Opn.get b = Opn.bad 0) (hv : By w v b) (hb : b.length ≤ 100000) :
    Calls Tryd.prog 9 #[v] w fun e w' => ∃ A c Ad nd cd, e = .returned (.tuple #[.agg #[.int .u8 0, .int .u16 0, .int .u16 0, .int .u32 0, .slice A 0 c], .agg #[.int .u8 2, .int .u8 0], .slice Ad nd cd]) ∧ Kept Nothing w w' :=
  get_no 0 0 rfl v b w (by rw [h]; rfl) (by rw [h]; rfl) (by rw [h]; rfl) hv hb
theorem Cp.bytes_no {l : List Cp} (h : (Cp.bytes l).2 ≠ 0) : (Cp.bytes l).1 = [] ∧ ((Cp.bytes l).2 = 1 ∨ (Cp.bytes l).2 = 3) := by
  unfold Cp.bytes at h ⊢
  split at h
  · next hc => rw [if_pos hc]; exact ⟨rfl, .inl rfl⟩
  · next hc =>
    rw [if_neg hc]
    split at h
    · exact absurd rfl h
    · next hc2 =>
      rw [if_neg hc2]
      split at h
      · next hc3 => rw [if_pos hc3]; exact ⟨rfl, .inr rfl⟩
      · exact absurd rfl h
theorem own_bys {w : World} {base n : Nat} {v : Value} {xs : List Value} {l : List UInt8} (h : w.ownsRow base 5 1 v n xs) (hn : n = l.length) (hx : xs = bys l) : w.ownsRow base 5 1 v l.length (bys l) := by
  subst hn hx
  exact h
theorem tmod_n (a b : Nat) : (a : Int).tmod (b : Int) = ((a % b : Nat) : Int) := by
  rw [Int.ofNat_tmod]
def small4 (asn hold id : Nat) (fl : List Cp) : Prop := asn < 65536 ∧ hold < 65536 ∧ id < 4294967296 ∧ fl.length ≤ 1000000
theorem op_put4 (asn hold id : Nat) (fl : List Cp) (hs : small4 asn hold id fl) (v : Value) (W : World) (hv : Cps W v fl) :
    Calls Tryd.prog 15 #[.agg #[.int .u8 4, .int .u16 (asn : Int), .int .u16 (hold : Int), .int .u32 (id : Int), v]] W fun r w' => ∃ v', r = .returned (.tuple #[v', .int .i64 ((⟨4, asn, hold, id, fl⟩ : Opn).put.2 : Nat)]) ∧ Bs w' v' (⟨4, asn, hold, id, fl⟩ : Opn).put.1 ∧ Kept Nothing W w' :=
  op_put ⟨4, asn, hold, id, fl⟩ ⟨by show 4 < 256; decide, hs.1, hs.2.1, hs.2.2.1⟩ v W hv hs.2.2.2
theorem law_of4 (asn hold id : Nat) (fl : List Cp) (hs : small4 asn hold id fl) (v : Value) (w : World) (hv : Cps w v fl) :
    Calls Tryd.prog 12 #[.agg #[.int .u8 4, .int .u16 (asn : Int), .int .u16 (hold : Int), .int .u32 (id : Int), v]] w fun e w' =>
      ∃ rv, e = .returned (.agg #[.int .i64 4, .int .i64 (asn : Int), .int .i64 (hold : Int), .int .u32 (id : Int), rv]) ∧ Cps w' rv fl ∧ Kept Nothing w w' :=
  law_of ⟨4, asn, hold, id, fl⟩ ⟨by show 4 < 256; decide, hs.1, hs.2.1, hs.2.2.1⟩ v w hv hs.2.2.2
theorem law_like4 (asn hold id : Nat) (fl : List Cp) (hs : small4 asn hold id fl) (v1 v2 : Value) (w : World) (h1 : Cps w v1 fl) (h2 : Cps w v2 fl) :
    Calls Tryd.prog 11 #[.agg #[.int .i64 4, .int .i64 (asn : Int), .int .i64 (hold : Int), .int .u32 (id : Int), v1], .agg #[.int .i64 4, .int .i64 (asn : Int), .int .i64 (hold : Int), .int .u32 (id : Int), v2]] w fun e w' => e = .returned (.bool true) ∧ Kept Nothing w w' :=
  law_like ⟨4, asn, hold, id, fl⟩ v1 v2 w h1 h2 hs.2.2.2
/-- What is laid of an OPEN of version 4: nothing, or what is got as it. -/
theorem put_facts (asn hold id : Nat) (fl : List Cp) (hs : small4 asn hold id fl) :
    ((⟨4, asn, hold, id, fl⟩ : Opn).put.2 = 0 → Opn.get (⟨4, asn, hold, id, fl⟩ : Opn).put.1 = (⟨4, asn, hold, id, fl⟩, 0, 0, []) ∧ (∀ x, Opn.get ((⟨4, asn, hold, id, fl⟩ : Opn).put.1 ++ [x]) = Opn.bad 0) ∧ (∀ k, k < (⟨4, asn, hold, id, fl⟩ : Opn).put.1.length → Opn.get ((⟨4, asn, hold, id, fl⟩ : Opn).put.1.take k) = Opn.bad 0) ∧ 10 ≤ (⟨4, asn, hold, id, fl⟩ : Opn).put.1.length ∧ (⟨4, asn, hold, id, fl⟩ : Opn).put.1.length ≤ 300)
    ∧ ((⟨4, asn, hold, id, fl⟩ : Opn).put.2 ≠ 0 → (⟨4, asn, hold, id, fl⟩ : Opn).put.1 = [] ∧ ((⟨4, asn, hold, id, fl⟩ : Opn).put.2 = 1 ∨ (⟨4, asn, hold, id, fl⟩ : Opn).put.2 = 3)) := by
  by_cases he : (Cp.bytes fl).2 = 0
  · have e : (⟨4, asn, hold, id, fl⟩ : Opn).put.2 = 0 := by rw [Opn.put_lit _ he]
    refine ⟨fun _ => ⟨Opn.get_put ⟨by show 4 < 256; decide, hs.1, hs.2.1, hs.2.2.1⟩ rfl he, fun x => Opn.get_more rfl he x, fun k hk => Opn.get_less rfl he hk, ?_, ?_⟩, fun h => absurd e h⟩
    · rw [Opn.put_len he]; omega
    · rw [Opn.put_len he]
      have := Cp.bytes_short he
      show 10 + (Cp.bytes fl).1.length ≤ 300
      omega
  · have e : (⟨4, asn, hold, id, fl⟩ : Opn).put = ([], (Cp.bytes fl).2) := Opn.put_err he
    rw [e]
    exact ⟨fun h => absurd h he, fun _ => ⟨rfl, (Cp.bytes_no he).2⟩⟩

def kl9 (asn hold id : Nat) (fl : List Cp) (x : List UInt8) (A1 A3 Ax : Option Addr) (c1 c3 cx : Nat) : List (Option Value) := [some (.agg #[.int .u8 0, .int .u8 0]), some (.agg #[.int .u8 0, .int .u8 0]), some (.bool false), some (.bool false), some (.agg #[.int .u8 4, .int .u16 (asn : Int), .int .u16 (hold : Int), .int .u32 (id : Int), .slice A3 fl.length c3]), none, some (.agg #[.int .u8 4, .int .u16 (asn : Int), .int .u16 (hold : Int), .int .u32 (id : Int), .slice A1 fl.length c1]), none, some (.bool true), some (.bool false), some (.bool false), some (.bool false), some (.slice Ax x.length cx), some (.int .i64 x.length), some (.bool false), some (.bool false), some (.bool false), some (.agg #[.int .u8 2, .int .u8 0]), some (.agg #[.int .u8 2, .int .u8 0]), some (.bool false), some (.bool false)]
def ks9 (asn hold id : Nat) (fl : List Cp) : Nat → Value → World → Prop
  | 5, v, w => ∃ rv, v = .agg #[.int .i64 4, .int .i64 (asn : Int), .int .i64 (hold : Int), .int .u32 (id : Int), rv] ∧ Cps w rv fl
  | 7, v, w => ∃ rv, v = .agg #[.int .i64 4, .int .i64 (asn : Int), .int .i64 (hold : Int), .int .u32 (id : Int), rv] ∧ Cps w rv fl
  | _, _, _ => True
theorem ks9_stab (asn hold id : Nat) (fl : List Cp) (k : Nat) (v : Value) (w w' : World) (kk : Kept Nothing w w') (h : ks9 asn hold id fl k v w) : ks9 asn hold id fl k v w' := by
  unfold ks9 at h ⊢
  split at h
  all_goals first
    | (obtain ⟨rv, h1, h2⟩ := h; exact ⟨rv, h1, h2.old kk⟩)
    | trivial
def kl22 (asn hold id : Nat) (fl : List Cp) (d z : List UInt8) (r1 : Nat) (A A3 A5 Az : Option Addr) (c c3 c5 cz : Nat) : List (Option Value) := [some (.agg #[.int .u8 0, .int .u8 0]), some (.agg #[.int .u8 0, .int .u8 0]), some (.bool true), some (.bool true), some (.slice Az z.length cz), some (.int .i64 z.length), some (.slice A d.length c), some (.int .i64 d.length), some (.bool true), some (.bool true), some (.bool true), some (.agg #[.int .u8 4, .int .u16 (asn : Int), .int .u16 (hold : Int), .int .u32 (id : Int), .slice A5 fl.length c5]), none, some (.agg #[.int .u8 4, .int .u16 (asn : Int), .int .u16 (hold : Int), .int .u32 (id : Int), .slice A3 fl.length c3]), none, some (.bool true), some (.bool true), some (.bool true), some (.pointer (some ⟨r1, 0, none⟩)), some (.int .u8 4), some (.bool true), some (.bool true), some (.bool true), some (.bool true), some (.bool true), some (.bool true)]
def ks22 (asn hold id : Nat) (fl : List Cp) : Nat → Value → World → Prop
  | 12, v, w => ∃ rv, v = .agg #[.int .i64 4, .int .i64 (asn : Int), .int .i64 (hold : Int), .int .u32 (id : Int), rv] ∧ Cps w rv fl
  | 14, v, w => ∃ rv, v = .agg #[.int .i64 4, .int .i64 (asn : Int), .int .i64 (hold : Int), .int .u32 (id : Int), rv] ∧ Cps w rv fl
  | _, _, _ => True
theorem ks22_stab (asn hold id : Nat) (fl : List Cp) (k : Nat) (v : Value) (w w' : World) (kk : Kept Nothing w w') (h : ks22 asn hold id fl k v w) : ks22 asn hold id fl k v w' := by
  unfold ks22 at h ⊢
  split at h
  all_goals first
    | (obtain ⟨rv, h1, h2⟩ := h; exact ⟨rv, h1, h2.old kk⟩)
    | trivial
theorem kl9_guards (asn hold id : Nat) (fl : List Cp) (x : List UInt8) (A1 A3 Ax : Option Addr) (c1 c3 cx : Nat) : ∀ y ∈ ([(3, false), (11, false), (16, false)] : List (Nat × Bool)), (kl9 asn hold id fl x A1 A3 Ax c1 c3 cx)[y.1]? = some (some (.bool y.2)) := by
  repeat (first | refine List.forall_mem_cons.2 ⟨by rfl, ?_⟩ | exact List.forall_mem_nil _)
theorem kl22_guards (asn hold id : Nat) (fl : List Cp) (d z : List UInt8) (r1 : Nat) (A A3 A5 Az : Option Addr) (c c3 c5 cz : Nat) : ∀ y ∈ ([(3, true), (10, true), (17, true), (22, true)] : List (Nat × Bool)), (kl22 asn hold id fl d z r1 A A3 A5 Az c c3 c5 cz)[y.1]? = some (some (.bool y.2)) := by
  repeat (first | refine List.forall_mem_cons.2 ⟨by rfl, ?_⟩ | exact List.forall_mem_nil _)

set_option maxRecDepth 20000 in
set_option maxHeartbeats 16000000 in
theorem back_law (o : Opn) (ho : o.fine) (v bv : Value) (b : List UInt8) (ct : Nat) (hct : ct < 256) (W : World) (hv : Cps W v o.caps) (hb : By W bv b) (hr : RdC W) :
    Calls Tryd.prog 5 #[.agg #[.int .u8 (o.ver : Int), .int .u16 (o.asn : Int), .int .u16 (o.hold : Int), .int .u32 (o.id : Int), v], bv, .int .u8 (ct : Int)] W fun e w' => e = .returned (.bool true) ∧ Kept Nothing W w' := by
  obtain ⟨i0, hi, hz0, hz1, hz2⟩ := info_parts u8_info
  obtain ⟨A0, c0, rfl, _, _⟩ := hv.form
  obtain ⟨A, c, rfl, hc, hm⟩ := hb.form
  unfold maxLen at hm
  have KA := (Kept.refl Nothing W).alloc (.cells #[.int .u8 (o.ver : Int), .int .u16 (o.asn : Int), .int .u16 (o.hold : Int), .int .u32 (o.id : Int), .slice A0 o.caps.length c0] 28)
  have HF := Lib.hid (law_few_off (Only W.heap.size) o _ _ ((hv.offo (P := Only W.heap.size) (fun k (e : k = W.heap.size) => by omega)).old KA) (fun k (e : k = W.heap.size) => by rw [World.size_alloc]; omega))
  have B0 := Lib.hid (Blk.fresh W 28 #[.int .u8 (o.ver : Int), .int .u16 (o.asn : Int), .int .u16 (o.hold : Int), .int .u32 (o.id : Int), .slice A0 o.caps.length c0])
  have K0 := Lib.hid KA
  have RW := Lib.hid hr
  have BW := Lib.hid hb
  have hfl : (few6 o.caps).length ≤ 1000000 := by have := few6_len o.caps; omega
  obtain ⟨f0, f1, f2, f3⟩ := ho
  obtain ⟨ver, asn, hold, id, caps⟩ := o
  simp only at f0 f1 f2 f3 HF B0 K0 hfl
  have HN : Hid (small4 asn hold id (few6 caps)) := Lib.hid ⟨f1, f2, f3, hfl⟩
  generalize few6 caps = fl at *
  clear hv hb hr KA f0
  go_enter Tryd.func5, Tryd.ntmps5
  go_wp2_with fail
  refine HF.out.mono ?_
  rintro e w1 ⟨rv, rfl, hc1, hk1⟩
  obtain ⟨A1, c1, rfl, _, _⟩ := hc1.form
  have b1 := B0.out.kept hk1 (fun x => x)
  obtain ⟨⟨a0, a1, a2, a3, a4⟩, a5, a6, a7, a8, a9⟩ := full5 b1
  have l1 := b1.lt
  have C1 := Lib.hid hc1
  have KB := Lib.hid (K0.out.trans hk1)
  have BB := Lib.hid b1
  clear hc1 hk1 b1 B0 K0 HF
  go_upto_region 3 with fail
  have k2 : Kept (Only W.heap.size) w1 ((((((w1.setCell ⟨W.heap.size, 0, none⟩ (.int .u8 (ver : Int))).setCell ⟨W.heap.size, 1, none⟩ (.int .u16 (asn : Int))).setCell ⟨W.heap.size, 2, none⟩ (.int .u16 (hold : Int))).setCell ⟨W.heap.size, 3, none⟩ (.int .u32 (id : Int))).setCell ⟨W.heap.size, 4, none⟩ (.slice A1 fl.length c1)).setCell ⟨W.heap.size, 0, none⟩ (.int .u8 4)) := (kept_5 _ _ _ _ _).trans (Kept.own _ W.heap.size 0 _)
  have x0 : Blk ((((((w1.setCell ⟨W.heap.size, 0, none⟩ (.int .u8 (ver : Int))).setCell ⟨W.heap.size, 1, none⟩ (.int .u16 (asn : Int))).setCell ⟨W.heap.size, 2, none⟩ (.int .u16 (hold : Int))).setCell ⟨W.heap.size, 3, none⟩ (.int .u32 (id : Int))).setCell ⟨W.heap.size, 4, none⟩ (.slice A1 fl.length c1)).setCell ⟨W.heap.size, 0, none⟩ (.int .u8 4)) W.heap.size 28 #[.int .u8 4, .int .u16 (asn : Int), .int .u16 (hold : Int), .int .u32 (id : Int), .slice A1 fl.length c1] := (((((BB.out.put 0 _).put 1 _).put 2 _).put 3 _).put 4 _).put 0 _
  have X0 := Lib.hid x0
  have K2 := Lib.hid (KB.out.late k2 (fun i (e : i = W.heap.size) => by omega))
  have D1 := Lib.hid (C1.out.off k2).cps
  generalize ((((((w1.setCell ⟨W.heap.size, 0, none⟩ (.int .u8 (ver : Int))).setCell ⟨W.heap.size, 1, none⟩ (.int .u16 (asn : Int))).setCell ⟨W.heap.size, 2, none⟩ (.int .u16 (hold : Int))).setCell ⟨W.heap.size, 3, none⟩ (.int .u32 (id : Int))).setCell ⟨W.heap.size, 4, none⟩ (.slice A1 fl.length c1)).setCell ⟨W.heap.size, 0, none⟩ (.int .u8 4)) = w2 at *
  generalize W.heap.size = p0 at *
  clear x0 k2 C1 KB BB a0 a1 a2 a3 a4 a5 a6 a7 a8 a9 l1
  obtain ⟨h0, h1⟩ := put_facts asn hold id fl HN.out
  have HPut := Lib.hid (op_put4 asn hold id fl HN.out _ w2 D1.out)
  have HP0 := Lib.hid h0
  have HP1 := Lib.hid h1
  clear h0 h1
  generalize (⟨4, asn, hold, id, fl⟩ : Opn).put = X at *
  obtain ⟨x, e⟩ := X
  simp only at HPut HP0 HP1
  obtain ⟨⟨m0, m1, m2, m3, m4⟩, -⟩ := full5 X0.out
  go_wp2_with fail
  refine HPut.out.mono ?_
  rintro _ w3 ⟨xv, rfl, hx, hk⟩
  obtain ⟨Ax, cx, rfl, hcx, hmx⟩ := hx.form
  unfold maxLen at hmx
  have K3 := Lib.hid (K2.out.trans hk)
  have D3 := Lib.hid (D1.out.old hk)
  have Z3 := Lib.hid (X0.out.kept hk (fun x => x))
  have B3 := Lib.hid hx
  clear hx hk K2 D1 X0 HPut m0 m1 m2 m3 m4
  go_upto_if 35 with fail
  go_cut [] (fun wx => Kept Nothing W wx)
  case first =>
    by_cases he : e = 0
    · subst he
      obtain ⟨g0, g1, g2, g3, g4⟩ := HP0.out rfl
      have G0 := Lib.hid g0
      obtain ⟨y, HY⟩ : ∃ y, Hid (x ++ [0] = y) := ⟨_, Lib.hid rfl⟩
      have G1 := Lib.hid (g1 0)
      rw [HY.out] at G1
      have hyl : y.length = x.length + 1 := by rw [← HY.out, List.length_append]; rfl
      have HYL := Lib.hid hyl
      clear hyl
      have G2 := Lib.hid g2
      clear g0 g1 g2 HP0 HP1
      go_wp2_with fail
      refine (get_ok4 asn hold id fl _ x _ G0.out B3.out.by (by omega)).mono ?_
      rintro _ w4 ⟨A3, c3, Ad, nd, cd, rfl, hc3, hk3⟩
      have k4 := ((Kept.refl Nothing w4).alloc (.cells #[.int .u8 4, .int .u16 (asn : Int), .int .u16 (hold : Int), .int .u32 (id : Int), .slice A3 fl.length c3] 28)).alloc (.cells #[.int .u8 0, .int .u8 0] 30)
      have x1 := (Blk.fresh w4 28 #[.int .u8 4, .int .u16 (asn : Int), .int .u16 (hold : Int), .int .u32 (id : Int), .slice A3 fl.length c3]).alloc (.cells #[.int .u8 0, .int .u8 0] 30)
      have x2 := Blk.fresh (w4.alloc (.cells #[.int .u8 4, .int .u16 (asn : Int), .int .u16 (hold : Int), .int .u32 (id : Int), .slice A3 fl.length c3] 28)) 30 #[.int .u8 0, .int .u8 0]
      rw [World.size_alloc] at x2
      have X1' := Lib.hid x1
      have X2' := Lib.hid x2
      have C3' := Lib.hid (hc3.old k4)
      have D4 := Lib.hid ((D3.out.old hk3).old k4)
      have Z4 := Lib.hid ((Z3.out.kept hk3 (fun x => x)).kept k4 (fun x => x))
      have B4 := Lib.hid ((B3.out.kept hk3 (NoBytes.nothing _)).kept k4 (NoBytes.nothing _))
      have K4 := Lib.hid ((K3.out.trans hk3).trans k4)
      have S4 := Lib.hid B4.out.src
      clear hc3 hk3 k4 x1 x2 D3 Z3 B3 K3
      go_upto_region 8 with fail
      generalize (w4.alloc (.cells #[.int .u8 4, .int .u16 (asn : Int), .int .u16 (hold : Int), .int .u32 (id : Int), .slice A3 fl.length c3] 28)).alloc (.cells #[.int .u8 0, .int .u8 0] 30) = w5 at *
      obtain ⟨q2, hq2⟩ : ∃ q2, w4.heap.size + 1 = q2 := ⟨_, rfl⟩
      rw [hq2] at X2'
      rw [hq2]
      clear hq2
      generalize w4.heap.size = q1 at *
      go_wp2_with (first
        | (at_builtin; refine wpList_app _ rfl (.const (.slice none 0 0)) (.tmp 54) 22 rfl w5.heap.size 5 i0 _ 1 1 Tryd.underlying22 hi hz0 hz1 hz2 rfl (by decide) (.slice none 0 0) 0 [] rfl (World.ownsRow_nil _ _ _ _) Ax x.length cx (bys x) rfl S4.out (by unfold maxLen; omega) (by omega) (Nat.le_refl _) ?_; intro v6 w6 ho6 hg6 hat6; have O6 := Lib.hid (own_bys (l := x) ho6 (by simp) (by simp)); have K6 := Lib.hid ((Kept.refl Nothing w5).grown hg6 (fun k hk hlt => by cases hk)); obtain ⟨A6, c6, rfl, _, _⟩ := ow_form O6.out; clear ho6 hg6 hat6)
        | (at_builtin; refine wpList_app _ rfl (.tmp 55) (.tmp 56) 22 rfl w5.heap.size 5 i0 _ 1 1 Tryd.underlying22 hi hz0 hz1 hz2 rfl (by decide) (.slice A6 x.length c6) x.length (bys x) rfl (ow_kept O6.out ((Kept.refl Nothing w6).alloc _) (fun _ _ x => x)) (some ⟨w6.heap.size, 0, none⟩) 1 1 [.int .u8 0] rfl (src_new w6 _ #[.int .u8 0] 1 1 rfl (by simp [Value.oneCell'])) (by unfold maxLen; omega) (by omega) (Nat.le_trans K6.out.size (by simp)) ?_; intro v7 w7 ho7 hg7 hat7; have O7 := Lib.hid (own_bys (l := y) ho7 HYL.out.symm (by rw [← HY.out]; simp [bys, by8])); have K7 := Lib.hid ((K6.out.alloc _).grown hg7 (fun k hk hlt => by have := (O6.out.lt k hk).1; omega)); obtain ⟨A7, c7, rfl, _, _⟩ := ow_form O7.out; clear ho7 hg7 hat7))
      refine (get_bad0 _ y w7 G1.out (Bs.of_own O7.out).by (by have := HYL.out; omega)).mono ?_
      rintro _ w8 ⟨A8, c8, Ae, ne, ce, rfl, hk8⟩
      have k9 := ((Kept.refl Nothing w8).alloc (.cells #[.int .u8 0, .int .u16 0, .int .u16 0, .int .u32 0, .slice A8 0 c8] 28)).alloc (.cells #[.int .u8 2, .int .u8 0] 30)
      have x4 := Blk.fresh (w8.alloc (.cells #[.int .u8 0, .int .u16 0, .int .u16 0, .int .u32 0, .slice A8 0 c8] 28)) 30 #[.int .u8 2, .int .u8 0]
      rw [World.size_alloc] at x4
      have X4' := Lib.hid x4
      have ka := (K7.out.trans hk8).trans k9
      have X0 := Lib.hid (Z4.out.kept ka (fun x => x))
      have X1 := Lib.hid (X1'.out.kept ka (fun x => x))
      have X2 := Lib.hid (X2'.out.kept ka (fun x => x))
      have C3 := Lib.hid (C3'.out.old ka)
      have C1 := Lib.hid (D4.out.old ka)
      have B5 := Lib.hid (B4.out.kept ka (NoBytes.nothing _))
      have K9 := Lib.hid (K4.out.trans ka)
      clear x4 k9 ka hk8 K7 K6 O6 O7 Z4 X1' X2' C3' D4 B4 K4 S4
      go_upto_region 9 with fail
      generalize (w8.alloc (.cells #[.int .u8 0, .int .u16 0, .int .u16 0, .int .u32 0, .slice A8 0 c8] 28)).alloc (.cells #[.int .u8 2, .int .u8 0] 30) = w9 at *
      obtain ⟨q4, hq4⟩ : ∃ q4, w8.heap.size + 1 = q4 := ⟨_, rfl⟩
      rw [hq4] at X4'
      rw [hq4]
      clear hq4
      have X4 := X4'
      clear X4'
      generalize w8.heap.size = q3 at *
      have h10 : ¬ ((x.length : Int) < 10) := by omega
      refine wp_region_grow w9 (Facts (kl9 asn hold id fl x A1 A3 Ax c1 c3 cx) (ks9 asn hold id fl)) (by kernel_rfl) (by decide +kernel) (by intro d hd; simp [dsts] at hd ⊢; omega) (ready_nil (by kernel_rfl)) (by kernel_rfl) (Facts.guards (E := [(3, false), (11, false), (16, false)]) (by kernel_rfl) (kl9_guards asn hold id fl x A1 A3 Ax c1 c3 cx)) (Facts.stab (ks9_stab asn hold id fl)) (Kept.refl Nothing w9).drew ?_ ?_
      · refine OweAll.cons ?_ ?_
        · intro u a hk hf hfar
          have v10 : a.tmps.getD 10 undef = .pointer (some ⟨q2, 0, none⟩) := hfar 10 (by decide)
          have w10 := v10
          rw [Array.getD_eq_getD_getElem?] at w10
          obtain ⟨⟨q0, q1⟩, -⟩ := full2 (X2.out.kept hk (fun x => x))
          clear hf hfar
          go_simp
          exact ⟨_, rfl, Kept.refl _ _, rfl⟩
        refine OweAll.cons ?_ ?_
        · intro u a hk hf hfar
          clear hf hfar
          go_simp
          exact ⟨_, rfl, Kept.refl _ _, rfl⟩
        refine OweAll.cons ?_ ?_
        · intro u a hk hf hfar
          have v62 : a.tmps.getD 62 undef = .agg #[.int .u8 0, .int .u8 0] := hf 0 _ 62 rfl rfl ⟨⟨0, .data⟩, Array.mem_of_getElem? (i := 0) rfl, rfl, rfl⟩
          have w62 := v62
          rw [Array.getD_eq_getD_getElem?] at w62
          have v63 : a.tmps.getD 63 undef = .agg #[.int .u8 0, .int .u8 0] := hf 1 _ 63 rfl rfl ⟨⟨1, .data⟩, Array.mem_of_getElem? (i := 1) rfl, rfl, rfl⟩
          have w63 := v63
          rw [Array.getD_eq_getD_getElem?] at w63
          clear hf hfar
          go_simp
          exact ⟨_, rfl, Kept.refl _ _, rfl⟩
        refine OweAll.cons ?_ ?_
        · intro u a hk hf hfar
          have v64 : a.tmps.getD 64 undef = .bool false := hf 2 _ 64 rfl rfl ⟨⟨2, .data⟩, Array.mem_of_getElem? (i := 0) rfl, rfl, rfl⟩
          have w64 := v64
          rw [Array.getD_eq_getD_getElem?] at w64
          clear hf hfar
          go_simp
          exact ⟨_, rfl, Kept.refl _ _, rfl⟩
        refine OweAll.cons ?_ ?_
        · intro u a hk hf hfar
          have v9 : a.tmps.getD 9 undef = .pointer (some ⟨q1, 0, none⟩) := hfar 9 (by decide)
          have w9 := v9
          rw [Array.getD_eq_getD_getElem?] at w9
          obtain ⟨⟨q0, q1, q2, q3, q4⟩, -⟩ := full5 (X1.out.kept hk (fun x => x))
          clear hf hfar
          go_simp
          exact ⟨_, rfl, Kept.refl _ _, rfl⟩
        refine OweAll.cons ?_ ?_
        · intro u a hk hf hfar
          have v66 : a.tmps.getD 66 undef = .agg #[.int .u8 4, .int .u16 (asn : Int), .int .u16 (hold : Int), .int .u32 (id : Int), .slice A3 fl.length c3] := hf 4 _ 66 rfl rfl ⟨⟨4, .data⟩, Array.mem_of_getElem? (i := 0) rfl, rfl, rfl⟩
          have w66 := v66
          rw [Array.getD_eq_getD_getElem?] at w66
          clear hf hfar
          go_simp
          refine (law_of4 asn hold id fl HN.out _ _ (C3.out.old hk)).mono ?_
          rintro e u' ⟨rv, rfl, hc, hk'⟩
          have hz : ∃ r, (.agg #[.int .i64 4, .int .i64 (asn : Int), .int .i64 (hold : Int), .int .u32 (id : Int), rv] : Value) = .agg #[.int .i64 4, .int .i64 (asn : Int), .int .i64 (hold : Int), .int .u32 (id : Int), r] ∧ Cps u' r fl := ⟨_, rfl, hc⟩
          exact ⟨_, rfl, hk', hz⟩
        refine OweAll.cons ?_ ?_
        · intro u a hk hf hfar
          have v3 : a.tmps.getD 3 undef = .pointer (some ⟨p0, 0, none⟩) := hfar 3 (by decide)
          have w3 := v3
          rw [Array.getD_eq_getD_getElem?] at w3
          obtain ⟨⟨q0, q1, q2, q3, q4⟩, -⟩ := full5 (X0.out.kept hk (fun x => x))
          clear hf hfar
          go_simp
          exact ⟨_, rfl, Kept.refl _ _, rfl⟩
        refine OweAll.cons ?_ ?_
        · intro u a hk hf hfar
          have v68 : a.tmps.getD 68 undef = .agg #[.int .u8 4, .int .u16 (asn : Int), .int .u16 (hold : Int), .int .u32 (id : Int), .slice A1 fl.length c1] := hf 6 _ 68 rfl rfl ⟨⟨6, .data⟩, Array.mem_of_getElem? (i := 0) rfl, rfl, rfl⟩
          have w68 := v68
          rw [Array.getD_eq_getD_getElem?] at w68
          clear hf hfar
          go_simp
          refine (law_of4 asn hold id fl HN.out _ _ (C1.out.old hk)).mono ?_
          rintro e u' ⟨rv, rfl, hc, hk'⟩
          have hz : ∃ r, (.agg #[.int .i64 4, .int .i64 (asn : Int), .int .i64 (hold : Int), .int .u32 (id : Int), rv] : Value) = .agg #[.int .i64 4, .int .i64 (asn : Int), .int .i64 (hold : Int), .int .u32 (id : Int), r] ∧ Cps u' r fl := ⟨_, rfl, hc⟩
          exact ⟨_, rfl, hk', hz⟩
        refine OweAll.cons ?_ ?_
        · intro u a hk hf hfar
          have z67 : ∃ rv, (a.tmps.getD 67 undef) = .agg #[.int .i64 4, .int .i64 (asn : Int), .int .i64 (hold : Int), .int .u32 (id : Int), rv] ∧ Cps u rv fl := hf 5 _ 67 rfl rfl ⟨⟨5, .data⟩, Array.mem_of_getElem? (i := 0) rfl, rfl, rfl⟩
          obtain ⟨rv67, v67, hrv67⟩ := z67
          obtain ⟨Av67, cv67, rfl, _, _⟩ := hrv67.form
          have w67 := v67
          rw [Array.getD_eq_getD_getElem?] at w67
          have z69 : ∃ rv, (a.tmps.getD 69 undef) = .agg #[.int .i64 4, .int .i64 (asn : Int), .int .i64 (hold : Int), .int .u32 (id : Int), rv] ∧ Cps u rv fl := hf 7 _ 69 rfl rfl ⟨⟨7, .data⟩, Array.mem_of_getElem? (i := 1) rfl, rfl, rfl⟩
          obtain ⟨rv69, v69, hrv69⟩ := z69
          obtain ⟨Av69, cv69, rfl, _, _⟩ := hrv69.form
          have w69 := v69
          rw [Array.getD_eq_getD_getElem?] at w69
          clear hf hfar
          go_simp
          refine (law_like4 asn hold id fl HN.out _ _ _ hrv67 hrv69).mono ?_
          rintro e u' ⟨rfl, hk'⟩
          exact ⟨_, rfl, hk', rfl⟩
        refine OweAll.cons ?_ ?_
        · intro u a hk hf hfar
          have v70 : a.tmps.getD 70 undef = .bool true := hf 8 _ 70 rfl rfl ⟨⟨8, .data⟩, Array.mem_of_getElem? (i := 0) rfl, rfl, rfl⟩
          have w70 := v70
          rw [Array.getD_eq_getD_getElem?] at w70
          clear hf hfar
          go_simp
          exact ⟨_, rfl, Kept.refl _ _, rfl⟩
        refine OweAll.cons ?_ ?_
        · intro u a hk hf hfar
          have v65 : a.tmps.getD 65 undef = .bool false := hf 3 _ 65 rfl rfl ⟨⟨3, .data⟩, Array.mem_of_getElem? (i := 0) rfl, rfl, rfl⟩
          have w65 := v65
          rw [Array.getD_eq_getD_getElem?] at w65
          have v71 : a.tmps.getD 71 undef = .bool false := hf 9 _ 71 rfl rfl ⟨⟨9, .data⟩, Array.mem_of_getElem? (i := 1) rfl, rfl, rfl⟩
          have w71 := v71
          rw [Array.getD_eq_getD_getElem?] at w71
          clear hf hfar
          go_simp
          exact ⟨_, rfl, Kept.refl _ _, rfl⟩
        refine OweAll.cons ?_ ?_
        · intro u a hk hf hfar
          have v72 : a.tmps.getD 72 undef = .bool false := hf 10 _ 72 rfl rfl ⟨⟨10, .data⟩, Array.mem_of_getElem? (i := 0) rfl, rfl, rfl⟩
          have w72 := v72
          rw [Array.getD_eq_getD_getElem?] at w72
          clear hf hfar
          go_simp
          exact ⟨_, rfl, Kept.refl _ _, rfl⟩
        refine OweAll.cons ?_ ?_
        · intro u a hk hf hfar
          have v7 : a.tmps.getD 7 undef = .slice Ax x.length cx := hfar 7 (by decide)
          have w7 := v7
          rw [Array.getD_eq_getD_getElem?] at w7
          clear hf hfar
          go_simp
          exact ⟨_, rfl, Kept.refl _ _, rfl⟩
        refine OweAll.cons ?_ ?_
        · intro u a hk hf hfar
          have v74 : a.tmps.getD 74 undef = .slice Ax x.length cx := hf 12 _ 74 rfl rfl ⟨⟨12, .data⟩, Array.mem_of_getElem? (i := 0) rfl, rfl, rfl⟩
          have w74 := v74
          rw [Array.getD_eq_getD_getElem?] at w74
          clear hf hfar
          go_simp
          exact ⟨_, rfl, Kept.refl _ _, rfl⟩
        refine OweAll.cons ?_ ?_
        · intro u a hk hf hfar
          have v75 : a.tmps.getD 75 undef = .int .i64 x.length := hf 13 _ 75 rfl rfl ⟨⟨13, .data⟩, Array.mem_of_getElem? (i := 0) rfl, rfl, rfl⟩
          have w75 := v75
          rw [Array.getD_eq_getD_getElem?] at w75
          clear hf hfar
          go_simp
          exact ⟨_, rfl, Kept.refl _ _, rfl⟩
        refine OweAll.cons ?_ ?_
        · intro u a hk hf hfar
          have v73 : a.tmps.getD 73 undef = .bool false := hf 11 _ 73 rfl rfl ⟨⟨11, .data⟩, Array.mem_of_getElem? (i := 0) rfl, rfl, rfl⟩
          have w73 := v73
          rw [Array.getD_eq_getD_getElem?] at w73
          have v76 : a.tmps.getD 76 undef = .bool false := hf 14 _ 76 rfl rfl ⟨⟨14, .data⟩, Array.mem_of_getElem? (i := 1) rfl, rfl, rfl⟩
          have w76 := v76
          rw [Array.getD_eq_getD_getElem?] at w76
          clear hf hfar
          go_simp
          exact ⟨_, rfl, Kept.refl _ _, rfl⟩
        refine OweAll.cons ?_ ?_
        · intro u a hk hf hfar
          have v77 : a.tmps.getD 77 undef = .bool false := hf 15 _ 77 rfl rfl ⟨⟨15, .data⟩, Array.mem_of_getElem? (i := 0) rfl, rfl, rfl⟩
          have w77 := v77
          rw [Array.getD_eq_getD_getElem?] at w77
          clear hf hfar
          go_simp
          exact ⟨_, rfl, Kept.refl _ _, rfl⟩
        refine OweAll.cons ?_ ?_
        · intro u a hk hf hfar
          have v13 : a.tmps.getD 13 undef = .pointer (some ⟨q4, 0, none⟩) := hfar 13 (by decide)
          have w13 := v13
          rw [Array.getD_eq_getD_getElem?] at w13
          obtain ⟨⟨q0, q1⟩, -⟩ := full2 (X4.out.kept hk (fun x => x))
          clear hf hfar
          go_simp
          exact ⟨_, rfl, Kept.refl _ _, rfl⟩
        refine OweAll.cons ?_ ?_
        · intro u a hk hf hfar
          clear hf hfar
          go_simp
          exact ⟨_, rfl, Kept.refl _ _, rfl⟩
        refine OweAll.cons ?_ ?_
        · intro u a hk hf hfar
          have v79 : a.tmps.getD 79 undef = .agg #[.int .u8 2, .int .u8 0] := hf 17 _ 79 rfl rfl ⟨⟨17, .data⟩, Array.mem_of_getElem? (i := 0) rfl, rfl, rfl⟩
          have w79 := v79
          rw [Array.getD_eq_getD_getElem?] at w79
          have v80 : a.tmps.getD 80 undef = .agg #[.int .u8 2, .int .u8 0] := hf 18 _ 80 rfl rfl ⟨⟨18, .data⟩, Array.mem_of_getElem? (i := 1) rfl, rfl, rfl⟩
          have w80 := v80
          rw [Array.getD_eq_getD_getElem?] at w80
          clear hf hfar
          go_simp
          exact ⟨_, rfl, Kept.refl _ _, rfl⟩
        refine OweAll.cons ?_ ?_
        · intro u a hk hf hfar
          have v78 : a.tmps.getD 78 undef = .bool false := hf 16 _ 78 rfl rfl ⟨⟨16, .data⟩, Array.mem_of_getElem? (i := 0) rfl, rfl, rfl⟩
          have w78 := v78
          rw [Array.getD_eq_getD_getElem?] at w78
          have v81 : a.tmps.getD 81 undef = .bool false := hf 19 _ 81 rfl rfl ⟨⟨19, .data⟩, Array.mem_of_getElem? (i := 1) rfl, rfl, rfl⟩
          have w81 := v81
          rw [Array.getD_eq_getD_getElem?] at w81
          clear hf hfar
          go_simp
          exact ⟨_, rfl, Kept.refl _ _, rfl⟩
        exact OweAll.nil
      · intro vals u hku hV
        have e82 : vals 20 = .bool false := hV 20 _ 82 rfl rfl
        have KU := Lib.hid (K9.out.trans hku)
        have BU := Lib.hid (B5.out.kept hku (NoBytes.nothing _))
        clear hV hku X0 X1 X2 X4 C1 C3 K9 B5
        simp [putAll, Act.put, Array.setIfInBounds, e82]
        clear e82
        have hxp : 0 < x.length := by omega
        have hkl : ct % x.length < x.length := Nat.mod_lt _ hxp
        have hrem := tmod_n ct x.length
        have hsl := slice_to Ax x.length cx (ct % x.length) (by omega)
        have HB6 := Lib.hid (BU.out.by.pre (m := ct % x.length) (by omega))
        have HG2 := Lib.hid (G2.out _ hkl)
        generalize ct % x.length = k at *
        clear G2 BU
        go_wp2_with fail
        refine (get_bad0 _ (x.take k) _ HG2.out HB6.out (by rw [List.length_take]; omega)).mono ?_
        rintro _ w10 ⟨Aa, ca, Ab, nb, cb, rfl, hka⟩
        have KE := Lib.hid ((((KU.out.trans hka).alloc (.cells #[.int .u8 0, .int .u16 0, .int .u16 0, .int .u32 0, .slice Aa 0 ca] 28)).alloc (.cells #[.int .u8 2, .int .u8 0] 30)))
        clear hka KU
        go_wp2
        go_meet
        exact KE.out
    · obtain ⟨hx0, h13⟩ := HP1.out he
      subst hx0
      clear HP0 HP1
      rcases h13 with rfl | rfl
      all_goals
        go_wp2
        all_goals
          go_meet
          exact K3.out
  case rest =>
    have hkw : Kept Nothing W wc := hcut
    clear hcut D3 Z3 B3 K3 HP0 HP1 HN
    have hmin : (if (300 : Int) < (b.length : Int) then (300 : Int) else (b.length : Int)) = ((min b.length 300 : Nat) : Int) := by split <;> omega
    have hsl := slice_to A b.length c (min b.length 300) (by omega)
    have hp := BW.out.pre (m := min b.length 300) (by omega)
    have hlen : (b.take (min b.length 300)).length = min b.length 300 := by rw [List.length_take]; omega
    have hml : min b.length 300 ≤ 300 := by omega
    have hmc : min b.length 300 ≤ c := by omega
    generalize b.take (min b.length 300) = d at *
    generalize min b.length 300 = m at *
    subst hlen
    have HD := Lib.hid (hp.old hkw)
    have HK := Lib.hid hkw
    have RW0 := Lib.hid RW.out
    clear hp hkw BW RW
    by_cases hcd : (Opn.get d).2.1 = 0
    · obtain ⟨hg2, hgv, hgl, hgd⟩ := Opn.get_ok hcd
      obtain ⟨hff, hfl2, _, _⟩ := get_fine d
      obtain ⟨q, hq⟩ : ∃ q, Opn.get d = q := ⟨_, rfl⟩
      rw [hq] at hcd hg2 hgv hgl hgd hff hfl2
      obtain ⟨⟨ver, asn, hold, id, fl⟩, cc, ss, dd⟩ := q
      simp only at hcd hg2 hgv hgl hgd hff hfl2
      subst hcd hg2 hgv hgd
      have HG := Lib.hid hq
      have HN : Hid (small4 asn hold id fl) := Lib.hid ⟨hff.2.1, hff.2.2.1, hff.2.2.2, by omega⟩
      have HGL := Lib.hid hgl
      clear hq hff hfl2 hgl
      go_wp2_with fail
      refine (get_ok4 asn hold id fl _ d _ HG.out HD.out (by omega)).mono ?_
      rintro _ w3 ⟨A3, c3, Ad, nd, cd, rfl, hc3, hk3⟩
      have k4 := ((Kept.refl Nothing w3).alloc (.cells #[.int .u8 4, .int .u16 (asn : Int), .int .u16 (hold : Int), .int .u32 (id : Int), .slice A3 fl.length c3] 28)).alloc (.cells #[.int .u8 0, .int .u8 0] 30)
      have x1 := (Blk.fresh w3 28 #[.int .u8 4, .int .u16 (asn : Int), .int .u16 (hold : Int), .int .u32 (id : Int), .slice A3 fl.length c3]).alloc (.cells #[.int .u8 0, .int .u8 0] 30)
      have x2 := Blk.fresh (w3.alloc (.cells #[.int .u8 4, .int .u16 (asn : Int), .int .u16 (hold : Int), .int .u32 (id : Int), .slice A3 fl.length c3] 28)) 30 #[.int .u8 0, .int .u8 0]
      rw [World.size_alloc] at x2
      have X1' := Lib.hid x1
      have D4 := Lib.hid (hc3.old k4)
      have K4 := Lib.hid ((HK.out.trans hk3).trans k4)
      have X2' := Lib.hid x2
      clear hc3 hk3 k4 x1 x2
      go_upto_region 16 with fail
      generalize (w3.alloc (.cells #[.int .u8 4, .int .u16 (asn : Int), .int .u16 (hold : Int), .int .u32 (id : Int), .slice A3 fl.length c3] 28)).alloc (.cells #[.int .u8 0, .int .u8 0] 30) = w4 at *
      obtain ⟨r2, hr2⟩ : ∃ r2, w3.heap.size + 1 = r2 := ⟨_, rfl⟩
      rw [hr2] at X2'
      rw [hr2]
      clear hr2
      generalize w3.heap.size = r1 at *
      obtain ⟨⟨m0, m1, m2, m3, m4⟩, -⟩ := full5 X1'.out
      obtain ⟨⟨n0, n1⟩, -⟩ := full2 X2'.out
      obtain ⟨h0, h1⟩ := put_facts asn hold id fl HN.out
      have HPut := Lib.hid (op_put4 asn hold id fl HN.out _ w4 D4.out)
      have HP0 := Lib.hid h0
      have HP1 := Lib.hid h1
      have HSND := Lib.hid (Opn.put_snd ⟨4, asn, hold, id, fl⟩)
      clear h0 h1
      generalize (⟨4, asn, hold, id, fl⟩ : Opn).put = X at *
      obtain ⟨z, e⟩ := X
      simp only at HPut HP0 HP1 HSND HGL
      go_wp2_with fail
      refine HPut.out.mono ?_
      rintro _ w5 ⟨zv, rfl, hz, hk⟩
      obtain ⟨Az, cz, rfl, hcz, hmz⟩ := hz.form
      have K5 := Lib.hid (K4.out.trans hk)
      have D5 := Lib.hid (D4.out.old hk)
      have Y5 := Lib.hid (X1'.out.kept hk (fun x => x))
      have B5 := Lib.hid hz
      obtain ⟨⟨o0, o1, o2, o3, o4⟩, -⟩ := full5 Y5.out
      clear hz hk K4 D4 X1' X2' HPut m0 m1 m2 m3 m4 n0 n1
      by_cases he : e = 0
      · subst he
        obtain ⟨g0, -, -, g3, g4⟩ := HP0.out rfl
        have hle : (z.length : Int) ≤ (d.length : Int) := by
          have := HGL.out HSND.out.symm
          omega
        have G0 := Lib.hid g0
        clear g0 HP0 HP1 HGL HSND o0 o1 o2 o3 o4
        go_wp2_with fail
        refine (get_ok4 asn hold id fl _ z _ G0.out B5.out.by (by omega)).mono ?_
        rintro _ w6 ⟨A5, c5, Ae, ne, ce, rfl, hc5, hk6⟩
        have k7 := ((Kept.refl Nothing w6).alloc (.cells #[.int .u8 4, .int .u16 (asn : Int), .int .u16 (hold : Int), .int .u32 (id : Int), .slice A5 fl.length c5] 28)).alloc (.cells #[.int .u8 0, .int .u8 0] 30)
        have X3 := Lib.hid ((Blk.fresh w6 28 #[.int .u8 4, .int .u16 (asn : Int), .int .u16 (hold : Int), .int .u32 (id : Int), .slice A5 fl.length c5]).alloc (.cells #[.int .u8 0, .int .u8 0] 30))
        have x4 := Blk.fresh (w6.alloc (.cells #[.int .u8 4, .int .u16 (asn : Int), .int .u16 (hold : Int), .int .u32 (id : Int), .slice A5 fl.length c5] 28)) 30 #[.int .u8 0, .int .u8 0]
        rw [World.size_alloc] at x4
        have C5 := Lib.hid (hc5.old k7)
        have C3 := Lib.hid ((D5.out.old hk6).old k7)
        have X1 := Lib.hid ((Y5.out.kept hk6 (fun x => x)).kept k7 (fun x => x))
        have TW := Lib.hid ((K5.out.trans hk6).trans k7)
        have RD := Lib.hid (RW0.out.kept TW.out)
        have X4' := Lib.hid x4
        clear hc5 hk6 k7 x4 D5 Y5 B5 K5
        go_upto_region 22 with fail
        generalize (w6.alloc (.cells #[.int .u8 4, .int .u16 (asn : Int), .int .u16 (hold : Int), .int .u32 (id : Int), .slice A5 fl.length c5] 28)).alloc (.cells #[.int .u8 0, .int .u8 0] 30) = w9 at *
        obtain ⟨s2, hs2⟩ : ∃ s2, w6.heap.size + 1 = s2 := ⟨_, rfl⟩
        rw [hs2] at X4'
        rw [hs2]
        clear hs2
        have X4 := X4'
        clear X4'
        generalize w6.heap.size = s1 at *
        refine wp_region_grow1 w9 (Facts (kl22 asn hold id fl d z r1 A A3 A5 Az c c3 c5 cz) (ks22 asn hold id fl)) 25 6 (by rfl) (by kernel_rfl) (by decide +kernel) (by intro d hd; simp [dsts] at hd ⊢; omega) (ready_nil (by kernel_rfl)) (by kernel_rfl) (Facts.guards (E := [(3, true), (10, true), (17, true), (22, true)]) (by kernel_rfl) (kl22_guards asn hold id fl d z r1 A A3 A5 Az c c3 c5 cz)) (Facts.stab (ks22_stab asn hold id fl)) (Kept.refl Nothing w9).drew ?_ ?_
        · refine OweAll.cons ?_ ?_
          · intro u a hk hf hfar
            have v24 : a.tmps.getD 24 undef = .pointer (some ⟨s2, 0, none⟩) := hfar 24 (by decide)
            have w24 := v24
            rw [Array.getD_eq_getD_getElem?] at w24
            obtain ⟨⟨q0, q1⟩, -⟩ := full2 (X4.out.kept hk (fun x => x))
            clear hf hfar
            go_simp
            exact ⟨_, rfl, Kept.refl _ _, rfl⟩
          refine OweAll.cons ?_ ?_
          · intro u a hk hf hfar
            clear hf hfar
            go_simp
            exact ⟨_, rfl, Kept.refl _ _, rfl⟩
          refine OweAll.cons ?_ ?_
          · intro u a hk hf hfar
            have v158 : a.tmps.getD 158 undef = .agg #[.int .u8 0, .int .u8 0] := hf 0 _ 158 rfl rfl ⟨⟨0, .data⟩, Array.mem_of_getElem? (i := 0) rfl, rfl, rfl⟩
            have w158 := v158
            rw [Array.getD_eq_getD_getElem?] at w158
            have v159 : a.tmps.getD 159 undef = .agg #[.int .u8 0, .int .u8 0] := hf 1 _ 159 rfl rfl ⟨⟨1, .data⟩, Array.mem_of_getElem? (i := 1) rfl, rfl, rfl⟩
            have w159 := v159
            rw [Array.getD_eq_getD_getElem?] at w159
            clear hf hfar
            go_simp
            exact ⟨_, rfl, Kept.refl _ _, rfl⟩
          refine OweAll.cons ?_ ?_
          · intro u a hk hf hfar
            have v160 : a.tmps.getD 160 undef = .bool true := hf 2 _ 160 rfl rfl ⟨⟨2, .data⟩, Array.mem_of_getElem? (i := 0) rfl, rfl, rfl⟩
            have w160 := v160
            rw [Array.getD_eq_getD_getElem?] at w160
            clear hf hfar
            go_simp
            exact ⟨_, rfl, Kept.refl _ _, rfl⟩
          refine OweAll.cons ?_ ?_
          · intro u a hk hf hfar
            have v21 : a.tmps.getD 21 undef = .slice Az z.length cz := hfar 21 (by decide)
            have w21 := v21
            rw [Array.getD_eq_getD_getElem?] at w21
            clear hf hfar
            go_simp
            exact ⟨_, rfl, Kept.refl _ _, rfl⟩
          refine OweAll.cons ?_ ?_
          · intro u a hk hf hfar
            have v162 : a.tmps.getD 162 undef = .slice Az z.length cz := hf 4 _ 162 rfl rfl ⟨⟨4, .data⟩, Array.mem_of_getElem? (i := 0) rfl, rfl, rfl⟩
            have w162 := v162
            rw [Array.getD_eq_getD_getElem?] at w162
            clear hf hfar
            go_simp
            exact ⟨_, rfl, Kept.refl _ _, rfl⟩
          refine OweAll.cons ?_ ?_
          · intro u a hk hf hfar
            have v1 : a.tmps.getD 1 undef = .slice A d.length c := hfar 1 (by decide)
            have w1 := v1
            rw [Array.getD_eq_getD_getElem?] at w1
            clear hf hfar
            go_simp
            exact ⟨_, rfl, Kept.refl _ _, rfl⟩
          refine OweAll.cons ?_ ?_
          · intro u a hk hf hfar
            have v164 : a.tmps.getD 164 undef = .slice A d.length c := hf 6 _ 164 rfl rfl ⟨⟨6, .data⟩, Array.mem_of_getElem? (i := 0) rfl, rfl, rfl⟩
            have w164 := v164
            rw [Array.getD_eq_getD_getElem?] at w164
            clear hf hfar
            go_simp
            exact ⟨_, rfl, Kept.refl _ _, rfl⟩
          refine OweAll.cons ?_ ?_
          · intro u a hk hf hfar
            have v163 : a.tmps.getD 163 undef = .int .i64 z.length := hf 5 _ 163 rfl rfl ⟨⟨5, .data⟩, Array.mem_of_getElem? (i := 0) rfl, rfl, rfl⟩
            have w163 := v163
            rw [Array.getD_eq_getD_getElem?] at w163
            have v165 : a.tmps.getD 165 undef = .int .i64 d.length := hf 7 _ 165 rfl rfl ⟨⟨7, .data⟩, Array.mem_of_getElem? (i := 1) rfl, rfl, rfl⟩
            have w165 := v165
            rw [Array.getD_eq_getD_getElem?] at w165
            clear hf hfar
            go_simp
            exact ⟨_, rfl, Kept.refl _ _, rfl⟩
          refine OweAll.cons ?_ ?_
          · intro u a hk hf hfar
            have v161 : a.tmps.getD 161 undef = .bool true := hf 3 _ 161 rfl rfl ⟨⟨3, .data⟩, Array.mem_of_getElem? (i := 0) rfl, rfl, rfl⟩
            have w161 := v161
            rw [Array.getD_eq_getD_getElem?] at w161
            have v166 : a.tmps.getD 166 undef = .bool true := hf 8 _ 166 rfl rfl ⟨⟨8, .data⟩, Array.mem_of_getElem? (i := 1) rfl, rfl, rfl⟩
            have w166 := v166
            rw [Array.getD_eq_getD_getElem?] at w166
            clear hf hfar
            go_simp
            exact ⟨_, rfl, Kept.refl _ _, rfl⟩
          refine OweAll.cons ?_ ?_
          · intro u a hk hf hfar
            have v167 : a.tmps.getD 167 undef = .bool true := hf 9 _ 167 rfl rfl ⟨⟨9, .data⟩, Array.mem_of_getElem? (i := 0) rfl, rfl, rfl⟩
            have w167 := v167
            rw [Array.getD_eq_getD_getElem?] at w167
            clear hf hfar
            go_simp
            exact ⟨_, rfl, Kept.refl _ _, rfl⟩
          refine OweAll.cons ?_ ?_
          · intro u a hk hf hfar
            have v23 : a.tmps.getD 23 undef = .pointer (some ⟨s1, 0, none⟩) := hfar 23 (by decide)
            have w23 := v23
            rw [Array.getD_eq_getD_getElem?] at w23
            obtain ⟨⟨q0, q1, q2, q3, q4⟩, -⟩ := full5 (X3.out.kept hk (fun x => x))
            clear hf hfar
            go_simp
            exact ⟨_, rfl, Kept.refl _ _, rfl⟩
          refine OweAll.cons ?_ ?_
          · intro u a hk hf hfar
            have v169 : a.tmps.getD 169 undef = .agg #[.int .u8 4, .int .u16 (asn : Int), .int .u16 (hold : Int), .int .u32 (id : Int), .slice A5 fl.length c5] := hf 11 _ 169 rfl rfl ⟨⟨11, .data⟩, Array.mem_of_getElem? (i := 0) rfl, rfl, rfl⟩
            have w169 := v169
            rw [Array.getD_eq_getD_getElem?] at w169
            clear hf hfar
            go_simp
            refine (law_of4 asn hold id fl HN.out _ _ (C5.out.old hk)).mono ?_
            rintro e u' ⟨rv, rfl, hc, hk'⟩
            have hz : ∃ r, (.agg #[.int .i64 4, .int .i64 (asn : Int), .int .i64 (hold : Int), .int .u32 (id : Int), rv] : Value) = .agg #[.int .i64 4, .int .i64 (asn : Int), .int .i64 (hold : Int), .int .u32 (id : Int), r] ∧ Cps u' r fl := ⟨_, rfl, hc⟩
            exact ⟨_, rfl, hk', hz⟩
          refine OweAll.cons ?_ ?_
          · intro u a hk hf hfar
            have v18 : a.tmps.getD 18 undef = .pointer (some ⟨r1, 0, none⟩) := hfar 18 (by decide)
            have w18 := v18
            rw [Array.getD_eq_getD_getElem?] at w18
            obtain ⟨⟨q0, q1, q2, q3, q4⟩, -⟩ := full5 (X1.out.kept hk (fun x => x))
            clear hf hfar
            go_simp
            exact ⟨_, rfl, Kept.refl _ _, rfl⟩
          refine OweAll.cons ?_ ?_
          · intro u a hk hf hfar
            have v171 : a.tmps.getD 171 undef = .agg #[.int .u8 4, .int .u16 (asn : Int), .int .u16 (hold : Int), .int .u32 (id : Int), .slice A3 fl.length c3] := hf 13 _ 171 rfl rfl ⟨⟨13, .data⟩, Array.mem_of_getElem? (i := 0) rfl, rfl, rfl⟩
            have w171 := v171
            rw [Array.getD_eq_getD_getElem?] at w171
            clear hf hfar
            go_simp
            refine (law_of4 asn hold id fl HN.out _ _ (C3.out.old hk)).mono ?_
            rintro e u' ⟨rv, rfl, hc, hk'⟩
            have hz : ∃ r, (.agg #[.int .i64 4, .int .i64 (asn : Int), .int .i64 (hold : Int), .int .u32 (id : Int), rv] : Value) = .agg #[.int .i64 4, .int .i64 (asn : Int), .int .i64 (hold : Int), .int .u32 (id : Int), r] ∧ Cps u' r fl := ⟨_, rfl, hc⟩
            exact ⟨_, rfl, hk', hz⟩
          refine OweAll.cons ?_ ?_
          · intro u a hk hf hfar
            have z170 : ∃ rv, (a.tmps.getD 170 undef) = .agg #[.int .i64 4, .int .i64 (asn : Int), .int .i64 (hold : Int), .int .u32 (id : Int), rv] ∧ Cps u rv fl := hf 12 _ 170 rfl rfl ⟨⟨12, .data⟩, Array.mem_of_getElem? (i := 0) rfl, rfl, rfl⟩
            obtain ⟨rv170, v170, hrv170⟩ := z170
            obtain ⟨Av170, cv170, rfl, _, _⟩ := hrv170.form
            have w170 := v170
            rw [Array.getD_eq_getD_getElem?] at w170
            have z172 : ∃ rv, (a.tmps.getD 172 undef) = .agg #[.int .i64 4, .int .i64 (asn : Int), .int .i64 (hold : Int), .int .u32 (id : Int), rv] ∧ Cps u rv fl := hf 14 _ 172 rfl rfl ⟨⟨14, .data⟩, Array.mem_of_getElem? (i := 1) rfl, rfl, rfl⟩
            obtain ⟨rv172, v172, hrv172⟩ := z172
            obtain ⟨Av172, cv172, rfl, _, _⟩ := hrv172.form
            have w172 := v172
            rw [Array.getD_eq_getD_getElem?] at w172
            clear hf hfar
            go_simp
            refine (law_like4 asn hold id fl HN.out _ _ _ hrv170 hrv172).mono ?_
            rintro e u' ⟨rfl, hk'⟩
            exact ⟨_, rfl, hk', rfl⟩
          refine OweAll.cons ?_ ?_
          · intro u a hk hf hfar
            have v168 : a.tmps.getD 168 undef = .bool true := hf 10 _ 168 rfl rfl ⟨⟨10, .data⟩, Array.mem_of_getElem? (i := 0) rfl, rfl, rfl⟩
            have w168 := v168
            rw [Array.getD_eq_getD_getElem?] at w168
            have v173 : a.tmps.getD 173 undef = .bool true := hf 15 _ 173 rfl rfl ⟨⟨15, .data⟩, Array.mem_of_getElem? (i := 1) rfl, rfl, rfl⟩
            have w173 := v173
            rw [Array.getD_eq_getD_getElem?] at w173
            clear hf hfar
            go_simp
            exact ⟨_, rfl, Kept.refl _ _, rfl⟩
          refine OweAll.cons ?_ ?_
          · intro u a hk hf hfar
            have v174 : a.tmps.getD 174 undef = .bool true := hf 16 _ 174 rfl rfl ⟨⟨16, .data⟩, Array.mem_of_getElem? (i := 0) rfl, rfl, rfl⟩
            have w174 := v174
            rw [Array.getD_eq_getD_getElem?] at w174
            clear hf hfar
            go_simp
            exact ⟨_, rfl, Kept.refl _ _, rfl⟩
          refine OweAll.cons ?_ ?_
          · intro u a hk hf hfar
            have v18 : a.tmps.getD 18 undef = .pointer (some ⟨r1, 0, none⟩) := hfar 18 (by decide)
            have w18 := v18
            rw [Array.getD_eq_getD_getElem?] at w18
            clear hf hfar
            go_simp
            exact ⟨_, rfl, Kept.refl _ _, rfl⟩
          refine OweAll.cons ?_ ?_
          · intro u a hk hf hfar
            have v176 : a.tmps.getD 176 undef = .pointer (some ⟨r1, 0, none⟩) := hf 18 _ 176 rfl rfl ⟨⟨18, .data⟩, Array.mem_of_getElem? (i := 0) rfl, rfl, rfl⟩
            have w176 := v176
            rw [Array.getD_eq_getD_getElem?] at w176
            obtain ⟨⟨q0, q1, q2, q3, q4⟩, -⟩ := full5 (X1.out.kept hk (fun x => x))
            clear hf hfar
            go_simp
            exact ⟨_, rfl, Kept.refl _ _, rfl⟩
          refine OweAll.cons ?_ ?_
          · intro u a hk hf hfar
            have v177 : a.tmps.getD 177 undef = .int .u8 4 := hf 19 _ 177 rfl rfl ⟨⟨19, .data⟩, Array.mem_of_getElem? (i := 0) rfl, rfl, rfl⟩
            have w177 := v177
            rw [Array.getD_eq_getD_getElem?] at w177
            clear hf hfar
            go_simp
            exact ⟨_, rfl, Kept.refl _ _, rfl⟩
          refine OweAll.cons ?_ ?_
          · intro u a hk hf hfar
            have v175 : a.tmps.getD 175 undef = .bool true := hf 17 _ 175 rfl rfl ⟨⟨17, .data⟩, Array.mem_of_getElem? (i := 0) rfl, rfl, rfl⟩
            have w175 := v175
            rw [Array.getD_eq_getD_getElem?] at w175
            have v178 : a.tmps.getD 178 undef = .bool true := hf 20 _ 178 rfl rfl ⟨⟨20, .data⟩, Array.mem_of_getElem? (i := 1) rfl, rfl, rfl⟩
            have w178 := v178
            rw [Array.getD_eq_getD_getElem?] at w178
            clear hf hfar
            go_simp
            exact ⟨_, rfl, Kept.refl _ _, rfl⟩
          refine OweAll.cons ?_ ?_
          · intro u a hk hf hfar
            have v179 : a.tmps.getD 179 undef = .bool true := hf 21 _ 179 rfl rfl ⟨⟨21, .data⟩, Array.mem_of_getElem? (i := 0) rfl, rfl, rfl⟩
            have w179 := v179
            rw [Array.getD_eq_getD_getElem?] at w179
            clear hf hfar
            go_simp
            exact ⟨_, rfl, Kept.refl _ _, rfl⟩
          refine OweAll.cons ?_ ?_
          · intro u a hk hf hfar
            clear hf hfar
            go_simp
            refine (op_tells _ (RD.out.kept hk)).mono ?_
            rintro e u' ⟨rfl, hk'⟩
            exact ⟨_, rfl, hk', rfl⟩
          refine OweAll.cons ?_ ?_
          · intro u a hk hf hfar
            have v180 : a.tmps.getD 180 undef = .bool true := hf 22 _ 180 rfl rfl ⟨⟨22, .data⟩, Array.mem_of_getElem? (i := 0) rfl, rfl, rfl⟩
            have w180 := v180
            rw [Array.getD_eq_getD_getElem?] at w180
            have v181 : a.tmps.getD 181 undef = .bool true := hf 23 _ 181 rfl rfl ⟨⟨23, .data⟩, Array.mem_of_getElem? (i := 1) rfl, rfl, rfl⟩
            have w181 := v181
            rw [Array.getD_eq_getD_getElem?] at w181
            clear hf hfar
            go_simp
            exact ⟨_, rfl, Kept.refl _ _, rfl⟩
          refine OweAll.cons ?_ ?_
          · intro u a hk hf hfar
            have v182 : a.tmps.getD 182 undef = .bool true := hf 24 _ 182 rfl rfl ⟨⟨24, .data⟩, Array.mem_of_getElem? (i := 0) rfl, rfl, rfl⟩
            have w182 := v182
            rw [Array.getD_eq_getD_getElem?] at w182
            clear hf hfar
            go_simp
            exact ⟨_, rfl, Kept.refl _ _, rfl⟩
          exact OweAll.nil
        · intro A' u hku hA hdef
          have hA' : A'.tmps.getD 6 undef = .bool true := hA
          have hr := results_tmp (fn := Tryd.f5) (t := 6) (by rfl) A'.tmps Tryd.prog u
          rw [hA'] at hr
          go_wp2
          exact bodyPost_ret hr (hdef.trans rfl) ⟨rfl, TW.out.trans hku⟩
      · clear HP0 HP1 HGL HSND D5
        have hei : ((e : Int) != 0) = true := by simp; omega
        have WT := Lib.hid (op_tells w5 (RW0.out.kept K5.out))
        go_wp2_with (go_at_call 13; refine WT.out.mono ?_; rintro _ w9 ⟨rfl, hk9⟩)
        go_ret
        exact ⟨rfl, K5.out.trans hk9⟩
    · obtain ⟨h1, h2, h3⟩ := Opn.get_bad hcd
      have HZ := Lib.hid h1
      have HY2 := Lib.hid h2
      clear h1 h2 hcd
      rcases h3 with h3 | h3 | h3
      · have HS := Lib.hid h3
        clear h3
        go_wp2_with fail
        refine (get_no 0 0 rfl _ d _ HZ.out HY2.out HS.out HD.out (by omega)).mono ?_
        rintro _ w3 ⟨A3, c3, Ad, nd, cd, rfl, hk3⟩
        have K4 := Lib.hid (((HK.out.trans hk3).alloc (.cells #[.int .u8 0, .int .u16 0, .int .u16 0, .int .u32 0, .slice A3 0 c3] 28)).alloc (.cells #[.int .u8 2, .int .u8 0] 30))
        have WT := Lib.hid (op_tells _ (RW0.out.kept K4.out))
        clear hk3
        go_wp2_with (go_at_call 13; refine WT.out.mono ?_; rintro _ w9 ⟨rfl, hk9⟩)
        go_ret
        exact ⟨rfl, K4.out.trans hk9⟩
      · have HS := Lib.hid h3
        clear h3
        go_wp2_with fail
        refine (get_no 1 1 rfl _ d _ HZ.out HY2.out HS.out HD.out (by omega)).mono ?_
        rintro _ w3 ⟨A3, c3, Ad, nd, cd, rfl, hk3⟩
        have K4 := Lib.hid (((HK.out.trans hk3).alloc (.cells #[.int .u8 0, .int .u16 0, .int .u16 0, .int .u32 0, .slice A3 0 c3] 28)).alloc (.cells #[.int .u8 2, .int .u8 1] 30))
        have WT := Lib.hid (op_tells _ (RW0.out.kept K4.out))
        clear hk3
        go_wp2_with (go_at_call 13; refine WT.out.mono ?_; rintro _ w9 ⟨rfl, hk9⟩)
        go_ret
        exact ⟨rfl, K4.out.trans hk9⟩
      · have HS := Lib.hid h3
        clear h3
        go_wp2_with fail
        refine (get_no 4 4 rfl _ d _ HZ.out HY2.out HS.out HD.out (by omega)).mono ?_
        rintro _ w3 ⟨A3, c3, Ad, nd, cd, rfl, hk3⟩
        have K4 := Lib.hid (((HK.out.trans hk3).alloc (.cells #[.int .u8 0, .int .u16 0, .int .u16 0, .int .u32 0, .slice A3 0 c3] 28)).alloc (.cells #[.int .u8 2, .int .u8 4] 30))
        have WT := Lib.hid (op_tells _ (RW0.out.kept K4.out))
        clear hk3
        go_wp2_with (go_at_call 13; refine WT.out.mono ?_; rintro _ w9 ⟨rfl, hk9⟩)
        go_ret
        exact ⟨rfl, K4.out.trans hk9⟩
end Go.Proofs.YtohgkibpcgfihaaDoor
