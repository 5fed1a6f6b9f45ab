
/-
  The document's Ours and Put of chapter 6.
-/
import Derived.Test.YtohgkibpcgfihaaDoorEr
import Derived.Test.YtohgkibpcgfihaaDoorDd
namespace Go.Proofs.YtohgkibpcgfihaaDoor
open Go.RowKit

set_option maxRecDepth 20000 in
set_option maxHeartbeats 2000000 in
theorem rcp_ours_off (n : Nat) (h : n < 4294967296) (w : World) :
    Calls Tryd.prog 64 #[.int .u32 (n : Int)] w fun e w' => ∃ rv, e = .returned rv ∧ CpsO (fun k => k < w.heap.size) w' rv (oursL n) ∧ Kept Nothing w w' := by
  go_enter Tryd.func64, Tryd.ntmps64
  go_wp2
  go_ret
  have kA := (Kept.refl Nothing w).alloc (.cells #[.int .u8 ((n : Int) / 16777216), .int .u8 ((n : Int) / 65536 % 256), .int .u8 ((n : Int) / 256 % 256), .int .u8 ((n : Int) % 256)] 5)
  have bA : By (w.alloc (.cells #[.int .u8 ((n : Int) / 16777216), .int .u8 ((n : Int) / 65536 % 256), .int .u8 ((n : Int) / 256 % 256), .int .u8 ((n : Int) % 256)] 5)) (.slice (some ⟨w.heap.size, 0, none⟩) 4 4) (be4 n) := made_by (l := be4 n) rfl (by
    unfold be4 bys
    simp only [List.map_cons, List.map_nil, by8_mod]
    have h24 : (((n / 16777216 : Nat) : Int)) % 256 = (n : Int) / 16777216 := by omega
    rw [h24]
    rfl) (by simp [be4, maxLen])
  have hz : (w.alloc (.cells #[.int .u8 ((n : Int) / 16777216), .int .u8 ((n : Int) / 65536 % 256), .int .u8 ((n : Int) / 256 % 256), .int .u8 ((n : Int) % 256)] 5)).heap.size = w.heap.size + 1 := World.size_alloc _ _
  generalize w.alloc (.cells #[.int .u8 ((n : Int) / 16777216), .int .u8 ((n : Int) / 65536 % 256), .int .u8 ((n : Int) / 256 % 256), .int .u8 ((n : Int) % 256)] 5) = w1 at *
  have kB := (Kept.refl Nothing w1).alloc (.cells #[.int .u8 0, .int .u8 1, .int .u8 0, .int .u8 1] 5)
  have bB : By (w1.alloc (.cells #[.int .u8 0, .int .u8 1, .int .u8 0, .int .u8 1] 5)) (.slice (some ⟨w.heap.size + 1, 0, none⟩) 4 4) [0, 1, 0, 1] := made_by (l := [0, 1, 0, 1]) hz rfl (by simp [maxLen])
  have hz2 : (w1.alloc (.cells #[.int .u8 0, .int .u8 1, .int .u8 0, .int .u8 1] 5)).heap.size = w.heap.size + 1 + 1 := by rw [World.size_alloc, hz]
  generalize w1.alloc (.cells #[.int .u8 0, .int .u8 1, .int .u8 0, .int .u8 1] 5) = w2 at *
  have kC := (Kept.refl Nothing w2).alloc (.cells #[.int .u8 1, .slice (some ⟨w.heap.size + 1, 0, none⟩) 4 4, .int .u8 2, .slice none 0 0, .int .u8 65, .slice (some ⟨w.heap.size, 0, none⟩) 4 4] 83)
  have hb := made_blk (t := 83) (cs := #[.int .u8 1, .slice (some ⟨w.heap.size + 1, 0, none⟩) 4 4, .int .u8 2, .slice none 0 0, .int .u8 65, .slice (some ⟨w.heap.size, 0, none⟩) 4 4]) hz2
  exact ⟨_, rfl, CpsO.of_blk (l := oursL n) hb ⟨rfl, ⟨bB.old kC, offn (Nat.le_succ _)⟩, rfl, ⟨(Bs.nil _).by, fun a n c e _ => by cases e⟩, rfl, ⟨(bA.old kB).old kC, offn (Nat.le_refl _)⟩, trivial⟩ (by simp [oursL, maxLen]) (by omega), (kA.trans kB).trans kC⟩

set_option maxRecDepth 20000 in
set_option maxHeartbeats 2000000 in
theorem rop_ours (n hold id : Nat) (h : n < 4294967296) (w : World) :
    Calls Tryd.prog 22 #[.int .u32 (n : Int), .int .i64 (hold : Int), .int .u32 (id : Int)] w fun e w' => ∃ rv, e = .returned (.agg #[.int .i64 4, .int .i64 (shortN n : Nat), .int .i64 (hold : Int), .int .u32 (id : Int), rv]) ∧ Cps w' rv (oursL n) ∧ Kept Nothing w w' := by
  have HO := Lib.hid (rcp_ours_off n h (w.alloc (.cells #[.int .i64 0, .int .i64 0, .int .i64 0, .int .u32 0, .slice none 0 0] 35)))
  have F0 := Lib.hid (Blk.fresh w 35 #[.int .i64 0, .int .i64 0, .int .i64 0, .int .u32 0, .slice none 0 0])
  have KW := Lib.hid ((Kept.refl Nothing w).alloc (.cells #[.int .i64 0, .int .i64 0, .int .i64 0, .int .u32 0, .slice none 0 0] 35))
  rw [show (w.alloc (.cells #[.int .i64 0, .int .i64 0, .int .i64 0, .int .u32 0, .slice none 0 0] 35)).heap.size = w.heap.size + 1 by simp] at HO
  by_cases hn : n < 65536
  · have e : shortN n = n := if_pos hn
    rw [e]
    have hi : (n : Int) < 65536 := by omega
    go_enter Tryd.func22, Tryd.ntmps22
    go_wp2_with fail
    refine HO.out.mono ?_
    rintro _ w2 ⟨rv, rfl, hc, hk⟩
    obtain ⟨A, c, rfl, _, _⟩ := hc.form
    have f0 := F0.out.kept hk (fun x => x)
    have HC := Lib.hid hc
    have K2 := Lib.hid (KW.out.trans hk)
    have h0 := f0.lt
    have k3 : Kept Nothing w2 (w2.alloc (.cells #[.int .i64 4, .int .i64 (n : Int), .int .i64 (hold : Int), .int .u32 (id : Int), .slice A (oursL n).length c] 35)) := ((Kept.refl Nothing w2).alloc _)
    have b7 : Blk (w2.alloc (.cells #[.int .i64 4, .int .i64 (n : Int), .int .i64 (hold : Int), .int .u32 (id : Int), .slice A (oursL n).length c] 35)) w2.heap.size 35 #[.int .i64 4, .int .i64 (n : Int), .int .i64 (hold : Int), .int .u32 (id : Int), .slice A (oursL n).length c] := (Blk.fresh w2 _ _)
    have b6 : Blk (w2.alloc (.cells #[.int .i64 4, .int .i64 (n : Int), .int .i64 (hold : Int), .int .u32 (id : Int), .slice A (oursL n).length c] 35)) w.heap.size 35 #[.int .i64 0, .int .i64 0, .int .i64 0, .int .u32 0, .slice none 0 0] := f0.kept k3 (fun x => x)
    have H7 := Lib.hid b7
    have H6 := Lib.hid b6
    have C3 := Lib.hid (hc.old k3)
    have K3 := Lib.hid (K2.out.trans k3)
    clear hc hk F0 KW f0 HO HC K2 k3 b7 b6
    go_upto_region 4 with fail
    generalize (w2.alloc (.cells #[.int .i64 4, .int .i64 (n : Int), .int .i64 (hold : Int), .int .u32 (id : Int), .slice A (oursL n).length c] 35)) = w3 at *
    generalize w2.heap.size = q at *
    obtain ⟨⟨a0, a1, a2, a3, a4⟩, -⟩ := full5 H7.out
    obtain ⟨⟨g0, g1, g2, g3, g4⟩, g5, g6, g7, g8, g9⟩ := full5 H6.out
    have l6 := H6.out.lt
    clear h hn e hi
    go_wp2
    exact bodyPost_ret (v := .agg #[.int .i64 4, .int .i64 (n : Int), .int .i64 (hold : Int), .int .u32 (id : Int), .slice A (oursL n).length c]) (by simp [results, Tryd.results22, go_sem, g0, g1, g2, g3, g4]) rfl ⟨_, rfl, ((C3.out.less (Q := fun k => k = w.heap.size) (fun k e => by show k < w.heap.size + 1; omega)).off (kept_5 _ _ _ _ _)).cps, K3.out.late (kept_5 (p := w.heap.size) _ _ _ _ _) (fun i (e : i = w.heap.size) => by omega)⟩
  · have e : shortN n = 23456 := if_neg hn
    rw [e]
    have hi : ¬ ((n : Int) < 65536) := by omega
    obtain ⟨z, hz⟩ : ∃ z : Int, (n : Int) = z := ⟨_, rfl⟩
    rw [hz] at HO hi ⊢
    clear h hn e hz
    go_enter Tryd.func22, Tryd.ntmps22
    go_wp2_with fail
    refine HO.out.mono ?_
    rintro _ w2 ⟨rv, rfl, hc, hk⟩
    obtain ⟨A, c, rfl, _, _⟩ := hc.form
    have f0 := F0.out.kept hk (fun x => x)
    have HC := Lib.hid hc
    have K2 := Lib.hid (KW.out.trans hk)
    have h0 := f0.lt
    have k3 : Kept Nothing w2 (w2.alloc (.cells #[.int .i64 4, .int .i64 23456, .int .i64 (hold : Int), .int .u32 (id : Int), .slice A (oursL n).length c] 35)) := ((Kept.refl Nothing w2).alloc _)
    have b7 : Blk (w2.alloc (.cells #[.int .i64 4, .int .i64 23456, .int .i64 (hold : Int), .int .u32 (id : Int), .slice A (oursL n).length c] 35)) w2.heap.size 35 #[.int .i64 4, .int .i64 23456, .int .i64 (hold : Int), .int .u32 (id : Int), .slice A (oursL n).length c] := (Blk.fresh w2 _ _)
    have b6 : Blk (w2.alloc (.cells #[.int .i64 4, .int .i64 23456, .int .i64 (hold : Int), .int .u32 (id : Int), .slice A (oursL n).length c] 35)) w.heap.size 35 #[.int .i64 0, .int .i64 0, .int .i64 0, .int .u32 0, .slice none 0 0] := f0.kept k3 (fun x => x)
    have H7 := Lib.hid b7
    have H6 := Lib.hid b6
    have C3 := Lib.hid (hc.old k3)
    have K3 := Lib.hid (K2.out.trans k3)
    clear hc hk F0 KW f0 HO HC K2 k3 b7 b6
    go_upto_region 4 with fail
    generalize (w2.alloc (.cells #[.int .i64 4, .int .i64 23456, .int .i64 (hold : Int), .int .u32 (id : Int), .slice A (oursL n).length c] 35)) = w3 at *
    generalize w2.heap.size = q at *
    obtain ⟨⟨a0, a1, a2, a3, a4⟩, -⟩ := full5 H7.out
    obtain ⟨⟨g0, g1, g2, g3, g4⟩, g5, g6, g7, g8, g9⟩ := full5 H6.out
    have l6 := H6.out.lt
    clear hi
    go_wp2
    exact bodyPost_ret (v := .agg #[.int .i64 4, .int .i64 23456, .int .i64 (hold : Int), .int .u32 (id : Int), .slice A (oursL n).length c]) (by simp [results, Tryd.results22, go_sem, g0, g1, g2, g3, g4]) rfl ⟨_, rfl, ((C3.out.less (Q := fun k => k = w.heap.size) (fun k e => by show k < w.heap.size + 1; omega)).off (kept_5 _ _ _ _ _)).cps, K3.out.late (kept_5 (p := w.heap.size) _ _ _ _ _) (fun i (e : i = w.heap.size) => by omega)⟩

theorem own_bys2 {w : World} {base n : Nat} {v : Value} {xs : List Value} {l : List UInt8} (h : w.ownsRow base 5 1 v n xs) (hn : n = l.length) (hx : xs = bys l) : w.ownsRow base 5 1 v l.length (bys l) := by
  subst hn hx
  exact h
theorem p_val {z : Int} {x : UInt8} (h : z = (x.toNat : Int)) : (.int .u8 z : Value) = by8 x := by rw [h]; rfl
theorem ten_bytes {ver asn hold id n : Nat} (f0 : ver < 256) (f1 : asn < 65536) (f2 : hold < 65536) (f3 : id < 4294967296) (fn : n < 256) :
    (#[.int .u8 (ver : Int), .int .u8 ((asn : Int) / 256), .int .u8 ((asn : Int) % 256), .int .u8 ((hold : Int) / 256), .int .u8 ((hold : Int) % 256)] : Array Value).toList ++ ([.int .u8 ((id : Int) / 16777216), .int .u8 ((id : Int) / 65536 % 256), .int .u8 ((id : Int) / 256 % 256), .int .u8 ((id : Int) % 256), .int .u8 (n : Int)] : List Value) = bys [UInt8.ofNat ver, UInt8.ofNat (asn / 256), UInt8.ofNat asn, UInt8.ofNat (hold / 256), UInt8.ofNat hold, UInt8.ofNat (id / 16777216), UInt8.ofNat (id / 65536), UInt8.ofNat (id / 256), UInt8.ofNat id, UInt8.ofNat n] := by
  have h0 : (.int .u8 (ver : Int) : Value) = by8 (UInt8.ofNat ver) := p_val (by rw [UInt8.toNat_ofNat']; omega)
  have h1 : (.int .u8 ((asn : Int) / 256) : Value) = by8 (UInt8.ofNat (asn / 256)) := p_val (by rw [UInt8.toNat_ofNat']; omega)
  have h2 : (.int .u8 ((asn : Int) % 256) : Value) = by8 (UInt8.ofNat asn) := p_val (by rw [UInt8.toNat_ofNat']; omega)
  have h3 : (.int .u8 ((hold : Int) / 256) : Value) = by8 (UInt8.ofNat (hold / 256)) := p_val (by rw [UInt8.toNat_ofNat']; omega)
  have h4 : (.int .u8 ((hold : Int) % 256) : Value) = by8 (UInt8.ofNat hold) := p_val (by rw [UInt8.toNat_ofNat']; omega)
  have h5 : (.int .u8 ((id : Int) / 16777216) : Value) = by8 (UInt8.ofNat (id / 16777216)) := p_val (by rw [UInt8.toNat_ofNat']; omega)
  have h6 : (.int .u8 ((id : Int) / 65536 % 256) : Value) = by8 (UInt8.ofNat (id / 65536)) := p_val (by rw [UInt8.toNat_ofNat']; omega)
  have h7 : (.int .u8 ((id : Int) / 256 % 256) : Value) = by8 (UInt8.ofNat (id / 256)) := p_val (by rw [UInt8.toNat_ofNat']; omega)
  have h8 : (.int .u8 ((id : Int) % 256) : Value) = by8 (UInt8.ofNat id) := p_val (by rw [UInt8.toNat_ofNat']; omega)
  have h9 : (.int .u8 (n : Int) : Value) = by8 (UInt8.ofNat n) := p_val (by rw [UInt8.toNat_ofNat']; omega)
  rw [h0, h1, h2, h3, h4, h5, h6, h7, h8, h9]
  rfl
theorem p_byte (k : Nat) (hk : k < 256) : (.int .u8 (k : Int) : Value) = by8 (UInt8.ofNat k) := by
  unfold by8
  rw [UInt8.toNat_ofNat']
  congr 1
  omega
set_option maxRecDepth 20000 in
set_option maxHeartbeats 2000000 in
theorem rop_put (o : Opn) (ho : o.fine) (v : Value) (w : World) (hv : Cps w v o.caps) (hl : o.caps.length ≤ 100000) :
    Calls Tryd.prog 16 #[.agg #[.int .i64 (o.ver : Int), .int .i64 (o.asn : Int), .int .i64 (o.hold : Int), .int .u32 (o.id : Int), v]] w fun r w' => ∃ v', r = .returned (.tuple #[v', .int .i64 (o.put.2 : Nat)]) ∧ By w' v' o.put.1 ∧ Kept Nothing w w' := by
  obtain ⟨i0, hi, hz0, hz1, hz2⟩ := info_parts u8_info
  obtain ⟨A, c, rfl, hc, hm⟩ := hv.form
  have KA := (Kept.refl Nothing w).alloc (.cells #[.int .i64 (o.ver : Int), .int .i64 (o.asn : Int), .int .i64 (o.hold : Int), .int .u32 (o.id : Int), .slice A o.caps.length c] 35)
  have HC := Lib.hid (rcp_bytes _ o.caps _ (hv.old KA) hl)
  have B0 := Lib.hid (Blk.fresh w 35 #[.int .i64 (o.ver : Int), .int .i64 (o.asn : Int), .int .i64 (o.hold : Int), .int .u32 (o.id : Int), .slice A o.caps.length c])
  have K0 := Lib.hid KA
  have HCL := Lib.hid (fun h => Cp.bytes_short (l := o.caps) h)
  have HP1 := Lib.hid (fun h => Opn.put_lit o h)
  have HP0 := Lib.hid (fun (h : (Cp.bytes o.caps).2 ≠ 0) => Opn.put_err (o := o) h)
  obtain ⟨PU, HPU⟩ : ∃ PU, Hid (o.put = PU) := ⟨_, Lib.hid rfl⟩
  obtain ⟨f0, f1, f2, f3⟩ := ho
  obtain ⟨ver, asn, hold, id, caps⟩ := o
  simp only at HC B0 K0 HCL HP1 HP0 HPU f0 f1 f2 f3 ⊢
  rw [HPU.out] at HP1 HP0 ⊢
  clear hv KA HPU
  generalize Cp.bytes caps = R at *
  obtain ⟨cb, e⟩ := R
  simp only at HC HCL HP0 HP1
  go_enter Tryd.func16, Tryd.ntmps16
  go_wp2_with fail
  refine HC.out.mono ?_
  rintro _ w1 ⟨cv, rfl, hb, hk⟩
  have K1 := Lib.hid (K0.out.trans hk)
  obtain ⟨⟨a0, a1, a2, a3, a4⟩, -⟩ := full5 (B0.out.kept hk (fun x => x))
  have B1 := Lib.hid (B0.out.kept hk (fun x => x))
  obtain ⟨Ac, cc, rfl, hcc, hcm⟩ := hb.form
  have HY := Lib.hid hb
  clear hb hk K0 B0 HC
  by_cases he : e = 0
  · subst he
    obtain rfl := HP1.out rfl
    have hcl := HCL.out rfl
    clear HP0 HP1 HCL
    have O2 := Lib.hid (own_of_blk (base := w1.heap.size) (n := 5) (size := 1) (Blk.fresh w1 5 #[.int .u8 (ver : Int), .int .u8 ((asn : Int) / 256), .int .u8 ((asn : Int) % 256), .int .u8 ((hold : Int) / 256), .int .u8 ((hold : Int) % 256)]) (Nat.le_refl _) rfl (by simp [maxLen]))
    have k2 := (Kept.refl Nothing w1).alloc (.cells #[.int .u8 (ver : Int), .int .u8 ((asn : Int) / 256), .int .u8 ((asn : Int) % 256), .int .u8 ((hold : Int) / 256), .int .u8 ((hold : Int) % 256)] 5)
    have Y2 := Lib.hid (HY.out.old k2)
    have K2 := Lib.hid (K1.out.trans k2)
    have HB2 := Lib.hid (B1.out.kept k2 (fun x => x))
    have hsz2 : w1.heap.size ≤ (w1.alloc (.cells #[.int .u8 (ver : Int), .int .u8 ((asn : Int) / 256), .int .u8 ((asn : Int) % 256), .int .u8 ((hold : Int) / 256), .int .u8 ((hold : Int) % 256)] 5)).heap.size := k2.size
    have HZ2 := Lib.hid hsz2
    have R2 := Lib.hid k2
    clear k2 hsz2 B1 K2 Y2
    go_upto_region 5 with fail
    clear a0 a1 a2 a3 a4
    generalize (w1.alloc (.cells #[.int .u8 (ver : Int), .int .u8 ((asn : Int) / 256), .int .u8 ((asn : Int) % 256), .int .u8 ((hold : Int) / 256), .int .u8 ((hold : Int) % 256)] 5)) = w2 at *
    obtain ⟨q, hq⟩ : ∃ q, w1.heap.size = q := ⟨_, rfl⟩
    rw [hq] at O2 HZ2
    rw [hq]
    have HQ := Lib.hid hq
    clear hq
    obtain ⟨⟨a0, a1, a2, a3, a4⟩, -⟩ := full5 HB2.out
    go_wp2_with (first
      | (at_builtin; refine wpList_app _ rfl (.tmp 36) (.tmp 58) 22 rfl q 5 i0 _ 1 1 Tryd.underlying22 hi hz0 hz1 hz2 rfl (by decide) (.slice (some ⟨q, 0, none⟩) 5 5) 5 (#[.int .u8 (ver : Int), .int .u8 ((asn : Int) / 256), .int .u8 ((asn : Int) % 256), .int .u8 ((hold : Int) / 256), .int .u8 ((hold : Int) % 256)]).toList rfl (ow_kept O2.out ((Kept.refl Nothing w2).alloc _) (fun _ _ x => x)) (some ⟨w2.heap.size, 0, none⟩) 5 5 [.int .u8 ((id : Int) / 16777216), .int .u8 ((id : Int) / 65536 % 256), .int .u8 ((id : Int) / 256 % 256), .int .u8 ((id : Int) % 256), .int .u8 (cb.length : Int)] rfl (src_new w2 _ (#[.int .u8 ((id : Int) / 16777216), .int .u8 ((id : Int) / 65536 % 256), .int .u8 ((id : Int) / 256 % 256), .int .u8 ((id : Int) % 256), .int .u8 (cb.length : Int)]) 1 5 rfl (by simp [Value.oneCell'])) (by unfold maxLen; omega) (by omega) (by have := HZ2.out; simp; omega) ?_; intro v6 w6 ho6 hg6 hat6; have O6 := Lib.hid (own_bys2 (l := [UInt8.ofNat ver, UInt8.ofNat (asn / 256), UInt8.ofNat asn, UInt8.ofNat (hold / 256), UInt8.ofNat hold, UInt8.ofNat (id / 16777216), UInt8.ofNat (id / 65536), UInt8.ofNat (id / 256), UInt8.ofNat id, UInt8.ofNat cb.length]) ho6 (by simp) (ten_bytes f0 f1 f2 f3 (by omega))); have R6 := Lib.hid ((R2.out.alloc _).grown hg6 (fun k hk hlt => by have := (O2.out.lt k hk).1; have := HQ.out; omega)); have Y6 := Lib.hid (HY.out.old R6.out).src; have HZ6 := Lib.hid hg6.size; clear ho6 hg6 hat6; obtain ⟨A6, c6, rfl, _, _⟩ := ow_form O6.out)
      | (at_builtin; refine wpList_app _ rfl (.tmp 60) (.tmp 61) 22 rfl q 5 i0 _ 1 1 Tryd.underlying22 hi hz0 hz1 hz2 rfl (by decide) (.slice A6 10 c6) 10 (bys [UInt8.ofNat ver, UInt8.ofNat (asn / 256), UInt8.ofNat asn, UInt8.ofNat (hold / 256), UInt8.ofNat hold, UInt8.ofNat (id / 16777216), UInt8.ofNat (id / 65536), UInt8.ofNat (id / 256), UInt8.ofNat id, UInt8.ofNat cb.length]) rfl O6.out Ac cb.length cc (bys cb) rfl Y6.out (by unfold maxLen; omega) (by omega) (by have := HZ2.out; have h6 := HZ6.out; rw [World.size_alloc] at h6; omega) ?_; intro v7 w7 ho7 hg7 hat7; have O7 := Lib.hid (own_bys2 (l := (UInt8.ofNat ver :: UInt8.ofNat (asn / 256) :: UInt8.ofNat asn :: UInt8.ofNat (hold / 256) :: UInt8.ofNat hold :: UInt8.ofNat (id / 16777216) :: UInt8.ofNat (id / 65536) :: UInt8.ofNat (id / 256) :: UInt8.ofNat id :: UInt8.ofNat cb.length :: cb)) ho7 (by simp; omega) (by simp [bys])); have R7 := Lib.hid (R6.out.grown hg7 (fun k hk hlt => by have := (O6.out.lt k hk).1; have := HQ.out; omega)); clear ho7 hg7 hat7; obtain ⟨A7, c7, rfl, _, _⟩ := ow_form O7.out))
    go_ret2
    exact ⟨_, rfl, (Bs.of_own O7.out).by, K1.out.trans R7.out⟩
  · obtain rfl := HP0.out he
    clear HP0 HP1
    have hei : ((e : Int) != 0) = true := by simp; omega
    clear HY B1 HCL
    go_wp2
    go_ret2
    exact ⟨_, rfl, (Bs.nil _).by, K1.out⟩
end Go.Proofs.YtohgkibpcgfihaaDoor
