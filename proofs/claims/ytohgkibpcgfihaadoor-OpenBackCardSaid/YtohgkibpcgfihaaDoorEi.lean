
/-
  What the document's Get of chapter 6 does.
-/
import Derived.Test.YtohgkibpcgfihaaDoorEg
import Derived.Test.YtohgkibpcgfihaaDoorIv
namespace Go.Proofs.YtohgkibpcgfihaaDoor
open Go.RowKit

theorem num_snoc (l : List UInt8) (x : UInt8) : RS.num (l ++ [x]) = 256 * RS.num l + x.toNat := by unfold RS.num; rw [List.foldl_append]; rfl
theorem foldl_lt : ∀ (l : List UInt8) (a : Nat), l.foldl (fun n (b : UInt8) => 256 * n + b.toNat) a < (a + 1) * 256 ^ l.length
  | [], a => by simp
  | x :: l, a => by
    have h := foldl_lt l (256 * a + x.toNat)
    have hx := x.toNat_lt
    rw [List.foldl_cons, List.length_cons, Nat.pow_succ]
    refine Nat.lt_of_lt_of_le h ?_
    have : (256 * a + x.toNat + 1) ≤ (a + 1) * 256 := by omega
    calc (256 * a + x.toNat + 1) * 256 ^ l.length ≤ ((a + 1) * 256) * 256 ^ l.length := Nat.mul_le_mul_right _ this
      _ = (a + 1) * (256 ^ l.length * 256) := by rw [Nat.mul_assoc, Nat.mul_comm 256]
theorem num_lt (l : List UInt8) : RS.num l < 256 ^ l.length := by
  have := foldl_lt l 0
  rwa [Nat.zero_add, Nat.one_mul] at this
theorem num_two_at {b : List UInt8} {k : Nat} (h : k + 1 < b.length) : RS.num ((b.drop k).take 2) = 256 * (b.getD k 0).toNat + (b.getD (k + 1) 0).toNat := by
  rw [Cp.drop_two h]
  show RS.num [b.getD k 0, b.getD (k + 1) 0] = _
  unfold RS.num
  simp
theorem take_next {b : List UInt8} {i : Nat} (h5 : 5 ≤ i) (h : i < b.length) : (b.drop 5).take (i + 1 - 5) = (b.drop 5).take (i - 5) ++ [b.getD i 0] := by
  rw [show i + 1 - 5 = (i - 5) + 1 by omega, List.take_succ_eq_append_getElem (by rw [List.length_drop]; omega), List.getElem_drop]
  congr 2
  rw [List.getD_eq_getElem?_getD, List.getElem?_eq_getElem h]
  simp only [Option.getD_some]
  congr 1
  omega
theorem slice_from (A : Option Addr) (n c k : Nat) (hk : k ≤ n) (w : World) :
    (Instr.slice 22 (.slice A n c) (some (.int .i64 (k : Int))) none none).run Tryd.prog w = .ok (.slice (if c = k then A else A.map (·.add k)) (n - k) (c - k)) w := by
  have hz := Tryd.sizeOf5
  have he : Tryd.prog.elem 22 = 5 := by kernel_rfl
  rw [run_slice_l w 22 A n c (by kernel_rfl) .i64 (k : Int) (by omega) (by omega), he, hz]
  simp [sliced]
theorem CpsO.or {P Q : Nat → Prop} {w : World} {v : Value} {l : List Cp} (h : CpsO P w v l) (h' : CpsO Q w v l) : CpsO (fun k => P k ∨ Q k) w v l := by
  obtain ⟨A, c, hv, hc, hm, hr⟩ := h
  obtain ⟨A', c', hv', _, _, hr'⟩ := h'
  rw [hv] at hv'
  injection hv' with e1 e2 e3
  subst e1 e3
  refine ⟨A, c, hv, hc, hm, fun h0 => ?_⟩
  obtain ⟨b, o, hA, hb, hi⟩ := hr h0
  obtain ⟨b', o', hA', hb', hi'⟩ := hr' h0
  rw [hA] at hA'
  injection hA' with hA'
  injection hA' with e1 e2
  subst e1 e2
  refine ⟨b, o, hA, fun x => x.elim hb hb', fun i hl => ⟨(hi i hl).1, ?_⟩⟩
  obtain ⟨u, h1, h2, h3⟩ := (hi i hl).2
  obtain ⟨u', h1', _, h3'⟩ := (hi' i hl).2
  rw [h1] at h1'
  injection h1' with h1'
  subst h1'
  exact ⟨u, h1, h2, fun a n c e h0 x => x.elim (h3 a n c e h0) (h3' a n c e h0)⟩

theorem ag_off {listed : Array Bool} {i n : Nat} (hs : listed.size = n) (hi : i < n) (h : listed.getD i true = false) : listed.getD i false = false := by
  have hlt : i < listed.size := by omega
  rw [Array.getD_eq_getD_getElem?, Array.getElem?_eq_getElem hlt] at h ⊢
  exact h
theorem ag_on {listed : Array Bool} {i n : Nat} (hs : listed.size = n) (hi : i < n) : (listed.setIfInBounds i true).getD i false = true := by
  have hlt : i < listed.size := by omega
  simp [hlt]
/-- How far the region's box is: laid, written. -/
structure GI where
  n : Nat
  z : Nat
def GJ (l : Array Bool) (G : GI) : Prop := l.getD 26 false = decide (1 ≤ G.n) ∧ l.getD 27 false = decide (2 ≤ G.n)
theorem GJ.other {l : Array Bool} {G : GI} {i : Nat} (h : GJ l G) (h1 : i ≠ 26) (h2 : i ≠ 27) : GJ (l.setIfInBounds i true) G := by
  unfold GJ at h ⊢
  rw [getD_set_ne false h1, getD_set_ne false h2]
  exact h
theorem GJ.alloc {l : Array Bool} {G : GI} (h : GJ l G) (hs : l.size = 28) (h0 : l.getD 26 true = false) : G.n = 0 ∧ ∀ z, GJ (l.setIfInBounds 26 true) ⟨1, z⟩ := by
  have e := ag_off hs (by decide) h0
  unfold GJ at h ⊢
  rw [h.1] at e
  have hn : G.n = 0 := by
    have : ¬ 1 ≤ G.n := by simpa using e
    omega
  refine ⟨hn, fun z => ?_⟩
  rw [ag_on hs (by decide), getD_set_ne false (by decide), h.2, hn]
  exact ⟨rfl, rfl⟩
theorem GJ.store {l : Array Bool} {G : GI} (h : GJ l G) (hs : l.size = 28) (h0 : l.getD 27 true = false) (h1 : l.getD 26 false = true) : G.n = 1 ∧ GJ (l.setIfInBounds 27 true) ⟨2, G.z⟩ := by
  have e := ag_off hs (by decide) h0
  unfold GJ at h ⊢
  rw [h.2] at e
  have e1 := h1
  rw [h.1] at e1
  have hn : G.n = 1 := by
    have : ¬ 2 ≤ G.n := by simpa using e
    have : 1 ≤ G.n := by simpa using e1
    omega
  refine ⟨hn, ?_⟩
  rw [ag_on hs (by decide), getD_set_ne false (by decide), h1]
  exact ⟨rfl, rfl⟩
def GR (G : GI) (_ : World) (G' : GI) (_ : World) : Prop := 1 ≤ G.n → 1 ≤ G'.n ∧ G'.z = G.z
def GB (W : World) (cs : Array Value) (G : GI) (w : World) : Prop :=
  Kept Nothing W w ∧ (G.n = 1 → W.heap.size ≤ G.z ∧ Blk w G.z 35 #[.int .i64 0, .int .i64 0, .int .i64 0, .int .u32 0, .slice none 0 0]) ∧ (2 ≤ G.n → W.heap.size ≤ G.z ∧ Blk w G.z 35 cs)
theorem GB.alloc {W w : World} {cs : Array Value} {G : GI} (h : GB W cs G w) (_ : G.n = 0) : GB W cs ⟨1, w.heap.size⟩ (w.alloc (.cells #[.int .i64 0, .int .i64 0, .int .i64 0, .int .u32 0, .slice none 0 0] 35)) :=
  ⟨h.1.alloc _, fun _ => ⟨h.1.size, Blk.fresh _ _ _⟩, fun e => absurd (show 2 ≤ 1 from e) (by decide)⟩
theorem GB.store {W w : World} {a0 a1 a2 a3 a4 : Value} {G : GI} (h : GB W #[a0, a1, a2, a3, a4] G w) (hn : G.n = 1) : GB W #[a0, a1, a2, a3, a4] ⟨2, G.z⟩ (((((w.setCell ⟨G.z, 0, none⟩ a0).setCell ⟨G.z, 1, none⟩ a1).setCell ⟨G.z, 2, none⟩ a2).setCell ⟨G.z, 3, none⟩ a3).setCell ⟨G.z, 4, none⟩ a4) := by
  obtain ⟨hz, hb⟩ := h.2.1 hn
  exact ⟨h.1.late (kept_5 (p := G.z) _ _ _ _ _) (fun i (e : i = G.z) => by omega), fun e => absurd (show 2 = 1 from e) (by decide), fun _ => ⟨hz, ((((hb.put 0 a0).put 1 a1).put 2 a2).put 3 a3).put 4 a4⟩⟩
def GF (L : List Value) (k : Nat) (G : GI) (v : Value) (_ : World) : Prop := if k = 26 then (1 ≤ G.n ∧ v = .pointer (some ⟨G.z, 0, none⟩)) else if k = 27 then True else ∀ x, L[k]? = some x → v = x
theorem gf_ptr {L : List Value} {G : GI} {v : Value} {w : World} (h : GF L 26 G v w) : 1 ≤ G.n ∧ v = .pointer (some ⟨G.z, 0, none⟩) := h
theorem gf_val {L : List Value} {k : Nat} {G : GI} {v : Value} {w : World} (hk : k < 26) (h : GF L k G v w) : ∀ x, L[k]? = some x → v = x := by
  unfold GF at h
  rwa [if_neg (by omega), if_neg (by omega)] at h
theorem gf_mk {L : List Value} {k : Nat} {G : GI} {v : Value} {w : World} (hk : k < 26) (hL : L[k]? = some v) : GF L k G v w := by
  unfold GF
  rw [if_neg (by omega), if_neg (by omega)]
  exact fun x hx => Option.some.inj (hL.symm.trans hx)
theorem gf_mk2 {L : List Value} {k : Nat} {G : GI} {v v' : Value} {w : World} (hk : k < 26) (hL : L[k]? = some v') (e : v = v') : GF L k G v w := by
  subst e
  exact gf_mk hk hL
theorem GF.step {L : List Value} (k : Nat) (G : GI) (w : World) (G' : GI) (w' : World) (v : Value) (r : GR G w G' w') (h : GF L k G v w) : GF L k G' v w' := by
  unfold GF at h ⊢
  split
  · next e => rw [if_pos e] at h; obtain ⟨h1, h2⟩ := r h.1; exact ⟨h1, by rw [h2]; exact h.2⟩
  · next e => rw [if_neg e] at h; exact h
def gl (bk o n c : Nat) (x0 x1 x2 x3 x4 : UInt8) (A1 : Option Addr) (m c1 : Nat) : List Value := [.slice (some ⟨bk, o, none⟩) n c, .pointer (some ⟨bk, o, none⟩), .int .u8 (x0.toNat : Int), .int .i64 (x0.toNat : Int), .slice (some ⟨bk, o, none⟩) n c, .pointer (some ⟨bk, o + 1, none⟩), .int .u8 (x1.toNat : Int), .int .i64 (x1.toNat : Int), .int .i64 (256 * (x1.toNat : Int)), .slice (some ⟨bk, o, none⟩) n c, .pointer (some ⟨bk, o + 2, none⟩), .int .u8 (x2.toNat : Int), .int .i64 (x2.toNat : Int), .int .i64 (256 * (x1.toNat : Int) + (x2.toNat : Int)), .slice (some ⟨bk, o, none⟩) n c, .pointer (some ⟨bk, o + 3, none⟩), .int .u8 (x3.toNat : Int), .int .i64 (x3.toNat : Int), .int .i64 (256 * (x3.toNat : Int)), .slice (some ⟨bk, o, none⟩) n c, .pointer (some ⟨bk, o + 4, none⟩), .int .u8 (x4.toNat : Int), .int .i64 (x4.toNat : Int), .int .i64 (256 * (x3.toNat : Int) + (x4.toNat : Int)), .slice A1 m c1, .agg #[.int .i64 (x0.toNat : Int), .int .i64 (256 * (x1.toNat : Int) + (x2.toNat : Int)), .int .i64 (256 * (x3.toNat : Int) + (x4.toNat : Int)), .int .u32 0, .slice A1 m c1], undef, undef]

set_option maxRecDepth 20000 in
set_option maxHeartbeats 8000000 in
theorem rop_get (v : Value) (b : List UInt8) (w : World) (hv : By w v b) (hb : b.length ≤ 100000) :
    Calls Tryd.prog 10 #[v] w fun e w' => ∃ rv d, e = .returned (.tuple #[.agg #[.int .i64 ((Opn.get b).1.ver : Nat), .int .i64 ((Opn.get b).1.asn : Nat), .int .i64 ((Opn.get b).1.hold : Nat), .int .u32 ((Opn.get b).1.id : Nat), rv], .int .i64 ((Opn.get b).2.1 : Nat), .int .i64 ((Opn.get b).2.2.1 : Nat), d]) ∧ Cps w' rv (Opn.get b).1.caps ∧ By w' d (Opn.get b).2.2.2 ∧ Kept Nothing w w' := by
  obtain ⟨A, c, rfl, hc, hm⟩ := hv.form
  unfold maxLen at hm
  have HV := Lib.hid hv
  obtain ⟨R, HR⟩ : ∃ R, Hid (Opn.get b = R) := ⟨_, Lib.hid rfl⟩
  rw [HR.out]
  by_cases h10 : b.length < 10
  · obtain rfl : Opn.bad 0 = R := by rw [← HR.out]; unfold Opn.get; rw [if_pos h10]
    have h10i : (b.length : Int) < 10 := by omega
    clear HR h10 hv
    go_enter Tryd.func10, Tryd.ntmps10
    go_wp2
    exact bodyPost_ret (v := .tuple #[.agg #[.int .i64 0, .int .i64 0, .int .i64 0, .int .u32 0, .slice none 0 0], .int .i64 2, .int .i64 0, .slice none 0 0]) (by simp [results, Tryd.results10, go_sem]) rfl ⟨_, _, rfl, Cps.nil _, (Bs.nil _).by, (Kept.refl Nothing w).alloc _⟩
  · have h10i : ¬ ((b.length : Int) < 10) := by omega
    obtain ⟨bk, o, rfl, hcell⟩ := hv.at (by omega)
    have HC := Lib.hid hcell
    have c0 := hcell 0 (by omega)
    have c9 := hcell 9 (by omega)
    have hbl := World.block_lt_of_cell? _ _ c0
    simp only at hbl
    obtain ⟨x0, X0⟩ : ∃ x, Hid (b.getD 0 0 = x) := ⟨_, Lib.hid rfl⟩
    obtain ⟨x9, X9⟩ : ∃ x, Hid (b.getD 9 0 = x) := ⟨_, Lib.hid rfl⟩
    rw [X0.out] at c0
    rw [X9.out] at c9
    unfold by8 at c0 c9
    replace c0 : w.cell? ⟨bk, o, none⟩ = some (.int .u8 (x0.toNat : Int)) := c0
    have hx0 := x0.toNat_lt
    have hx9 := x9.toNat_lt
    clear hcell hv
    by_cases h4 : x0.toNat = 4
    · by_cases h9 : b.length = 10 + x9.toNat
      · obtain ⟨d, HD⟩ : ∃ d, Hid (b.drop 10 = d) := ⟨_, Lib.hid rfl⟩
        have HDL : Hid (d.length = b.length - 10) := Lib.hid (by rw [← HD.out, List.length_drop])
        have hpc := HV.out.piece (k := 10) (m := b.length - 10) (by omega)
        rw [List.take_of_length_le (by rw [List.length_drop]; exact Nat.le_refl _), HD.out] at hpc
        have h4i : ((x0.toNat : Int) != 4) = false := by simp; omega
        have h9i : ((b.length : Int) != 10 + (x9.toNat : Int)) = false := by simp; omega
        have hR0 : Opn.get b = (if (Cp.out [] d).2.1 ≠ 0 then (Opn.zero, (Cp.out [] d).2.1, (Cp.out [] d).2.2, []) else (Opn.got b, 0, 0, [])) := by
          unfold Opn.get; rw [HD.out, if_neg h10, if_neg (by rw [X0.out]; simp [h4]), if_neg (by rw [X9.out]; omega)]
        have hG : Opn.got b = ⟨x0.toNat, 256 * (b.getD 1 0).toNat + (b.getD 2 0).toNat, 256 * (b.getD 3 0).toNat + (b.getD 4 0).toNat, RS.num ((b.drop 5).take 4), (Cp.out [] d).1⟩ := by
          unfold Opn.got
          rw [HD.out, num_two_at (by omega), num_two_at (by omega)]
          have e0 := num_at b 0 (by omega)
          rw [List.drop_zero, X0.out] at e0
          rw [e0]
        rw [HR.out, hG] at hR0
        have HR0 := Lib.hid hR0
        by_cases hc10 : c = 10
        · subst hc10
          rw [if_pos rfl] at hpc
          rw [show b.length - 10 = 0 by omega] at hpc
          have hpc9 : By w (.slice (some ⟨bk, o, none⟩) 0 0) d := hpc
          clear hpc
          have KB := Lib.hid ((Kept.refl Nothing w).alloc (.cells #[.int .i64 0, .int .i64 0, .int .i64 0, .int .u32 0, .slice none 0 0] 35))
          have FB := Lib.hid (Blk.fresh w 35 #[.int .i64 0, .int .i64 0, .int .i64 0, .int .u32 0, .slice none 0 0])
          have CR := Lib.hid (rcp_read_own _ d w (w.alloc (.cells #[.int .i64 0, .int .i64 0, .int .i64 0, .int .u32 0, .slice none 0 0] 35)) hpc9 KB.out (by rw [HDL.out]; omega))
          have hnone := Cp.out_none d []
          have hflt := Cp.out_fault d []
          have HOFF := Lib.hid (fun (u : Value) (m : List UInt8) (h : By w u m) => (h.offb (P := Only w.heap.size) (fun k (e : k = w.heap.size) => by omega) : OffB (Only w.heap.size) u))
          clear hR0 hG HR
          generalize Cp.out [] d = q at *
          obtain ⟨l, cc, ss⟩ := q
          simp only at HR0 CR hnone hflt
          have H9 := Lib.hid h9
          have H10 := Lib.hid h10
          have H4 := Lib.hid h4
          clear h9 h10 h4 hpc9
          go_enter Tryd.func10, Tryd.ntmps10
          go_wp2_with fail
          refine CR.out.mono ?_
          rintro e w1 ⟨rv, rfl, ⟨xs, ho, hcs⟩, hk⟩
          have K1 := Lib.hid (KB.out.trans hk)
          have F1 := Lib.hid (FB.out.kept hk (fun x => x))
          have HC1 := Lib.hid (CpsO.of_own (P := Only w.heap.size) ho (hcs.mono (fun u m hb => ⟨hb.old (KB.out.trans hk), HOFF.out u m hb⟩)) (fun k (e : k = w.heap.size) => by rw [World.size_alloc]; omega))
          obtain ⟨A1, c1, rfl, _, _⟩ := ow_form ho
          clear ho hcs hk CR KB FB HOFF
          by_cases hz : cc = 0
          · have hs := hnone hz
            subst hz hs
            have hRR0 : R = (⟨x0.toNat, 256 * (b.getD 1 0).toNat + (b.getD 2 0).toNat, 256 * (b.getD 3 0).toNat + (b.getD 4 0).toNat, RS.num ((b.drop 5).take 4), l⟩, 0, 0, []) := HR0.out.trans (if_neg (by decide))
            have HRR := Lib.hid hRR0
            clear hRR0
            obtain ⟨x1, X1⟩ : ∃ x, Hid (b.getD 1 0 = x) := ⟨_, Lib.hid rfl⟩
            obtain ⟨x2, X2⟩ : ∃ x, Hid (b.getD 2 0 = x) := ⟨_, Lib.hid rfl⟩
            obtain ⟨x3, X3⟩ : ∃ x, Hid (b.getD 3 0 = x) := ⟨_, Lib.hid rfl⟩
            obtain ⟨x4, X4⟩ : ∃ x, Hid (b.getD 4 0 = x) := ⟨_, Lib.hid rfl⟩
            have e0 := K1.out.cell_some c0 (fun x => x)
            have e1 := K1.out.cell_some (HC.out 1 (by have := H10.out; omega)) (fun x => x)
            have e2 := K1.out.cell_some (HC.out 2 (by have := H10.out; omega)) (fun x => x)
            have e3 := K1.out.cell_some (HC.out 3 (by have := H10.out; omega)) (fun x => x)
            have e4 := K1.out.cell_some (HC.out 4 (by have := H10.out; omega)) (fun x => x)
            rw [X1.out] at e1
            rw [X2.out] at e2
            rw [X3.out] at e3
            rw [X4.out] at e4
            unfold by8 at e1 e2 e3 e4
            have hx1 := x1.toNat_lt
            have hx2 := x2.toNat_lt
            have hx3 := x3.toNat_lt
            have hx4 := x4.toNat_lt
            have l0 := F1.out.lt
            have lb := World.block_lt_of_cell? _ _ e0
            simp only at lb
            clear HR0 hnone hflt
            go_upto_region 10 with fail
            have hbl10 : 10 ≤ b.length := by have := H10.out; omega
            have r0 : 0 < b.length := by omega
            have r1 : (1 : Int) < (b.length : Int) := by omega
            have r2 : (2 : Int) < (b.length : Int) := by omega
            have r3 : (3 : Int) < (b.length : Int) := by omega
            have r4 : (4 : Int) < (b.length : Int) := by omega
            have E0 := Lib.hid e0
            have E1 := Lib.hid e1
            have E2 := Lib.hid e2
            have E3 := Lib.hid e3
            have E4 := Lib.hid e4
            clear e0 e1 e2 e3 e4 l0
            refine wp_region_facts (GB w1 #[.int .i64 (x0.toNat : Int), .int .i64 (256 * (x1.toNat : Int) + (x2.toNat : Int)), .int .i64 (256 * (x3.toNat : Int) + (x4.toNat : Int)), .int .u32 0, .slice A1 l.length c1]) GJ (GF (gl bk o b.length 10 x0 x1 x2 x3 x4 A1 l.length c1)) GR (by kernel_rfl) (by decide) (by intro d hd; simp [dsts] at hd ⊢; omega) (by rfl) (ready_nil (by kernel_rfl)) GF.step ?_ ?_ ?_
            · exact ⟨⟨0, 0⟩, ⟨rfl, rfl⟩, (Kept.refl _ _).drew, fun e => absurd e (by decide), fun e => absurd e (by decide)⟩
            · refine OwesAll.cons ?_ (OwesAll.cons ?_ (OwesAll.cons ?_ (OwesAll.cons ?_ (OwesAll.cons ?_ (OwesAll.cons ?_ (OwesAll.cons ?_ (OwesAll.cons ?_ (OwesAll.cons ?_ (OwesAll.cons ?_ (OwesAll.cons ?_ (OwesAll.cons ?_ (OwesAll.cons ?_ (OwesAll.cons ?_ (OwesAll.cons ?_ (OwesAll.cons ?_ (OwesAll.cons ?_ (OwesAll.cons ?_ (OwesAll.cons ?_ (OwesAll.cons ?_ (OwesAll.cons ?_ (OwesAll.cons ?_ (OwesAll.cons ?_ (OwesAll.cons ?_ (OwesAll.cons ?_ (OwesAll.cons ?_ (OwesAll.cons ?_ (OwesAll.cons ?_ OwesAll.nil)))))))))))))))))))))))))))
              · intro listed G u a hsz hun haf hJ hB hK hfar
                have v0 : a.tmps.getD 0 undef = .slice (some ⟨bk, o, none⟩) b.length 10 := hfar 0 (by decide)
                have w0 := v0
                rw [Array.getD_eq_getD_getElem?] at w0
                have J' := Lib.hid (hJ.other (i := 0) (by decide) (by decide))
                have HB := Lib.hid hB
                clear hK haf hfar hJ hun hsz hB
                go_simp
                first | exact ⟨_, rfl, G, fun h => ⟨h, rfl⟩, HB.out, J'.out, gf_mk (by decide) rfl⟩ | exact ⟨_, rfl, G, fun h => ⟨h, rfl⟩, HB.out, J'.out, gf_mk2 (by decide) rfl (congrArg (Value.int .i64) (IntWalk.i64_in _ (by omega)))⟩
              · intro listed G u a hsz hun haf hJ hB hK hfar
                have v46 : a.tmps.getD 46 undef = .slice (some ⟨bk, o, none⟩) b.length 10 := gf_val (k := 0) (by decide) (hK 0 _ 46 rfl rfl (haf ⟨0, .data⟩ (Array.mem_of_getElem? (i := 0) rfl) rfl)) _ rfl
                have w46 := v46
                rw [Array.getD_eq_getD_getElem?] at w46
                have J' := Lib.hid (hJ.other (i := 1) (by decide) (by decide))
                have HB := Lib.hid hB
                clear hK haf hfar hJ hun hsz hB
                go_simp
                first | exact ⟨_, rfl, G, fun h => ⟨h, rfl⟩, HB.out, J'.out, gf_mk (by decide) rfl⟩ | exact ⟨_, rfl, G, fun h => ⟨h, rfl⟩, HB.out, J'.out, gf_mk2 (by decide) rfl (congrArg (Value.int .i64) (IntWalk.i64_in _ (by omega)))⟩
              · intro listed G u a hsz hun haf hJ hB hK hfar
                have v47 : a.tmps.getD 47 undef = .pointer (some ⟨bk, o, none⟩) := gf_val (k := 1) (by decide) (hK 1 _ 47 rfl rfl (haf ⟨1, .data⟩ (Array.mem_of_getElem? (i := 0) rfl) rfl)) _ rfl
                have w47 := v47
                rw [Array.getD_eq_getD_getElem?] at w47
                have cc := hB.1.cell_some E0.out (fun x => x)
                have J' := Lib.hid (hJ.other (i := 2) (by decide) (by decide))
                have HB := Lib.hid hB
                clear hK haf hfar hJ hun hsz hB
                go_simp
                first | exact ⟨_, rfl, G, fun h => ⟨h, rfl⟩, HB.out, J'.out, gf_mk (by decide) rfl⟩ | exact ⟨_, rfl, G, fun h => ⟨h, rfl⟩, HB.out, J'.out, gf_mk2 (by decide) rfl (congrArg (Value.int .i64) (IntWalk.i64_in _ (by omega)))⟩
              · intro listed G u a hsz hun haf hJ hB hK hfar
                have v48 : a.tmps.getD 48 undef = .int .u8 (x0.toNat : Int) := gf_val (k := 2) (by decide) (hK 2 _ 48 rfl rfl (haf ⟨2, .data⟩ (Array.mem_of_getElem? (i := 0) rfl) rfl)) _ rfl
                have w48 := v48
                rw [Array.getD_eq_getD_getElem?] at w48
                have J' := Lib.hid (hJ.other (i := 3) (by decide) (by decide))
                have HB := Lib.hid hB
                clear hK haf hfar hJ hun hsz hB
                go_simp
                first | exact ⟨_, rfl, G, fun h => ⟨h, rfl⟩, HB.out, J'.out, gf_mk (by decide) rfl⟩ | exact ⟨_, rfl, G, fun h => ⟨h, rfl⟩, HB.out, J'.out, gf_mk2 (by decide) rfl (congrArg (Value.int .i64) (IntWalk.i64_in _ (by omega)))⟩
              · intro listed G u a hsz hun haf hJ hB hK hfar
                have v0 : a.tmps.getD 0 undef = .slice (some ⟨bk, o, none⟩) b.length 10 := hfar 0 (by decide)
                have w0 := v0
                rw [Array.getD_eq_getD_getElem?] at w0
                have J' := Lib.hid (hJ.other (i := 4) (by decide) (by decide))
                have HB := Lib.hid hB
                clear hK haf hfar hJ hun hsz hB
                go_simp
                first | exact ⟨_, rfl, G, fun h => ⟨h, rfl⟩, HB.out, J'.out, gf_mk (by decide) rfl⟩ | exact ⟨_, rfl, G, fun h => ⟨h, rfl⟩, HB.out, J'.out, gf_mk2 (by decide) rfl (congrArg (Value.int .i64) (IntWalk.i64_in _ (by omega)))⟩
              · intro listed G u a hsz hun haf hJ hB hK hfar
                have v50 : a.tmps.getD 50 undef = .slice (some ⟨bk, o, none⟩) b.length 10 := gf_val (k := 4) (by decide) (hK 4 _ 50 rfl rfl (haf ⟨4, .data⟩ (Array.mem_of_getElem? (i := 0) rfl) rfl)) _ rfl
                have w50 := v50
                rw [Array.getD_eq_getD_getElem?] at w50
                have J' := Lib.hid (hJ.other (i := 5) (by decide) (by decide))
                have HB := Lib.hid hB
                clear hK haf hfar hJ hun hsz hB
                go_simp
                first | exact ⟨_, rfl, G, fun h => ⟨h, rfl⟩, HB.out, J'.out, gf_mk (by decide) rfl⟩ | exact ⟨_, rfl, G, fun h => ⟨h, rfl⟩, HB.out, J'.out, gf_mk2 (by decide) rfl (congrArg (Value.int .i64) (IntWalk.i64_in _ (by omega)))⟩
              · intro listed G u a hsz hun haf hJ hB hK hfar
                have v51 : a.tmps.getD 51 undef = .pointer (some ⟨bk, o + 1, none⟩) := gf_val (k := 5) (by decide) (hK 5 _ 51 rfl rfl (haf ⟨5, .data⟩ (Array.mem_of_getElem? (i := 0) rfl) rfl)) _ rfl
                have w51 := v51
                rw [Array.getD_eq_getD_getElem?] at w51
                have cc := hB.1.cell_some E1.out (fun x => x)
                have J' := Lib.hid (hJ.other (i := 6) (by decide) (by decide))
                have HB := Lib.hid hB
                clear hK haf hfar hJ hun hsz hB
                go_simp
                first | exact ⟨_, rfl, G, fun h => ⟨h, rfl⟩, HB.out, J'.out, gf_mk (by decide) rfl⟩ | exact ⟨_, rfl, G, fun h => ⟨h, rfl⟩, HB.out, J'.out, gf_mk2 (by decide) rfl (congrArg (Value.int .i64) (IntWalk.i64_in _ (by omega)))⟩
              · intro listed G u a hsz hun haf hJ hB hK hfar
                have v52 : a.tmps.getD 52 undef = .int .u8 (x1.toNat : Int) := gf_val (k := 6) (by decide) (hK 6 _ 52 rfl rfl (haf ⟨6, .data⟩ (Array.mem_of_getElem? (i := 0) rfl) rfl)) _ rfl
                have w52 := v52
                rw [Array.getD_eq_getD_getElem?] at w52
                have J' := Lib.hid (hJ.other (i := 7) (by decide) (by decide))
                have HB := Lib.hid hB
                clear hK haf hfar hJ hun hsz hB
                go_simp
                first | exact ⟨_, rfl, G, fun h => ⟨h, rfl⟩, HB.out, J'.out, gf_mk (by decide) rfl⟩ | exact ⟨_, rfl, G, fun h => ⟨h, rfl⟩, HB.out, J'.out, gf_mk2 (by decide) rfl (congrArg (Value.int .i64) (IntWalk.i64_in _ (by omega)))⟩
              · intro listed G u a hsz hun haf hJ hB hK hfar
                have v53 : a.tmps.getD 53 undef = .int .i64 (x1.toNat : Int) := gf_val (k := 7) (by decide) (hK 7 _ 53 rfl rfl (haf ⟨7, .data⟩ (Array.mem_of_getElem? (i := 0) rfl) rfl)) _ rfl
                have w53 := v53
                rw [Array.getD_eq_getD_getElem?] at w53
                have J' := Lib.hid (hJ.other (i := 8) (by decide) (by decide))
                have HB := Lib.hid hB
                clear hK haf hfar hJ hun hsz hB
                go_simp
                first | exact ⟨_, rfl, G, fun h => ⟨h, rfl⟩, HB.out, J'.out, gf_mk (by decide) rfl⟩ | exact ⟨_, rfl, G, fun h => ⟨h, rfl⟩, HB.out, J'.out, gf_mk2 (by decide) rfl (congrArg (Value.int .i64) (IntWalk.i64_in _ (by omega)))⟩
              · intro listed G u a hsz hun haf hJ hB hK hfar
                have v0 : a.tmps.getD 0 undef = .slice (some ⟨bk, o, none⟩) b.length 10 := hfar 0 (by decide)
                have w0 := v0
                rw [Array.getD_eq_getD_getElem?] at w0
                have J' := Lib.hid (hJ.other (i := 9) (by decide) (by decide))
                have HB := Lib.hid hB
                clear hK haf hfar hJ hun hsz hB
                go_simp
                first | exact ⟨_, rfl, G, fun h => ⟨h, rfl⟩, HB.out, J'.out, gf_mk (by decide) rfl⟩ | exact ⟨_, rfl, G, fun h => ⟨h, rfl⟩, HB.out, J'.out, gf_mk2 (by decide) rfl (congrArg (Value.int .i64) (IntWalk.i64_in _ (by omega)))⟩
              · intro listed G u a hsz hun haf hJ hB hK hfar
                have v55 : a.tmps.getD 55 undef = .slice (some ⟨bk, o, none⟩) b.length 10 := gf_val (k := 9) (by decide) (hK 9 _ 55 rfl rfl (haf ⟨9, .data⟩ (Array.mem_of_getElem? (i := 0) rfl) rfl)) _ rfl
                have w55 := v55
                rw [Array.getD_eq_getD_getElem?] at w55
                have J' := Lib.hid (hJ.other (i := 10) (by decide) (by decide))
                have HB := Lib.hid hB
                clear hK haf hfar hJ hun hsz hB
                go_simp
                first | exact ⟨_, rfl, G, fun h => ⟨h, rfl⟩, HB.out, J'.out, gf_mk (by decide) rfl⟩ | exact ⟨_, rfl, G, fun h => ⟨h, rfl⟩, HB.out, J'.out, gf_mk2 (by decide) rfl (congrArg (Value.int .i64) (IntWalk.i64_in _ (by omega)))⟩
              · intro listed G u a hsz hun haf hJ hB hK hfar
                have v56 : a.tmps.getD 56 undef = .pointer (some ⟨bk, o + 2, none⟩) := gf_val (k := 10) (by decide) (hK 10 _ 56 rfl rfl (haf ⟨10, .data⟩ (Array.mem_of_getElem? (i := 0) rfl) rfl)) _ rfl
                have w56 := v56
                rw [Array.getD_eq_getD_getElem?] at w56
                have cc := hB.1.cell_some E2.out (fun x => x)
                have J' := Lib.hid (hJ.other (i := 11) (by decide) (by decide))
                have HB := Lib.hid hB
                clear hK haf hfar hJ hun hsz hB
                go_simp
                first | exact ⟨_, rfl, G, fun h => ⟨h, rfl⟩, HB.out, J'.out, gf_mk (by decide) rfl⟩ | exact ⟨_, rfl, G, fun h => ⟨h, rfl⟩, HB.out, J'.out, gf_mk2 (by decide) rfl (congrArg (Value.int .i64) (IntWalk.i64_in _ (by omega)))⟩
              · intro listed G u a hsz hun haf hJ hB hK hfar
                have v57 : a.tmps.getD 57 undef = .int .u8 (x2.toNat : Int) := gf_val (k := 11) (by decide) (hK 11 _ 57 rfl rfl (haf ⟨11, .data⟩ (Array.mem_of_getElem? (i := 0) rfl) rfl)) _ rfl
                have w57 := v57
                rw [Array.getD_eq_getD_getElem?] at w57
                have J' := Lib.hid (hJ.other (i := 12) (by decide) (by decide))
                have HB := Lib.hid hB
                clear hK haf hfar hJ hun hsz hB
                go_simp
                first | exact ⟨_, rfl, G, fun h => ⟨h, rfl⟩, HB.out, J'.out, gf_mk (by decide) rfl⟩ | exact ⟨_, rfl, G, fun h => ⟨h, rfl⟩, HB.out, J'.out, gf_mk2 (by decide) rfl (congrArg (Value.int .i64) (IntWalk.i64_in _ (by omega)))⟩
              · intro listed G u a hsz hun haf hJ hB hK hfar
                have v54 : a.tmps.getD 54 undef = .int .i64 (256 * (x1.toNat : Int)) := gf_val (k := 8) (by decide) (hK 8 _ 54 rfl rfl (haf ⟨8, .data⟩ (Array.mem_of_getElem? (i := 0) rfl) rfl)) _ rfl
                have w54 := v54
                rw [Array.getD_eq_getD_getElem?] at w54
                have v58 : a.tmps.getD 58 undef = .int .i64 (x2.toNat : Int) := gf_val (k := 12) (by decide) (hK 12 _ 58 rfl rfl (haf ⟨12, .data⟩ (Array.mem_of_getElem? (i := 1) rfl) rfl)) _ rfl
                have w58 := v58
                rw [Array.getD_eq_getD_getElem?] at w58
                have J' := Lib.hid (hJ.other (i := 13) (by decide) (by decide))
                have HB := Lib.hid hB
                clear hK haf hfar hJ hun hsz hB
                go_simp
                first | exact ⟨_, rfl, G, fun h => ⟨h, rfl⟩, HB.out, J'.out, gf_mk (by decide) rfl⟩ | exact ⟨_, rfl, G, fun h => ⟨h, rfl⟩, HB.out, J'.out, gf_mk2 (by decide) rfl (congrArg (Value.int .i64) (IntWalk.i64_in _ (by omega)))⟩
              · intro listed G u a hsz hun haf hJ hB hK hfar
                have v0 : a.tmps.getD 0 undef = .slice (some ⟨bk, o, none⟩) b.length 10 := hfar 0 (by decide)
                have w0 := v0
                rw [Array.getD_eq_getD_getElem?] at w0
                have J' := Lib.hid (hJ.other (i := 14) (by decide) (by decide))
                have HB := Lib.hid hB
                clear hK haf hfar hJ hun hsz hB
                go_simp
                first | exact ⟨_, rfl, G, fun h => ⟨h, rfl⟩, HB.out, J'.out, gf_mk (by decide) rfl⟩ | exact ⟨_, rfl, G, fun h => ⟨h, rfl⟩, HB.out, J'.out, gf_mk2 (by decide) rfl (congrArg (Value.int .i64) (IntWalk.i64_in _ (by omega)))⟩
              · intro listed G u a hsz hun haf hJ hB hK hfar
                have v60 : a.tmps.getD 60 undef = .slice (some ⟨bk, o, none⟩) b.length 10 := gf_val (k := 14) (by decide) (hK 14 _ 60 rfl rfl (haf ⟨14, .data⟩ (Array.mem_of_getElem? (i := 0) rfl) rfl)) _ rfl
                have w60 := v60
                rw [Array.getD_eq_getD_getElem?] at w60
                have J' := Lib.hid (hJ.other (i := 15) (by decide) (by decide))
                have HB := Lib.hid hB
                clear hK haf hfar hJ hun hsz hB
                go_simp
                first | exact ⟨_, rfl, G, fun h => ⟨h, rfl⟩, HB.out, J'.out, gf_mk (by decide) rfl⟩ | exact ⟨_, rfl, G, fun h => ⟨h, rfl⟩, HB.out, J'.out, gf_mk2 (by decide) rfl (congrArg (Value.int .i64) (IntWalk.i64_in _ (by omega)))⟩
              · intro listed G u a hsz hun haf hJ hB hK hfar
                have v61 : a.tmps.getD 61 undef = .pointer (some ⟨bk, o + 3, none⟩) := gf_val (k := 15) (by decide) (hK 15 _ 61 rfl rfl (haf ⟨15, .data⟩ (Array.mem_of_getElem? (i := 0) rfl) rfl)) _ rfl
                have w61 := v61
                rw [Array.getD_eq_getD_getElem?] at w61
                have cc := hB.1.cell_some E3.out (fun x => x)
                have J' := Lib.hid (hJ.other (i := 16) (by decide) (by decide))
                have HB := Lib.hid hB
                clear hK haf hfar hJ hun hsz hB
                go_simp
                first | exact ⟨_, rfl, G, fun h => ⟨h, rfl⟩, HB.out, J'.out, gf_mk (by decide) rfl⟩ | exact ⟨_, rfl, G, fun h => ⟨h, rfl⟩, HB.out, J'.out, gf_mk2 (by decide) rfl (congrArg (Value.int .i64) (IntWalk.i64_in _ (by omega)))⟩
              · intro listed G u a hsz hun haf hJ hB hK hfar
                have v62 : a.tmps.getD 62 undef = .int .u8 (x3.toNat : Int) := gf_val (k := 16) (by decide) (hK 16 _ 62 rfl rfl (haf ⟨16, .data⟩ (Array.mem_of_getElem? (i := 0) rfl) rfl)) _ rfl
                have w62 := v62
                rw [Array.getD_eq_getD_getElem?] at w62
                have J' := Lib.hid (hJ.other (i := 17) (by decide) (by decide))
                have HB := Lib.hid hB
                clear hK haf hfar hJ hun hsz hB
                go_simp
                first | exact ⟨_, rfl, G, fun h => ⟨h, rfl⟩, HB.out, J'.out, gf_mk (by decide) rfl⟩ | exact ⟨_, rfl, G, fun h => ⟨h, rfl⟩, HB.out, J'.out, gf_mk2 (by decide) rfl (congrArg (Value.int .i64) (IntWalk.i64_in _ (by omega)))⟩
              · intro listed G u a hsz hun haf hJ hB hK hfar
                have v63 : a.tmps.getD 63 undef = .int .i64 (x3.toNat : Int) := gf_val (k := 17) (by decide) (hK 17 _ 63 rfl rfl (haf ⟨17, .data⟩ (Array.mem_of_getElem? (i := 0) rfl) rfl)) _ rfl
                have w63 := v63
                rw [Array.getD_eq_getD_getElem?] at w63
                have J' := Lib.hid (hJ.other (i := 18) (by decide) (by decide))
                have HB := Lib.hid hB
                clear hK haf hfar hJ hun hsz hB
                go_simp
                first | exact ⟨_, rfl, G, fun h => ⟨h, rfl⟩, HB.out, J'.out, gf_mk (by decide) rfl⟩ | exact ⟨_, rfl, G, fun h => ⟨h, rfl⟩, HB.out, J'.out, gf_mk2 (by decide) rfl (congrArg (Value.int .i64) (IntWalk.i64_in _ (by omega)))⟩
              · intro listed G u a hsz hun haf hJ hB hK hfar
                have v0 : a.tmps.getD 0 undef = .slice (some ⟨bk, o, none⟩) b.length 10 := hfar 0 (by decide)
                have w0 := v0
                rw [Array.getD_eq_getD_getElem?] at w0
                have J' := Lib.hid (hJ.other (i := 19) (by decide) (by decide))
                have HB := Lib.hid hB
                clear hK haf hfar hJ hun hsz hB
                go_simp
                first | exact ⟨_, rfl, G, fun h => ⟨h, rfl⟩, HB.out, J'.out, gf_mk (by decide) rfl⟩ | exact ⟨_, rfl, G, fun h => ⟨h, rfl⟩, HB.out, J'.out, gf_mk2 (by decide) rfl (congrArg (Value.int .i64) (IntWalk.i64_in _ (by omega)))⟩
              · intro listed G u a hsz hun haf hJ hB hK hfar
                have v65 : a.tmps.getD 65 undef = .slice (some ⟨bk, o, none⟩) b.length 10 := gf_val (k := 19) (by decide) (hK 19 _ 65 rfl rfl (haf ⟨19, .data⟩ (Array.mem_of_getElem? (i := 0) rfl) rfl)) _ rfl
                have w65 := v65
                rw [Array.getD_eq_getD_getElem?] at w65
                have J' := Lib.hid (hJ.other (i := 20) (by decide) (by decide))
                have HB := Lib.hid hB
                clear hK haf hfar hJ hun hsz hB
                go_simp
                first | exact ⟨_, rfl, G, fun h => ⟨h, rfl⟩, HB.out, J'.out, gf_mk (by decide) rfl⟩ | exact ⟨_, rfl, G, fun h => ⟨h, rfl⟩, HB.out, J'.out, gf_mk2 (by decide) rfl (congrArg (Value.int .i64) (IntWalk.i64_in _ (by omega)))⟩
              · intro listed G u a hsz hun haf hJ hB hK hfar
                have v66 : a.tmps.getD 66 undef = .pointer (some ⟨bk, o + 4, none⟩) := gf_val (k := 20) (by decide) (hK 20 _ 66 rfl rfl (haf ⟨20, .data⟩ (Array.mem_of_getElem? (i := 0) rfl) rfl)) _ rfl
                have w66 := v66
                rw [Array.getD_eq_getD_getElem?] at w66
                have cc := hB.1.cell_some E4.out (fun x => x)
                have J' := Lib.hid (hJ.other (i := 21) (by decide) (by decide))
                have HB := Lib.hid hB
                clear hK haf hfar hJ hun hsz hB
                go_simp
                first | exact ⟨_, rfl, G, fun h => ⟨h, rfl⟩, HB.out, J'.out, gf_mk (by decide) rfl⟩ | exact ⟨_, rfl, G, fun h => ⟨h, rfl⟩, HB.out, J'.out, gf_mk2 (by decide) rfl (congrArg (Value.int .i64) (IntWalk.i64_in _ (by omega)))⟩
              · intro listed G u a hsz hun haf hJ hB hK hfar
                have v67 : a.tmps.getD 67 undef = .int .u8 (x4.toNat : Int) := gf_val (k := 21) (by decide) (hK 21 _ 67 rfl rfl (haf ⟨21, .data⟩ (Array.mem_of_getElem? (i := 0) rfl) rfl)) _ rfl
                have w67 := v67
                rw [Array.getD_eq_getD_getElem?] at w67
                have J' := Lib.hid (hJ.other (i := 22) (by decide) (by decide))
                have HB := Lib.hid hB
                clear hK haf hfar hJ hun hsz hB
                go_simp
                first | exact ⟨_, rfl, G, fun h => ⟨h, rfl⟩, HB.out, J'.out, gf_mk (by decide) rfl⟩ | exact ⟨_, rfl, G, fun h => ⟨h, rfl⟩, HB.out, J'.out, gf_mk2 (by decide) rfl (congrArg (Value.int .i64) (IntWalk.i64_in _ (by omega)))⟩
              · intro listed G u a hsz hun haf hJ hB hK hfar
                have v64 : a.tmps.getD 64 undef = .int .i64 (256 * (x3.toNat : Int)) := gf_val (k := 18) (by decide) (hK 18 _ 64 rfl rfl (haf ⟨18, .data⟩ (Array.mem_of_getElem? (i := 0) rfl) rfl)) _ rfl
                have w64 := v64
                rw [Array.getD_eq_getD_getElem?] at w64
                have v68 : a.tmps.getD 68 undef = .int .i64 (x4.toNat : Int) := gf_val (k := 22) (by decide) (hK 22 _ 68 rfl rfl (haf ⟨22, .data⟩ (Array.mem_of_getElem? (i := 1) rfl) rfl)) _ rfl
                have w68 := v68
                rw [Array.getD_eq_getD_getElem?] at w68
                have J' := Lib.hid (hJ.other (i := 23) (by decide) (by decide))
                have HB := Lib.hid hB
                clear hK haf hfar hJ hun hsz hB
                go_simp
                first | exact ⟨_, rfl, G, fun h => ⟨h, rfl⟩, HB.out, J'.out, gf_mk (by decide) rfl⟩ | exact ⟨_, rfl, G, fun h => ⟨h, rfl⟩, HB.out, J'.out, gf_mk2 (by decide) rfl (congrArg (Value.int .i64) (IntWalk.i64_in _ (by omega)))⟩
              · intro listed G u a hsz hun haf hJ hB hK hfar
                have v6 : a.tmps.getD 6 undef = .slice A1 l.length c1 := hfar 6 (by decide)
                have w6 := v6
                rw [Array.getD_eq_getD_getElem?] at w6
                have J' := Lib.hid (hJ.other (i := 24) (by decide) (by decide))
                have HB := Lib.hid hB
                clear hK haf hfar hJ hun hsz hB
                go_simp
                first | exact ⟨_, rfl, G, fun h => ⟨h, rfl⟩, HB.out, J'.out, gf_mk (by decide) rfl⟩ | exact ⟨_, rfl, G, fun h => ⟨h, rfl⟩, HB.out, J'.out, gf_mk2 (by decide) rfl (congrArg (Value.int .i64) (IntWalk.i64_in _ (by omega)))⟩
              · intro listed G u a hsz hun haf hJ hB hK hfar
                have v49 : a.tmps.getD 49 undef = .int .i64 (x0.toNat : Int) := gf_val (k := 3) (by decide) (hK 3 _ 49 rfl rfl (haf ⟨3, .data⟩ (Array.mem_of_getElem? (i := 0) rfl) rfl)) _ rfl
                have w49 := v49
                rw [Array.getD_eq_getD_getElem?] at w49
                have v59 : a.tmps.getD 59 undef = .int .i64 (256 * (x1.toNat : Int) + (x2.toNat : Int)) := gf_val (k := 13) (by decide) (hK 13 _ 59 rfl rfl (haf ⟨13, .data⟩ (Array.mem_of_getElem? (i := 1) rfl) rfl)) _ rfl
                have w59 := v59
                rw [Array.getD_eq_getD_getElem?] at w59
                have v69 : a.tmps.getD 69 undef = .int .i64 (256 * (x3.toNat : Int) + (x4.toNat : Int)) := gf_val (k := 23) (by decide) (hK 23 _ 69 rfl rfl (haf ⟨23, .data⟩ (Array.mem_of_getElem? (i := 2) rfl) rfl)) _ rfl
                have w69 := v69
                rw [Array.getD_eq_getD_getElem?] at w69
                have v70 : a.tmps.getD 70 undef = .slice A1 l.length c1 := gf_val (k := 24) (by decide) (hK 24 _ 70 rfl rfl (haf ⟨24, .data⟩ (Array.mem_of_getElem? (i := 3) rfl) rfl)) _ rfl
                have w70 := v70
                rw [Array.getD_eq_getD_getElem?] at w70
                have J' := Lib.hid (hJ.other (i := 25) (by decide) (by decide))
                have HB := Lib.hid hB
                clear hK haf hfar hJ hun hsz hB
                go_simp
                first | exact ⟨_, rfl, G, fun h => ⟨h, rfl⟩, HB.out, J'.out, gf_mk (by decide) rfl⟩ | exact ⟨_, rfl, G, fun h => ⟨h, rfl⟩, HB.out, J'.out, gf_mk2 (by decide) rfl (congrArg (Value.int .i64) (IntWalk.i64_in _ (by omega)))⟩
              · intro listed G u a hsz hun haf hJ hB hK hfar
                obtain ⟨hn, hJ2⟩ := hJ.alloc hsz hun
                have J' := Lib.hid hJ2
                have HB := Lib.hid hB
                clear hK haf hfar hJ hun hsz hB hJ2
                go_simp
                exact ⟨_, rfl, ⟨1, u.heap.size⟩, fun h => absurd h (by omega), HB.out.alloc hn, J'.out _, Nat.le_refl 1, rfl⟩
              · intro listed G u a hsz hun haf hJ hB hK hfar
                have p9 := gf_ptr (hK 26 _ 9 rfl rfl (haf ⟨26, .data⟩ (Array.mem_of_getElem? (i := 0) rfl) rfl))
                have v9 : a.tmps.getD 9 undef = .pointer (some ⟨G.z, 0, none⟩) := p9.2
                have w9 := v9
                rw [Array.getD_eq_getD_getElem?] at w9
                have v71 : a.tmps.getD 71 undef = .agg #[.int .i64 (x0.toNat : Int), .int .i64 (256 * (x1.toNat : Int) + (x2.toNat : Int)), .int .i64 (256 * (x3.toNat : Int) + (x4.toNat : Int)), .int .u32 0, .slice A1 l.length c1] := gf_val (k := 25) (by decide) (hK 25 _ 71 rfl rfl (haf ⟨25, .data⟩ (Array.mem_of_getElem? (i := 1) rfl) rfl)) _ rfl
                have w71 := v71
                rw [Array.getD_eq_getD_getElem?] at w71
                obtain ⟨hn, hJ2⟩ := hJ.store hsz hun (haf ⟨26, .data⟩ (Array.mem_of_getElem? (i := 0) rfl) rfl)
                have J' := Lib.hid hJ2
                have hb := (hB.2.1 hn).2
                obtain ⟨⟨a0, a1, a2, a3, a4⟩, a5, a6, a7, a8, a9⟩ := full5 hb
                have hbl := hb.lt
                have HB := Lib.hid hB
                have HN := Lib.hid hn
                clear hK haf hfar hJ hun hsz hB hJ2 hb hn
                go_simp
                exact ⟨undef, ⟨2, G.z⟩, fun _ => ⟨show 1 ≤ 2 by decide, rfl⟩, HB.out.store HN.out, J'.out, trivial⟩
            · intro vals G w6 hB hJ hV
              have hn2 : 2 ≤ G.n := by
                have h1 : decide (2 ≤ G.n) = true := by rw [← hJ.2]; rfl
                simpa using h1
              obtain ⟨hz, hbz⟩ := hB.2.2 hn2
              have e26 : vals 26 = .pointer (some ⟨G.z, 0, none⟩) := (gf_ptr (hV 26 _ 9 rfl rfl)).2
              have hk6 := hB.1
              generalize G.z = z at *
              have HBZ : Hid (Blk w6 z 35 #[.int .i64 (x0.toNat : Int), .int .i64 (256 * (x1.toNat : Int) + (x2.toNat : Int)), .int .i64 (256 * (x3.toNat : Int) + (x4.toNat : Int)), .int .u32 0, .slice A1 l.length c1]) := Lib.hid hbz
              have hsz := K1.out.size
              have hws := F1.out.lt
              have K6 := Lib.hid (K1.out.trans hk6)
              have F6 := Lib.hid (F1.out.kept hk6 (fun x => x))
              have HC6 := Lib.hid ((HC1.out.or (Q := Only z) (HC1.out.cps.offo (fun k (e : k = z) => by omega))).old hk6)
              clear hB hJ hV hbz hk6 hn2 K1 F1 HC1 E0 E1 E2 E3 E4
              simp [putAll, Act.put, Array.setIfInBounds, e26]
              clear e26
              go_wp2
              go_loopw [10] (fun i wr => ∃ j : Nat, i = .int .i64 j ∧ 5 ≤ j ∧ j ≤ 9 ∧ Hid (Blk wr z 35 #[.int .i64 (x0.toNat : Int), .int .i64 (256 * (x1.toNat : Int) + (x2.toNat : Int)), .int .i64 (256 * (x3.toNat : Int) + (x4.toNat : Int)), .int .u32 (RS.num ((b.drop 5).take (j - 5)) : Nat), .slice A1 l.length c1]) ∧ Hid (Kept (Only z) w6 wr)) (fun i _ => 9 - (intOf i).toNat)
              case atStart => exact ⟨5, by go_num, by omega, by omega, HBZ, Lib.hid (Kept.refl _ _)⟩
              case round =>
                obtain ⟨j, rfl, hj5, hj9, HZ, HK⟩ := hrel
                have hz1 := HZ.out.lt
                by_cases hlt : j < 9
                · have HTN := Lib.hid (take_next hj5 (show j < b.length by have := H10.out; omega))
                  have hcj := HK.out.cell_some (K6.out.cell_some (HC.out j (by have := H10.out; omega)) (fun x => x)) (fun e : bk = z => by omega)
                  have hnl := num_lt ((b.drop 5).take (j - 5))
                  have hpw : 256 ^ ((b.drop 5).take (j - 5)).length ≤ 256 ^ 3 := Nat.pow_le_pow_right (by decide) (by rw [List.length_take]; omega)
                  have hid : RS.num ((b.drop 5).take (j - 5)) < 16777216 := Nat.lt_of_lt_of_le hnl hpw
                  have HNS := Lib.hid (num_snoc ((b.drop 5).take (j - 5)) (b.getD j 0))
                  rw [← HTN.out] at HNS
                  generalize RS.num ((b.drop 5).take (j - 5)) = idn at *
                  generalize b.getD j 0 = y at *
                  unfold by8 at hcj
                  have hy := y.toNat_lt
                  obtain ⟨⟨a0, a1, a2, a3, a4⟩, a5, a6, a7, a8, a9⟩ := full5 HZ.out
                  have hbw := World.block_lt_of_cell? _ _ hcj
                  simp only at hbw
                  have hne : bk ≠ z := by omega
                  clear hnl hpw HTN
                  go_wp2_with fail
                  go_region
                  all_goals
                    go_wp2
                    go_roundw
                    case rel =>
                      refine ⟨j + 1, by go_num, by omega, by omega, Lib.hid ?_, Lib.hid ((HK.out.trans (Kept.own _ z 3 _)).drewN _)⟩
                      rw [HNS.out]
                      exact (HZ.out.put 3 _).drewN _
                    case measure => simp [intOf]; omega
                · obtain rfl : j = 9 := by omega
                  have F7 := Lib.hid (F6.out.kept HK.out (fun e : w.heap.size = z => by omega))
                  have HC7 := Lib.hid (HC6.out.off (HK.out.mono (fun k e => Or.inr e)))
                  have K7 := Lib.hid (K6.out.late HK.out (fun i (e : i = z) => by omega))
                  have f7 := F7.out.lt
                  obtain ⟨⟨g0, g1, g2, g3, g4⟩, g5, g6, g7, g8, g9⟩ := full5 F7.out
                  obtain ⟨⟨a0, a1, a2, a3, a4⟩, -⟩ := full5 HZ.out
                  have HID : Hid (RS.num ((b.drop 5).take 4) = RS.num ((b.drop 5).take (9 - 5))) := Lib.hid rfl
                  have hRR := HRR.out
                  rw [X1.out, X2.out, X3.out, X4.out, HID.out] at hRR
                  generalize RS.num ((b.drop 5).take (9 - 5)) = idn at *
                  subst hRR
                  clear HRR HZ HK F6 HC6 K6 HID
                  go_wp2
                  exact bodyPost_ret (v := .tuple #[.agg #[.int .i64 (x0.toNat : Int), .int .i64 (256 * (x1.toNat : Int) + (x2.toNat : Int)), .int .i64 (256 * (x3.toNat : Int) + (x4.toNat : Int)), .int .u32 (idn : Int), .slice A1 l.length c1], .int .i64 0, .int .i64 0, .slice none 0 0]) (by simp [results, Tryd.results10, go_sem, g0, g1, g2, g3, g4]) rfl ⟨_, _, rfl, (HC7.out.off ((kept_5 (p := w.heap.size) _ _ _ _ _).mono (fun k e => Or.inl e))).cps, (Bs.nil _).by, K7.out.late (kept_5 (p := w.heap.size) _ _ _ _ _) (fun i (e : i = w.heap.size) => by omega)⟩
          · obtain ⟨rfl, rfl, hss⟩ := hflt hz
            obtain rfl : R = (Opn.zero, 2, ss, []) := HR0.out.trans (if_pos (by decide))
            have f1 := F1.out
            have l1 := f1.lt
            obtain ⟨⟨g0, g1, g2, g3, g4⟩, g5, g6, g7, g8, g9⟩ := full5 f1
            clear HR0 hnone hflt F1 hz hss
            go_wp2
            exact bodyPost_ret (v := .tuple #[.agg #[.int .i64 0, .int .i64 0, .int .i64 0, .int .u32 0, .slice none 0 0], .int .i64 2, .int .i64 (ss : Int), .slice none 0 0]) (by simp [results, Tryd.results10, go_sem, g0, g1, g2, g3, g4]) rfl ⟨_, _, rfl, Cps.nil _, (Bs.nil _).by, K1.out.late (kept_5 (p := w.heap.size) _ _ _ _ _) (fun i (e : i = w.heap.size) => by omega)⟩
        · rw [if_neg hc10] at hpc
          have hpc9 : By w (.slice (some ⟨bk, o + 10, none⟩) (b.length - 10) (c - 10)) d := by rw [← add_none]; exact hpc
          clear hpc
          have KB := Lib.hid ((Kept.refl Nothing w).alloc (.cells #[.int .i64 0, .int .i64 0, .int .i64 0, .int .u32 0, .slice none 0 0] 35))
          have FB := Lib.hid (Blk.fresh w 35 #[.int .i64 0, .int .i64 0, .int .i64 0, .int .u32 0, .slice none 0 0])
          have CR := Lib.hid (rcp_read_own _ d w (w.alloc (.cells #[.int .i64 0, .int .i64 0, .int .i64 0, .int .u32 0, .slice none 0 0] 35)) hpc9 KB.out (by rw [HDL.out]; omega))
          have hnone := Cp.out_none d []
          have hflt := Cp.out_fault d []
          have HOFF := Lib.hid (fun (u : Value) (m : List UInt8) (h : By w u m) => (h.offb (P := Only w.heap.size) (fun k (e : k = w.heap.size) => by omega) : OffB (Only w.heap.size) u))
          clear hR0 hG HR
          generalize Cp.out [] d = q at *
          obtain ⟨l, cc, ss⟩ := q
          simp only at HR0 CR hnone hflt
          have H9 := Lib.hid h9
          have H10 := Lib.hid h10
          have H4 := Lib.hid h4
          clear h9 h10 h4 hpc9
          go_enter Tryd.func10, Tryd.ntmps10
          go_wp2_with fail
          refine CR.out.mono ?_
          rintro e w1 ⟨rv, rfl, ⟨xs, ho, hcs⟩, hk⟩
          have K1 := Lib.hid (KB.out.trans hk)
          have F1 := Lib.hid (FB.out.kept hk (fun x => x))
          have HC1 := Lib.hid (CpsO.of_own (P := Only w.heap.size) ho (hcs.mono (fun u m hb => ⟨hb.old (KB.out.trans hk), HOFF.out u m hb⟩)) (fun k (e : k = w.heap.size) => by rw [World.size_alloc]; omega))
          obtain ⟨A1, c1, rfl, _, _⟩ := ow_form ho
          clear ho hcs hk CR KB FB HOFF
          by_cases hz : cc = 0
          · have hs := hnone hz
            subst hz hs
            have hRR0 : R = (⟨x0.toNat, 256 * (b.getD 1 0).toNat + (b.getD 2 0).toNat, 256 * (b.getD 3 0).toNat + (b.getD 4 0).toNat, RS.num ((b.drop 5).take 4), l⟩, 0, 0, []) := HR0.out.trans (if_neg (by decide))
            have HRR := Lib.hid hRR0
            clear hRR0
            obtain ⟨x1, X1⟩ : ∃ x, Hid (b.getD 1 0 = x) := ⟨_, Lib.hid rfl⟩
            obtain ⟨x2, X2⟩ : ∃ x, Hid (b.getD 2 0 = x) := ⟨_, Lib.hid rfl⟩
            obtain ⟨x3, X3⟩ : ∃ x, Hid (b.getD 3 0 = x) := ⟨_, Lib.hid rfl⟩
            obtain ⟨x4, X4⟩ : ∃ x, Hid (b.getD 4 0 = x) := ⟨_, Lib.hid rfl⟩
            have e0 := K1.out.cell_some c0 (fun x => x)
            have e1 := K1.out.cell_some (HC.out 1 (by have := H10.out; omega)) (fun x => x)
            have e2 := K1.out.cell_some (HC.out 2 (by have := H10.out; omega)) (fun x => x)
            have e3 := K1.out.cell_some (HC.out 3 (by have := H10.out; omega)) (fun x => x)
            have e4 := K1.out.cell_some (HC.out 4 (by have := H10.out; omega)) (fun x => x)
            rw [X1.out] at e1
            rw [X2.out] at e2
            rw [X3.out] at e3
            rw [X4.out] at e4
            unfold by8 at e1 e2 e3 e4
            have hx1 := x1.toNat_lt
            have hx2 := x2.toNat_lt
            have hx3 := x3.toNat_lt
            have hx4 := x4.toNat_lt
            have l0 := F1.out.lt
            have lb := World.block_lt_of_cell? _ _ e0
            simp only at lb
            clear HR0 hnone hflt
            go_upto_region 10 with fail
            have hbl10 : 10 ≤ b.length := by have := H10.out; omega
            have r0 : 0 < b.length := by omega
            have r1 : (1 : Int) < (b.length : Int) := by omega
            have r2 : (2 : Int) < (b.length : Int) := by omega
            have r3 : (3 : Int) < (b.length : Int) := by omega
            have r4 : (4 : Int) < (b.length : Int) := by omega
            have E0 := Lib.hid e0
            have E1 := Lib.hid e1
            have E2 := Lib.hid e2
            have E3 := Lib.hid e3
            have E4 := Lib.hid e4
            clear e0 e1 e2 e3 e4 l0
            refine wp_region_facts (GB w1 #[.int .i64 (x0.toNat : Int), .int .i64 (256 * (x1.toNat : Int) + (x2.toNat : Int)), .int .i64 (256 * (x3.toNat : Int) + (x4.toNat : Int)), .int .u32 0, .slice A1 l.length c1]) GJ (GF (gl bk o b.length c x0 x1 x2 x3 x4 A1 l.length c1)) GR (by kernel_rfl) (by decide) (by intro d hd; simp [dsts] at hd ⊢; omega) (by rfl) (ready_nil (by kernel_rfl)) GF.step ?_ ?_ ?_
            · exact ⟨⟨0, 0⟩, ⟨rfl, rfl⟩, (Kept.refl _ _).drew, fun e => absurd e (by decide), fun e => absurd e (by decide)⟩
            · refine OwesAll.cons ?_ (OwesAll.cons ?_ (OwesAll.cons ?_ (OwesAll.cons ?_ (OwesAll.cons ?_ (OwesAll.cons ?_ (OwesAll.cons ?_ (OwesAll.cons ?_ (OwesAll.cons ?_ (OwesAll.cons ?_ (OwesAll.cons ?_ (OwesAll.cons ?_ (OwesAll.cons ?_ (OwesAll.cons ?_ (OwesAll.cons ?_ (OwesAll.cons ?_ (OwesAll.cons ?_ (OwesAll.cons ?_ (OwesAll.cons ?_ (OwesAll.cons ?_ (OwesAll.cons ?_ (OwesAll.cons ?_ (OwesAll.cons ?_ (OwesAll.cons ?_ (OwesAll.cons ?_ (OwesAll.cons ?_ (OwesAll.cons ?_ (OwesAll.cons ?_ OwesAll.nil)))))))))))))))))))))))))))
              · intro listed G u a hsz hun haf hJ hB hK hfar
                have v0 : a.tmps.getD 0 undef = .slice (some ⟨bk, o, none⟩) b.length c := hfar 0 (by decide)
                have w0 := v0
                rw [Array.getD_eq_getD_getElem?] at w0
                have J' := Lib.hid (hJ.other (i := 0) (by decide) (by decide))
                have HB := Lib.hid hB
                clear hK haf hfar hJ hun hsz hB
                go_simp
                first | exact ⟨_, rfl, G, fun h => ⟨h, rfl⟩, HB.out, J'.out, gf_mk (by decide) rfl⟩ | exact ⟨_, rfl, G, fun h => ⟨h, rfl⟩, HB.out, J'.out, gf_mk2 (by decide) rfl (congrArg (Value.int .i64) (IntWalk.i64_in _ (by omega)))⟩
              · intro listed G u a hsz hun haf hJ hB hK hfar
                have v46 : a.tmps.getD 46 undef = .slice (some ⟨bk, o, none⟩) b.length c := gf_val (k := 0) (by decide) (hK 0 _ 46 rfl rfl (haf ⟨0, .data⟩ (Array.mem_of_getElem? (i := 0) rfl) rfl)) _ rfl
                have w46 := v46
                rw [Array.getD_eq_getD_getElem?] at w46
                have J' := Lib.hid (hJ.other (i := 1) (by decide) (by decide))
                have HB := Lib.hid hB
                clear hK haf hfar hJ hun hsz hB
                go_simp
                first | exact ⟨_, rfl, G, fun h => ⟨h, rfl⟩, HB.out, J'.out, gf_mk (by decide) rfl⟩ | exact ⟨_, rfl, G, fun h => ⟨h, rfl⟩, HB.out, J'.out, gf_mk2 (by decide) rfl (congrArg (Value.int .i64) (IntWalk.i64_in _ (by omega)))⟩
              · intro listed G u a hsz hun haf hJ hB hK hfar
                have v47 : a.tmps.getD 47 undef = .pointer (some ⟨bk, o, none⟩) := gf_val (k := 1) (by decide) (hK 1 _ 47 rfl rfl (haf ⟨1, .data⟩ (Array.mem_of_getElem? (i := 0) rfl) rfl)) _ rfl
                have w47 := v47
                rw [Array.getD_eq_getD_getElem?] at w47
                have cc := hB.1.cell_some E0.out (fun x => x)
                have J' := Lib.hid (hJ.other (i := 2) (by decide) (by decide))
                have HB := Lib.hid hB
                clear hK haf hfar hJ hun hsz hB
                go_simp
                first | exact ⟨_, rfl, G, fun h => ⟨h, rfl⟩, HB.out, J'.out, gf_mk (by decide) rfl⟩ | exact ⟨_, rfl, G, fun h => ⟨h, rfl⟩, HB.out, J'.out, gf_mk2 (by decide) rfl (congrArg (Value.int .i64) (IntWalk.i64_in _ (by omega)))⟩
              · intro listed G u a hsz hun haf hJ hB hK hfar
                have v48 : a.tmps.getD 48 undef = .int .u8 (x0.toNat : Int) := gf_val (k := 2) (by decide) (hK 2 _ 48 rfl rfl (haf ⟨2, .data⟩ (Array.mem_of_getElem? (i := 0) rfl) rfl)) _ rfl
                have w48 := v48
                rw [Array.getD_eq_getD_getElem?] at w48
                have J' := Lib.hid (hJ.other (i := 3) (by decide) (by decide))
                have HB := Lib.hid hB
                clear hK haf hfar hJ hun hsz hB
                go_simp
                first | exact ⟨_, rfl, G, fun h => ⟨h, rfl⟩, HB.out, J'.out, gf_mk (by decide) rfl⟩ | exact ⟨_, rfl, G, fun h => ⟨h, rfl⟩, HB.out, J'.out, gf_mk2 (by decide) rfl (congrArg (Value.int .i64) (IntWalk.i64_in _ (by omega)))⟩
              · intro listed G u a hsz hun haf hJ hB hK hfar
                have v0 : a.tmps.getD 0 undef = .slice (some ⟨bk, o, none⟩) b.length c := hfar 0 (by decide)
                have w0 := v0
                rw [Array.getD_eq_getD_getElem?] at w0
                have J' := Lib.hid (hJ.other (i := 4) (by decide) (by decide))
                have HB := Lib.hid hB
                clear hK haf hfar hJ hun hsz hB
                go_simp
                first | exact ⟨_, rfl, G, fun h => ⟨h, rfl⟩, HB.out, J'.out, gf_mk (by decide) rfl⟩ | exact ⟨_, rfl, G, fun h => ⟨h, rfl⟩, HB.out, J'.out, gf_mk2 (by decide) rfl (congrArg (Value.int .i64) (IntWalk.i64_in _ (by omega)))⟩
              · intro listed G u a hsz hun haf hJ hB hK hfar
                have v50 : a.tmps.getD 50 undef = .slice (some ⟨bk, o, none⟩) b.length c := gf_val (k := 4) (by decide) (hK 4 _ 50 rfl rfl (haf ⟨4, .data⟩ (Array.mem_of_getElem? (i := 0) rfl) rfl)) _ rfl
                have w50 := v50
                rw [Array.getD_eq_getD_getElem?] at w50
                have J' := Lib.hid (hJ.other (i := 5) (by decide) (by decide))
                have HB := Lib.hid hB
                clear hK haf hfar hJ hun hsz hB
                go_simp
                first | exact ⟨_, rfl, G, fun h => ⟨h, rfl⟩, HB.out, J'.out, gf_mk (by decide) rfl⟩ | exact ⟨_, rfl, G, fun h => ⟨h, rfl⟩, HB.out, J'.out, gf_mk2 (by decide) rfl (congrArg (Value.int .i64) (IntWalk.i64_in _ (by omega)))⟩
              · intro listed G u a hsz hun haf hJ hB hK hfar
                have v51 : a.tmps.getD 51 undef = .pointer (some ⟨bk, o + 1, none⟩) := gf_val (k := 5) (by decide) (hK 5 _ 51 rfl rfl (haf ⟨5, .data⟩ (Array.mem_of_getElem? (i := 0) rfl) rfl)) _ rfl
                have w51 := v51
                rw [Array.getD_eq_getD_getElem?] at w51
                have cc := hB.1.cell_some E1.out (fun x => x)
                have J' := Lib.hid (hJ.other (i := 6) (by decide) (by decide))
                have HB := Lib.hid hB
                clear hK haf hfar hJ hun hsz hB
                go_simp
                first | exact ⟨_, rfl, G, fun h => ⟨h, rfl⟩, HB.out, J'.out, gf_mk (by decide) rfl⟩ | exact ⟨_, rfl, G, fun h => ⟨h, rfl⟩, HB.out, J'.out, gf_mk2 (by decide) rfl (congrArg (Value.int .i64) (IntWalk.i64_in _ (by omega)))⟩
              · intro listed G u a hsz hun haf hJ hB hK hfar
                have v52 : a.tmps.getD 52 undef = .int .u8 (x1.toNat : Int) := gf_val (k := 6) (by decide) (hK 6 _ 52 rfl rfl (haf ⟨6, .data⟩ (Array.mem_of_getElem? (i := 0) rfl) rfl)) _ rfl
                have w52 := v52
                rw [Array.getD_eq_getD_getElem?] at w52
                have J' := Lib.hid (hJ.other (i := 7) (by decide) (by decide))
                have HB := Lib.hid hB
                clear hK haf hfar hJ hun hsz hB
                go_simp
                first | exact ⟨_, rfl, G, fun h => ⟨h, rfl⟩, HB.out, J'.out, gf_mk (by decide) rfl⟩ | exact ⟨_, rfl, G, fun h => ⟨h, rfl⟩, HB.out, J'.out, gf_mk2 (by decide) rfl (congrArg (Value.int .i64) (IntWalk.i64_in _ (by omega)))⟩
              · intro listed G u a hsz hun haf hJ hB hK hfar
                have v53 : a.tmps.getD 53 undef = .int .i64 (x1.toNat : Int) := gf_val (k := 7) (by decide) (hK 7 _ 53 rfl rfl (haf ⟨7, .data⟩ (Array.mem_of_getElem? (i := 0) rfl) rfl)) _ rfl
                have w53 := v53
                rw [Array.getD_eq_getD_getElem?] at w53
                have J' := Lib.hid (hJ.other (i := 8) (by decide) (by decide))
                have HB := Lib.hid hB
                clear hK haf hfar hJ hun hsz hB
                go_simp
                first | exact ⟨_, rfl, G, fun h => ⟨h, rfl⟩, HB.out, J'.out, gf_mk (by decide) rfl⟩ | exact ⟨_, rfl, G, fun h => ⟨h, rfl⟩, HB.out, J'.out, gf_mk2 (by decide) rfl (congrArg (Value.int .i64) (IntWalk.i64_in _ (by omega)))⟩
              · intro listed G u a hsz hun haf hJ hB hK hfar
                have v0 : a.tmps.getD 0 undef = .slice (some ⟨bk, o, none⟩) b.length c := hfar 0 (by decide)
                have w0 := v0
                rw [Array.getD_eq_getD_getElem?] at w0
                have J' := Lib.hid (hJ.other (i := 9) (by decide) (by decide))
                have HB := Lib.hid hB
                clear hK haf hfar hJ hun hsz hB
                go_simp
                first | exact ⟨_, rfl, G, fun h => ⟨h, rfl⟩, HB.out, J'.out, gf_mk (by decide) rfl⟩ | exact ⟨_, rfl, G, fun h => ⟨h, rfl⟩, HB.out, J'.out, gf_mk2 (by decide) rfl (congrArg (Value.int .i64) (IntWalk.i64_in _ (by omega)))⟩
              · intro listed G u a hsz hun haf hJ hB hK hfar
                have v55 : a.tmps.getD 55 undef = .slice (some ⟨bk, o, none⟩) b.length c := gf_val (k := 9) (by decide) (hK 9 _ 55 rfl rfl (haf ⟨9, .data⟩ (Array.mem_of_getElem? (i := 0) rfl) rfl)) _ rfl
                have w55 := v55
                rw [Array.getD_eq_getD_getElem?] at w55
                have J' := Lib.hid (hJ.other (i := 10) (by decide) (by decide))
                have HB := Lib.hid hB
                clear hK haf hfar hJ hun hsz hB
                go_simp
                first | exact ⟨_, rfl, G, fun h => ⟨h, rfl⟩, HB.out, J'.out, gf_mk (by decide) rfl⟩ | exact ⟨_, rfl, G, fun h => ⟨h, rfl⟩, HB.out, J'.out, gf_mk2 (by decide) rfl (congrArg (Value.int .i64) (IntWalk.i64_in _ (by omega)))⟩
              · intro listed G u a hsz hun haf hJ hB hK hfar
                have v56 : a.tmps.getD 56 undef = .pointer (some ⟨bk, o + 2, none⟩) := gf_val (k := 10) (by decide) (hK 10 _ 56 rfl rfl (haf ⟨10, .data⟩ (Array.mem_of_getElem? (i := 0) rfl) rfl)) _ rfl
                have w56 := v56
                rw [Array.getD_eq_getD_getElem?] at w56
                have cc := hB.1.cell_some E2.out (fun x => x)
                have J' := Lib.hid (hJ.other (i := 11) (by decide) (by decide))
                have HB := Lib.hid hB
                clear hK haf hfar hJ hun hsz hB
                go_simp
                first | exact ⟨_, rfl, G, fun h => ⟨h, rfl⟩, HB.out, J'.out, gf_mk (by decide) rfl⟩ | exact ⟨_, rfl, G, fun h => ⟨h, rfl⟩, HB.out, J'.out, gf_mk2 (by decide) rfl (congrArg (Value.int .i64) (IntWalk.i64_in _ (by omega)))⟩
              · intro listed G u a hsz hun haf hJ hB hK hfar
                have v57 : a.tmps.getD 57 undef = .int .u8 (x2.toNat : Int) := gf_val (k := 11) (by decide) (hK 11 _ 57 rfl rfl (haf ⟨11, .data⟩ (Array.mem_of_getElem? (i := 0) rfl) rfl)) _ rfl
                have w57 := v57
                rw [Array.getD_eq_getD_getElem?] at w57
                have J' := Lib.hid (hJ.other (i := 12) (by decide) (by decide))
                have HB := Lib.hid hB
                clear hK haf hfar hJ hun hsz hB
                go_simp
                first | exact ⟨_, rfl, G, fun h => ⟨h, rfl⟩, HB.out, J'.out, gf_mk (by decide) rfl⟩ | exact ⟨_, rfl, G, fun h => ⟨h, rfl⟩, HB.out, J'.out, gf_mk2 (by decide) rfl (congrArg (Value.int .i64) (IntWalk.i64_in _ (by omega)))⟩
              · intro listed G u a hsz hun haf hJ hB hK hfar
                have v54 : a.tmps.getD 54 undef = .int .i64 (256 * (x1.toNat : Int)) := gf_val (k := 8) (by decide) (hK 8 _ 54 rfl rfl (haf ⟨8, .data⟩ (Array.mem_of_getElem? (i := 0) rfl) rfl)) _ rfl
                have w54 := v54
                rw [Array.getD_eq_getD_getElem?] at w54
                have v58 : a.tmps.getD 58 undef = .int .i64 (x2.toNat : Int) := gf_val (k := 12) (by decide) (hK 12 _ 58 rfl rfl (haf ⟨12, .data⟩ (Array.mem_of_getElem? (i := 1) rfl) rfl)) _ rfl
                have w58 := v58
                rw [Array.getD_eq_getD_getElem?] at w58
                have J' := Lib.hid (hJ.other (i := 13) (by decide) (by decide))
                have HB := Lib.hid hB
                clear hK haf hfar hJ hun hsz hB
                go_simp
                first | exact ⟨_, rfl, G, fun h => ⟨h, rfl⟩, HB.out, J'.out, gf_mk (by decide) rfl⟩ | exact ⟨_, rfl, G, fun h => ⟨h, rfl⟩, HB.out, J'.out, gf_mk2 (by decide) rfl (congrArg (Value.int .i64) (IntWalk.i64_in _ (by omega)))⟩
              · intro listed G u a hsz hun haf hJ hB hK hfar
                have v0 : a.tmps.getD 0 undef = .slice (some ⟨bk, o, none⟩) b.length c := hfar 0 (by decide)
                have w0 := v0
                rw [Array.getD_eq_getD_getElem?] at w0
                have J' := Lib.hid (hJ.other (i := 14) (by decide) (by decide))
                have HB := Lib.hid hB
                clear hK haf hfar hJ hun hsz hB
                go_simp
                first | exact ⟨_, rfl, G, fun h => ⟨h, rfl⟩, HB.out, J'.out, gf_mk (by decide) rfl⟩ | exact ⟨_, rfl, G, fun h => ⟨h, rfl⟩, HB.out, J'.out, gf_mk2 (by decide) rfl (congrArg (Value.int .i64) (IntWalk.i64_in _ (by omega)))⟩
              · intro listed G u a hsz hun haf hJ hB hK hfar
                have v60 : a.tmps.getD 60 undef = .slice (some ⟨bk, o, none⟩) b.length c := gf_val (k := 14) (by decide) (hK 14 _ 60 rfl rfl (haf ⟨14, .data⟩ (Array.mem_of_getElem? (i := 0) rfl) rfl)) _ rfl
                have w60 := v60
                rw [Array.getD_eq_getD_getElem?] at w60
                have J' := Lib.hid (hJ.other (i := 15) (by decide) (by decide))
                have HB := Lib.hid hB
                clear hK haf hfar hJ hun hsz hB
                go_simp
                first | exact ⟨_, rfl, G, fun h => ⟨h, rfl⟩, HB.out, J'.out, gf_mk (by decide) rfl⟩ | exact ⟨_, rfl, G, fun h => ⟨h, rfl⟩, HB.out, J'.out, gf_mk2 (by decide) rfl (congrArg (Value.int .i64) (IntWalk.i64_in _ (by omega)))⟩
              · intro listed G u a hsz hun haf hJ hB hK hfar
                have v61 : a.tmps.getD 61 undef = .pointer (some ⟨bk, o + 3, none⟩) := gf_val (k := 15) (by decide) (hK 15 _ 61 rfl rfl (haf ⟨15, .data⟩ (Array.mem_of_getElem? (i := 0) rfl) rfl)) _ rfl
                have w61 := v61
                rw [Array.getD_eq_getD_getElem?] at w61
                have cc := hB.1.cell_some E3.out (fun x => x)
                have J' := Lib.hid (hJ.other (i := 16) (by decide) (by decide))
                have HB := Lib.hid hB
                clear hK haf hfar hJ hun hsz hB
                go_simp
                first | exact ⟨_, rfl, G, fun h => ⟨h, rfl⟩, HB.out, J'.out, gf_mk (by decide) rfl⟩ | exact ⟨_, rfl, G, fun h => ⟨h, rfl⟩, HB.out, J'.out, gf_mk2 (by decide) rfl (congrArg (Value.int .i64) (IntWalk.i64_in _ (by omega)))⟩
              · intro listed G u a hsz hun haf hJ hB hK hfar
                have v62 : a.tmps.getD 62 undef = .int .u8 (x3.toNat : Int) := gf_val (k := 16) (by decide) (hK 16 _ 62 rfl rfl (haf ⟨16, .data⟩ (Array.mem_of_getElem? (i := 0) rfl) rfl)) _ rfl
                have w62 := v62
                rw [Array.getD_eq_getD_getElem?] at w62
                have J' := Lib.hid (hJ.other (i := 17) (by decide) (by decide))
                have HB := Lib.hid hB
                clear hK haf hfar hJ hun hsz hB
                go_simp
                first | exact ⟨_, rfl, G, fun h => ⟨h, rfl⟩, HB.out, J'.out, gf_mk (by decide) rfl⟩ | exact ⟨_, rfl, G, fun h => ⟨h, rfl⟩, HB.out, J'.out, gf_mk2 (by decide) rfl (congrArg (Value.int .i64) (IntWalk.i64_in _ (by omega)))⟩
              · intro listed G u a hsz hun haf hJ hB hK hfar
                have v63 : a.tmps.getD 63 undef = .int .i64 (x3.toNat : Int) := gf_val (k := 17) (by decide) (hK 17 _ 63 rfl rfl (haf ⟨17, .data⟩ (Array.mem_of_getElem? (i := 0) rfl) rfl)) _ rfl
                have w63 := v63
                rw [Array.getD_eq_getD_getElem?] at w63
                have J' := Lib.hid (hJ.other (i := 18) (by decide) (by decide))
                have HB := Lib.hid hB
                clear hK haf hfar hJ hun hsz hB
                go_simp
                first | exact ⟨_, rfl, G, fun h => ⟨h, rfl⟩, HB.out, J'.out, gf_mk (by decide) rfl⟩ | exact ⟨_, rfl, G, fun h => ⟨h, rfl⟩, HB.out, J'.out, gf_mk2 (by decide) rfl (congrArg (Value.int .i64) (IntWalk.i64_in _ (by omega)))⟩
              · intro listed G u a hsz hun haf hJ hB hK hfar
                have v0 : a.tmps.getD 0 undef = .slice (some ⟨bk, o, none⟩) b.length c := hfar 0 (by decide)
                have w0 := v0
                rw [Array.getD_eq_getD_getElem?] at w0
                have J' := Lib.hid (hJ.other (i := 19) (by decide) (by decide))
                have HB := Lib.hid hB
                clear hK haf hfar hJ hun hsz hB
                go_simp
                first | exact ⟨_, rfl, G, fun h => ⟨h, rfl⟩, HB.out, J'.out, gf_mk (by decide) rfl⟩ | exact ⟨_, rfl, G, fun h => ⟨h, rfl⟩, HB.out, J'.out, gf_mk2 (by decide) rfl (congrArg (Value.int .i64) (IntWalk.i64_in _ (by omega)))⟩
              · intro listed G u a hsz hun haf hJ hB hK hfar
                have v65 : a.tmps.getD 65 undef = .slice (some ⟨bk, o, none⟩) b.length c := gf_val (k := 19) (by decide) (hK 19 _ 65 rfl rfl (haf ⟨19, .data⟩ (Array.mem_of_getElem? (i := 0) rfl) rfl)) _ rfl
                have w65 := v65
                rw [Array.getD_eq_getD_getElem?] at w65
                have J' := Lib.hid (hJ.other (i := 20) (by decide) (by decide))
                have HB := Lib.hid hB
                clear hK haf hfar hJ hun hsz hB
                go_simp
                first | exact ⟨_, rfl, G, fun h => ⟨h, rfl⟩, HB.out, J'.out, gf_mk (by decide) rfl⟩ | exact ⟨_, rfl, G, fun h => ⟨h, rfl⟩, HB.out, J'.out, gf_mk2 (by decide) rfl (congrArg (Value.int .i64) (IntWalk.i64_in _ (by omega)))⟩
              · intro listed G u a hsz hun haf hJ hB hK hfar
                have v66 : a.tmps.getD 66 undef = .pointer (some ⟨bk, o + 4, none⟩) := gf_val (k := 20) (by decide) (hK 20 _ 66 rfl rfl (haf ⟨20, .data⟩ (Array.mem_of_getElem? (i := 0) rfl) rfl)) _ rfl
                have w66 := v66
                rw [Array.getD_eq_getD_getElem?] at w66
                have cc := hB.1.cell_some E4.out (fun x => x)
                have J' := Lib.hid (hJ.other (i := 21) (by decide) (by decide))
                have HB := Lib.hid hB
                clear hK haf hfar hJ hun hsz hB
                go_simp
                first | exact ⟨_, rfl, G, fun h => ⟨h, rfl⟩, HB.out, J'.out, gf_mk (by decide) rfl⟩ | exact ⟨_, rfl, G, fun h => ⟨h, rfl⟩, HB.out, J'.out, gf_mk2 (by decide) rfl (congrArg (Value.int .i64) (IntWalk.i64_in _ (by omega)))⟩
              · intro listed G u a hsz hun haf hJ hB hK hfar
                have v67 : a.tmps.getD 67 undef = .int .u8 (x4.toNat : Int) := gf_val (k := 21) (by decide) (hK 21 _ 67 rfl rfl (haf ⟨21, .data⟩ (Array.mem_of_getElem? (i := 0) rfl) rfl)) _ rfl
                have w67 := v67
                rw [Array.getD_eq_getD_getElem?] at w67
                have J' := Lib.hid (hJ.other (i := 22) (by decide) (by decide))
                have HB := Lib.hid hB
                clear hK haf hfar hJ hun hsz hB
                go_simp
                first | exact ⟨_, rfl, G, fun h => ⟨h, rfl⟩, HB.out, J'.out, gf_mk (by decide) rfl⟩ | exact ⟨_, rfl, G, fun h => ⟨h, rfl⟩, HB.out, J'.out, gf_mk2 (by decide) rfl (congrArg (Value.int .i64) (IntWalk.i64_in _ (by omega)))⟩
              · intro listed G u a hsz hun haf hJ hB hK hfar
                have v64 : a.tmps.getD 64 undef = .int .i64 (256 * (x3.toNat : Int)) := gf_val (k := 18) (by decide) (hK 18 _ 64 rfl rfl (haf ⟨18, .data⟩ (Array.mem_of_getElem? (i := 0) rfl) rfl)) _ rfl
                have w64 := v64
                rw [Array.getD_eq_getD_getElem?] at w64
                have v68 : a.tmps.getD 68 undef = .int .i64 (x4.toNat : Int) := gf_val (k := 22) (by decide) (hK 22 _ 68 rfl rfl (haf ⟨22, .data⟩ (Array.mem_of_getElem? (i := 1) rfl) rfl)) _ rfl
                have w68 := v68
                rw [Array.getD_eq_getD_getElem?] at w68
                have J' := Lib.hid (hJ.other (i := 23) (by decide) (by decide))
                have HB := Lib.hid hB
                clear hK haf hfar hJ hun hsz hB
                go_simp
                first | exact ⟨_, rfl, G, fun h => ⟨h, rfl⟩, HB.out, J'.out, gf_mk (by decide) rfl⟩ | exact ⟨_, rfl, G, fun h => ⟨h, rfl⟩, HB.out, J'.out, gf_mk2 (by decide) rfl (congrArg (Value.int .i64) (IntWalk.i64_in _ (by omega)))⟩
              · intro listed G u a hsz hun haf hJ hB hK hfar
                have v6 : a.tmps.getD 6 undef = .slice A1 l.length c1 := hfar 6 (by decide)
                have w6 := v6
                rw [Array.getD_eq_getD_getElem?] at w6
                have J' := Lib.hid (hJ.other (i := 24) (by decide) (by decide))
                have HB := Lib.hid hB
                clear hK haf hfar hJ hun hsz hB
                go_simp
                first | exact ⟨_, rfl, G, fun h => ⟨h, rfl⟩, HB.out, J'.out, gf_mk (by decide) rfl⟩ | exact ⟨_, rfl, G, fun h => ⟨h, rfl⟩, HB.out, J'.out, gf_mk2 (by decide) rfl (congrArg (Value.int .i64) (IntWalk.i64_in _ (by omega)))⟩
              · intro listed G u a hsz hun haf hJ hB hK hfar
                have v49 : a.tmps.getD 49 undef = .int .i64 (x0.toNat : Int) := gf_val (k := 3) (by decide) (hK 3 _ 49 rfl rfl (haf ⟨3, .data⟩ (Array.mem_of_getElem? (i := 0) rfl) rfl)) _ rfl
                have w49 := v49
                rw [Array.getD_eq_getD_getElem?] at w49
                have v59 : a.tmps.getD 59 undef = .int .i64 (256 * (x1.toNat : Int) + (x2.toNat : Int)) := gf_val (k := 13) (by decide) (hK 13 _ 59 rfl rfl (haf ⟨13, .data⟩ (Array.mem_of_getElem? (i := 1) rfl) rfl)) _ rfl
                have w59 := v59
                rw [Array.getD_eq_getD_getElem?] at w59
                have v69 : a.tmps.getD 69 undef = .int .i64 (256 * (x3.toNat : Int) + (x4.toNat : Int)) := gf_val (k := 23) (by decide) (hK 23 _ 69 rfl rfl (haf ⟨23, .data⟩ (Array.mem_of_getElem? (i := 2) rfl) rfl)) _ rfl
                have w69 := v69
                rw [Array.getD_eq_getD_getElem?] at w69
                have v70 : a.tmps.getD 70 undef = .slice A1 l.length c1 := gf_val (k := 24) (by decide) (hK 24 _ 70 rfl rfl (haf ⟨24, .data⟩ (Array.mem_of_getElem? (i := 3) rfl) rfl)) _ rfl
                have w70 := v70
                rw [Array.getD_eq_getD_getElem?] at w70
                have J' := Lib.hid (hJ.other (i := 25) (by decide) (by decide))
                have HB := Lib.hid hB
                clear hK haf hfar hJ hun hsz hB
                go_simp
                first | exact ⟨_, rfl, G, fun h => ⟨h, rfl⟩, HB.out, J'.out, gf_mk (by decide) rfl⟩ | exact ⟨_, rfl, G, fun h => ⟨h, rfl⟩, HB.out, J'.out, gf_mk2 (by decide) rfl (congrArg (Value.int .i64) (IntWalk.i64_in _ (by omega)))⟩
              · intro listed G u a hsz hun haf hJ hB hK hfar
                obtain ⟨hn, hJ2⟩ := hJ.alloc hsz hun
                have J' := Lib.hid hJ2
                have HB := Lib.hid hB
                clear hK haf hfar hJ hun hsz hB hJ2
                go_simp
                exact ⟨_, rfl, ⟨1, u.heap.size⟩, fun h => absurd h (by omega), HB.out.alloc hn, J'.out _, Nat.le_refl 1, rfl⟩
              · intro listed G u a hsz hun haf hJ hB hK hfar
                have p9 := gf_ptr (hK 26 _ 9 rfl rfl (haf ⟨26, .data⟩ (Array.mem_of_getElem? (i := 0) rfl) rfl))
                have v9 : a.tmps.getD 9 undef = .pointer (some ⟨G.z, 0, none⟩) := p9.2
                have w9 := v9
                rw [Array.getD_eq_getD_getElem?] at w9
                have v71 : a.tmps.getD 71 undef = .agg #[.int .i64 (x0.toNat : Int), .int .i64 (256 * (x1.toNat : Int) + (x2.toNat : Int)), .int .i64 (256 * (x3.toNat : Int) + (x4.toNat : Int)), .int .u32 0, .slice A1 l.length c1] := gf_val (k := 25) (by decide) (hK 25 _ 71 rfl rfl (haf ⟨25, .data⟩ (Array.mem_of_getElem? (i := 1) rfl) rfl)) _ rfl
                have w71 := v71
                rw [Array.getD_eq_getD_getElem?] at w71
                obtain ⟨hn, hJ2⟩ := hJ.store hsz hun (haf ⟨26, .data⟩ (Array.mem_of_getElem? (i := 0) rfl) rfl)
                have J' := Lib.hid hJ2
                have hb := (hB.2.1 hn).2
                obtain ⟨⟨a0, a1, a2, a3, a4⟩, a5, a6, a7, a8, a9⟩ := full5 hb
                have hbl := hb.lt
                have HB := Lib.hid hB
                have HN := Lib.hid hn
                clear hK haf hfar hJ hun hsz hB hJ2 hb hn
                go_simp
                exact ⟨undef, ⟨2, G.z⟩, fun _ => ⟨show 1 ≤ 2 by decide, rfl⟩, HB.out.store HN.out, J'.out, trivial⟩
            · intro vals G w6 hB hJ hV
              have hn2 : 2 ≤ G.n := by
                have h1 : decide (2 ≤ G.n) = true := by rw [← hJ.2]; rfl
                simpa using h1
              obtain ⟨hz, hbz⟩ := hB.2.2 hn2
              have e26 : vals 26 = .pointer (some ⟨G.z, 0, none⟩) := (gf_ptr (hV 26 _ 9 rfl rfl)).2
              have hk6 := hB.1
              generalize G.z = z at *
              have HBZ : Hid (Blk w6 z 35 #[.int .i64 (x0.toNat : Int), .int .i64 (256 * (x1.toNat : Int) + (x2.toNat : Int)), .int .i64 (256 * (x3.toNat : Int) + (x4.toNat : Int)), .int .u32 0, .slice A1 l.length c1]) := Lib.hid hbz
              have hsz := K1.out.size
              have hws := F1.out.lt
              have K6 := Lib.hid (K1.out.trans hk6)
              have F6 := Lib.hid (F1.out.kept hk6 (fun x => x))
              have HC6 := Lib.hid ((HC1.out.or (Q := Only z) (HC1.out.cps.offo (fun k (e : k = z) => by omega))).old hk6)
              clear hB hJ hV hbz hk6 hn2 K1 F1 HC1 E0 E1 E2 E3 E4
              simp [putAll, Act.put, Array.setIfInBounds, e26]
              clear e26
              go_wp2
              go_loopw [10] (fun i wr => ∃ j : Nat, i = .int .i64 j ∧ 5 ≤ j ∧ j ≤ 9 ∧ Hid (Blk wr z 35 #[.int .i64 (x0.toNat : Int), .int .i64 (256 * (x1.toNat : Int) + (x2.toNat : Int)), .int .i64 (256 * (x3.toNat : Int) + (x4.toNat : Int)), .int .u32 (RS.num ((b.drop 5).take (j - 5)) : Nat), .slice A1 l.length c1]) ∧ Hid (Kept (Only z) w6 wr)) (fun i _ => 9 - (intOf i).toNat)
              case atStart => exact ⟨5, by go_num, by omega, by omega, HBZ, Lib.hid (Kept.refl _ _)⟩
              case round =>
                obtain ⟨j, rfl, hj5, hj9, HZ, HK⟩ := hrel
                have hz1 := HZ.out.lt
                by_cases hlt : j < 9
                · have HTN := Lib.hid (take_next hj5 (show j < b.length by have := H10.out; omega))
                  have hcj := HK.out.cell_some (K6.out.cell_some (HC.out j (by have := H10.out; omega)) (fun x => x)) (fun e : bk = z => by omega)
                  have hnl := num_lt ((b.drop 5).take (j - 5))
                  have hpw : 256 ^ ((b.drop 5).take (j - 5)).length ≤ 256 ^ 3 := Nat.pow_le_pow_right (by decide) (by rw [List.length_take]; omega)
                  have hid : RS.num ((b.drop 5).take (j - 5)) < 16777216 := Nat.lt_of_lt_of_le hnl hpw
                  have HNS := Lib.hid (num_snoc ((b.drop 5).take (j - 5)) (b.getD j 0))
                  rw [← HTN.out] at HNS
                  generalize RS.num ((b.drop 5).take (j - 5)) = idn at *
                  generalize b.getD j 0 = y at *
                  unfold by8 at hcj
                  have hy := y.toNat_lt
                  obtain ⟨⟨a0, a1, a2, a3, a4⟩, a5, a6, a7, a8, a9⟩ := full5 HZ.out
                  have hbw := World.block_lt_of_cell? _ _ hcj
                  simp only at hbw
                  have hne : bk ≠ z := by omega
                  clear hnl hpw HTN
                  go_wp2_with fail
                  go_region
                  all_goals
                    go_wp2
                    go_roundw
                    case rel =>
                      refine ⟨j + 1, by go_num, by omega, by omega, Lib.hid ?_, Lib.hid ((HK.out.trans (Kept.own _ z 3 _)).drewN _)⟩
                      rw [HNS.out]
                      exact (HZ.out.put 3 _).drewN _
                    case measure => simp [intOf]; omega
                · obtain rfl : j = 9 := by omega
                  have F7 := Lib.hid (F6.out.kept HK.out (fun e : w.heap.size = z => by omega))
                  have HC7 := Lib.hid (HC6.out.off (HK.out.mono (fun k e => Or.inr e)))
                  have K7 := Lib.hid (K6.out.late HK.out (fun i (e : i = z) => by omega))
                  have f7 := F7.out.lt
                  obtain ⟨⟨g0, g1, g2, g3, g4⟩, g5, g6, g7, g8, g9⟩ := full5 F7.out
                  obtain ⟨⟨a0, a1, a2, a3, a4⟩, -⟩ := full5 HZ.out
                  have HID : Hid (RS.num ((b.drop 5).take 4) = RS.num ((b.drop 5).take (9 - 5))) := Lib.hid rfl
                  have hRR := HRR.out
                  rw [X1.out, X2.out, X3.out, X4.out, HID.out] at hRR
                  generalize RS.num ((b.drop 5).take (9 - 5)) = idn at *
                  subst hRR
                  clear HRR HZ HK F6 HC6 K6 HID
                  go_wp2
                  exact bodyPost_ret (v := .tuple #[.agg #[.int .i64 (x0.toNat : Int), .int .i64 (256 * (x1.toNat : Int) + (x2.toNat : Int)), .int .i64 (256 * (x3.toNat : Int) + (x4.toNat : Int)), .int .u32 (idn : Int), .slice A1 l.length c1], .int .i64 0, .int .i64 0, .slice none 0 0]) (by simp [results, Tryd.results10, go_sem, g0, g1, g2, g3, g4]) rfl ⟨_, _, rfl, (HC7.out.off ((kept_5 (p := w.heap.size) _ _ _ _ _).mono (fun k e => Or.inl e))).cps, (Bs.nil _).by, K7.out.late (kept_5 (p := w.heap.size) _ _ _ _ _) (fun i (e : i = w.heap.size) => by omega)⟩
          · obtain ⟨rfl, rfl, hss⟩ := hflt hz
            obtain rfl : R = (Opn.zero, 2, ss, []) := HR0.out.trans (if_pos (by decide))
            have f1 := F1.out
            have l1 := f1.lt
            obtain ⟨⟨g0, g1, g2, g3, g4⟩, g5, g6, g7, g8, g9⟩ := full5 f1
            clear HR0 hnone hflt F1 hz hss
            go_wp2
            exact bodyPost_ret (v := .tuple #[.agg #[.int .i64 0, .int .i64 0, .int .i64 0, .int .u32 0, .slice none 0 0], .int .i64 2, .int .i64 (ss : Int), .slice none 0 0]) (by simp [results, Tryd.results10, go_sem, g0, g1, g2, g3, g4]) rfl ⟨_, _, rfl, Cps.nil _, (Bs.nil _).by, K1.out.late (kept_5 (p := w.heap.size) _ _ _ _ _) (fun i (e : i = w.heap.size) => by omega)⟩
      · obtain rfl : Opn.bad 0 = R := by rw [← HR.out]; unfold Opn.get; rw [if_neg h10, if_neg (by rw [X0.out]; simp [h4]), if_pos (by rw [X9.out]; exact h9)]
        have h4i : ((x0.toNat : Int) != 4) = false := by simp; omega
        have h9i : ((b.length : Int) != 10 + (x9.toNat : Int)) = true := by simp; omega
        clear HR h10 X0 X9 h4 h9
        go_enter Tryd.func10, Tryd.ntmps10
        go_wp2
        exact bodyPost_ret (v := .tuple #[.agg #[.int .i64 0, .int .i64 0, .int .i64 0, .int .u32 0, .slice none 0 0], .int .i64 2, .int .i64 0, .slice none 0 0]) (by simp [results, Tryd.results10, go_sem]) rfl ⟨_, _, rfl, Cps.nil _, (Bs.nil _).by, (Kept.refl Nothing w).alloc _⟩
    · obtain rfl : Opn.bad 1 = R := by rw [← HR.out]; unfold Opn.get; rw [if_neg h10, if_pos (by rw [X0.out]; exact h4)]
      have h4i : ((x0.toNat : Int) != 4) = true := by simp; omega
      clear HR h10 X0 X9 h4
      go_enter Tryd.func10, Tryd.ntmps10
      go_wp2
      exact bodyPost_ret (v := .tuple #[.agg #[.int .i64 0, .int .i64 0, .int .i64 0, .int .u32 0, .slice none 0 0], .int .i64 2, .int .i64 1, .slice (some ⟨w.heap.size + 1, 0, none⟩) 2 2]) (by simp [results, Tryd.results10, go_sem]) rfl ⟨_, _, rfl, Cps.nil _, made_by (w := w.alloc (.cells #[.int .i64 0, .int .i64 0, .int .i64 0, .int .u32 0, .slice none 0 0] 35)) (n := w.heap.size + 1) (l := [0, 4]) (cs := #[.int .u8 0, .int .u8 4]) (by simp) rfl (by simp [maxLen]), ((Kept.refl Nothing w).alloc _).alloc _⟩
end Go.Proofs.YtohgkibpcgfihaaDoor
