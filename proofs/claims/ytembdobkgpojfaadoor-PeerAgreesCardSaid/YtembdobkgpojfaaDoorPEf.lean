
/-
  The law PeerAgrees: two rows of capabilities that grow side by side.
-/
import Derived.Test.YtembdobkgpojfaaDoorPEd
import Derived.Test.YtembdobkgpojfaaDoorXt
namespace Go.Proofs.YtembdobkgpojfaaDoor
open Go.RowKit

theorem rcap_info15 : (Tryd.prog.info? 63).map (fun i => (i.zero, i.size, i.bytes)) = some (some (.agg #[.int .u8 0, .slice none 0 0]), 2, 32) := by kernel_rfl
def cut60 (c : Cp) : Cp := (c.1, c.2.take 60)
/-- Both rows, of the same cells. -/
structure Tw2 (W u : World) (A : Option Addr) (n c : Nat) (xs : List Value) (B : Option Addr) (m d : Nat) (ys : List Value) : Prop where
  k : Kept Nothing W u
  r1 : u.ownsRow W.heap.size 62 2 (.slice A n c) n xs
  r2 : u.ownsRow W.heap.size 63 2 (.slice B m d) m ys
section
variable {W u u' : World} {A : Option Addr} {n c : Nat} {xs : List Value} {B : Option Addr} {m d : Nat} {ys : List Value}
theorem Tw2.old (h : Tw2 W u A n c xs B m d ys) (k : Kept Nothing u u') : Tw2 W u' A n c xs B m d ys := ⟨h.k.trans k, ow_kept h.r1 k (fun _ _ x => x), ow_kept h.r2 k (fun _ _ x => x)⟩
theorem Tw2.apart (h : Tw2 W u A n c xs B m d ys) (g : Nat) (h1 : (Value.slice A n c).ownBlock = some g) (h2 : (Value.slice B m d).ownBlock = some g) : False := by
  obtain ⟨c1, q1⟩ := ow_lt h.r1 h1
  obtain ⟨c2, q2⟩ := ow_lt h.r2 h2
  rw [q1] at q2
  injection q2 with q2
  injection q2 with _ q2
  exact absurd q2 (by decide)
theorem Tw2.open1 (h : Tw2 W u A n c xs B m d ys) {g : Nat} {cs : Array Value} (hB : Blk u g 77 cs) (e : (Value.slice A n c).ownBlock = some g) : False := by
  obtain ⟨c1, q1⟩ := ow_lt h.r1 e
  unfold Blk at hB
  rw [q1] at hB
  injection hB with hB
  injection hB with _ q2
  exact absurd q2 (by decide)
theorem Tw2.open2 (h : Tw2 W u A n c xs B m d ys) {g : Nat} {cs : Array Value} (hB : Blk u g 77 cs) (e : (Value.slice B m d).ownBlock = some g) : False := by
  obtain ⟨c1, q1⟩ := ow_lt h.r2 e
  unfold Blk at hB
  rw [q1] at hB
  injection hB with hB
  injection hB with _ q2
  exact absurd q2 (by decide)
theorem Tw2.app1 (h : Tw2 W u A n c xs B m d ys) {A' : Option Addr} {n' c' : Nat} {zs : List Value} (ho : u'.ownsRow W.heap.size 62 2 (.slice A' n' c') n' zs) (hg : u.grownBy u' (Value.slice A n c).ownBlock) : Tw2 W u' A' n' c' zs B m d ys :=
  ⟨h.k.grown hg (fun k hk hlt => by have := (h.r1.lt k hk).1; omega), ho, ow_kept h.r2 ((Kept.refl _ u).grown hg (fun _ hk _ => hk)) (fun g h2 h1 => h.apart g h1 h2)⟩
theorem Tw2.app2 (h : Tw2 W u A n c xs B m d ys) {B' : Option Addr} {m' d' : Nat} {zs : List Value} (ho : u'.ownsRow W.heap.size 63 2 (.slice B' m' d') m' zs) (hg : u.grownBy u' (Value.slice B m d).ownBlock) : Tw2 W u' A n c xs B' m' d' zs :=
  ⟨h.k.grown hg (fun k hk hlt => by have := (h.r2.lt k hk).1; omega), ow_kept h.r1 ((Kept.refl _ u).grown hg (fun _ hk _ => hk)) (fun g h1 h2 => h.apart g h1 h2), ho⟩
/-- A block that is none of the first row's stays behind its append. -/
theorem app_stays (hg : u.grownBy u' (Value.slice A n c).ownBlock) {g : Nat} {t : TypeId} {cs : Array Value} (hB : Blk u g t cs) (hne : ∀ k, (Value.slice A n c).ownBlock = some k → k ≠ g) : Blk u' g t cs :=
  (hg.block g hB.lt (fun e => hne g e.symm rfl)).trans hB
end
theorem src_blk2 {w : World} {g : Nat} {t : TypeId} (a v : Value) (ha : a.oneCell' = true) (hv : v.oneCell' = true) (h : Blk w g t #[a, v]) : Src w 2 (some ⟨g, 0, none⟩) 1 [a, v] := by
  refine ⟨rfl, (fun e => by cases e), fun b hb j u hu => ?_, fun u hu => ?_⟩
  · injection hb with hb
    subst hb
    rw [add_none, Nat.zero_add, h.cell, ← hu]
    simp
  · simp at hu
    rcases hu with rfl | rfl
    · exact ha
    · exact hv
def ksAg (szW : Nat) : Nat → Value → World → Prop
  | 14, v, w => ∃ g, v = .pointer (some ⟨g, 0, none⟩) ∧ Blk w g 79 #[.int .i64 0, .int .i64 0, .bool false, .bool false, .int .u32 0] ∧ szW ≤ g
  | 15, v, w => ∃ g, v = .pointer (some ⟨g, 0, none⟩) ∧ Blk w g 82 #[.int .i64 0, .int .i64 0, .bool false, .bool false, .int .u32 0] ∧ szW ≤ g
  | _, _, _ => True
theorem ksAg_stab (szW : Nat) (k : Nat) (v : Value) (w w' : World) (kk : Kept Nothing w w') (h : ksAg szW k v w) : ksAg szW k v w' := by
  unfold ksAg at h ⊢
  split at h
  all_goals first
    | (obtain ⟨g, h1, h2, h3⟩ := h; exact ⟨g, h1, h2.kept kk (fun x => x), h3⟩)
    | (obtain ⟨g, h1, h2, h3⟩ := h; exact ⟨g, h1, h2.kept kk (fun x => x), h3⟩)
    | trivial
set_option maxRecDepth 100000 in
set_option maxHeartbeats 32000000 in
theorem agrees15_law (a : Int) (ha : a < 9223372036854775808) (b : Int) (hb : b < 9223372036854775808) (f : Nat) (hf : f < 65536) (A : Option Addr) (c : Nat) (l : List Cp) (W : World) (hs : Spans W) (hv : Cps W (.slice A l.length c) l) :
    Calls Tryd.prog 5 #[.int .i64 a, .agg #[.int .i64 b, .int .u16 (f : Int), .slice A l.length c]] W fun e w' => e = .returned (.bool true) ∧ Kept Nothing W w' := by
  have hlm : l.length ≤ 9223372036854775807 := by obtain ⟨_, _, _, h1, h2⟩ := hv.form; unfold maxLen at h2; omega
  obtain ⟨i0, hi, hz0, hz1, hz2⟩ := info_parts cap_info
  obtain ⟨j0, hj, hw0, hw1, hw2⟩ := info_parts rcap_info15
  have HV := Lib.hid hv
  have HS := Lib.hid hs
  have HB := Lib.hid (And.intro ha (And.intro hb hf))
  have K0 := (Kept.refl Nothing W).alloc (.cells #[.int .i64 b, .int .u16 (f : Int), .slice A l.length c] 77)
  have B0 := Lib.hid (Blk.fresh W 77 #[.int .i64 b, .int .u16 (f : Int), .slice A l.length c])
  have HT0 : Hid (Tw2 W (W.alloc (.cells #[.int .i64 b, .int .u16 (f : Int), .slice A l.length c] 77)) none 0 0 [] none 0 0 []) := Lib.hid ⟨K0, World.ownsRow_nil _ _ _ _, World.ownsRow_nil _ _ _ _⟩
  have y2 : (W.alloc (.cells #[.int .i64 b, .int .u16 (f : Int), .slice A l.length c] 77)).cell? ⟨W.heap.size, 2, none⟩ = some (.slice A l.length c) := B0.out.cell 2
  clear hv hs ha hb hf K0
  obtain ⟨zf, hzf⟩ : ∃ z : Int, (f : Int) = z := ⟨_, rfl⟩
  rw [hzf] at B0 HT0 y2 ⊢
  have HZF := Lib.hid hzf
  clear hzf
  go_enter Tryd.func5, Tryd.ntmps5
  go_upto_region 3 with fail
  change Code.wp _ _ _ _ (W.alloc (.cells #[.int .i64 b, .int .u16 zf, .slice A l.length c] 77))
  generalize W.alloc (.cells #[.int .i64 b, .int .u16 zf, .slice A l.length c] 77) = W1 at *
  go_wp2
  go_loopw [5, 6, 14] (fun lv wv i wr => ∃ (k n : Nat) (A1 : Option Addr) (c1 : Nat) (A2 : Option Addr) (c2 : Nat) (xs : List Value), k ≤ l.length ∧ n = min k 20 ∧ i = .int .i64 (k : Int) ∧ lv = .slice A1 n c1 ∧ wv = .slice A2 n c2 ∧ Hid (Tw2 W wr A1 n c1 xs A2 n c2 xs ∧ Cells (By W) xs ((l.take n).map cut60) ∧ Blk wr W.heap.size 77 #[.int .i64 b, .int .u16 zf, .slice A l.length c])) (fun _ _ i _ => l.length - (intOf i).toNat)
  case atStart => exact ⟨0, 0, none, 0, none, 0, [], by omega, by omega, rfl, rfl, rfl, Lib.hid ⟨HT0.out, trivial, B0.out⟩⟩
  case round =>
    obtain ⟨k, n, A1, c1, A2, c2, xs, hk, hn, rfl, rfl, rfl, hT⟩ := hrel
    clear HT0 B0 y2
    by_cases hlt : k < l.length
    · obtain ⟨b0, o0, rfl, hcell⟩ := HV.out.at (by omega)
      obtain ⟨q0, u, q1, q2⟩ := hcell k hlt
      have d0 := hT.out.1.k.cell_some q0 (fun x => x)
      have d1 := hT.out.1.k.cell_some q1 (fun x => x)
      obtain ⟨A3, cc3, rfl, hc3, hm3⟩ := q2.form
      have hlt' : (k : Int) < (l.length : Int) := by omega
      by_cases h20 : k < 20
      · obtain rfl : n = k := by omega
        have HTK := Lib.hid (List.take_succ_eq_append_getElem hlt)
        generalize hP : l[n] = P at *
        obtain ⟨kd, val⟩ := P
        simp only at d0 d1 q2 hc3
        unfold by8 at d0
        have h20i : (n : Int) < 20 := by omega
        have hmin : (if (60 : Int) < (val.length : Int) then (60 : Int) else (val.length : Int)) = ((min val.length 60 : Nat) : Int) := by split <;> omega
        have HVal := Lib.hid (q2.pre (m := min val.length 60) (by omega))
        have htk : val.take (min val.length 60) = val.take 60 := by
          by_cases h : val.length ≤ 60
          · rw [List.take_of_length_le (by omega), List.take_of_length_le (by omega)]
          · rw [show min val.length 60 = 60 by omega]
        rw [htk] at HVal
        have hqc : min val.length 60 ≤ cc3 := by omega
        have hqi : ((min val.length 60 : Nat) : Int) ≤ (val.length : Int) := by omega
        generalize min val.length 60 = q at *
        have HCA : Hid ((l.take (n + 1)).map cut60 = (l.take n).map cut60 ++ [(kd, val.take 60)]) := Lib.hid (by rw [HTK.out, List.map_append]; rfl)
        have k1 := (Kept.refl Nothing wr).alloc (.cells #[.int .u8 (kd.toNat : Int), .slice A3 q cc3] 62)
        have T2 := Lib.hid (hT.out.1.old k1)
        have BX := Lib.hid (Blk.fresh wr 62 #[.int .u8 (kd.toNat : Int), .slice A3 q cc3])
        have BO := Lib.hid (hT.out.2.2.kept k1 (fun x => x))
        have HCe := Lib.hid hT.out.2.1
        have HNE : Hid (∀ g, (Value.slice A1 n c1).ownBlock = some g → g < wr.heap.size) := Lib.hid (fun g hg => by obtain ⟨cs, hh⟩ := ow_lt hT.out.1.r1 hg; exact (Array.getElem?_eq_some_iff.1 hh).1)
        clear hcell q0 q1 q2 hP htk hT k1 h20 hn HTK hm3
        have HLn : Hid (n + 1 ≤ maxLen ∧ (n + 1) * 32 ≤ 140737488355328) := ⟨by unfold maxLen; omega, by omega⟩
        go_upto_region 8 with fail
        change Code.wp _ _ _ _ (wr.alloc (.cells #[.int .u8 (kd.toNat : Int), .slice A3 q cc3] 62))
        generalize wr.alloc (.cells #[.int .u8 (kd.toNat : Int), .slice A3 q cc3] 62) = w8 at *
        generalize wr.heap.size = bB at *
        clear d0 d1 hmin hqi
        have L1 : ∀ u, Kept Nothing w8 u → Tw2 W u A1 n c1 xs A2 n c2 xs ∧ Blk u bB 62 #[.int .u8 (kd.toNat : Int), .slice A3 q cc3] := fun u k => ⟨T2.out.old k, BX.out.kept k (fun x => x)⟩
        have HL1 := Lib.hid L1
        have hbl : bB < w8.heap.size := BX.out.lt
        have hbase : W.heap.size ≤ w8.heap.size := T2.out.k.size
        have e0 : w8.cell? ⟨bB, 0, none⟩ = some (.int .u8 (kd.toNat : Int)) := BX.out.cell 0
        have e1 : w8.cell? ⟨bB, 1, none⟩ = some (.slice A3 q cc3) := BX.out.cell 1
        have kA : Kept Nothing w8 (w8.alloc (.cells #[.int .u8 (kd.toNat : Int), .slice A3 q cc3] 62)).drew := ((Kept.refl Nothing w8).alloc _).drew
        have kAB : Kept Nothing w8 ((w8.alloc (.cells #[.int .u8 (kd.toNat : Int), .slice A3 q cc3] 62)).alloc (.cells #[.int .u8 (kd.toNat : Int), .slice A3 q cc3] 63)).drew := (((Kept.refl Nothing w8).alloc _).alloc _).drew
        have kBA : Kept Nothing w8 ((w8.alloc (.cells #[.int .u8 (kd.toNat : Int), .slice A3 q cc3] 63)).alloc (.cells #[.int .u8 (kd.toNat : Int), .slice A3 q cc3] 62)).drew := (((Kept.refl Nothing w8).alloc _).alloc _).drew
        have HkA := Lib.hid kA
        have HkAB := Lib.hid kAB
        have HkBA := Lib.hid kBA
        have BA1 : Hid (Blk (w8.alloc (.cells #[.int .u8 (kd.toNat : Int), .slice A3 q cc3] 62)).drew w8.heap.size 62 #[.int .u8 (kd.toNat : Int), .slice A3 q cc3]) := Lib.hid (Blk.fresh w8 _ _)
        have BAB1 : Hid (Blk ((w8.alloc (.cells #[.int .u8 (kd.toNat : Int), .slice A3 q cc3] 62)).alloc (.cells #[.int .u8 (kd.toNat : Int), .slice A3 q cc3] 63)).drew w8.heap.size 62 #[.int .u8 (kd.toNat : Int), .slice A3 q cc3]) := Lib.hid ((Blk.fresh w8 _ _).alloc _)
        have BAB2 : Hid (Blk ((w8.alloc (.cells #[.int .u8 (kd.toNat : Int), .slice A3 q cc3] 62)).alloc (.cells #[.int .u8 (kd.toNat : Int), .slice A3 q cc3] 63)).drew (w8.heap.size + 1) 63 #[.int .u8 (kd.toNat : Int), .slice A3 q cc3]) := Lib.hid (by
          have := Blk.fresh (w8.alloc (.cells #[.int .u8 (kd.toNat : Int), .slice A3 q cc3] 62)) 63 #[.int .u8 (kd.toNat : Int), .slice A3 q cc3]
          rw [World.size_alloc] at this
          exact this)
        have BBA2 : Hid (Blk ((w8.alloc (.cells #[.int .u8 (kd.toNat : Int), .slice A3 q cc3] 63)).alloc (.cells #[.int .u8 (kd.toNat : Int), .slice A3 q cc3] 62)).drew w8.heap.size 63 #[.int .u8 (kd.toNat : Int), .slice A3 q cc3]) := Lib.hid ((Blk.fresh w8 _ _).alloc _)
        have BBA1 : Hid (Blk ((w8.alloc (.cells #[.int .u8 (kd.toNat : Int), .slice A3 q cc3] 63)).alloc (.cells #[.int .u8 (kd.toNat : Int), .slice A3 q cc3] 62)).drew (w8.heap.size + 1) 62 #[.int .u8 (kd.toNat : Int), .slice A3 q cc3]) := Lib.hid (by
          have := Blk.fresh (w8.alloc (.cells #[.int .u8 (kd.toNat : Int), .slice A3 q cc3] 63)) 62 #[.int .u8 (kd.toNat : Int), .slice A3 q cc3]
          rw [World.size_alloc] at this
          exact this)
        clear L1 kA kAB kBA
        go_region_law (first
            | (refine step_app _ (by rfl) _ _ 59 (by rfl) W.heap.size 62 i0 _ 2 32 Tryd.underlying59 hi hz0 hz1 hz2 rfl (by decide) (.slice A1 n c1) n xs (by rfl) (HL1.out _ HkA.out).1.r1 (some ⟨w8.heap.size, 0, none⟩) 1 1 [.int .u8 (kd.toNat : Int), .slice A3 q cc3] (by rfl) (src_blk2 _ _ rfl rfl BA1.out) HLn.out.1 HLn.out.2 (HL1.out _ HkA.out).1.k.size ?_; intro v' w7 ho7 hg7 hat7; (obtain ⟨B7, d7, rfl, -, -⟩ := ow_form ho7); (have T7 := Lib.hid ((HL1.out _ HkA.out).1.app1 ho7 hg7)); (have X7 := Lib.hid (app_stays hg7 (HL1.out _ HkA.out).2 (fun k hk => by have := HNE.out k hk; omega))); (have G7 := Lib.hid (HkA.out.mono (T := fun k => (Value.slice A1 n c1).ownBlock = some k ∨ (Value.slice A2 n c2).ownBlock = some k) (fun _ x => x.elim) |>.trans ((Kept.refl _ _).grown hg7 (fun k hk _ => .inl hk)))); (have g0 : w7.cell? ⟨bB, 0, none⟩ = some (.int .u8 (kd.toNat : Int)) := X7.out.cell 0); (have g1 : w7.cell? ⟨bB, 1, none⟩ = some (.slice A3 q cc3) := X7.out.cell 1); (have hlt7 := X7.out.lt); (have k9 := (Kept.refl Nothing w7).alloc (.cells #[.int .u8 (kd.toNat : Int), .slice A3 q cc3] 63)); (have T9 := Lib.hid (T7.out.old k9)); (have G9 := Lib.hid (G7.out.trans (k9.mono (fun _ x => x.elim)))); (have S9 := Lib.hid (src_blk2 _ _ rfl rfl (Blk.fresh w7 63 #[.int .u8 (kd.toNat : Int), .slice A3 q cc3]))); clear ho7 hg7 hat7 k9)
            | (refine step_app _ (by rfl) _ _ 59 (by rfl) W.heap.size 62 i0 _ 2 32 Tryd.underlying59 hi hz0 hz1 hz2 rfl (by decide) (.slice A1 n c1) n xs (by rfl) (HL1.out _ HkAB.out).1.r1 (some ⟨w8.heap.size, 0, none⟩) 1 1 [.int .u8 (kd.toNat : Int), .slice A3 q cc3] (by rfl) (src_blk2 _ _ rfl rfl BAB1.out) HLn.out.1 HLn.out.2 (HL1.out _ HkAB.out).1.k.size ?_; intro v' w7 ho7 hg7 hat7; (obtain ⟨B7, d7, rfl, -, -⟩ := ow_form ho7); (have T9 := Lib.hid ((HL1.out _ HkAB.out).1.app1 ho7 hg7)); (have G9 := Lib.hid (HkAB.out.mono (T := fun k => (Value.slice A1 n c1).ownBlock = some k ∨ (Value.slice A2 n c2).ownBlock = some k) (fun _ x => x.elim) |>.trans ((Kept.refl _ _).grown hg7 (fun k hk _ => .inl hk)))); (have S9 := Lib.hid (src_blk2 _ _ rfl rfl (app_stays hg7 BAB2.out (fun k hk => by have := HNE.out k hk; omega)))); clear ho7 hg7 hat7)
            | (refine step_app _ (by rfl) _ _ 59 (by rfl) W.heap.size 62 i0 _ 2 32 Tryd.underlying59 hi hz0 hz1 hz2 rfl (by decide) (.slice A1 n c1) n xs (by rfl) (HL1.out _ HkBA.out).1.r1 (some ⟨w8.heap.size + 1, 0, none⟩) 1 1 [.int .u8 (kd.toNat : Int), .slice A3 q cc3] (by rfl) (src_blk2 _ _ rfl rfl BBA1.out) HLn.out.1 HLn.out.2 (HL1.out _ HkBA.out).1.k.size ?_; intro v' w7 ho7 hg7 hat7; (obtain ⟨B7, d7, rfl, -, -⟩ := ow_form ho7); (have T9 := Lib.hid ((HL1.out _ HkBA.out).1.app1 ho7 hg7)); (have G9 := Lib.hid (HkBA.out.mono (T := fun k => (Value.slice A1 n c1).ownBlock = some k ∨ (Value.slice A2 n c2).ownBlock = some k) (fun _ x => x.elim) |>.trans ((Kept.refl _ _).grown hg7 (fun k hk _ => .inl hk)))); (have S9 := Lib.hid (src_blk2 _ _ rfl rfl (app_stays hg7 BBA2.out (fun k hk => by have := HNE.out k hk; omega)))); clear ho7 hg7 hat7)
            | (refine step_app _ (by rfl) _ _ 56 (by rfl) W.heap.size 63 j0 _ 2 32 Tryd.underlying56 hj hw0 hw1 hw2 rfl (by decide) (.slice A2 n c2) n xs (by rfl) T9.out.r2 (some ⟨_, 0, none⟩) 1 1 [.int .u8 (kd.toNat : Int), .slice A3 q cc3] (by rfl) S9.out HLn.out.1 HLn.out.2 T9.out.k.size ?_; intro v' w10 ho10 hg10 hat10; (obtain ⟨B10, d10, rfl, -, -⟩ := ow_form ho10); (have T10 := Lib.hid (T9.out.app2 ho10 hg10)); (have G10 := Lib.hid (G9.out.trans ((Kept.refl _ _).grown hg10 (fun k hk _ => .inr hk)))); clear ho10 hg10 hat10))
        all_goals
          go_wp2
          go_roundw
          case rel =>
            refine ⟨n + 1, n + 1, _, _, _, _, _, by omega, by omega, by go_num, rfl, rfl, Lib.hid ⟨T10.out, ?_, BO.out.kept G10.out (fun x => x.elim (fun e => T2.out.open1 BO.out e) (fun e => T2.out.open2 BO.out e))⟩⟩
            rw [HCA.out]
            exact Cells.snoc (c := (kd, val.take 60)) HVal.out HCe.out
          case measure => simp [intOf]; omega
      · obtain rfl : n = 20 := by omega
        have h20i : (20 : Int) ≤ (k : Int) := by omega
        have k1 := (Kept.refl Nothing wr).alloc (.cells #[by8 (l[k]).1, .slice A3 (l[k]).2.length cc3] 62)
        have T2 := Lib.hid (hT.out.1.old k1)
        have BO := Lib.hid (hT.out.2.2.kept k1 (fun x => x))
        have HCe := Lib.hid hT.out.2.1
        generalize hP : l[k] = P at *
        obtain ⟨kd, val⟩ := P
        unfold by8 at d0 k1 T2 BO
        simp only at d0 d1 T2 BO
        clear hcell q0 q1 q2 hP hT k1 h20 hn hc3 hm3
        go_wp2
        go_roundw
        case rel => exact ⟨k + 1, 20, A1, c1, A2, c2, xs, by omega, by omega, by go_num, rfl, rfl, Lib.hid ⟨T2.out, HCe.out, BO.out⟩⟩
        case measure => simp [intOf]; omega
    · obtain rfl : k = l.length := by omega
      have hlt' : (l.length : Int) ≤ (l.length : Int) := by omega
      have hLn : ((l.take n).map cut60).length = n := by rw [List.length_map, List.length_take]; omega
      have hLm : ((l.take n).map cut60).length ≤ 1000000 := by omega
      generalize (l.take n).map cut60 = L at *
      have HC1 : Hid (∀ u, Kept Nothing wr u → Cps u (.slice A1 n c1) L) := Lib.hid (fun u k => Cps.of_own (e := 62) (xs := xs) (by rw [hLn]; exact (hT.out.1.old k).r1) (hT.out.2.1.mono (fun _ _ h => h.old (hT.out.1.k.trans k))))
      have HC2 : Hid (∀ u, Kept Nothing wr u → Cps u (.slice A2 n c2) L) := Lib.hid (fun u k => Cps.of_own (e := 63) (xs := xs) (by rw [hLn]; exact (hT.out.1.old k).r2) (hT.out.2.1.mono (fun _ _ h => h.old (hT.out.1.k.trans k))))
      have X0 : Hid (wr.cell? ⟨W.heap.size, 0, none⟩ = some (.int .i64 b)) := Lib.hid (hT.out.2.2.cell 0)
      have X1 : Hid (wr.cell? ⟨W.heap.size, 1, none⟩ = some (.int .u16 zf)) := Lib.hid (hT.out.2.2.cell 1)
      have KR := Lib.hid hT.out.1.k
      obtain ⟨z, hz⟩ : ∃ z, Pe.agree a b f L = z := ⟨_, rfl⟩
      have HA1 : Hid (∀ u, Kept Nothing wr u → Calls Tryd.prog 34 #[.int .i64 a, .int .i64 b, .int .u16 zf, .slice A1 n c1] u fun e w' => e = .returned (.agg z.cl) ∧ Kept Nothing u w') := Lib.hid (fun u k => by
        have := pe_agree a b HB.out.1 HB.out.2.1 f HB.out.2.2 _ L hLm u (HC1.out u k)
        rwa [hz, HZF.out] at this)
      have HA2 : Hid (∀ u, Kept Nothing wr u → Calls Tryd.prog 35 #[.int .i64 a, .int .i64 b, .int .u16 zf, .slice A2 n c2] u fun e w' => e = .returned (.agg z.cl) ∧ Kept Nothing u w') := Lib.hid (fun u k => by
        have := rpe_agree a b HB.out.1 HB.out.2.1 f HB.out.2.2 _ L hLm u (HC2.out u k)
        rwa [hz, HZF.out] at this)
      clear hT HC1 HC2 hLn hLm hz hn
      obtain ⟨hh, kk, fo, rf, nnN⟩ := z
      unfold Pe.Ag.cl at HA1 HA2
      simp only at HA1 HA2
      obtain ⟨nn, hnn⟩ : ∃ z : Int, (nnN : Int) = z := ⟨_, rfl⟩
      rw [hnn] at HA1 HA2
      clear hnn
      go_upto_region 10 with fail
      refine wp_region_tail wr (Facts [some (.int .i64 a), some (.pointer (some ⟨W.heap.size, 0, none⟩)), some (.int .i64 b), some (.pointer (some ⟨W.heap.size, 1, none⟩)), some (.int .u16 zf), some (.slice A1 n c1), some (.agg #[.int .i64 hh, .int .i64 kk, .bool fo, .bool rf, .int .u32 nn]), some (.int .i64 a), some (.pointer (some ⟨W.heap.size, 0, none⟩)), some (.int .i64 b), some (.pointer (some ⟨W.heap.size, 1, none⟩)), some (.int .u16 zf), some (.slice A2 n c2), some (.agg #[.int .i64 hh, .int .i64 kk, .bool fo, .bool rf, .int .u32 nn]), none, none] (ksAg wr.heap.size)) 16 (by decide) (by kernel_rfl) (by kernel_rfl) (by kernel_rfl) (by decide +kernel) (by intro d hd; exact (show d < 88 from (by simp [dsts] at hd; omega))) (ready_nil (by kernel_rfl)) (fun _ => true) (by kernel_rfl) ?_ (Facts.stab (ksAg_stab wr.heap.size)) ((Kept.refl Nothing wr).drew) ?_ ?_
      · intro x hx; simp at hx
      · refine OweTo.cons ?_ (by rfl) ?_
        · intro u aa hk hf hfar
          have v0 : aa.tmps.getD 0 undef = .int .i64 a := hfar 0 (by decide)
          have w0 := v0
          rw [Array.getD_eq_getD_getElem?] at w0
          clear hf hfar
          go_simp
          exact ⟨_, rfl, Kept.refl _ _, rfl⟩
        refine OweTo.cons ?_ (by rfl) ?_
        · intro u aa hk hf hfar
          have v3 : aa.tmps.getD 3 undef = .pointer (some ⟨W.heap.size, 0, none⟩) := hfar 3 (by decide)
          have w3 := v3
          rw [Array.getD_eq_getD_getElem?] at w3
          clear hf hfar
          go_simp
          exact ⟨_, rfl, Kept.refl _ _, rfl⟩
        refine OweTo.cons ?_ (by rfl) ?_
        · intro u aa hk hf hfar
          have v39 : aa.tmps.getD 39 undef = .pointer (some ⟨W.heap.size, 0, none⟩) := hf 1 _ 39 rfl rfl ⟨⟨1, .data⟩, Array.mem_of_getElem? (i := 0) rfl, rfl, rfl⟩
          have w39 := v39
          rw [Array.getD_eq_getD_getElem?] at w39
          have x0_ := hk.cell_some X0.out (fun x => x)
          clear hf hfar
          go_simp
          exact ⟨_, rfl, Kept.refl _ _, rfl⟩
        refine OweTo.cons ?_ (by rfl) ?_
        · intro u aa hk hf hfar
          have v3 : aa.tmps.getD 3 undef = .pointer (some ⟨W.heap.size, 0, none⟩) := hfar 3 (by decide)
          have w3 := v3
          rw [Array.getD_eq_getD_getElem?] at w3
          clear hf hfar
          go_simp
          exact ⟨_, rfl, Kept.refl _ _, rfl⟩
        refine OweTo.cons ?_ (by rfl) ?_
        · intro u aa hk hf hfar
          have v41 : aa.tmps.getD 41 undef = .pointer (some ⟨W.heap.size, 1, none⟩) := hf 3 _ 41 rfl rfl ⟨⟨3, .data⟩, Array.mem_of_getElem? (i := 0) rfl, rfl, rfl⟩
          have w41 := v41
          rw [Array.getD_eq_getD_getElem?] at w41
          have x1_ := hk.cell_some X1.out (fun x => x)
          clear hf hfar
          go_simp
          exact ⟨_, rfl, Kept.refl _ _, rfl⟩
        refine OweTo.cons ?_ (by rfl) ?_
        · intro u aa hk hf hfar
          have v5 : aa.tmps.getD 5 undef = .slice A1 n c1 := hfar 5 (by decide)
          have w5 := v5
          rw [Array.getD_eq_getD_getElem?] at w5
          clear hf hfar
          go_simp
          exact ⟨_, rfl, Kept.refl _ _, rfl⟩
        refine OweTo.cons ?_ (by rfl) ?_
        · intro u aa hk hf hfar
          have v38 : aa.tmps.getD 38 undef = .int .i64 a := hf 0 _ 38 rfl rfl ⟨⟨0, .data⟩, Array.mem_of_getElem? (i := 0) rfl, rfl, rfl⟩
          have w38 := v38
          rw [Array.getD_eq_getD_getElem?] at w38
          have v40 : aa.tmps.getD 40 undef = .int .i64 b := hf 2 _ 40 rfl rfl ⟨⟨2, .data⟩, Array.mem_of_getElem? (i := 1) rfl, rfl, rfl⟩
          have w40 := v40
          rw [Array.getD_eq_getD_getElem?] at w40
          have v42 : aa.tmps.getD 42 undef = .int .u16 zf := hf 4 _ 42 rfl rfl ⟨⟨4, .data⟩, Array.mem_of_getElem? (i := 2) rfl, rfl, rfl⟩
          have w42 := v42
          rw [Array.getD_eq_getD_getElem?] at w42
          have v43 : aa.tmps.getD 43 undef = .slice A1 n c1 := hf 5 _ 43 rfl rfl ⟨⟨5, .data⟩, Array.mem_of_getElem? (i := 3) rfl, rfl, rfl⟩
          have w43 := v43
          rw [Array.getD_eq_getD_getElem?] at w43
          clear hf hfar
          go_simp
          refine (HA1.out u hk).mono ?_
          rintro e u' ⟨rfl, hk'⟩
          exact ⟨_, rfl, hk', rfl⟩
        refine OweTo.cons ?_ (by rfl) ?_
        · intro u aa hk hf hfar
          have v0 : aa.tmps.getD 0 undef = .int .i64 a := hfar 0 (by decide)
          have w0 := v0
          rw [Array.getD_eq_getD_getElem?] at w0
          clear hf hfar
          go_simp
          exact ⟨_, rfl, Kept.refl _ _, rfl⟩
        refine OweTo.cons ?_ (by rfl) ?_
        · intro u aa hk hf hfar
          have v3 : aa.tmps.getD 3 undef = .pointer (some ⟨W.heap.size, 0, none⟩) := hfar 3 (by decide)
          have w3 := v3
          rw [Array.getD_eq_getD_getElem?] at w3
          clear hf hfar
          go_simp
          exact ⟨_, rfl, Kept.refl _ _, rfl⟩
        refine OweTo.cons ?_ (by rfl) ?_
        · intro u aa hk hf hfar
          have v46 : aa.tmps.getD 46 undef = .pointer (some ⟨W.heap.size, 0, none⟩) := hf 8 _ 46 rfl rfl ⟨⟨8, .data⟩, Array.mem_of_getElem? (i := 0) rfl, rfl, rfl⟩
          have w46 := v46
          rw [Array.getD_eq_getD_getElem?] at w46
          have x0_ := hk.cell_some X0.out (fun x => x)
          clear hf hfar
          go_simp
          exact ⟨_, rfl, Kept.refl _ _, rfl⟩
        refine OweTo.cons ?_ (by rfl) ?_
        · intro u aa hk hf hfar
          have v3 : aa.tmps.getD 3 undef = .pointer (some ⟨W.heap.size, 0, none⟩) := hfar 3 (by decide)
          have w3 := v3
          rw [Array.getD_eq_getD_getElem?] at w3
          clear hf hfar
          go_simp
          exact ⟨_, rfl, Kept.refl _ _, rfl⟩
        refine OweTo.cons ?_ (by rfl) ?_
        · intro u aa hk hf hfar
          have v48 : aa.tmps.getD 48 undef = .pointer (some ⟨W.heap.size, 1, none⟩) := hf 10 _ 48 rfl rfl ⟨⟨10, .data⟩, Array.mem_of_getElem? (i := 0) rfl, rfl, rfl⟩
          have w48 := v48
          rw [Array.getD_eq_getD_getElem?] at w48
          have x1_ := hk.cell_some X1.out (fun x => x)
          clear hf hfar
          go_simp
          exact ⟨_, rfl, Kept.refl _ _, rfl⟩
        refine OweTo.cons ?_ (by rfl) ?_
        · intro u aa hk hf hfar
          have v6 : aa.tmps.getD 6 undef = .slice A2 n c2 := hfar 6 (by decide)
          have w6 := v6
          rw [Array.getD_eq_getD_getElem?] at w6
          clear hf hfar
          go_simp
          exact ⟨_, rfl, Kept.refl _ _, rfl⟩
        refine OweTo.cons ?_ (by rfl) ?_
        · intro u aa hk hf hfar
          have v45 : aa.tmps.getD 45 undef = .int .i64 a := hf 7 _ 45 rfl rfl ⟨⟨7, .data⟩, Array.mem_of_getElem? (i := 0) rfl, rfl, rfl⟩
          have w45 := v45
          rw [Array.getD_eq_getD_getElem?] at w45
          have v47 : aa.tmps.getD 47 undef = .int .i64 b := hf 9 _ 47 rfl rfl ⟨⟨9, .data⟩, Array.mem_of_getElem? (i := 1) rfl, rfl, rfl⟩
          have w47 := v47
          rw [Array.getD_eq_getD_getElem?] at w47
          have v49 : aa.tmps.getD 49 undef = .int .u16 zf := hf 11 _ 49 rfl rfl ⟨⟨11, .data⟩, Array.mem_of_getElem? (i := 2) rfl, rfl, rfl⟩
          have w49 := v49
          rw [Array.getD_eq_getD_getElem?] at w49
          have v50 : aa.tmps.getD 50 undef = .slice A2 n c2 := hf 12 _ 50 rfl rfl ⟨⟨12, .data⟩, Array.mem_of_getElem? (i := 3) rfl, rfl, rfl⟩
          have w50 := v50
          rw [Array.getD_eq_getD_getElem?] at w50
          clear hf hfar
          go_simp
          refine (HA2.out u hk).mono ?_
          rintro e u' ⟨rfl, hk'⟩
          exact ⟨_, rfl, hk', rfl⟩
        refine OweTo.cons ?_ (by rfl) ?_
        · intro u aa hk hf hfar
          have hle := hk.size
          clear hf hfar
          go_simp
          exact ⟨_, rfl, (Kept.refl _ _).alloc _, _, rfl, Blk.fresh _ _ _, hle⟩
        refine OweTo.cons ?_ (by rfl) ?_
        · intro u aa hk hf hfar
          have hle := hk.size
          clear hf hfar
          go_simp
          exact ⟨_, rfl, (Kept.refl _ _).alloc _, _, rfl, Blk.fresh _ _ _, hle⟩
        exact OweTo.last (by decide)
      · intro AA u hk hsz hdef hfar hfacts
        have x38 : AA.tmps.getD 38 undef = .int .i64 a := hfacts 0 _ 38 (by decide) rfl rfl
        have x39 : AA.tmps.getD 39 undef = .pointer (some ⟨W.heap.size, 0, none⟩) := hfacts 1 _ 39 (by decide) rfl rfl
        have x40 : AA.tmps.getD 40 undef = .int .i64 b := hfacts 2 _ 40 (by decide) rfl rfl
        have x41 : AA.tmps.getD 41 undef = .pointer (some ⟨W.heap.size, 1, none⟩) := hfacts 3 _ 41 (by decide) rfl rfl
        have x42 : AA.tmps.getD 42 undef = .int .u16 zf := hfacts 4 _ 42 (by decide) rfl rfl
        have x43 : AA.tmps.getD 43 undef = .slice A1 n c1 := hfacts 5 _ 43 (by decide) rfl rfl
        have x44 : AA.tmps.getD 44 undef = .agg #[.int .i64 hh, .int .i64 kk, .bool fo, .bool rf, .int .u32 nn] := hfacts 6 _ 44 (by decide) rfl rfl
        have x45 : AA.tmps.getD 45 undef = .int .i64 a := hfacts 7 _ 45 (by decide) rfl rfl
        have x46 : AA.tmps.getD 46 undef = .pointer (some ⟨W.heap.size, 0, none⟩) := hfacts 8 _ 46 (by decide) rfl rfl
        have x47 : AA.tmps.getD 47 undef = .int .i64 b := hfacts 9 _ 47 (by decide) rfl rfl
        have x48 : AA.tmps.getD 48 undef = .pointer (some ⟨W.heap.size, 1, none⟩) := hfacts 10 _ 48 (by decide) rfl rfl
        have x49 : AA.tmps.getD 49 undef = .int .u16 zf := hfacts 11 _ 49 (by decide) rfl rfl
        have x50 : AA.tmps.getD 50 undef = .slice A2 n c2 := hfacts 12 _ 50 (by decide) rfl rfl
        have x51 : AA.tmps.getD 51 undef = .agg #[.int .i64 hh, .int .i64 kk, .bool fo, .bool rf, .int .u32 nn] := hfacts 13 _ 51 (by decide) rfl rfl
        obtain ⟨g9, x9, B9, n9⟩ : ∃ g, (AA.tmps.getD 9 undef) = .pointer (some ⟨g, 0, none⟩) ∧ Blk u g 79 #[.int .i64 0, .int .i64 0, .bool false, .bool false, .int .u32 0] ∧ wr.heap.size ≤ g := hfacts 14 _ 9 (by decide) rfl rfl
        obtain ⟨g10, x10, B10, n10⟩ : ∃ g, (AA.tmps.getD 10 undef) = .pointer (some ⟨g, 0, none⟩) ∧ Blk u g 82 #[.int .i64 0, .int .i64 0, .bool false, .bool false, .int .u32 0] ∧ wr.heap.size ≤ g := hfacts 15 _ 10 (by decide) rfl rfl
        have hA := arr_put AA.tmps [38, 39, 40, 41, 42, 43, 44, 45, 46, 47, 48, 49, 50, 51, 9, 10] _ hsz (fun t ht => hfar t ht)
        obtain ⟨At, Ad⟩ := AA
        simp only at hdef x38 x39 x40 x41 x42 x43 x44 x45 x46 x47 x48 x49 x50 x51 x9 x10 hA
        subst hdef
        simp only [List.foldl_cons, List.foldl_nil, x38, x39, x40, x41, x42, x43, x44, x45, x46, x47, x48, x49, x50, x51, x9, x10] at hA
        clear hfar hfacts hsz x38 x39 x40 x41 x42 x43 x44 x45 x46 x47 x48 x49 x50 x51 x9 x10
        try dsimp only at hA
        simp only [List.setIfInBounds_toArray, List.set_cons_succ, List.set_cons_zero] at hA
        subst hA
        simp only [List.drop_succ_cons, List.drop_zero]
        have hne : g10 ≠ g9 := fun e => by
          rw [e] at B10
          exact B10.apart B9 (by decide) rfl
        have k1 := Kept.setRow (w := u) g9 #[.int .i64 hh, .int .i64 kk, .bool fo, .bool rf, .int .u32 nn]
        have B10b := B10.kept k1 hne
        have k2 := Kept.setRow (w := u.setRow g9 #[.int .i64 hh, .int .i64 kk, .bool fo, .bool rf, .int .u32 nn]) g10 #[.int .i64 hh, .int .i64 kk, .bool fo, .bool rf, .int .u32 nn]
        have C9 : Hid (Blk ((u.setRow g9 #[.int .i64 hh, .int .i64 kk, .bool fo, .bool rf, .int .u32 nn]).setRow g10 #[.int .i64 hh, .int .i64 kk, .bool fo, .bool rf, .int .u32 nn]) g9 79 #[.int .i64 hh, .int .i64 kk, .bool fo, .bool rf, .int .u32 nn]) := Lib.hid ((show Blk (u.setRow g9 #[.int .i64 hh, .int .i64 kk, .bool fo, .bool rf, .int .u32 nn]) g9 79 #[.int .i64 hh, .int .i64 kk, .bool fo, .bool rf, .int .u32 nn] from setRow_heap u g9 _ _ _ _ B9).kept k2 (fun e => hne e.symm))
        have C10 : Hid (Blk ((u.setRow g9 #[.int .i64 hh, .int .i64 kk, .bool fo, .bool rf, .int .u32 nn]).setRow g10 #[.int .i64 hh, .int .i64 kk, .bool fo, .bool rf, .int .u32 nn]) g10 82 #[.int .i64 hh, .int .i64 kk, .bool fo, .bool rf, .int .u32 nn]) := Lib.hid (setRow_heap (u.setRow g9 #[.int .i64 hh, .int .i64 kk, .bool fo, .bool rf, .int .u32 nn]) g10 _ _ _ _ B10b)
        have KF : Hid (Kept Nothing wr ((u.setRow g9 #[.int .i64 hh, .int .i64 kk, .bool fo, .bool rf, .int .u32 nn]).setRow g10 #[.int .i64 hh, .int .i64 kk, .bool fo, .bool rf, .int .u32 nn])) := Lib.hid ((hk.trans_new k1 (fun i hi (e : i = g9) => by omega)).trans_new k2 (fun i hi (e : i = g10) => by omega))
        have B9h := Lib.hid B9
        have B10h := Lib.hid B10b
        clear hne k1 k2 B9 B10 B10b n9 n10 hk
        go_upto_region 11 with (first
          | refine wpList_store_row rfl 79 _ _ rfl g9 #[.int .i64 hh, .int .i64 kk, .bool fo, .bool rf, .int .u32 nn] rfl rfl 79 _ B9h.out (by kernel_rfl) rfl (by kernel_rfl) ?_
          | refine wpList_store_row rfl 82 _ _ rfl g10 #[.int .i64 hh, .int .i64 kk, .bool fo, .bool rf, .int .u32 nn] rfl rfl 82 _ B10h.out (by kernel_rfl) rfl (by kernel_rfl) ?_)
        clear B9h B10h HA1 HA2 X0 X1
        generalize (u.setRow g9 #[.int .i64 hh, .int .i64 kk, .bool fo, .bool rf, .int .u32 nn]).setRow g10 #[.int .i64 hh, .int .i64 kk, .bool fo, .bool rf, .int .u32 nn] = w9 at *
        simp only [Act.put]
        have p0 : w9.cell? ⟨g9, 0, none⟩ = some (.int .i64 hh) := C9.out.cell 0
        have p1 : w9.cell? ⟨g9, 1, none⟩ = some (.int .i64 kk) := C9.out.cell 1
        have p2 : w9.cell? ⟨g9, 2, none⟩ = some (.bool fo) := C9.out.cell 2
        have p3 : w9.cell? ⟨g9, 3, none⟩ = some (.bool rf) := C9.out.cell 3
        have p4 : w9.cell? ⟨g9, 4, none⟩ = some (.int .u32 nn) := C9.out.cell 4
        have q0 : w9.cell? ⟨g10, 0, none⟩ = some (.int .i64 hh) := C10.out.cell 0
        have q1 : w9.cell? ⟨g10, 1, none⟩ = some (.int .i64 kk) := C10.out.cell 1
        have q2 : w9.cell? ⟨g10, 2, none⟩ = some (.bool fo) := C10.out.cell 2
        have q3 : w9.cell? ⟨g10, 3, none⟩ = some (.bool rf) := C10.out.cell 3
        have q4 : w9.cell? ⟨g10, 4, none⟩ = some (.int .u32 nn) := C10.out.cell 4
        have t0 : (hh == hh) = true := beq_self_eq_true _
        have t1 : (kk == kk) = true := beq_self_eq_true _
        have t2 : (fo == fo) = true := beq_self_eq_true _
        have t3 : (rf == rf) = true := beq_self_eq_true _
        have t4 : (nn == nn) = true := beq_self_eq_true _
        clear C9 C10
        go_wp2_with (go_at_call 33; refine (pe_wakes w9 (HS.out.kept (KR.out.trans KF.out))).mono ?_; rintro e w11 ⟨rfl, hk11⟩; (have HL := Lib.hid hk11); clear hk11)
        go_ret
        exact ⟨rfl, KR.out.trans (KF.out.trans HL.out)⟩
end Go.Proofs.YtembdobkgpojfaaDoor
