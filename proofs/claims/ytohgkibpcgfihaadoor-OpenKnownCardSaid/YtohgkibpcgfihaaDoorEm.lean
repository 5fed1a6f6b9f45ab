
/-
  The law's Few: an OPEN of at most 12 capabilities of 300 bytes.
-/
import Derived.Test.YtohgkibpcgfihaaDoorEg
import Derived.Test.YtohgkibpcgfihaaDoorIy
namespace Go.Proofs.YtohgkibpcgfihaaDoor
open Go.RowKit

def cut3 (c : Cp) : Cp := (c.1, c.2.take 300)
def few6 (l : List Cp) : List Cp := (l.take 12).map cut3
theorem few6_len (l : List Cp) : (few6 l).length ≤ 12 := by unfold few6; rw [List.length_map, List.length_take]; omega
theorem CpsO.at {D : Nat → Prop} {w : World} {A : Option Addr} {n c : Nat} {l : List Cp} (h : CpsO D w (.slice A n c) l) (h0 : 0 < l.length) : ∃ b o, A = some ⟨b, o, none⟩ ∧ ∀ i (h : i < l.length), w.cell? ⟨b, o + i * 2, none⟩ = some (by8 l[i].1) ∧ ∃ u, w.cell? ⟨b, o + i * 2 + 1, none⟩ = some u ∧ By w u l[i].2 ∧ OffB D u := by
  obtain ⟨A', c', hv, _, _, hr⟩ := h
  injection hv with e1 e2 e3
  subst e1
  obtain ⟨b, o, hA, _, hi⟩ := hr h0
  exact ⟨b, o, hA, hi⟩
theorem OffB.cut {D : Nat → Prop} {A : Option Addr} {n c m c' : Nat} (h : OffB D (.slice A n c)) (hm : m ≤ n) : OffB D (.slice A m c') := fun a k e hv h0 => by
  injection hv with e1 e2 e3
  subst e1 e2
  exact h a n c rfl (by omega)
/-- What lies in memory between two rounds. -/
structure FewS (D : Nat → Prop) (w : World) (o : Opn) (v : Value) (k : Nat) (lv : Value) (xs : List Value) (u : World) : Prop where
  b1 : Blk u w.heap.size 28 #[.int .u8 (o.ver : Int), .int .u16 (o.asn : Int), .int .u16 (o.hold : Int), .int .u32 (o.id : Int), v]
  b2 : Blk u (w.heap.size + 1) 28 #[.int .u8 0, .int .u16 0, .int .u16 0, .int .u32 0, .slice none 0 0]
  own : u.ownsRow (w.heap.size + 1 + 1) 66 2 lv k xs
  cells : Cells (fun u m => By w u m ∧ OffB D u) xs ((o.caps.take k).map cut3)
  kept : Kept Nothing w u
theorem FewS.push {D : Nat → Prop} {w u u1 w7 : World} {o : Opn} {v lv v' : Value} {k : Nat} {xs : List Value} (h : FewS D w o v k lv xs u) (k0 : Kept Nothing u u1) {c : Cp} {cv : Value}
    (hg : u1.grownBy w7 lv.ownBlock) (ho7 : w7.ownsRow (w.heap.size + 1 + 1) 66 2 v' (k + 1) (xs ++ [by8 c.1, cv])) (hc : By w cv (c.2.take 300) ∧ OffB D cv) (ht : o.caps.take (k + 1) = o.caps.take k ++ [c]) :
    FewS D w o v (k + 1) v' (xs ++ [by8 c.1, cv]) w7 := by
  have kg := grown_kept hg
  have o1 := ow_kept h.own k0 (fun _ _ x => x)
  refine ⟨(h.b1.kept k0 (fun x => x)).kept kg (fun e => by have := (o1.lt _ e).1; omega), (h.b2.kept k0 (fun x => x)).kept kg (fun e => by have := (o1.lt _ e).1; omega), ho7, ?_, (h.kept.trans k0).grown hg (fun i hi hlt => by have := (h.own.lt i hi).1; omega)⟩
  rw [ht, List.map_append]
  exact Cells.snoc (c := cut3 c) hc h.cells
theorem fa_off {listed : Array Bool} {i n : Nat} (hs : listed.size = n) (hi : i < n) (h : listed.getD i true = false) : listed.getD i false = false := by
  have hlt : i < listed.size := by omega
  rw [Array.getD_eq_getD_getElem?, Array.getElem?_eq_getElem hlt] at h ⊢
  exact h
theorem fa_on {listed : Array Bool} {i n : Nat} (hs : listed.size = n) (hi : i < n) : (listed.setIfInBounds i true).getD i false = true := by
  have hlt : i < listed.size := by omega
  simp [hlt]
/-- How far the region is: laid, appended; the new list. -/
structure GM where
  n : Nat
  v : Value
def MJ (l : Array Bool) (G : GM) : Prop := l.getD 23 false = decide (1 ≤ G.n) ∧ l.getD 24 false = decide (2 ≤ G.n) ∧ (l.getD 25 false = true → l.getD 0 false = true)
theorem fa_mono {l : Array Bool} {i j : Nat} (h : l.getD j false = true) : (l.setIfInBounds i true).getD j false = true := by
  by_cases e : i = j
  · subst e
    have hlt : i < l.size := by
      by_cases hlt : i < l.size
      · exact hlt
      · rw [Array.getD_eq_getD_getElem?, Array.getElem?_eq_none (by omega)] at h; cases h
    exact fa_on rfl hlt
  · rw [getD_set_ne false (fun x => e x)]; exact h
theorem fa_same {l : Array Bool} {i j : Nat} (h : (l.setIfInBounds i true).getD j false = true) (e : i ≠ j) : l.getD j false = true := by
  rwa [getD_set_ne false e] at h
theorem MJ.off {l : Array Bool} {G : GM} (h : MJ l G) (hs : l.size = 26) (h0 : l.getD 0 true = false) : l.getD 25 false = false := by
  have e := fa_off hs (by decide) h0
  cases hc : l.getD 25 false with
  | false => rfl
  | true => rw [h.2.2 hc] at e; cases e
theorem MJ.other {l : Array Bool} {G : GM} {i : Nat} (h : MJ l G) (h1 : i ≠ 23) (h2 : i ≠ 24) (h3 : i ≠ 25) : MJ (l.setIfInBounds i true) G := by
  refine ⟨?_, ?_, fun e => fa_mono (h.2.2 (fa_same e h3))⟩
  · rw [getD_set_ne false h1]; exact h.1
  · rw [getD_set_ne false h2]; exact h.2.1
theorem MJ.last {l : Array Bool} {G : GM} (h : MJ l G) (h0 : l.getD 0 false = true) : MJ (l.setIfInBounds 25 true) G := by
  refine ⟨?_, ?_, fun _ => fa_mono h0⟩
  · rw [getD_set_ne false (by decide)]; exact h.1
  · rw [getD_set_ne false (by decide)]; exact h.2.1
theorem MJ.alloc {l : Array Bool} {G : GM} (h : MJ l G) (hs : l.size = 26) (h0 : l.getD 23 true = false) : G.n = 0 ∧ ∀ v, MJ (l.setIfInBounds 23 true) ⟨1, v⟩ := by
  have e := fa_off hs (by decide) h0
  rw [h.1] at e
  have hn : G.n = 0 := by
    have : ¬ 1 ≤ G.n := by simpa using e
    omega
  refine ⟨hn, fun v => ⟨?_, ?_, fun e => fa_mono (h.2.2 (fa_same e (by decide)))⟩⟩
  · rw [fa_on hs (by decide)]; rfl
  · rw [getD_set_ne false (by decide), h.2.1, hn]; rfl
theorem MJ.app {l : Array Bool} {G : GM} (h : MJ l G) (hs : l.size = 26) (h0 : l.getD 24 true = false) (h1 : l.getD 23 false = true) : G.n = 1 ∧ ∀ v, MJ (l.setIfInBounds 24 true) ⟨2, v⟩ := by
  have e := fa_off hs (by decide) h0
  rw [h.2.1] at e
  have e1 := h1
  rw [h.1] at e1
  have hn : G.n = 1 := by
    have : ¬ 2 ≤ G.n := by simpa using e
    have : 1 ≤ G.n := by simpa using e1
    omega
  refine ⟨hn, fun v => ⟨?_, ?_, fun e => fa_mono (h.2.2 (fa_same e (by decide)))⟩⟩
  · rw [getD_set_ne false (by decide), h1]; rfl
  · rw [fa_on hs (by decide)]; rfl
def MR (G : GM) (_ : World) (G' : GM) (_ : World) : Prop := 2 ≤ G.n → 2 ≤ G'.n ∧ G'.v = G.v
def MB (D : Nat → Prop) (w wr : World) (o : Opn) (v : Value) (k : Nat) (c : Cp) (cv : Value) (xs : List Value) (G : GM) (u : World) : Prop :=
  Kept Nothing w u ∧ Blk u w.heap.size 28 #[.int .u8 (o.ver : Int), .int .u16 (o.asn : Int), .int .u16 (o.hold : Int), .int .u32 (o.id : Int), v] ∧ (G.n = 0 → u = wr.drew) ∧ (G.n = 1 → u = wr.drew.alloc (.cells #[by8 c.1, cv] 66)) ∧ (2 ≤ G.n → FewS D w o v (k + 1) G.v (xs ++ [by8 c.1, cv]) u)
theorem MB.alloc {D : Nat → Prop} {w wr u : World} {o : Opn} {v cv : Value} {k : Nat} {c : Cp} {xs : List Value} {G : GM} (h : MB D w wr o v k c cv xs G u) (hn : G.n = 0) : MB D w wr o v k c cv xs ⟨1, undef⟩ (wr.drew.alloc (.cells #[by8 c.1, cv] 66)) := by
  have e := h.2.2.1 hn
  subst e
  exact ⟨h.1.alloc _, h.2.1.alloc _, fun e => absurd (show 1 = 0 from e) (by decide), fun _ => rfl, fun e => absurd (show 2 ≤ 1 from e) (by decide)⟩
theorem MB.app {D : Nat → Prop} {w wr w7 : World} {o : Opn} {v lv cv v' : Value} {k : Nat} {c : Cp} {xs : List Value} {G : GM} (_ : MB D w wr o v k c cv xs G (wr.drew.alloc (.cells #[by8 c.1, cv] 66))) (hs : FewS D w o v k lv xs wr)
    (hg : (wr.drew.alloc (.cells #[by8 c.1, cv] 66)).grownBy w7 lv.ownBlock) (ho : w7.ownsRow (w.heap.size + 1 + 1) 66 2 v' (k + 1) (xs ++ [by8 c.1, cv])) (hc : By w cv (c.2.take 300) ∧ OffB D cv) (ht : o.caps.take (k + 1) = o.caps.take k ++ [c]) :
    MB D w wr o v k c cv xs ⟨2, v'⟩ w7 := by
  have h := hs.push (((Kept.refl Nothing wr).drew).alloc _) hg ho hc ht
  exact ⟨h.kept, h.b1, fun e => absurd (show 2 = 0 from e) (by decide), fun e => absurd (show 2 = 1 from e) (by decide), fun _ => h⟩
def MF (L : List Value) (k : Nat) (G : GM) (v : Value) (_ : World) : Prop := if k = 24 ∨ k = 25 then (2 ≤ G.n ∧ v = G.v) else ∀ x, L[k]? = some x → v = x
theorem mf_v {L : List Value} {k : Nat} {G : GM} {v : Value} {w : World} (hk : k = 24 ∨ k = 25) (h : MF L k G v w) : 2 ≤ G.n ∧ v = G.v := by
  unfold MF at h
  rwa [if_pos hk] at h
theorem mf_mv {L : List Value} {k : Nat} {v' v : Value} {w : World} (hk : k = 24 ∨ k = 25) (h : v = v') : MF L k ⟨2, v'⟩ v w := by
  unfold MF
  rw [if_pos hk]
  exact ⟨Nat.le_refl 2, h⟩
theorem mf_mv' {L : List Value} {k : Nat} {G : GM} {v : Value} {w : World} (hk : k = 24 ∨ k = 25) (h2 : 2 ≤ G.n) (h : v = G.v) : MF L k G v w := by
  unfold MF
  rw [if_pos hk]
  exact ⟨h2, h⟩
theorem mf_val {L : List Value} {k : Nat} {G : GM} {v : Value} {w : World} (hk : k < 24) (h : MF L k G v w) : ∀ x, L[k]? = some x → v = x := by
  unfold MF at h
  rwa [if_neg (by omega)] at h
theorem mf_mk {L : List Value} {k : Nat} {G : GM} {v : Value} {w : World} (hk : k < 24) (hL : L[k]? = some v) : MF L k G v w := by
  unfold MF
  rw [if_neg (by omega)]
  exact fun x hx => Option.some.inj (hL.symm.trans hx)
theorem MF.step {L : List Value} (k : Nat) (G : GM) (w : World) (G' : GM) (w' : World) (v : Value) (r : MR G w G' w') (h : MF L k G v w) : MF L k G' v w' := by
  unfold MF at h ⊢
  split
  · next e => rw [if_pos e] at h; obtain ⟨h1, h2⟩ := r h.1; exact ⟨h1, by rw [h2]; exact h.2⟩
  · next e => rw [if_neg e] at h; exact h
def ml_l (w wr : World) (o : Opn) (b off c k : Nat) (A5 : Option Addr) (c5 : Nat) (kd : UInt8) (val : List UInt8) (A1 : Option Addr) (cc1 ml : Nat) : List Value := [.slice A5 k c5, .pointer (some ⟨w.heap.size, 4, none⟩), .slice (some ⟨b, off, none⟩) o.caps.length c, .int .i64 k, .pointer (some ⟨b, off + k * 2, none⟩), .pointer (some ⟨b, off + k * 2, none⟩), .int .u8 (kd.toNat : Int), .pointer (some ⟨w.heap.size, 4, none⟩), .slice (some ⟨b, off, none⟩) o.caps.length c, .int .i64 k, .pointer (some ⟨b, off + k * 2, none⟩), .pointer (some ⟨b, off + k * 2 + 1, none⟩), .slice A1 val.length cc1, .pointer (some ⟨w.heap.size, 4, none⟩), .slice (some ⟨b, off, none⟩) o.caps.length c, .int .i64 k, .pointer (some ⟨b, off + k * 2, none⟩), .pointer (some ⟨b, off + k * 2 + 1, none⟩), .slice A1 val.length cc1, .int .i64 (val.length : Int), .int .i64 (ml : Int), .slice A1 ml cc1, .agg #[.int .u8 (kd.toNat : Int), .slice A1 ml cc1], .slice (some ⟨wr.heap.size, 0, none⟩) 1 1, undef, undef]

theorem fin_few {w : World} {p z : Nat} {t : TypeId} {x0 x1 x2 x3 x4 : Value} (hp : Blk w p t #[x0, x1, x2, x3, x4]) (h1 : p ≠ z) (x a0 a1 a2 a3 a4 : Value) :
    ((((((w.setCell ⟨z, 4, none⟩ x).setCell ⟨p, 0, none⟩ a0).setCell ⟨p, 1, none⟩ a1).setCell ⟨p, 2, none⟩ a2).setCell ⟨p, 3, none⟩ a3).setCell ⟨p, 4, none⟩ a4).cell? ⟨p, 0, none⟩ = some a0 ∧ ((((((w.setCell ⟨z, 4, none⟩ x).setCell ⟨p, 0, none⟩ a0).setCell ⟨p, 1, none⟩ a1).setCell ⟨p, 2, none⟩ a2).setCell ⟨p, 3, none⟩ a3).setCell ⟨p, 4, none⟩ a4).cell? ⟨p, 1, none⟩ = some a1 ∧ ((((((w.setCell ⟨z, 4, none⟩ x).setCell ⟨p, 0, none⟩ a0).setCell ⟨p, 1, none⟩ a1).setCell ⟨p, 2, none⟩ a2).setCell ⟨p, 3, none⟩ a3).setCell ⟨p, 4, none⟩ a4).cell? ⟨p, 2, none⟩ = some a2 ∧ ((((((w.setCell ⟨z, 4, none⟩ x).setCell ⟨p, 0, none⟩ a0).setCell ⟨p, 1, none⟩ a1).setCell ⟨p, 2, none⟩ a2).setCell ⟨p, 3, none⟩ a3).setCell ⟨p, 4, none⟩ a4).cell? ⟨p, 3, none⟩ = some a3 ∧ ((((((w.setCell ⟨z, 4, none⟩ x).setCell ⟨p, 0, none⟩ a0).setCell ⟨p, 1, none⟩ a1).setCell ⟨p, 2, none⟩ a2).setCell ⟨p, 3, none⟩ a3).setCell ⟨p, 4, none⟩ a4).cell? ⟨p, 4, none⟩ = some a4 := by
  have e1 : Blk ((((((w.setCell ⟨z, 4, none⟩ x).setCell ⟨p, 0, none⟩ a0).setCell ⟨p, 1, none⟩ a1).setCell ⟨p, 2, none⟩ a2).setCell ⟨p, 3, none⟩ a3).setCell ⟨p, 4, none⟩ a4) p t #[a0, a1, a2, a3, a4] := (((((hp.far h1 x).put 0 a0).put 1 a1).put 2 a2).put 3 a3).put 4 a4
  exact ⟨e1.cell 0, e1.cell 1, e1.cell 2, e1.cell 3, e1.cell 4⟩
theorem kept_few {w : World} {p z : Nat} (x a0 a1 a2 a3 a4 : Value) : Kept (fun k => k = z ∨ k = p) w ((((((w.setCell ⟨z, 4, none⟩ x).setCell ⟨p, 0, none⟩ a0).setCell ⟨p, 1, none⟩ a1).setCell ⟨p, 2, none⟩ a2).setCell ⟨p, 3, none⟩ a3).setCell ⟨p, 4, none⟩ a4) :=
  ((Kept.own w z 4 x).mono (fun _ e => Or.inl e)).trans ((kept_5 (p := p) a0 a1 a2 a3 a4).mono (fun _ e => Or.inr e))

set_option maxRecDepth 20000 in
set_option maxHeartbeats 4000000 in
theorem law_few_off (D : Nat → Prop) (o : Opn) (v : Value) (w : World) (hv : CpsO D w v o.caps) (hD : ∀ k, D k → k < w.heap.size) :
    Calls Tryd.prog 14 #[.agg #[.int .u8 (o.ver : Int), .int .u16 (o.asn : Int), .int .u16 (o.hold : Int), .int .u32 (o.id : Int), v]] w fun e w' =>
      ∃ rv, e = .returned (.agg #[.int .u8 (o.ver : Int), .int .u16 (o.asn : Int), .int .u16 (o.hold : Int), .int .u32 (o.id : Int), rv]) ∧ CpsO D w' rv (few6 o.caps) ∧ Kept Nothing w w' := by
  obtain ⟨A, c, rfl, hc, hm⟩ := hv.form
  have HV := Lib.hid hv
  obtain ⟨i0, hi, hz0, hz1, hz2⟩ := info_parts cap_info
  unfold maxLen at hm
  clear hv
  go_enter Tryd.func14, Tryd.ntmps14
  go_wp2
  go_loopw [3, 4] (fun lv i wr => ∃ (k : Nat) (xs : List Value), k ≤ o.caps.length ∧ k ≤ 12 ∧ i = .int .i64 k ∧ Hid (FewS D w o (.slice A o.caps.length c) k lv xs wr)) (fun _ i _ => 12 - (intOf i).toNat)
  case atStart =>
    refine ⟨0, [], by omega, by omega, rfl, Lib.hid ⟨(Blk.fresh w _ _).alloc _, ?_, World.ownsRow_nil _ _ _ _, trivial, ((Kept.refl _ w).alloc _).alloc _⟩⟩
    have := (Blk.fresh (w.alloc (.cells #[.int .u8 (o.ver : Int), .int .u16 (o.asn : Int), .int .u16 (o.hold : Int), .int .u32 (o.id : Int), .slice A o.caps.length c] 28)) 28 #[.int .u8 0, .int .u16 0, .int .u16 0, .int .u32 0, .slice none 0 0])
    rw [World.size_alloc] at this
    exact this
  case round =>
    obtain ⟨k, xs, hk, hk12, rfl, HS⟩ := hrel
    have hs := HS.out
    obtain ⟨⟨a0, a1, a2, a3, a4⟩, a5, a6, a7, a8, a9⟩ := full5 hs.b1
    have l1 := hs.b1.lt
    obtain ⟨A5, c5, rfl, _, _⟩ := ow_form hs.own
    by_cases hlt : k < o.caps.length ∧ k < 12
    · obtain ⟨hlt, h12⟩ := hlt
      obtain ⟨b, off, rfl, hcell⟩ := HV.out.at (by omega)
      obtain ⟨q0, u, q1, q2, q3⟩ := hcell k hlt
      have e0 := q0
      have e1 := q1
      obtain ⟨A1, cc1, rfl, hc1, hm1⟩ := q2.form
      have HT := Lib.hid (List.take_succ_eq_append_getElem hlt)
      have hsz := hs.kept.size
      generalize hP : o.caps[k] = P at *
      obtain ⟨kd, val⟩ := P
      simp only at e0 e1 q2 hc1 q3
      unfold by8 at e0
      have hmin : (if (300 : Int) < (val.length : Int) then (300 : Int) else (val.length : Int)) = ((min val.length 300 : Nat) : Int) := by split <;> omega
      have hsl := slice_to A1 val.length cc1 (min val.length 300) (by omega)
      have hpre := q2.pre (m := min val.length 300) (by omega)
      have htk : val.take (min val.length 300) = val.take 300 := by
        by_cases h : val.length ≤ 300
        · rw [List.take_of_length_le (by omega), List.take_of_length_le (by omega)]
        · rw [show min val.length 300 = 300 by omega]
      rw [htk] at hpre
      have HBy := Lib.hid (And.intro hpre (q3.cut (m := min val.length 300) (c' := cc1) (by omega)))
      have HLn : Hid (k + 1 ≤ maxLen ∧ (k + 1) * 32 ≤ 140737488355328) := ⟨by unfold maxLen; omega, by omega⟩
      have hml : min val.length 300 ≤ val.length := by omega
      generalize min val.length 300 = ml at *
      have hO := Lib.hid hs.own
      have Q0 := Lib.hid e0
      have Q1 := Lib.hid e1
      clear hcell q0 q1 q2 q3 hP hs hpre htk e0 e1
      have hki : (k : Int) < (o.caps.length : Int) := by omega
      have h12i : (k : Int) < 12 := by omega
      go_wp2_with fail
      refine wp_region_facts1 (MB D w wr o (.slice (some ⟨b, off, none⟩) o.caps.length c) k (kd, val) (.slice A1 ml cc1) xs) MJ (MF (ml_l w wr o b off c k A5 c5 kd val A1 cc1 ml)) MR (by kernel_rfl) (by decide) (by intro d hd; simp [dsts] at hd ⊢; omega) (by rfl) (ready_nil (by kernel_rfl)) MF.step ?_ ?_ ?_
      · exact ⟨⟨0, undef⟩, ⟨rfl, rfl, fun h => by cases h⟩, HS.out.kept.drew, HS.out.b1.drew, fun _ => rfl, fun e => absurd e (by decide), fun e => absurd e (by decide)⟩
      · refine OwesAll1.cons ?_ (OwesAll1.cons ?_ (OwesAll1.cons ?_ (OwesAll1.cons ?_ (OwesAll1.cons ?_ (OwesAll1.cons ?_ (OwesAll1.cons ?_ (OwesAll1.cons ?_ (OwesAll1.cons ?_ (OwesAll1.cons ?_ (OwesAll1.cons ?_ (OwesAll1.cons ?_ (OwesAll1.cons ?_ (OwesAll1.cons ?_ (OwesAll1.cons ?_ (OwesAll1.cons ?_ (OwesAll1.cons ?_ (OwesAll1.cons ?_ (OwesAll1.cons ?_ (OwesAll1.cons ?_ (OwesAll1.cons ?_ (OwesAll1.cons ?_ (OwesAll1.cons ?_ (OwesAll1.cons ?_ (OwesAll1.cons ?_ (OwesAll1.cons ?_ OwesAll1.nil)))))))))))))))))))))))))
        · intro listed G u a hsz hun haf hJ hB hK hfar hoff
          have v3 : a.tmps.getD 3 undef = .slice A5 k c5 := hoff 3 25 (by rfl) (hJ.off hsz hun)
          have w3 := v3
          rw [Array.getD_eq_getD_getElem?] at w3
          have J' := Lib.hid (hJ.other (i := 0) (by decide) (by decide) (by decide))
          have HB := Lib.hid hB
          clear hK haf hfar hJ hun hsz hoff hB
          go_simp
          exact ⟨_, rfl, G, fun h => ⟨h, rfl⟩, HB.out, J'.out, mf_mk (by decide) rfl⟩
        · intro listed G u a hsz hun haf hJ hB hK hfar hoff
          have v1 : a.tmps.getD 1 undef = .pointer (some ⟨w.heap.size, 0, none⟩) := hfar 1 (by decide)
          have w1 := v1
          rw [Array.getD_eq_getD_getElem?] at w1
          have J' := Lib.hid (hJ.other (i := 1) (by decide) (by decide) (by decide))
          have HB := Lib.hid hB
          clear hK haf hfar hJ hun hsz hoff hB
          go_simp
          exact ⟨_, rfl, G, fun h => ⟨h, rfl⟩, HB.out, J'.out, mf_mk (by decide) rfl⟩
        · intro listed G u a hsz hun haf hJ hB hK hfar hoff
          have v17 : a.tmps.getD 17 undef = .pointer (some ⟨w.heap.size, 4, none⟩) := mf_val (k := 1) (by decide) (hK 1 _ 17 rfl rfl (haf ⟨1, .data⟩ (Array.mem_of_getElem? (i := 0) rfl) rfl)) _ rfl
          have w17 := v17
          rw [Array.getD_eq_getD_getElem?] at w17
          have a4 := hB.2.1.cell 4
          have J' := Lib.hid (hJ.other (i := 2) (by decide) (by decide) (by decide))
          have HB := Lib.hid hB
          clear hK haf hfar hJ hun hsz hoff hB
          go_simp
          exact ⟨_, rfl, G, fun h => ⟨h, rfl⟩, HB.out, J'.out, mf_mk (by decide) rfl⟩
        · intro listed G u a hsz hun haf hJ hB hK hfar hoff
          have v4 : a.tmps.getD 4 undef = .int .i64 k := hfar 4 (by decide)
          have w4 := v4
          rw [Array.getD_eq_getD_getElem?] at w4
          have J' := Lib.hid (hJ.other (i := 3) (by decide) (by decide) (by decide))
          have HB := Lib.hid hB
          clear hK haf hfar hJ hun hsz hoff hB
          go_simp
          exact ⟨_, rfl, G, fun h => ⟨h, rfl⟩, HB.out, J'.out, mf_mk (by decide) rfl⟩
        · intro listed G u a hsz hun haf hJ hB hK hfar hoff
          have v18 : a.tmps.getD 18 undef = .slice (some ⟨b, off, none⟩) o.caps.length c := mf_val (k := 2) (by decide) (hK 2 _ 18 rfl rfl (haf ⟨2, .data⟩ (Array.mem_of_getElem? (i := 0) rfl) rfl)) _ rfl
          have w18 := v18
          rw [Array.getD_eq_getD_getElem?] at w18
          have v19 : a.tmps.getD 19 undef = .int .i64 k := mf_val (k := 3) (by decide) (hK 3 _ 19 rfl rfl (haf ⟨3, .data⟩ (Array.mem_of_getElem? (i := 1) rfl) rfl)) _ rfl
          have w19 := v19
          rw [Array.getD_eq_getD_getElem?] at w19
          have J' := Lib.hid (hJ.other (i := 4) (by decide) (by decide) (by decide))
          have HB := Lib.hid hB
          clear hK haf hfar hJ hun hsz hoff hB
          go_simp
          exact ⟨_, rfl, G, fun h => ⟨h, rfl⟩, HB.out, J'.out, mf_mk (by decide) rfl⟩
        · intro listed G u a hsz hun haf hJ hB hK hfar hoff
          have v20 : a.tmps.getD 20 undef = .pointer (some ⟨b, off + k * 2, none⟩) := mf_val (k := 4) (by decide) (hK 4 _ 20 rfl rfl (haf ⟨4, .data⟩ (Array.mem_of_getElem? (i := 0) rfl) rfl)) _ rfl
          have w20 := v20
          rw [Array.getD_eq_getD_getElem?] at w20
          have J' := Lib.hid (hJ.other (i := 5) (by decide) (by decide) (by decide))
          have HB := Lib.hid hB
          clear hK haf hfar hJ hun hsz hoff hB
          go_simp
          exact ⟨_, rfl, G, fun h => ⟨h, rfl⟩, HB.out, J'.out, mf_mk (by decide) rfl⟩
        · intro listed G u a hsz hun haf hJ hB hK hfar hoff
          have v21 : a.tmps.getD 21 undef = .pointer (some ⟨b, off + k * 2, none⟩) := mf_val (k := 5) (by decide) (hK 5 _ 21 rfl rfl (haf ⟨5, .data⟩ (Array.mem_of_getElem? (i := 0) rfl) rfl)) _ rfl
          have w21 := v21
          rw [Array.getD_eq_getD_getElem?] at w21
          have cc := hB.1.cell_some Q0.out (fun x => x)
          have J' := Lib.hid (hJ.other (i := 6) (by decide) (by decide) (by decide))
          have HB := Lib.hid hB
          clear hK haf hfar hJ hun hsz hoff hB
          go_simp
          exact ⟨_, rfl, G, fun h => ⟨h, rfl⟩, HB.out, J'.out, mf_mk (by decide) rfl⟩
        · intro listed G u a hsz hun haf hJ hB hK hfar hoff
          have v1 : a.tmps.getD 1 undef = .pointer (some ⟨w.heap.size, 0, none⟩) := hfar 1 (by decide)
          have w1 := v1
          rw [Array.getD_eq_getD_getElem?] at w1
          have J' := Lib.hid (hJ.other (i := 7) (by decide) (by decide) (by decide))
          have HB := Lib.hid hB
          clear hK haf hfar hJ hun hsz hoff hB
          go_simp
          exact ⟨_, rfl, G, fun h => ⟨h, rfl⟩, HB.out, J'.out, mf_mk (by decide) rfl⟩
        · intro listed G u a hsz hun haf hJ hB hK hfar hoff
          have v23 : a.tmps.getD 23 undef = .pointer (some ⟨w.heap.size, 4, none⟩) := mf_val (k := 7) (by decide) (hK 7 _ 23 rfl rfl (haf ⟨7, .data⟩ (Array.mem_of_getElem? (i := 0) rfl) rfl)) _ rfl
          have w23 := v23
          rw [Array.getD_eq_getD_getElem?] at w23
          have a4 := hB.2.1.cell 4
          have J' := Lib.hid (hJ.other (i := 8) (by decide) (by decide) (by decide))
          have HB := Lib.hid hB
          clear hK haf hfar hJ hun hsz hoff hB
          go_simp
          exact ⟨_, rfl, G, fun h => ⟨h, rfl⟩, HB.out, J'.out, mf_mk (by decide) rfl⟩
        · intro listed G u a hsz hun haf hJ hB hK hfar hoff
          have v4 : a.tmps.getD 4 undef = .int .i64 k := hfar 4 (by decide)
          have w4 := v4
          rw [Array.getD_eq_getD_getElem?] at w4
          have J' := Lib.hid (hJ.other (i := 9) (by decide) (by decide) (by decide))
          have HB := Lib.hid hB
          clear hK haf hfar hJ hun hsz hoff hB
          go_simp
          exact ⟨_, rfl, G, fun h => ⟨h, rfl⟩, HB.out, J'.out, mf_mk (by decide) rfl⟩
        · intro listed G u a hsz hun haf hJ hB hK hfar hoff
          have v24 : a.tmps.getD 24 undef = .slice (some ⟨b, off, none⟩) o.caps.length c := mf_val (k := 8) (by decide) (hK 8 _ 24 rfl rfl (haf ⟨8, .data⟩ (Array.mem_of_getElem? (i := 0) rfl) rfl)) _ rfl
          have w24 := v24
          rw [Array.getD_eq_getD_getElem?] at w24
          have v25 : a.tmps.getD 25 undef = .int .i64 k := mf_val (k := 9) (by decide) (hK 9 _ 25 rfl rfl (haf ⟨9, .data⟩ (Array.mem_of_getElem? (i := 1) rfl) rfl)) _ rfl
          have w25 := v25
          rw [Array.getD_eq_getD_getElem?] at w25
          have J' := Lib.hid (hJ.other (i := 10) (by decide) (by decide) (by decide))
          have HB := Lib.hid hB
          clear hK haf hfar hJ hun hsz hoff hB
          go_simp
          exact ⟨_, rfl, G, fun h => ⟨h, rfl⟩, HB.out, J'.out, mf_mk (by decide) rfl⟩
        · intro listed G u a hsz hun haf hJ hB hK hfar hoff
          have v26 : a.tmps.getD 26 undef = .pointer (some ⟨b, off + k * 2, none⟩) := mf_val (k := 10) (by decide) (hK 10 _ 26 rfl rfl (haf ⟨10, .data⟩ (Array.mem_of_getElem? (i := 0) rfl) rfl)) _ rfl
          have w26 := v26
          rw [Array.getD_eq_getD_getElem?] at w26
          have J' := Lib.hid (hJ.other (i := 11) (by decide) (by decide) (by decide))
          have HB := Lib.hid hB
          clear hK haf hfar hJ hun hsz hoff hB
          go_simp
          exact ⟨_, rfl, G, fun h => ⟨h, rfl⟩, HB.out, J'.out, mf_mk (by decide) rfl⟩
        · intro listed G u a hsz hun haf hJ hB hK hfar hoff
          have v27 : a.tmps.getD 27 undef = .pointer (some ⟨b, off + k * 2 + 1, none⟩) := mf_val (k := 11) (by decide) (hK 11 _ 27 rfl rfl (haf ⟨11, .data⟩ (Array.mem_of_getElem? (i := 0) rfl) rfl)) _ rfl
          have w27 := v27
          rw [Array.getD_eq_getD_getElem?] at w27
          have cc := hB.1.cell_some Q1.out (fun x => x)
          have J' := Lib.hid (hJ.other (i := 12) (by decide) (by decide) (by decide))
          have HB := Lib.hid hB
          clear hK haf hfar hJ hun hsz hoff hB
          go_simp
          exact ⟨_, rfl, G, fun h => ⟨h, rfl⟩, HB.out, J'.out, mf_mk (by decide) rfl⟩
        · intro listed G u a hsz hun haf hJ hB hK hfar hoff
          have v1 : a.tmps.getD 1 undef = .pointer (some ⟨w.heap.size, 0, none⟩) := hfar 1 (by decide)
          have w1 := v1
          rw [Array.getD_eq_getD_getElem?] at w1
          have J' := Lib.hid (hJ.other (i := 13) (by decide) (by decide) (by decide))
          have HB := Lib.hid hB
          clear hK haf hfar hJ hun hsz hoff hB
          go_simp
          exact ⟨_, rfl, G, fun h => ⟨h, rfl⟩, HB.out, J'.out, mf_mk (by decide) rfl⟩
        · intro listed G u a hsz hun haf hJ hB hK hfar hoff
          have v29 : a.tmps.getD 29 undef = .pointer (some ⟨w.heap.size, 4, none⟩) := mf_val (k := 13) (by decide) (hK 13 _ 29 rfl rfl (haf ⟨13, .data⟩ (Array.mem_of_getElem? (i := 0) rfl) rfl)) _ rfl
          have w29 := v29
          rw [Array.getD_eq_getD_getElem?] at w29
          have a4 := hB.2.1.cell 4
          have J' := Lib.hid (hJ.other (i := 14) (by decide) (by decide) (by decide))
          have HB := Lib.hid hB
          clear hK haf hfar hJ hun hsz hoff hB
          go_simp
          exact ⟨_, rfl, G, fun h => ⟨h, rfl⟩, HB.out, J'.out, mf_mk (by decide) rfl⟩
        · intro listed G u a hsz hun haf hJ hB hK hfar hoff
          have v4 : a.tmps.getD 4 undef = .int .i64 k := hfar 4 (by decide)
          have w4 := v4
          rw [Array.getD_eq_getD_getElem?] at w4
          have J' := Lib.hid (hJ.other (i := 15) (by decide) (by decide) (by decide))
          have HB := Lib.hid hB
          clear hK haf hfar hJ hun hsz hoff hB
          go_simp
          exact ⟨_, rfl, G, fun h => ⟨h, rfl⟩, HB.out, J'.out, mf_mk (by decide) rfl⟩
        · intro listed G u a hsz hun haf hJ hB hK hfar hoff
          have v30 : a.tmps.getD 30 undef = .slice (some ⟨b, off, none⟩) o.caps.length c := mf_val (k := 14) (by decide) (hK 14 _ 30 rfl rfl (haf ⟨14, .data⟩ (Array.mem_of_getElem? (i := 0) rfl) rfl)) _ rfl
          have w30 := v30
          rw [Array.getD_eq_getD_getElem?] at w30
          have v31 : a.tmps.getD 31 undef = .int .i64 k := mf_val (k := 15) (by decide) (hK 15 _ 31 rfl rfl (haf ⟨15, .data⟩ (Array.mem_of_getElem? (i := 1) rfl) rfl)) _ rfl
          have w31 := v31
          rw [Array.getD_eq_getD_getElem?] at w31
          have J' := Lib.hid (hJ.other (i := 16) (by decide) (by decide) (by decide))
          have HB := Lib.hid hB
          clear hK haf hfar hJ hun hsz hoff hB
          go_simp
          exact ⟨_, rfl, G, fun h => ⟨h, rfl⟩, HB.out, J'.out, mf_mk (by decide) rfl⟩
        · intro listed G u a hsz hun haf hJ hB hK hfar hoff
          have v32 : a.tmps.getD 32 undef = .pointer (some ⟨b, off + k * 2, none⟩) := mf_val (k := 16) (by decide) (hK 16 _ 32 rfl rfl (haf ⟨16, .data⟩ (Array.mem_of_getElem? (i := 0) rfl) rfl)) _ rfl
          have w32 := v32
          rw [Array.getD_eq_getD_getElem?] at w32
          have J' := Lib.hid (hJ.other (i := 17) (by decide) (by decide) (by decide))
          have HB := Lib.hid hB
          clear hK haf hfar hJ hun hsz hoff hB
          go_simp
          exact ⟨_, rfl, G, fun h => ⟨h, rfl⟩, HB.out, J'.out, mf_mk (by decide) rfl⟩
        · intro listed G u a hsz hun haf hJ hB hK hfar hoff
          have v33 : a.tmps.getD 33 undef = .pointer (some ⟨b, off + k * 2 + 1, none⟩) := mf_val (k := 17) (by decide) (hK 17 _ 33 rfl rfl (haf ⟨17, .data⟩ (Array.mem_of_getElem? (i := 0) rfl) rfl)) _ rfl
          have w33 := v33
          rw [Array.getD_eq_getD_getElem?] at w33
          have cc := hB.1.cell_some Q1.out (fun x => x)
          have J' := Lib.hid (hJ.other (i := 18) (by decide) (by decide) (by decide))
          have HB := Lib.hid hB
          clear hK haf hfar hJ hun hsz hoff hB
          go_simp
          exact ⟨_, rfl, G, fun h => ⟨h, rfl⟩, HB.out, J'.out, mf_mk (by decide) rfl⟩
        · intro listed G u a hsz hun haf hJ hB hK hfar hoff
          have v34 : a.tmps.getD 34 undef = .slice A1 val.length cc1 := mf_val (k := 18) (by decide) (hK 18 _ 34 rfl rfl (haf ⟨18, .data⟩ (Array.mem_of_getElem? (i := 0) rfl) rfl)) _ rfl
          have w34 := v34
          rw [Array.getD_eq_getD_getElem?] at w34
          have J' := Lib.hid (hJ.other (i := 19) (by decide) (by decide) (by decide))
          have HB := Lib.hid hB
          clear hK haf hfar hJ hun hsz hoff hB
          go_simp
          exact ⟨_, rfl, G, fun h => ⟨h, rfl⟩, HB.out, J'.out, mf_mk (by decide) rfl⟩
        · intro listed G u a hsz hun haf hJ hB hK hfar hoff
          have v35 : a.tmps.getD 35 undef = .int .i64 (val.length : Int) := mf_val (k := 19) (by decide) (hK 19 _ 35 rfl rfl (haf ⟨19, .data⟩ (Array.mem_of_getElem? (i := 0) rfl) rfl)) _ rfl
          have w35 := v35
          rw [Array.getD_eq_getD_getElem?] at w35
          have J' := Lib.hid (hJ.other (i := 20) (by decide) (by decide) (by decide))
          have HB := Lib.hid hB
          clear hK haf hfar hJ hun hsz hoff hB
          go_simp
          exact ⟨_, rfl, G, fun h => ⟨h, rfl⟩, HB.out, J'.out, mf_mk (by decide) rfl⟩
        · intro listed G u a hsz hun haf hJ hB hK hfar hoff
          have v28 : a.tmps.getD 28 undef = .slice A1 val.length cc1 := mf_val (k := 12) (by decide) (hK 12 _ 28 rfl rfl (haf ⟨12, .data⟩ (Array.mem_of_getElem? (i := 0) rfl) rfl)) _ rfl
          have w28 := v28
          rw [Array.getD_eq_getD_getElem?] at w28
          have v36 : a.tmps.getD 36 undef = .int .i64 (ml : Int) := mf_val (k := 20) (by decide) (hK 20 _ 36 rfl rfl (haf ⟨20, .data⟩ (Array.mem_of_getElem? (i := 1) rfl) rfl)) _ rfl
          have w36 := v36
          rw [Array.getD_eq_getD_getElem?] at w36
          have J' := Lib.hid (hJ.other (i := 21) (by decide) (by decide) (by decide))
          have HB := Lib.hid hB
          clear hK haf hfar hJ hun hsz hoff hB
          go_simp
          exact ⟨_, rfl, G, fun h => ⟨h, rfl⟩, HB.out, J'.out, mf_mk (by decide) rfl⟩
        · intro listed G u a hsz hun haf hJ hB hK hfar hoff
          have v22 : a.tmps.getD 22 undef = .int .u8 (kd.toNat : Int) := mf_val (k := 6) (by decide) (hK 6 _ 22 rfl rfl (haf ⟨6, .data⟩ (Array.mem_of_getElem? (i := 0) rfl) rfl)) _ rfl
          have w22 := v22
          rw [Array.getD_eq_getD_getElem?] at w22
          have v37 : a.tmps.getD 37 undef = .slice A1 ml cc1 := mf_val (k := 21) (by decide) (hK 21 _ 37 rfl rfl (haf ⟨21, .data⟩ (Array.mem_of_getElem? (i := 1) rfl) rfl)) _ rfl
          have w37 := v37
          rw [Array.getD_eq_getD_getElem?] at w37
          have J' := Lib.hid (hJ.other (i := 22) (by decide) (by decide) (by decide))
          have HB := Lib.hid hB
          clear hK haf hfar hJ hun hsz hoff hB
          go_simp
          exact ⟨_, rfl, G, fun h => ⟨h, rfl⟩, HB.out, J'.out, mf_mk (by decide) rfl⟩
        · intro listed G u a hsz hun haf hJ hB hK hfar hoff
          have v38 : a.tmps.getD 38 undef = .agg #[.int .u8 (kd.toNat : Int), .slice A1 ml cc1] := mf_val (k := 22) (by decide) (hK 22 _ 38 rfl rfl (haf ⟨22, .data⟩ (Array.mem_of_getElem? (i := 0) rfl) rfl)) _ rfl
          have w38 := v38
          rw [Array.getD_eq_getD_getElem?] at w38
          obtain ⟨hn, hJ2⟩ := hJ.alloc hsz hun
          have J' := Lib.hid hJ2
          have HA := Lib.hid (hB.alloc hn)
          have hu := hB.2.2.1 hn
          clear hK haf hfar hJ hun hsz hoff hB hJ2
          subst hu
          go_simp
          exact ⟨_, rfl, ⟨1, undef⟩, fun h => absurd h (by omega), HA.out, J'.out undef, mf_mk (by decide) rfl⟩
        · intro listed G u a hsz hun haf hJ hB hK hfar hoff
          have v16 : a.tmps.getD 16 undef = .slice A5 k c5 := mf_val (k := 0) (by decide) (hK 0 _ 16 rfl rfl (haf ⟨0, .data⟩ (Array.mem_of_getElem? (i := 0) rfl) rfl)) _ rfl
          have w16 := v16
          rw [Array.getD_eq_getD_getElem?] at w16
          have v39 : a.tmps.getD 39 undef = .slice (some ⟨wr.heap.size, 0, none⟩) 1 1 := mf_val (k := 23) (by decide) (hK 23 _ 39 rfl rfl (haf ⟨23, .data⟩ (Array.mem_of_getElem? (i := 1) rfl) rfl)) _ rfl
          have w39 := v39
          rw [Array.getD_eq_getD_getElem?] at w39
          obtain ⟨hn, hJ2⟩ := hJ.app hsz hun (haf ⟨23, .data⟩ (Array.mem_of_getElem? (i := 1) rfl) rfl)
          have J' := Lib.hid hJ2
          have hu := hB.2.2.2.1 hn
          have HB := Lib.hid hB
          clear hK haf hfar hJ hun hsz hoff hJ2 hB
          subst hu
          refine wp_app _ (.tmp 16) (.tmp 39) 26 (by rfl) (w.heap.size + 1 + 1) 66 i0 _ 2 32 Tryd.underlying26 hi hz0 hz1 hz2 rfl (by decide) (.slice A5 k c5) k xs v16 (ow_kept hO.out (((Kept.refl Nothing wr).drew).alloc _) (fun _ _ x => x)) (some ⟨wr.heap.size, 0, none⟩) 1 1 [.int .u8 (kd.toNat : Int), .slice A1 ml cc1] v39 (src_new wr.drew _ #[.int .u8 (kd.toNat : Int), .slice A1 ml cc1] 2 1 rfl (by simp [Value.oneCell'])) HLn.out.1 HLn.out.2 (by simp; omega) ?_
          intro v' w7 ho hg hat
          exact ⟨_, ⟨2, v'⟩, rfl, fun h => absurd h (by omega), HB.out.app HS.out hg ho HBy.out HT.out, J'.out v', mf_mv (.inl rfl) rfl⟩
        · intro listed G u a hsz hun haf hJ hB hK hfar hoff
          have p40 := mf_v (.inl rfl) (hK 24 _ 40 rfl rfl (haf ⟨24, .data⟩ (Array.mem_of_getElem? (i := 0) rfl) rfl))
          have v40 := p40.2
          have w40 := v40
          rw [Array.getD_eq_getD_getElem?] at w40
          have J' := Lib.hid (hJ.last (haf ⟨0, .phase⟩ (Array.mem_of_getElem? (i := 2) rfl) rfl))
          have HB := Lib.hid hB
          have P40 := Lib.hid p40.1
          clear hK haf hfar hJ hun hsz hoff hB p40
          go_simp
          exact ⟨_, rfl, G, fun h => ⟨h, rfl⟩, HB.out, J'.out, mf_mv' (.inr rfl) P40.out rfl⟩
      · intro vals G w6 hB hJ hV
        have hn2 : 2 ≤ G.n := by
          have h1 : decide (2 ≤ G.n) = true := by rw [← hJ.2.1]; rfl
          simpa using h1
        have e25 : vals 25 = G.v := (mf_v (.inr rfl) (hV 25 _ 3 rfl rfl)).2
        have HP1 := Lib.hid (hB.2.2.2.2 hn2)
        clear hB hJ hV hn2
        generalize G.v = gv at *
        simp [putAll, Act.put, Array.setIfInBounds, e25]
        clear e25
        go_wp2
        go_roundw
        case rel => exact ⟨k + 1, _, by omega, by omega, by go_num, HP1⟩
        case measure => simp [intOf]; omega
    · have hcut : (o.caps.take k).map cut3 = few6 o.caps := by
        unfold few6
        by_cases h : k < 12
        · rw [List.take_of_length_le (by omega), List.take_of_length_le (by omega)]
        · rw [show k = 12 by omega]
      obtain ⟨⟨g0, g1, g2, g3, g4⟩, g5, g6, g7, g8, g9⟩ := full5 hs.b2
      have l2 := hs.b2.lt
      have hcs := hs.cells
      rw [hcut] at hcs
      have hlen : k = (few6 o.caps).length := by rw [← hcut, List.length_map, List.length_take]; omega
      have HD := Lib.hid hD
      have HC : Hid (CpsO (fun k => D k ∨ (k = w.heap.size ∨ k = w.heap.size + 1)) wr (.slice A5 k c5) (few6 o.caps)) := Lib.hid (CpsO.of_own (P := fun k => D k ∨ (k = w.heap.size ∨ k = w.heap.size + 1)) (l := few6 o.caps) (by rw [← hlen]; exact hs.own) (hcs.mono (fun u m hb => ⟨hb.1.old hs.kept, fun a n c e h0 x => by
        rcases x with x | x
        · exact hb.2 a n c e h0 x
        · exact hb.1.offb (P := fun k => k = w.heap.size ∨ k = w.heap.size + 1) (fun k e => by rcases e with e | e <;> omega) a n c e h0 x⟩)) (fun k e => by
        rcases e with e | e | e
        · have := hD k e; omega
        · omega
        · omega))
      have HK := Lib.hid hs.kept
      obtain ⟨r0, r1, r2, r3, r4⟩ := fin_few (p := w.heap.size + 1) (z := w.heap.size) hs.b2 (by omega) (.slice A5 k c5) (.int .u8 (o.ver : Int)) (.int .u16 (o.asn : Int)) (.int .u16 (o.hold : Int)) (.int .u32 (o.id : Int)) (.slice A5 k c5)
      have hside : ¬ ((k : Int) < (o.caps.length : Int)) ∨ ((k : Int) < (o.caps.length : Int) ∧ ¬ ((k : Int) < 12)) := by omega
      clear hs hcs HS hcut hlen hlt hD
      rcases hside with hs1 | ⟨hs1, hs2⟩
      all_goals
        go_wp2
        exact bodyPost_ret (v := .agg #[.int .u8 (o.ver : Int), .int .u16 (o.asn : Int), .int .u16 (o.hold : Int), .int .u32 (o.id : Int), .slice A5 k c5]) (by simp [results, Tryd.results14, go_sem, r0, r1, r2, r3, r4]) rfl ⟨_, rfl, ((HC.out.off ((kept_few (z := w.heap.size) (p := w.heap.size + 1) _ _ _ _ _ _).mono (fun _ e => Or.inr e))).less (fun _ e => Or.inl e)), HK.out.late (kept_few (z := w.heap.size) (p := w.heap.size + 1) _ _ _ _ _ _) (fun i e => by rcases e with e | e <;> omega)⟩
theorem law_few (o : Opn) (v : Value) (w : World) (hv : Cps w v o.caps) :
    Calls Tryd.prog 14 #[.agg #[.int .u8 (o.ver : Int), .int .u16 (o.asn : Int), .int .u16 (o.hold : Int), .int .u32 (o.id : Int), v]] w fun e w' =>
      ∃ rv, e = .returned (.agg #[.int .u8 (o.ver : Int), .int .u16 (o.asn : Int), .int .u16 (o.hold : Int), .int .u32 (o.id : Int), rv]) ∧ Cps w' rv (few6 o.caps) ∧ Kept Nothing w w' :=
  (law_few_off Nothing o v w (hv.offo (fun _ x => x.elim)) (fun _ x => x.elim)).mono (fun _ _ ⟨rv, h1, h2, h3⟩ => ⟨rv, h1, h2.cps, h3⟩)
end Go.Proofs.YtohgkibpcgfihaaDoor
