
/-
  What Ours and IPv4 of chapter 5 do.
-/
import Derived.Test.YtembdobkgpojfaaDoorCj
import Derived.Test.YtembdobkgpojfaaDoorCk
import Derived.Deep.DeepCutAuto
import Derived.Deep.CutBlock
namespace Go.Proofs.YtembdobkgpojfaaDoor
open Go.RowKit

/-- The wanted value stands in its variable. -/
def RdC (w : World) : Prop :=
  w.cell? ⟨3, 0, none⟩ = some (.int .u8 0) ∧ w.cell? ⟨3, 1, none⟩ = some (.int .u8 1) ∧
    w.cell? ⟨3, 2, none⟩ = some (.int .u8 0) ∧ w.cell? ⟨3, 3, none⟩ = some (.int .u8 1)
theorem RdC.kept {w w' : World} (h : RdC w) (k : Kept Nothing w w') : RdC w' :=
  ⟨k.cell_some h.1 (fun x => x), k.cell_some h.2.1 (fun x => x), k.cell_some h.2.2.1 (fun x => x), k.cell_some h.2.2.2 (fun x => x)⟩

/-- A number's four bytes. -/
def be4 (n : Nat) : List UInt8 := [UInt8.ofNat (n / 16777216), UInt8.ofNat (n / 65536), UInt8.ofNat (n / 256), UInt8.ofNat n]
theorem be4_num (n : Nat) (h : n < 4294967296) : RS.num (be4 n) = n := by
  unfold RS.num be4
  simp only [List.foldl_cons, List.foldl_nil, UInt8.toNat_ofNat']
  omega
def oursL (n : Nat) : List Cp := [(1, [0, 1, 0, 1]), (2, []), (65, be4 n)]
theorem by8_mod (n : Nat) : by8 (UInt8.ofNat n) = .int .u8 ((n : Int) % 256) := by
  unfold by8
  rw [UInt8.toNat_ofNat']
  congr 1

set_option maxHeartbeats 1000000 in
theorem cp_wordOf (n : Nat) (h : n < 4294967296) (w : World) :
    Calls Tryd.prog 88 #[.int .u32 (n : Int)] w fun e w' => e = .returned (.agg (bys (be4 n)).toArray) ∧ Kept Nothing w w' := by
  have e : (bys (be4 n)).toArray = #[.int .u8 ((n : Int) / 16777216 % 256), .int .u8 ((n : Int) / 65536 % 256), .int .u8 ((n : Int) / 256 % 256), .int .u8 ((n : Int) % 256)] := by
    show #[by8 (UInt8.ofNat (n / 16777216)), by8 (UInt8.ofNat (n / 65536)), by8 (UInt8.ofNat (n / 256)), by8 (UInt8.ofNat n)] = _
    simp only [by8_mod]
    rfl
  rw [e]
  clear e
  go_enter Tryd.func88, Tryd.ntmps88
  have h24 : (n : Int) / 16777216 % 256 = (n : Int) / 16777216 := by omega
  rw [h24]
  clear h24
  go_wp2
  exact bodyPost_ret (v := .agg #[.int .u8 ((n : Int) / 16777216), .int .u8 ((n : Int) / 65536 % 256), .int .u8 ((n : Int) / 256 % 256), .int .u8 ((n : Int) % 256)]) (by simp [results, Tryd.results88, go_sem]) rfl ⟨rfl, (Kept.refl _ w).alloc _⟩

namespace Cp
def okc (c : Cp) : Bool := decide (c.2 = [0, 1, 0, 1])
def ipv4 (tells : Bool) : List Cp → Bool
  | [] => !tells
  | c :: l => if c.1.toNat = 1 then (if c.2 = [0, 1, 0, 1] then true else ipv4 true l) else ipv4 tells l
theorem ipv4_skip {t : Bool} {c : Cp} {l : List Cp} (h : c.1.toNat ≠ 1) : ipv4 t (c :: l) = ipv4 t l := if_neg h
theorem ipv4_hit {t : Bool} {c : Cp} {l : List Cp} (h : c.1.toNat = 1) (h2 : c.2 = [0, 1, 0, 1]) : ipv4 t (c :: l) = true := by unfold ipv4; rw [if_pos h, if_pos h2]
theorem ipv4_miss {t : Bool} {c : Cp} {l : List Cp} (h : c.1.toNat = 1) (h2 : c.2 ≠ [0, 1, 0, 1]) : ipv4 t (c :: l) = ipv4 true l := by
  rw [ipv4, if_pos h, if_neg h2]
end Cp

abbrev zeros : Array Value := #[.int .u8 0, .int .u8 0, .int .u8 0, .int .u8 0]
theorem cells4z {w : World} {p : Nat} {t : TypeId} {cs : Array Value} (h : Blk w p t cs) : (w.cell? ⟨p, 0, none⟩ = cs[0]? ∧ w.frozen? ⟨p, 0, none⟩ = false) ∧ (w.cell? ⟨p, 1, none⟩ = cs[1]? ∧ w.frozen? ⟨p, 1, none⟩ = false) ∧ (w.cell? ⟨p, 2, none⟩ = cs[2]? ∧ w.frozen? ⟨p, 2, none⟩ = false) ∧ (w.cell? ⟨p, 3, none⟩ = cs[3]? ∧ w.frozen? ⟨p, 3, none⟩ = false) :=
  ⟨⟨h.cell 0, h.free 0⟩, ⟨h.cell 1, h.free 1⟩, ⟨h.cell 2, h.free 2⟩, h.cell 3, h.free 3⟩
def Cells4 (w : World) (p : Nat) (l : List UInt8) : Prop := w.cell? ⟨p, 0, none⟩ = some (by8 (l.getD 0 0)) ∧ w.cell? ⟨p, 1, none⟩ = some (by8 (l.getD 1 0)) ∧ w.cell? ⟨p, 2, none⟩ = some (by8 (l.getD 2 0)) ∧ w.cell? ⟨p, 3, none⟩ = some (by8 (l.getD 3 0))
theorem Cells4.by {w : World} {p : Nat} {y0 y1 y2 y3 : UInt8} (h : Cells4 w p [y0, y1, y2, y3]) : By w (.slice (some ⟨p, 0, none⟩) 4 4) [y0, y1, y2, y3] := by
  obtain ⟨h0, h1, h2, h3⟩ := h
  refine ⟨_, _, rfl, Nat.le_refl _, by simp [maxLen], rfl, (fun h => by cases h), fun a ha j u hu => ?_, fun u hu => ?_⟩
  · injection ha with ha
    subst ha
    rw [add_none, Nat.zero_add]
    have hj : j < 4 := by
      have := (List.getElem?_eq_some_iff.1 hu).1
      simpa [length_bys] using this
    rw [← hu]
    have : j = 0 ∨ j = 1 ∨ j = 2 ∨ j = 3 := by omega
    rcases this with rfl | rfl | rfl | rfl
    · exact h0
    · exact h1
    · exact h2
    · exact h3
  · unfold bys at hu
    obtain ⟨b, _, rfl⟩ := List.mem_map.1 hu
    rfl
theorem Cps.of_blk {w : World} {g : Nat} {t : TypeId} {cs : Array Value} {l : List Cp} (h : Blk w g t cs) (hc : Cells (By w) cs.toList l) (hm : l.length ≤ maxLen) : Cps w (.slice (some ⟨g, 0, none⟩) l.length l.length) l := by
  refine ⟨_, _, rfl, Nat.le_refl _, hm, fun _ => ⟨g, 0, rfl, fun i hi => ?_⟩⟩
  obtain ⟨h1, u, h2, h3⟩ := hc.at i hi
  rw [h.cell, h.cell, Nat.zero_add]
  rw [Array.getElem?_toList] at h1 h2
  exact ⟨h1, u, h2, h3⟩
/-- Bytes that lie in another block than g. -/
def Bg (g : Nat) (w : World) (v : Value) (l : List UInt8) : Prop := By w v l ∧ ∀ a n c, v = .slice (some a) n c → 0 < n → a.block ≠ g
theorem Bg.kept {g : Nat} {w w' : World} {v : Value} {l : List UInt8} (h : Bg g w v l) (k : Kept (fun k => k = g) w w') : Bg g w' v l := by
  obtain ⟨h1, h2⟩ := h
  obtain ⟨A, c, rfl, _, _⟩ := h1.form
  exact ⟨h1.kept k (fun a ha h0 e => h2 a _ _ (by rw [ha]) h0 e), h2⟩
theorem Bg.old {g : Nat} {w w' : World} {v : Value} {l : List UInt8} (h : Bg g w v l) (k : Kept Nothing w w') : Bg g w' v l := ⟨h.1.old k, h.2⟩
theorem Bg.at_ {g a n c : Nat} {w : World} {l : List UInt8} (h : By w (.slice (some ⟨a, 0, none⟩) n c) l) (hne : a ≠ g) : Bg g w (.slice (some ⟨a, 0, none⟩) n c) l := ⟨h, fun a' n' c' e _ => by injection e with e; injection e with e; subst e; exact hne⟩
theorem Bg.nil (g : Nat) (w : World) : Bg g w (.slice none 0 0) [] := ⟨(Bs.nil w).by, fun a n c e _ => by cases e⟩
def Four0 (w : World) (p : Nat) : Prop := (w.cell? ⟨p, 0, none⟩ = some (.int .u8 0) ∧ w.frozen? ⟨p, 0, none⟩ = false) ∧ (w.cell? ⟨p, 1, none⟩ = some (.int .u8 0) ∧ w.frozen? ⟨p, 1, none⟩ = false) ∧ (w.cell? ⟨p, 2, none⟩ = some (.int .u8 0) ∧ w.frozen? ⟨p, 2, none⟩ = false) ∧ (w.cell? ⟨p, 3, none⟩ = some (.int .u8 0) ∧ w.frozen? ⟨p, 3, none⟩ = false)
theorem grow2 {w w1 w2 : World} (h : (Kept Nothing w1 w2 ∧ w1 = ((w.alloc (.cells zeros 134)).alloc (.cells zeros 134)).drew) ∨ False) : Kept Nothing w w2 ∧ Four0 w2 w.heap.size ∧ Four0 w2 (w.heap.size + 1) := by
  obtain ⟨hk, rfl⟩ := h.resolve_right id
  exact ⟨((((Kept.refl Nothing w).alloc _).alloc _).drew).trans hk, cells4z ((((Blk.fresh w 134 zeros).alloc (.cells zeros 134)).drew).kept hk (fun x => x)), cells4z (((made_blk (w := w.alloc (.cells zeros 134)) (n := w.heap.size + 1) (t := 134) (cs := zeros) (by simp)).drew).kept hk (fun x => x))⟩
theorem grow1 {w w1 w2 : World} (h : Kept Nothing w1 w2 ∧ w1 = (w.alloc (.cells zeros 134)).drew) : Kept Nothing w w2 ∧ Four0 w2 w.heap.size := by
  obtain ⟨hk, rfl⟩ := h
  exact ⟨(((Kept.refl Nothing w).alloc _).drew).trans hk, cells4z (((Blk.fresh w 134 zeros).drew).kept hk (fun x => x))⟩
set_option maxRecDepth 20000 in
set_option maxHeartbeats 2000000 in
theorem cp_ours_blk (n : Nat) (h : n < 4294967296) (w : World) (hr : RdC w) :
    Calls Tryd.prog 63 #[.int .u32 (n : Int)] w fun e w' => ∃ (g : Nat) (cs : Array Value), e = .returned (.slice (some ⟨g, 0, none⟩) 3 3) ∧ Blk w' g 62 cs ∧ cs.size = 6 ∧ Cells (Bg g w') cs.toList (oursL n) ∧ w.heap.size ≤ g ∧ Kept Nothing w w' := by
  have HW := Lib.hid (fun w => cp_wordOf n h w)
  have HR := Lib.hid hr
  have hl : (be4 n).length = 4 := rfl
  obtain ⟨y0, y1, y2, y3, hy⟩ := four_of hl
  have hyc : (bys (be4 n)).toArray = #[.int .u8 (y0.toNat : Int), .int .u8 (y1.toNat : Int), .int .u8 (y2.toNat : Int), .int .u8 (y3.toNat : Int)] := by rw [hy]; rfl
  rw [hyc] at HW
  obtain ⟨g0, g1, g2, g3⟩ := hr
  have hgw := World.block_lt_of_cell? _ _ g0
  simp only at hgw
  clear hl hyc
  have HY := Lib.hid hy
  clear hy
  go_enter Tryd.func63, Tryd.ntmps63
  go_upto_region 1 with fail
  go_cut [3, 4] (fun p q wx => ∃ a b, p = .pointer (some ⟨a, 0, none⟩) ∧ q = .pointer (some ⟨b, 0, none⟩) ∧ Cells4 wx a [0, 1, 0, 1] ∧ Cells4 wx b [y0, y1, y2, y3] ∧ Kept Nothing w wx)
  case first =>
   go_wp2
   go_region_law (first
    | (go_simp; go_at_call 88; refine (HW.out _).mono ?_; rintro e w2 ⟨rfl, hk2⟩; (obtain ⟨KK, hx⟩ := grow2 (w := w) (Or.inl ⟨hk2, rfl⟩)); (obtain ⟨⟨⟨x0, x4⟩, ⟨x1, x5⟩, ⟨x2, x6⟩, x3, x7⟩, ⟨y0', y4'⟩, ⟨y1', y5'⟩, ⟨y2', y6'⟩, y3', y7'⟩ := hx); (have hlt : w.heap.size + 1 < w2.heap.size := World.block_lt_of_cell? _ _ y0'); (obtain ⟨z0, z1, z2, z3⟩ := HR.out.kept KK); (have hgl := World.block_lt_of_cell? _ _ z0); (have HK2 := Lib.hid KK); clear hk2 KK)
    | (go_simp; go_at_call 88; refine (HW.out _).mono ?_; rintro e w2 ⟨rfl, hk2⟩; (obtain ⟨KK, hx⟩ := grow1 (w := w) ⟨hk2, rfl⟩); (obtain ⟨⟨x0, x4⟩, ⟨x1, x5⟩, ⟨x2, x6⟩, x3, x7⟩ := hx); (have hlt : w.heap.size < w2.heap.size := World.block_lt_of_cell? _ _ x0); (obtain ⟨z0, z1, z2, z3⟩ := HR.out.kept KK); (have hgl := World.block_lt_of_cell? _ _ z0); (have HK2 := Lib.hid KK); clear hk2 KK)
    | (go_simp; go_at_call 88; refine (HW.out _).mono ?_; rintro e w2 ⟨rfl, hk2⟩; (have KK : Kept Nothing w w2 := ((Kept.refl Nothing w).drew).trans hk2); (obtain ⟨z0, z1, z2, z3⟩ := HR.out.kept KK); (have hgl := World.block_lt_of_cell? _ _ z0); (have HK2 := Lib.hid KK); clear hk2 KK))
   all_goals
    go_wp2
    go_meet
    refine ⟨_, _, rfl, rfl, ⟨?_, ?_, ?_, ?_⟩, ⟨?_, ?_, ?_, ?_⟩, ?_⟩
    all_goals try (simp only [List.getD_cons_zero, List.getD_cons_succ, by8]; go_simp; done)
    all_goals
      repeat (first | with_reducible exact HK2.out | with_reducible apply Kept.alloc | (with_reducible apply Kept.setCell _ (fun h => absurd h (by simp))))
  case rest =>
    obtain ⟨a, b, rfl, rfl, h4a, h4b, hk⟩ := hcut
    have hla := World.block_lt_of_cell? _ _ h4a.1
    have hlb := World.block_lt_of_cell? _ _ h4b.1
    simp only at hla hlb
    have HA := Lib.hid h4a.by
    have HB := Lib.hid h4b.by
    have HK := Lib.hid hk
    clear h4a h4b hk
    go_wp2
    go_region
    all_goals
      go_wp2
      go_ret
      have k1 := (Kept.refl Nothing wc).alloc (.cells #[.int .u8 1, .slice (some ⟨a, 0, none⟩) 4 4, .int .u8 2, .slice none 0 0, .int .u8 65, .slice (some ⟨b, 0, none⟩) 4 4] 62)
      refine ⟨wc.heap.size, _, rfl, (Blk.fresh wc 62 #[.int .u8 1, .slice (some ⟨a, 0, none⟩) 4 4, .int .u8 2, .slice none 0 0, .int .u8 65, .slice (some ⟨b, 0, none⟩) 4 4]).drew, rfl, ⟨rfl, Bg.at_ ((HA.out.old k1).old ((Kept.refl Nothing _).drew)) (by omega), rfl, Bg.nil _ _, rfl, ?_, trivial⟩, HK.out.size, (HK.out.trans k1).drew⟩
      show Bg _ _ _ (be4 n)
      rw [HY.out]
      exact Bg.at_ ((HB.out.old k1).old ((Kept.refl Nothing _).drew)) (by omega)
theorem cp_ours (n : Nat) (h : n < 4294967296) (w : World) (hr : RdC w) :
    Calls Tryd.prog 63 #[.int .u32 (n : Int)] w fun e w' => ∃ rv, e = .returned rv ∧ Cps w' rv (oursL n) ∧ Kept Nothing w w' :=
  (cp_ours_blk n h w hr).mono fun _ _ ⟨_, _, he, hb, _, hc, _, hk⟩ => ⟨_, he, Cps.of_blk (l := oursL n) hb (hc.mono (fun _ _ h => h.1)) (by simp [oursL, maxLen]), hk⟩
end Go.Proofs.YtembdobkgpojfaaDoor
