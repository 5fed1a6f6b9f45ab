
/-
  The law CapsKnown: the document's examples, several parameters, what is wrong.
-/
import Derived.Test.YtknmpadfklckkaaDoorDd
import Derived.Test.YtknmpadfklckkaaDoorIw
namespace Go.Proofs.YtknmpadfklckkaaDoor
open Go.RowKit

/-- Zeros that make lays. -/
def zc (n : Nat) : Array Value := madeCells #[.int .u8 0] n
def zr (n : Nat) : List UInt8 := List.replicate n 0
theorem zr_len (n : Nat) : (zr n).length = n := List.length_replicate
theorem make_z (n : Nat) (h : n ≤ 4096) : ∀ w : World, (Instr.makeSlice 28 (.int .i64 (n : Int)) (.int .i64 (n : Int))).run Tryd.prog w = .ok (.slice (some ⟨w.heap.size, 0, none⟩) n n) (w.alloc (.cells (zc n) 5)) := by
  intro w
  obtain ⟨i, hi, h1, h2, h3⟩ : ∃ i, Tryd.prog.info? 5 = some i ∧ i.zero = some (.int .u8 0) ∧ i.size = 1 ∧ i.bytes = 1 := ⟨_, rfl, by kernel_rfl, by kernel_rfl, by kernel_rfl⟩
  have := run_make (P := Tryd.prog) w 28 5 i (.int .u8 0) Tryd.underlying28 hi h1 .i64 .i64 (n : Int) (n : Int) (by omega) (by omega) (by rw [h3]; omega) (by omega)
  rw [h2, Nat.mul_one, Int.toNat_natCast] at this
  exact this
theorem zs_by (n : Nat) (hn : n ≤ 4096) (w : World) : By (w.alloc (.cells (zc n) 5)) (.slice (some ⟨w.heap.size, 0, none⟩) n n) (zr n) := by
  have := Bs.made (l := zr n) (Blk.fresh w 5 (zc n)) (by unfold zc zr; rw [toList_madeCells_one]; simp [bys]; exact .inr rfl) (by rw [zr_len]; unfold maxLen; omega)
  rw [zr_len] at this
  exact this.by

theorem bytes_at (v : Value) (l : List Cp) (b : List UInt8) (e : Nat) (h : Cp.bytes l = (b, e)) (w : World) (hv : Cps w v l) (hl : l.length ≤ 1000000) :
    Calls Tryd.prog 8 #[v] w fun r w' => ∃ A c, r = .returned (.tuple #[.slice A b.length c, .int .i64 (e : Nat)]) ∧ By w' (.slice A b.length c) b ∧ Kept Nothing w w' := by
  have := cp_bytes v l w hv hl
  rw [h] at this
  refine this.mono fun r w' ⟨rv, hr, hb, hk⟩ => ?_
  obtain ⟨A, c, rfl, _, _⟩ := hb.form
  exact ⟨A, c, hr, hb.by, hk⟩

def la : List Cp := [(9, zr 121), (8, zr 126)]
def lb : List Cp := [(9, zr 125), (9, zr 125), (1, [])]
def lc : List Cp := [(9, zr 253)]
def ld : List Cp := [(9, zr 254)]
theorem la_bytes : Cp.bytes la = (2 :: 251 :: Cp.forms la, 0) := by decide +kernel
theorem la_len : (2 :: 251 :: Cp.forms la).length = 253 := by decide +kernel
theorem lb_bytes : Cp.bytes lb = ([], 3) := by decide +kernel
theorem lc_bytes : Cp.bytes lc = ([], 3) := by decide +kernel
theorem ld_bytes : Cp.bytes ld = ([], 1) := by decide +kernel
theorem kx1 : Cp.out [] [] = ([], 0, 0) := Cp.out_nil []
theorem kx2 : Cp.out [] [2, 0, 2, 2, 2, 0, 2, 3, 9, 1, 7] = ([(2, []), (9, [7])], 0, 0) := by simp [Cp.out, Cp.inn]
theorem kx3 : Cp.out [] [2, 4, 2, 0, 9, 1] = ([], 2, 0) := by simp [Cp.out, Cp.inn, Cp.bad]
theorem kx4 : Cp.out [] [2] = ([], 2, 0) := by simp [Cp.out, Cp.bad]
theorem kx5 : Cp.out [] [3, 5] = ([], 2, 0) := by simp [Cp.out, Cp.bad]

theorem Cps.two_of {w : World} {g : Nat} {t : TypeId} {cs : Array Value} {l : List Cp} {n : Nat} (h : Blk w g t cs) (hc : Cells (By w) cs.toList l) (hm : l.length ≤ maxLen) (hn : l.length = n) : Cps w (.slice (some ⟨g, 0, none⟩) n n) l := by
  subst hn
  exact Cps.of_blk h hc hm

theorem zs_by' (n : Nat) (hn : n ≤ 4096) (w : World) (g : Nat) (hg : w.heap.size = g) : By (w.alloc (.cells (zc n) 5)) (.slice (some ⟨g, 0, none⟩) n n) (zr n) := by
  subst hg
  exact zs_by n hn w
theorem la_1 (w : World) : Cps (((w.alloc (.cells (zc 121) 5)).alloc (.cells (zc 126) 5)).alloc (.cells #[.int .u8 9, .slice (some ⟨w.heap.size, 0, none⟩) 121 121, .int .u8 8, .slice (some ⟨w.heap.size + 1, 0, none⟩) 126 126] 54)).drew (.slice (some ⟨w.heap.size + 1 + 1, 0, none⟩) 2 2) la :=
  Cps.two_of (l := la) (made_blk (by simp)).drew ⟨rfl, (((zs_by 121 (by decide) w).old ((Kept.refl Nothing _).alloc _)).old ((Kept.refl Nothing _).alloc _)).old (Kept.refl Nothing _).drew, rfl, ((zs_by' 126 (by decide) _ _ (by simp)).old ((Kept.refl Nothing _).alloc _)).old (Kept.refl Nothing _).drew, trivial⟩ (by simp [la, maxLen]) rfl
theorem la_2 (w : World) : Cps (((w.alloc (.cells (zc 126) 5)).alloc (.cells (zc 121) 5)).alloc (.cells #[.int .u8 9, .slice (some ⟨w.heap.size + 1, 0, none⟩) 121 121, .int .u8 8, .slice (some ⟨w.heap.size, 0, none⟩) 126 126] 54)).drew (.slice (some ⟨w.heap.size + 1 + 1, 0, none⟩) 2 2) la :=
  Cps.two_of (l := la) (made_blk (by simp)).drew ⟨rfl, ((zs_by' 121 (by decide) _ _ (by simp)).old ((Kept.refl Nothing _).alloc _)).old (Kept.refl Nothing _).drew, rfl, (((zs_by 126 (by decide) w).old ((Kept.refl Nothing _).alloc _)).old ((Kept.refl Nothing _).alloc _)).old (Kept.refl Nothing _).drew, trivial⟩ (by simp [la, maxLen]) rfl
theorem la_at (A : Option Addr) (c : Nat) (w : World) (h : By w (.slice A (2 :: 251 :: Cp.forms la).length c) (2 :: 251 :: Cp.forms la)) : ∃ b o, A = some ⟨b, o, none⟩ ∧ w.cell? ⟨b, o + 1, none⟩ = some (.int .u8 251) := by
  obtain ⟨b, o, rfl, hc⟩ := h.at (by simp)
  exact ⟨b, o, rfl, hc 1 (by simp)⟩

theorem ip_at (v : Value) (l : List Cp) (b : Bool) (h : Cp.ipv4 false l = b) (w : World) (hr : RdC w) (hv : Cps w v l) (hl : l.length ≤ 1000000) :
    Calls Tryd.prog 15 #[v] w fun e w' => e = .returned (.bool b) ∧ Kept Nothing w w' := by
  have := cp_ipv4 v l w hr hv hl
  rwa [h] at this
theorem ipx1 : Cp.ipv4 false [(1, [0, 2, 0, 1])] = false := by decide
theorem ipx2 : Cp.ipv4 false [(1, [0, 2, 0, 1]), (1, [0, 1, 0, 1])] = true := by decide
theorem ours_first {w : World} {g n : Nat} {t : TypeId} {cs : Array Value} (h : Blk w g t cs) (hc : Cells (Bg g w) cs.toList (oursL n)) : w.cell? ⟨g, 0, none⟩ = some (.int .u8 1) ∧ ∃ u, w.cell? ⟨g, 1, none⟩ = some u ∧ By w u [0, 1, 0, 1] := by
  obtain ⟨h1, u, h2, h3⟩ := hc.at 0 (by simp [oursL])
  rw [Array.getElem?_toList] at h1 h2
  exact ⟨by rw [h.cell]; exact h1, u, by rw [h.cell]; exact h2, h3.1⟩

def kl (b2 o2 c2 : Nat) (A6 : Option Addr) (c6 p6 p7 b7 o7 c7 g12 : Nat) : List (Option Value) := [some (.int .i64 0), some (.bool true), some (.bool true), some (.slice (some ⟨b2, o2, none⟩) 253 c2), some (.int .i64 253), some (.bool true), some (.bool true), some (.bool true), some (.slice (some ⟨b2, o2, none⟩) 253 c2), some (.pointer (some ⟨b2, o2 + 1, none⟩)), some (.int .u8 251), some (.bool true), some (.bool true), some (.bool true), some (.int .i64 3), some (.bool true), some (.bool true), some (.bool true), some (.int .i64 3), some (.bool true), some (.bool true), some (.bool true), some (.int .i64 1), some (.bool true), some (.bool true), some (.bool true), some (.pointer (some ⟨p6, 0, none⟩)), some (.int .u8 0), some (.bool true), some (.bool true), some (.bool true), some (.slice A6 0 c6), some (.int .i64 0), some (.bool true), some (.bool true), some (.bool true), some (.pointer (some ⟨p7, 0, none⟩)), some (.int .u8 0), some (.bool true), some (.bool true), some (.bool true), some (.slice (some ⟨b7, o7, none⟩) 2 c7), some (.int .i64 2), some (.bool true), some (.bool true), some (.bool true), some (.slice (some ⟨b7, o7, none⟩) 2 c7), some (.pointer (some ⟨b7, o7 + 2, none⟩)), some (.pointer (some ⟨b7, o7 + 2, none⟩)), some (.int .u8 9), some (.bool true), some (.bool true), some (.bool true), some (.agg #[.int .u8 2, .int .u8 0]), some (.agg #[.int .u8 2, .int .u8 0]), some (.bool true), some (.bool true), some (.bool true), some (.agg #[.int .u8 2, .int .u8 0]), some (.agg #[.int .u8 2, .int .u8 0]), some (.bool true), some (.bool true), some (.bool true), some (.agg #[.int .u8 2, .int .u8 0]), some (.agg #[.int .u8 2, .int .u8 0]), some (.bool true), some (.bool true), some (.bool true), some (.bool false), some (.bool true), some (.bool true), some (.bool true), some (.bool true), some (.bool true), some (.bool true), some (.int .u32 7), some (.bool true), some (.bool true), some (.bool true), some (.agg #[.int .u8 1, .slice (some ⟨g12, 0, none⟩) 4 4]), none, some (.bool false), some (.bool true), some (.bool true), some (.bool true), some (.agg #[.int .u8 1, .slice (some ⟨g12, 0, none⟩) 4 4]), none, none, none, none, some (.bool true), some (.bool true), some (.bool true), some (.bool true), some (.bool true), some (.bool true), some (.bool false), some (.bool true), some (.bool true), some (.bool true), none, none, none, some (.bool false), some (.bool true), some (.bool true), some (.bool true), some (.bool true), some (.bool true), some (.bool true)]
def ks : Nat → Value → World → Prop
  | 80, v, w => Cps w v [(1, [0, 2, 0, 1])]
  | 86, v, w => ∃ g uv, v = .slice (some ⟨g, 0, none⟩) 3 3 ∧ w.cell? ⟨g, 0, none⟩ = some (.int .u8 1) ∧ w.cell? ⟨g, 1, none⟩ = some uv ∧ By w uv [0, 1, 0, 1]
  | 87, v, w => ∃ g uv, v = .pointer (some ⟨g, 0, none⟩) ∧ w.cell? ⟨g, 0, none⟩ = some (.int .u8 1) ∧ w.cell? ⟨g, 1, none⟩ = some uv ∧ By w uv [0, 1, 0, 1]
  | 88, v, w => ∃ uv, v = .agg #[.int .u8 1, uv] ∧ By w uv [0, 1, 0, 1]
  | 89, v, w => Cps w v [(1, [0, 2, 0, 1]), (1, [0, 1, 0, 1])]
  | 100, v, w => By w v [1]
  | 101, v, w => ∃ uv, v = .agg #[.int .u8 2, uv] ∧ By w uv [1]
  | 102, v, w => Cps w v [(2, [1])]
  | _, _, _ => True
theorem ks_stab (k : Nat) (v : Value) (w w' : World) (kk : Kept Nothing w w') (h : ks k v w) : ks k v w' := by
  unfold ks at h ⊢
  split at h
  all_goals first
    | exact h.old kk
    | (obtain ⟨g, uv, h1, h2, h3, h4⟩ := h; exact ⟨g, uv, h1, kk.cell_some h2 (fun x => x), kk.cell_some h3 (fun x => x), h4.old kk⟩)
    | (obtain ⟨uv, h1, h2⟩ := h; exact ⟨uv, h1, h2.old kk⟩)
    | trivial

set_option maxRecDepth 20000 in
set_option maxHeartbeats 8000000 in
theorem known_law (W : World) (hr : RdC W) :
    Calls Tryd.prog 5 #[] W fun e w' => e = .returned (.bool true) ∧ Kept Nothing W w' := by
  have HR := Lib.hid hr
  have mk125 : ∀ w : World, (Instr.makeSlice 28 (.int .i64 125) (.int .i64 125)).run Tryd.prog w = .ok (.slice (some ⟨w.heap.size, 0, none⟩) 125 125) (w.alloc (.cells (zc 125) 5)) := make_z 125 (by decide)
  have mk121 : ∀ w : World, (Instr.makeSlice 28 (.int .i64 121) (.int .i64 121)).run Tryd.prog w = .ok (.slice (some ⟨w.heap.size, 0, none⟩) 121 121) (w.alloc (.cells (zc 121) 5)) := make_z 121 (by decide)
  have mk126 : ∀ w : World, (Instr.makeSlice 28 (.int .i64 126) (.int .i64 126)).run Tryd.prog w = .ok (.slice (some ⟨w.heap.size, 0, none⟩) 126 126) (w.alloc (.cells (zc 126) 5)) := make_z 126 (by decide)
  have mk253 : ∀ w : World, (Instr.makeSlice 28 (.int .i64 253) (.int .i64 253)).run Tryd.prog w = .ok (.slice (some ⟨w.heap.size, 0, none⟩) 253 253) (w.alloc (.cells (zc 253) 5)) := make_z 253 (by decide)
  have mk254 : ∀ w : World, (Instr.makeSlice 28 (.int .i64 254) (.int .i64 254)).run Tryd.prog w = .ok (.slice (some ⟨w.heap.size, 0, none⟩) 254 254) (w.alloc (.cells (zc 254) 5)) := make_z 254 (by decide)
  clear hr
  go_enter Tryd.func5, Tryd.ntmps5
  go_upto_region 2 with fail
  have hlong : Blk ((W.alloc (.cells (zc 125) 5)).alloc (.cells #[.int .u8 9, .slice (some ⟨W.heap.size, 0, none⟩) 125 125] 54)) (W.heap.size + 1) 54 #[.int .u8 9, .slice (some ⟨W.heap.size, 0, none⟩) 125 125] := made_blk (by simp)
  have hlb := (zs_by 125 (by decide) W).old ((Kept.refl Nothing _).alloc (.cells #[.int .u8 9, .slice (some ⟨W.heap.size, 0, none⟩) 125 125] 54))
  have hk1 := ((Kept.refl Nothing W).alloc (.cells (zc 125) 5)).alloc (.cells #[.int .u8 9, .slice (some ⟨W.heap.size, 0, none⟩) 125 125] 54)
  generalize (W.alloc (.cells (zc 125) 5)).alloc (.cells #[.int .u8 9, .slice (some ⟨W.heap.size, 0, none⟩) 125 125] 54) = w1 at *
  generalize W.heap.size = g0 at *
  have HLO := Lib.hid hlong
  have HLB := Lib.hid hlb
  have K1 := Lib.hid hk1
  clear hlong hlb hk1
  go_cut [1, 2, 3] (fun p a e wx => p = .pointer (some ⟨g0 + 1, 0, none⟩) ∧ e = .int .i64 0 ∧ (∃ b o c, a = .slice (some ⟨b, o, none⟩) 253 c ∧ wx.cell? ⟨b, o + 1, none⟩ = some (.int .u8 251)) ∧ Kept Nothing w1 wx)
  case first =>
    go_wp2
    go_region_law (first
      | (go_simp; go_at_call 8; refine (bytes_at _ la _ _ la_bytes _ (by first | with_reducible exact la_1 w1 | with_reducible exact la_2 w1) (by decide)).mono ?_; rintro e w2 ⟨A2, c2, rfl, hb2, hk2⟩; (obtain ⟨b2, o2, rfl, h251⟩ := la_at _ _ _ hb2); (have K2 := Lib.hid ((((((Kept.refl Nothing w1).alloc _).alloc _).alloc _).drew).trans hk2)); clear hk2 hb2))
    all_goals
      go_wp2
      go_meet
      exact ⟨rfl, rfl, ⟨b2, o2, c2, by rw [show (Cp.forms la).length + 1 + 1 = 253 from la_len], h251⟩, K2.out⟩
  case rest =>
    obtain ⟨rfl, rfl, ⟨b2, o2, c2, rfl, h251⟩, hk2⟩ := hcut
    have E2 := Lib.hid h251
    have K2 := Lib.hid hk2
    obtain ⟨d0, d1⟩ := cells2 (HLO.out.kept hk2 (fun x => x))
    have HLB2 := Lib.hid (HLB.out.old hk2)
    clear h251 hk2 HLO HLB mk125 mk121 mk126
    go_wp2_with fail
    refine (bytes_at _ lb [] 3 lb_bytes _ (by exact Cps.two_of (l := lb) (Blk.fresh wc _ _) ⟨rfl, HLB2.out.old ((Kept.refl Nothing _).alloc _), rfl, HLB2.out.old ((Kept.refl Nothing _).alloc _), rfl, (Bs.nil _).by, trivial⟩ (by simp [lb, maxLen]) rfl) (by decide)).mono ?_
    rintro e w3 ⟨A3, c3, rfl, hb3, hk3⟩
    have K3 := Lib.hid (((Kept.refl Nothing wc).alloc _).trans hk3)
    clear hb3 hk3 HLB2 d0 d1
    go_wp2_with fail
    refine (bytes_at _ lc [] 3 lc_bytes _ (by exact Cps.two_of (l := lc) (made_blk (by simp)) ⟨rfl, (zs_by 253 (by decide) w3).old ((Kept.refl Nothing _).alloc _), trivial⟩ (by simp [lc, maxLen]) rfl) (by decide)).mono ?_
    rintro e w4 ⟨A4, c4, rfl, hb4, hk4⟩
    have K4 := Lib.hid ((((Kept.refl Nothing w3).alloc _).alloc _).trans hk4)
    clear hb4 hk4 mk253
    go_wp2_with fail
    refine (bytes_at _ ld [] 1 ld_bytes _ (by exact Cps.two_of (l := ld) (made_blk (by simp)) ⟨rfl, (zs_by 254 (by decide) w4).old ((Kept.refl Nothing _).alloc _), trivial⟩ (by simp [ld, maxLen]) rfl) (by decide)).mono ?_
    rintro e w5 ⟨A5, c5, rfl, hb5, hk5⟩
    have K5 := Lib.hid ((((Kept.refl Nothing w4).alloc _).alloc _).trans hk5)
    clear hb5 hk5 mk254
    go_wp2_with fail
    refine (read_at _ [] _ kx1 _ (Bs.nil _).by (by decide)).mono ?_
    rintro e w6 ⟨A6, c6, rfl, hp6, hk6⟩
    have K6 := Lib.hid hk6
    clear hp6 hk6
    go_wp2_with fail
    refine (read_at _ [2, 0, 2, 2, 2, 0, 2, 3, 9, 1, 7] _ kx2 _ (made_by (by simp) rfl (by decide)) (by decide)).mono ?_
    rintro e w7 ⟨A7, c7, rfl, hp7, hk7⟩
    obtain ⟨b7, o7, rfl, hc7⟩ := hp7.at (by decide)
    have h7 : w7.cell? ⟨b7, o7 + 2, none⟩ = some (.int .u8 9) := (hc7 1 (by decide)).1
    have H7 := Lib.hid h7
    have F6 := Lib.hid (((Blk.fresh w6 48 #[.int .u8 0, .int .u8 0]).alloc _).kept hk7 (fun x => x))
    have K7 := Lib.hid ((((Kept.refl Nothing w6).alloc _).alloc _).trans hk7)
    clear hp7 hk7 hc7 h7
    go_wp2_with fail
    refine (read_at _ [2, 4, 2, 0, 9, 1] _ kx3 _ (made_by (by simp) rfl (by decide)) (by decide)).mono ?_
    rintro e w8 ⟨A8, c8, rfl, hp8, hk8⟩
    have F7 := Lib.hid (((Blk.fresh w7 48 #[.int .u8 0, .int .u8 0]).alloc _).kept hk8 (fun x => x))
    have K8 := Lib.hid ((((Kept.refl Nothing w7).alloc _).alloc _).trans hk8)
    clear hp8 hk8
    go_wp2_with fail
    refine (read_at _ [2] _ kx4 _ (made_by (by simp) rfl (by decide)) (by decide)).mono ?_
    rintro e w9 ⟨A9, c9, rfl, hp9, hk9⟩
    have F8 := Lib.hid (((Blk.fresh w8 48 #[.int .u8 2, .int .u8 0]).alloc _).kept hk9 (fun x => x))
    have K9 := Lib.hid ((((Kept.refl Nothing w8).alloc _).alloc _).trans hk9)
    clear hp9 hk9
    go_wp2_with fail
    refine (read_at _ [3, 5] _ kx5 _ (made_by (by simp) rfl (by decide)) (by decide)).mono ?_
    rintro e w10 ⟨A10, c10, rfl, hp10, hk10⟩
    have F9 := Lib.hid (((Blk.fresh w9 48 #[.int .u8 2, .int .u8 0]).alloc _).kept hk10 (fun x => x))
    have K10 := Lib.hid ((((Kept.refl Nothing w9).alloc _).alloc _).trans hk10)
    clear hp10 hk10
    go_wp2_with fail
    refine (number_at _ [(65, [1, 2, 3])] 0 false (by decide) _ (by exact Cps.two_of (l := [(65, [1, 2, 3])]) (made_blk (by simp)) ⟨rfl, (made_by (l := [1, 2, 3]) (by simp) rfl (by decide)).old ((Kept.refl Nothing _).alloc _), trivial⟩ (by simp [maxLen]) rfl) (by decide)).mono ?_
    rintro e w11 ⟨rfl, hk11⟩
    have F10 := Lib.hid ((((Blk.fresh w10 48 #[.int .u8 2, .int .u8 0]).alloc _).alloc _).kept hk11 (fun x => x))
    have K11 := Lib.hid (((((Kept.refl Nothing w10).alloc _).alloc _).alloc _).trans hk11)
    clear hk11
    go_wp2_with fail
    refine (number_at _ [(65, []), (65, [0, 0, 0, 7]), (65, [0, 0, 0, 8])] 7 true (by decide) _ (by exact Cps.two_of (l := [(65, []), (65, [0, 0, 0, 7]), (65, [0, 0, 0, 8])]) (made_blk (by simp)) ⟨rfl, (Bs.nil _).by, rfl, ((made_by (l := [0, 0, 0, 7]) (n := w11.heap.size) rfl rfl (by decide)).old ((Kept.refl Nothing _).alloc _)).old ((Kept.refl Nothing _).alloc _), rfl, (made_by (l := [0, 0, 0, 8]) (by simp) rfl (by decide)).old ((Kept.refl Nothing _).alloc _), trivial⟩ (by simp [maxLen]) rfl) (by decide)).mono ?_
    rintro e w12 ⟨rfl, hk12⟩
    have K12 := Lib.hid (((((Kept.refl Nothing w11).alloc _).alloc _).alloc _).trans hk12)
    clear hk12
    have k13 := ((Kept.refl Nothing w12).alloc (.cells #[.int .u8 0, .int .u8 2, .int .u8 0, .int .u8 1] 5)).alloc (.cells #[.int .u8 1, .slice (some ⟨w12.heap.size, 0, none⟩) 4 4] 54)
    have bo : Blk ((w12.alloc (.cells #[.int .u8 0, .int .u8 2, .int .u8 0, .int .u8 1] 5)).alloc (.cells #[.int .u8 1, .slice (some ⟨w12.heap.size, 0, none⟩) 4 4] 54)) (w12.heap.size + 1) 54 #[.int .u8 1, .slice (some ⟨w12.heap.size, 0, none⟩) 4 4] := made_blk (by simp)
    have by0 := (made_by (w := w12) (cs := #[.int .u8 0, .int .u8 2, .int .u8 0, .int .u8 1]) (l := [0, 2, 0, 1]) (n := w12.heap.size) rfl rfl (by decide)).old ((Kept.refl Nothing _).alloc (.cells #[.int .u8 1, .slice (some ⟨w12.heap.size, 0, none⟩) 4 4] 54))
    have t12 := k13
    have t11 := K12.out.trans t12
    have t10 := K11.out.trans t11
    have t9 := K10.out.trans t10
    have t8 := K9.out.trans t9
    have t7 := K8.out.trans t8
    have t6 := K7.out.trans t7
    have t2 := K3.out.trans (K4.out.trans (K5.out.trans (K6.out.trans t6)))
    have tW := K1.out.trans (K2.out.trans t2)
    have x2 := t2.cell_some E2.out (fun x => x)
    have x7 := t7.cell_some H7.out (fun x => x)
    have X2 := Lib.hid x2
    have X7 := Lib.hid x7
    obtain ⟨f6, _⟩ := cells2 (F6.out.kept t7 (fun x => x))
    obtain ⟨f7, _⟩ := cells2 (F7.out.kept t8 (fun x => x))
    obtain ⟨f8, f8'⟩ := cells2 (F8.out.kept t9 (fun x => x))
    obtain ⟨f9, f9'⟩ := cells2 (F9.out.kept t10 (fun x => x))
    obtain ⟨f10, f10'⟩ := cells2 (F10.out.kept t11 (fun x => x))
    obtain ⟨o0, o1⟩ := cells2 bo
    have X6 := Lib.hid f6
    have Y6 := Lib.hid f7
    have X8 := Lib.hid f8
    have Y8 := Lib.hid f8'
    have X9 := Lib.hid f9
    have Y9 := Lib.hid f9'
    have X10 := Lib.hid f10
    have Y10 := Lib.hid f10'
    have O0 := Lib.hid o0
    have O1 := Lib.hid o1
    have TW := Lib.hid tW
    have BO := Lib.hid bo
    have BY := Lib.hid by0
    have RD := Lib.hid (HR.out.kept tW)
    clear t12 t11 t10 t9 t8 t7 t6 t2 tW k13 bo by0 K1 K2 K3 K4 K5 K6 K7 K8 K9 K10 K11 K12 E2 H7 F6 F7 F8 F9 F10
    go_wp2_with fail
    generalize (w12.alloc (.cells #[.int .u8 0, .int .u8 2, .int .u8 0, .int .u8 1] 5)).alloc (.cells #[.int .u8 1, .slice (some ⟨w12.heap.size, 0, none⟩) 4 4] 54) = w13 at *
    generalize w12.heap.size = g12 at *
    have HO1 : Hid (∀ w : World, RdC w → Calls Tryd.prog 18 #[.int .u32 1] w fun e w' => ∃ (g : Nat) (cs : Array Value), e = .returned (.slice (some ⟨g, 0, none⟩) 3 3) ∧ Blk w' g 54 cs ∧ cs.size = 6 ∧ Cells (Bg g w') cs.toList (oursL 1) ∧ w.heap.size ≤ g ∧ Kept Nothing w w') := Lib.hid (fun w h => cp_ours_blk 1 (by decide) w h)
    generalize w6.heap.size = p6 at *
    generalize w7.heap.size = p7 at *
    generalize w8.heap.size = p8 at *
    generalize w9.heap.size = p9 at *
    generalize w10.heap.size = p10 at *
    clear x2 x7 f6 f7 f8 f8' f9 f9' f10 f10' o0 o1
    simp only [List.append_eq, List.cons_append, List.nil_append]
    refine wp_region_grow1 w13 (Facts (kl b2 o2 c2 A6 c6 p6 p7 b7 o7 c7 g12) ks) 109 0 (by rfl) (by kernel_rfl) (by decide +kernel) (by intro d hd; simp [dsts] at hd ⊢; omega) (ready_nil (by kernel_rfl)) (by kernel_rfl) (Facts.guards (E := [(2, true), (7, true), (13, true), (17, true), (21, true), (25, true), (30, true), (35, true), (40, true), (45, true), (52, true), (57, true), (62, true), (67, true), (71, true), (74, true), (78, true), (84, true), (92, true), (95, true), (99, true), (106, true)]) (by kernel_rfl) ?_) (Facts.stab ks_stab) (Kept.refl Nothing w13).drew ?_ ?_
    · repeat (first | refine List.forall_mem_cons.2 ⟨by rfl, ?_⟩ | exact List.forall_mem_nil _)
    · refine OweAll.cons ?_ ?_
      · intro u a hk hf hfar
        have v3 : a.tmps.getD 3 undef = .int .i64 0 := hfar 3 (by decide)
        have w3 := v3
        rw [Array.getD_eq_getD_getElem?] at w3
        clear hf hfar
        go_simp
        exact ⟨_, rfl, Kept.refl _ _, rfl⟩
      refine OweAll.cons ?_ ?_
      · intro u a hk hf hfar
        have v101 : a.tmps.getD 101 undef = .int .i64 0 := hf 0 _ 101 rfl rfl ⟨⟨0, .data⟩, Array.mem_of_getElem? (i := 0) rfl, rfl, rfl⟩
        have w101 := v101
        rw [Array.getD_eq_getD_getElem?] at w101
        clear hf hfar
        go_simp
        exact ⟨_, rfl, Kept.refl _ _, rfl⟩
      refine OweAll.cons ?_ ?_
      · intro u a hk hf hfar
        have v102 : a.tmps.getD 102 undef = .bool true := hf 1 _ 102 rfl rfl ⟨⟨1, .data⟩, Array.mem_of_getElem? (i := 0) rfl, rfl, rfl⟩
        have w102 := v102
        rw [Array.getD_eq_getD_getElem?] at w102
        clear hf hfar
        go_simp
        exact ⟨_, rfl, Kept.refl _ _, rfl⟩
      refine OweAll.cons ?_ ?_
      · intro u a hk hf hfar
        have v2 : a.tmps.getD 2 undef = .slice (some ⟨b2, o2, none⟩) 253 c2 := hfar 2 (by decide)
        have w2 := v2
        rw [Array.getD_eq_getD_getElem?] at w2
        clear hf hfar
        go_simp
        exact ⟨_, rfl, Kept.refl _ _, rfl⟩
      refine OweAll.cons ?_ ?_
      · intro u a hk hf hfar
        have v104 : a.tmps.getD 104 undef = .slice (some ⟨b2, o2, none⟩) 253 c2 := hf 3 _ 104 rfl rfl ⟨⟨3, .data⟩, Array.mem_of_getElem? (i := 0) rfl, rfl, rfl⟩
        have w104 := v104
        rw [Array.getD_eq_getD_getElem?] at w104
        clear hf hfar
        go_simp
        exact ⟨_, rfl, Kept.refl _ _, rfl⟩
      refine OweAll.cons ?_ ?_
      · intro u a hk hf hfar
        have v105 : a.tmps.getD 105 undef = .int .i64 253 := hf 4 _ 105 rfl rfl ⟨⟨4, .data⟩, Array.mem_of_getElem? (i := 0) rfl, rfl, rfl⟩
        have w105 := v105
        rw [Array.getD_eq_getD_getElem?] at w105
        clear hf hfar
        go_simp
        exact ⟨_, rfl, Kept.refl _ _, rfl⟩
      refine OweAll.cons ?_ ?_
      · intro u a hk hf hfar
        have v103 : a.tmps.getD 103 undef = .bool true := hf 2 _ 103 rfl rfl ⟨⟨2, .data⟩, Array.mem_of_getElem? (i := 0) rfl, rfl, rfl⟩
        have w103 := v103
        rw [Array.getD_eq_getD_getElem?] at w103
        have v106 : a.tmps.getD 106 undef = .bool true := hf 5 _ 106 rfl rfl ⟨⟨5, .data⟩, Array.mem_of_getElem? (i := 1) rfl, rfl, rfl⟩
        have w106 := v106
        rw [Array.getD_eq_getD_getElem?] at w106
        clear hf hfar
        go_simp
        exact ⟨_, rfl, Kept.refl _ _, rfl⟩
      refine OweAll.cons ?_ ?_
      · intro u a hk hf hfar
        have v107 : a.tmps.getD 107 undef = .bool true := hf 6 _ 107 rfl rfl ⟨⟨6, .data⟩, Array.mem_of_getElem? (i := 0) rfl, rfl, rfl⟩
        have w107 := v107
        rw [Array.getD_eq_getD_getElem?] at w107
        clear hf hfar
        go_simp
        exact ⟨_, rfl, Kept.refl _ _, rfl⟩
      refine OweAll.cons ?_ ?_
      · intro u a hk hf hfar
        have v2 : a.tmps.getD 2 undef = .slice (some ⟨b2, o2, none⟩) 253 c2 := hfar 2 (by decide)
        have w2 := v2
        rw [Array.getD_eq_getD_getElem?] at w2
        clear hf hfar
        go_simp
        exact ⟨_, rfl, Kept.refl _ _, rfl⟩
      refine OweAll.cons ?_ ?_
      · intro u a hk hf hfar
        have v109 : a.tmps.getD 109 undef = .slice (some ⟨b2, o2, none⟩) 253 c2 := hf 8 _ 109 rfl rfl ⟨⟨8, .data⟩, Array.mem_of_getElem? (i := 0) rfl, rfl, rfl⟩
        have w109 := v109
        rw [Array.getD_eq_getD_getElem?] at w109
        clear hf hfar
        go_simp
        exact ⟨_, rfl, Kept.refl _ _, rfl⟩
      refine OweAll.cons ?_ ?_
      · intro u a hk hf hfar
        have v110 : a.tmps.getD 110 undef = .pointer (some ⟨b2, o2 + 1, none⟩) := hf 9 _ 110 rfl rfl ⟨⟨9, .data⟩, Array.mem_of_getElem? (i := 0) rfl, rfl, rfl⟩
        have w110 := v110
        rw [Array.getD_eq_getD_getElem?] at w110
        have c0 := hk.cell_some X2.out (fun x => x)
        clear hf hfar
        go_simp
        exact ⟨_, rfl, Kept.refl _ _, rfl⟩
      refine OweAll.cons ?_ ?_
      · intro u a hk hf hfar
        have v111 : a.tmps.getD 111 undef = .int .u8 251 := hf 10 _ 111 rfl rfl ⟨⟨10, .data⟩, Array.mem_of_getElem? (i := 0) rfl, rfl, rfl⟩
        have w111 := v111
        rw [Array.getD_eq_getD_getElem?] at w111
        clear hf hfar
        go_simp
        exact ⟨_, rfl, Kept.refl _ _, rfl⟩
      refine OweAll.cons ?_ ?_
      · intro u a hk hf hfar
        have v108 : a.tmps.getD 108 undef = .bool true := hf 7 _ 108 rfl rfl ⟨⟨7, .data⟩, Array.mem_of_getElem? (i := 0) rfl, rfl, rfl⟩
        have w108 := v108
        rw [Array.getD_eq_getD_getElem?] at w108
        have v112 : a.tmps.getD 112 undef = .bool true := hf 11 _ 112 rfl rfl ⟨⟨11, .data⟩, Array.mem_of_getElem? (i := 1) rfl, rfl, rfl⟩
        have w112 := v112
        rw [Array.getD_eq_getD_getElem?] at w112
        clear hf hfar
        go_simp
        exact ⟨_, rfl, Kept.refl _ _, rfl⟩
      refine OweAll.cons ?_ ?_
      · intro u a hk hf hfar
        have v113 : a.tmps.getD 113 undef = .bool true := hf 12 _ 113 rfl rfl ⟨⟨12, .data⟩, Array.mem_of_getElem? (i := 0) rfl, rfl, rfl⟩
        have w113 := v113
        rw [Array.getD_eq_getD_getElem?] at w113
        clear hf hfar
        go_simp
        exact ⟨_, rfl, Kept.refl _ _, rfl⟩
      refine OweAll.cons ?_ ?_
      · intro u a hk hf hfar
        have v5 : a.tmps.getD 5 undef = .int .i64 3 := hfar 5 (by decide)
        have w5 := v5
        rw [Array.getD_eq_getD_getElem?] at w5
        clear hf hfar
        go_simp
        exact ⟨_, rfl, Kept.refl _ _, rfl⟩
      refine OweAll.cons ?_ ?_
      · intro u a hk hf hfar
        have v115 : a.tmps.getD 115 undef = .int .i64 3 := hf 14 _ 115 rfl rfl ⟨⟨14, .data⟩, Array.mem_of_getElem? (i := 0) rfl, rfl, rfl⟩
        have w115 := v115
        rw [Array.getD_eq_getD_getElem?] at w115
        clear hf hfar
        go_simp
        exact ⟨_, rfl, Kept.refl _ _, rfl⟩
      refine OweAll.cons ?_ ?_
      · intro u a hk hf hfar
        have v114 : a.tmps.getD 114 undef = .bool true := hf 13 _ 114 rfl rfl ⟨⟨13, .data⟩, Array.mem_of_getElem? (i := 0) rfl, rfl, rfl⟩
        have w114 := v114
        rw [Array.getD_eq_getD_getElem?] at w114
        have v116 : a.tmps.getD 116 undef = .bool true := hf 15 _ 116 rfl rfl ⟨⟨15, .data⟩, Array.mem_of_getElem? (i := 1) rfl, rfl, rfl⟩
        have w116 := v116
        rw [Array.getD_eq_getD_getElem?] at w116
        clear hf hfar
        go_simp
        exact ⟨_, rfl, Kept.refl _ _, rfl⟩
      refine OweAll.cons ?_ ?_
      · intro u a hk hf hfar
        have v117 : a.tmps.getD 117 undef = .bool true := hf 16 _ 117 rfl rfl ⟨⟨16, .data⟩, Array.mem_of_getElem? (i := 0) rfl, rfl, rfl⟩
        have w117 := v117
        rw [Array.getD_eq_getD_getElem?] at w117
        clear hf hfar
        go_simp
        exact ⟨_, rfl, Kept.refl _ _, rfl⟩
      refine OweAll.cons ?_ ?_
      · intro u a hk hf hfar
        have v7 : a.tmps.getD 7 undef = .int .i64 3 := hfar 7 (by decide)
        have w7 := v7
        rw [Array.getD_eq_getD_getElem?] at w7
        clear hf hfar
        go_simp
        exact ⟨_, rfl, Kept.refl _ _, rfl⟩
      refine OweAll.cons ?_ ?_
      · intro u a hk hf hfar
        have v119 : a.tmps.getD 119 undef = .int .i64 3 := hf 18 _ 119 rfl rfl ⟨⟨18, .data⟩, Array.mem_of_getElem? (i := 0) rfl, rfl, rfl⟩
        have w119 := v119
        rw [Array.getD_eq_getD_getElem?] at w119
        clear hf hfar
        go_simp
        exact ⟨_, rfl, Kept.refl _ _, rfl⟩
      refine OweAll.cons ?_ ?_
      · intro u a hk hf hfar
        have v118 : a.tmps.getD 118 undef = .bool true := hf 17 _ 118 rfl rfl ⟨⟨17, .data⟩, Array.mem_of_getElem? (i := 0) rfl, rfl, rfl⟩
        have w118 := v118
        rw [Array.getD_eq_getD_getElem?] at w118
        have v120 : a.tmps.getD 120 undef = .bool true := hf 19 _ 120 rfl rfl ⟨⟨19, .data⟩, Array.mem_of_getElem? (i := 1) rfl, rfl, rfl⟩
        have w120 := v120
        rw [Array.getD_eq_getD_getElem?] at w120
        clear hf hfar
        go_simp
        exact ⟨_, rfl, Kept.refl _ _, rfl⟩
      refine OweAll.cons ?_ ?_
      · intro u a hk hf hfar
        have v121 : a.tmps.getD 121 undef = .bool true := hf 20 _ 121 rfl rfl ⟨⟨20, .data⟩, Array.mem_of_getElem? (i := 0) rfl, rfl, rfl⟩
        have w121 := v121
        rw [Array.getD_eq_getD_getElem?] at w121
        clear hf hfar
        go_simp
        exact ⟨_, rfl, Kept.refl _ _, rfl⟩
      refine OweAll.cons ?_ ?_
      · intro u a hk hf hfar
        have v9 : a.tmps.getD 9 undef = .int .i64 1 := hfar 9 (by decide)
        have w9 := v9
        rw [Array.getD_eq_getD_getElem?] at w9
        clear hf hfar
        go_simp
        exact ⟨_, rfl, Kept.refl _ _, rfl⟩
      refine OweAll.cons ?_ ?_
      · intro u a hk hf hfar
        have v123 : a.tmps.getD 123 undef = .int .i64 1 := hf 22 _ 123 rfl rfl ⟨⟨22, .data⟩, Array.mem_of_getElem? (i := 0) rfl, rfl, rfl⟩
        have w123 := v123
        rw [Array.getD_eq_getD_getElem?] at w123
        clear hf hfar
        go_simp
        exact ⟨_, rfl, Kept.refl _ _, rfl⟩
      refine OweAll.cons ?_ ?_
      · intro u a hk hf hfar
        have v122 : a.tmps.getD 122 undef = .bool true := hf 21 _ 122 rfl rfl ⟨⟨21, .data⟩, Array.mem_of_getElem? (i := 0) rfl, rfl, rfl⟩
        have w122 := v122
        rw [Array.getD_eq_getD_getElem?] at w122
        have v124 : a.tmps.getD 124 undef = .bool true := hf 23 _ 124 rfl rfl ⟨⟨23, .data⟩, Array.mem_of_getElem? (i := 1) rfl, rfl, rfl⟩
        have w124 := v124
        rw [Array.getD_eq_getD_getElem?] at w124
        clear hf hfar
        go_simp
        exact ⟨_, rfl, Kept.refl _ _, rfl⟩
      refine OweAll.cons ?_ ?_
      · intro u a hk hf hfar
        have v125 : a.tmps.getD 125 undef = .bool true := hf 24 _ 125 rfl rfl ⟨⟨24, .data⟩, Array.mem_of_getElem? (i := 0) rfl, rfl, rfl⟩
        have w125 := v125
        rw [Array.getD_eq_getD_getElem?] at w125
        clear hf hfar
        go_simp
        exact ⟨_, rfl, Kept.refl _ _, rfl⟩
      refine OweAll.cons ?_ ?_
      · intro u a hk hf hfar
        have v11 : a.tmps.getD 11 undef = .pointer (some ⟨p6, 0, none⟩) := hfar 11 (by decide)
        have w11 := v11
        rw [Array.getD_eq_getD_getElem?] at w11
        clear hf hfar
        go_simp
        exact ⟨_, rfl, Kept.refl _ _, rfl⟩
      refine OweAll.cons ?_ ?_
      · intro u a hk hf hfar
        have v127 : a.tmps.getD 127 undef = .pointer (some ⟨p6, 0, none⟩) := hf 26 _ 127 rfl rfl ⟨⟨26, .data⟩, Array.mem_of_getElem? (i := 0) rfl, rfl, rfl⟩
        have w127 := v127
        rw [Array.getD_eq_getD_getElem?] at w127
        have c0 := hk.cell_some X6.out (fun x => x)
        clear hf hfar
        go_simp
        exact ⟨_, rfl, Kept.refl _ _, rfl⟩
      refine OweAll.cons ?_ ?_
      · intro u a hk hf hfar
        have v128 : a.tmps.getD 128 undef = .int .u8 0 := hf 27 _ 128 rfl rfl ⟨⟨27, .data⟩, Array.mem_of_getElem? (i := 0) rfl, rfl, rfl⟩
        have w128 := v128
        rw [Array.getD_eq_getD_getElem?] at w128
        clear hf hfar
        go_simp
        exact ⟨_, rfl, Kept.refl _ _, rfl⟩
      refine OweAll.cons ?_ ?_
      · intro u a hk hf hfar
        have v126 : a.tmps.getD 126 undef = .bool true := hf 25 _ 126 rfl rfl ⟨⟨25, .data⟩, Array.mem_of_getElem? (i := 0) rfl, rfl, rfl⟩
        have w126 := v126
        rw [Array.getD_eq_getD_getElem?] at w126
        have v129 : a.tmps.getD 129 undef = .bool true := hf 28 _ 129 rfl rfl ⟨⟨28, .data⟩, Array.mem_of_getElem? (i := 1) rfl, rfl, rfl⟩
        have w129 := v129
        rw [Array.getD_eq_getD_getElem?] at w129
        clear hf hfar
        go_simp
        exact ⟨_, rfl, Kept.refl _ _, rfl⟩
      refine OweAll.cons ?_ ?_
      · intro u a hk hf hfar
        have v130 : a.tmps.getD 130 undef = .bool true := hf 29 _ 130 rfl rfl ⟨⟨29, .data⟩, Array.mem_of_getElem? (i := 0) rfl, rfl, rfl⟩
        have w130 := v130
        rw [Array.getD_eq_getD_getElem?] at w130
        clear hf hfar
        go_simp
        exact ⟨_, rfl, Kept.refl _ _, rfl⟩
      refine OweAll.cons ?_ ?_
      · intro u a hk hf hfar
        have v10 : a.tmps.getD 10 undef = .slice A6 0 c6 := hfar 10 (by decide)
        have w10 := v10
        rw [Array.getD_eq_getD_getElem?] at w10
        clear hf hfar
        go_simp
        exact ⟨_, rfl, Kept.refl _ _, rfl⟩
      refine OweAll.cons ?_ ?_
      · intro u a hk hf hfar
        have v132 : a.tmps.getD 132 undef = .slice A6 0 c6 := hf 31 _ 132 rfl rfl ⟨⟨31, .data⟩, Array.mem_of_getElem? (i := 0) rfl, rfl, rfl⟩
        have w132 := v132
        rw [Array.getD_eq_getD_getElem?] at w132
        clear hf hfar
        go_simp
        exact ⟨_, rfl, Kept.refl _ _, rfl⟩
      refine OweAll.cons ?_ ?_
      · intro u a hk hf hfar
        have v133 : a.tmps.getD 133 undef = .int .i64 0 := hf 32 _ 133 rfl rfl ⟨⟨32, .data⟩, Array.mem_of_getElem? (i := 0) rfl, rfl, rfl⟩
        have w133 := v133
        rw [Array.getD_eq_getD_getElem?] at w133
        clear hf hfar
        go_simp
        exact ⟨_, rfl, Kept.refl _ _, rfl⟩
      refine OweAll.cons ?_ ?_
      · intro u a hk hf hfar
        have v131 : a.tmps.getD 131 undef = .bool true := hf 30 _ 131 rfl rfl ⟨⟨30, .data⟩, Array.mem_of_getElem? (i := 0) rfl, rfl, rfl⟩
        have w131 := v131
        rw [Array.getD_eq_getD_getElem?] at w131
        have v134 : a.tmps.getD 134 undef = .bool true := hf 33 _ 134 rfl rfl ⟨⟨33, .data⟩, Array.mem_of_getElem? (i := 1) rfl, rfl, rfl⟩
        have w134 := v134
        rw [Array.getD_eq_getD_getElem?] at w134
        clear hf hfar
        go_simp
        exact ⟨_, rfl, Kept.refl _ _, rfl⟩
      refine OweAll.cons ?_ ?_
      · intro u a hk hf hfar
        have v135 : a.tmps.getD 135 undef = .bool true := hf 34 _ 135 rfl rfl ⟨⟨34, .data⟩, Array.mem_of_getElem? (i := 0) rfl, rfl, rfl⟩
        have w135 := v135
        rw [Array.getD_eq_getD_getElem?] at w135
        clear hf hfar
        go_simp
        exact ⟨_, rfl, Kept.refl _ _, rfl⟩
      refine OweAll.cons ?_ ?_
      · intro u a hk hf hfar
        have v13 : a.tmps.getD 13 undef = .pointer (some ⟨p7, 0, none⟩) := hfar 13 (by decide)
        have w13 := v13
        rw [Array.getD_eq_getD_getElem?] at w13
        clear hf hfar
        go_simp
        exact ⟨_, rfl, Kept.refl _ _, rfl⟩
      refine OweAll.cons ?_ ?_
      · intro u a hk hf hfar
        have v137 : a.tmps.getD 137 undef = .pointer (some ⟨p7, 0, none⟩) := hf 36 _ 137 rfl rfl ⟨⟨36, .data⟩, Array.mem_of_getElem? (i := 0) rfl, rfl, rfl⟩
        have w137 := v137
        rw [Array.getD_eq_getD_getElem?] at w137
        have c0 := hk.cell_some Y6.out (fun x => x)
        clear hf hfar
        go_simp
        exact ⟨_, rfl, Kept.refl _ _, rfl⟩
      refine OweAll.cons ?_ ?_
      · intro u a hk hf hfar
        have v138 : a.tmps.getD 138 undef = .int .u8 0 := hf 37 _ 138 rfl rfl ⟨⟨37, .data⟩, Array.mem_of_getElem? (i := 0) rfl, rfl, rfl⟩
        have w138 := v138
        rw [Array.getD_eq_getD_getElem?] at w138
        clear hf hfar
        go_simp
        exact ⟨_, rfl, Kept.refl _ _, rfl⟩
      refine OweAll.cons ?_ ?_
      · intro u a hk hf hfar
        have v136 : a.tmps.getD 136 undef = .bool true := hf 35 _ 136 rfl rfl ⟨⟨35, .data⟩, Array.mem_of_getElem? (i := 0) rfl, rfl, rfl⟩
        have w136 := v136
        rw [Array.getD_eq_getD_getElem?] at w136
        have v139 : a.tmps.getD 139 undef = .bool true := hf 38 _ 139 rfl rfl ⟨⟨38, .data⟩, Array.mem_of_getElem? (i := 1) rfl, rfl, rfl⟩
        have w139 := v139
        rw [Array.getD_eq_getD_getElem?] at w139
        clear hf hfar
        go_simp
        exact ⟨_, rfl, Kept.refl _ _, rfl⟩
      refine OweAll.cons ?_ ?_
      · intro u a hk hf hfar
        have v140 : a.tmps.getD 140 undef = .bool true := hf 39 _ 140 rfl rfl ⟨⟨39, .data⟩, Array.mem_of_getElem? (i := 0) rfl, rfl, rfl⟩
        have w140 := v140
        rw [Array.getD_eq_getD_getElem?] at w140
        clear hf hfar
        go_simp
        exact ⟨_, rfl, Kept.refl _ _, rfl⟩
      refine OweAll.cons ?_ ?_
      · intro u a hk hf hfar
        have v12 : a.tmps.getD 12 undef = .slice (some ⟨b7, o7, none⟩) 2 c7 := hfar 12 (by decide)
        have w12 := v12
        rw [Array.getD_eq_getD_getElem?] at w12
        clear hf hfar
        go_simp
        exact ⟨_, rfl, Kept.refl _ _, rfl⟩
      refine OweAll.cons ?_ ?_
      · intro u a hk hf hfar
        have v142 : a.tmps.getD 142 undef = .slice (some ⟨b7, o7, none⟩) 2 c7 := hf 41 _ 142 rfl rfl ⟨⟨41, .data⟩, Array.mem_of_getElem? (i := 0) rfl, rfl, rfl⟩
        have w142 := v142
        rw [Array.getD_eq_getD_getElem?] at w142
        clear hf hfar
        go_simp
        exact ⟨_, rfl, Kept.refl _ _, rfl⟩
      refine OweAll.cons ?_ ?_
      · intro u a hk hf hfar
        have v143 : a.tmps.getD 143 undef = .int .i64 2 := hf 42 _ 143 rfl rfl ⟨⟨42, .data⟩, Array.mem_of_getElem? (i := 0) rfl, rfl, rfl⟩
        have w143 := v143
        rw [Array.getD_eq_getD_getElem?] at w143
        clear hf hfar
        go_simp
        exact ⟨_, rfl, Kept.refl _ _, rfl⟩
      refine OweAll.cons ?_ ?_
      · intro u a hk hf hfar
        have v141 : a.tmps.getD 141 undef = .bool true := hf 40 _ 141 rfl rfl ⟨⟨40, .data⟩, Array.mem_of_getElem? (i := 0) rfl, rfl, rfl⟩
        have w141 := v141
        rw [Array.getD_eq_getD_getElem?] at w141
        have v144 : a.tmps.getD 144 undef = .bool true := hf 43 _ 144 rfl rfl ⟨⟨43, .data⟩, Array.mem_of_getElem? (i := 1) rfl, rfl, rfl⟩
        have w144 := v144
        rw [Array.getD_eq_getD_getElem?] at w144
        clear hf hfar
        go_simp
        exact ⟨_, rfl, Kept.refl _ _, rfl⟩
      refine OweAll.cons ?_ ?_
      · intro u a hk hf hfar
        have v145 : a.tmps.getD 145 undef = .bool true := hf 44 _ 145 rfl rfl ⟨⟨44, .data⟩, Array.mem_of_getElem? (i := 0) rfl, rfl, rfl⟩
        have w145 := v145
        rw [Array.getD_eq_getD_getElem?] at w145
        clear hf hfar
        go_simp
        exact ⟨_, rfl, Kept.refl _ _, rfl⟩
      refine OweAll.cons ?_ ?_
      · intro u a hk hf hfar
        have v12 : a.tmps.getD 12 undef = .slice (some ⟨b7, o7, none⟩) 2 c7 := hfar 12 (by decide)
        have w12 := v12
        rw [Array.getD_eq_getD_getElem?] at w12
        clear hf hfar
        go_simp
        exact ⟨_, rfl, Kept.refl _ _, rfl⟩
      refine OweAll.cons ?_ ?_
      · intro u a hk hf hfar
        have v147 : a.tmps.getD 147 undef = .slice (some ⟨b7, o7, none⟩) 2 c7 := hf 46 _ 147 rfl rfl ⟨⟨46, .data⟩, Array.mem_of_getElem? (i := 0) rfl, rfl, rfl⟩
        have w147 := v147
        rw [Array.getD_eq_getD_getElem?] at w147
        clear hf hfar
        go_simp
        exact ⟨_, rfl, Kept.refl _ _, rfl⟩
      refine OweAll.cons ?_ ?_
      · intro u a hk hf hfar
        have v148 : a.tmps.getD 148 undef = .pointer (some ⟨b7, o7 + 2, none⟩) := hf 47 _ 148 rfl rfl ⟨⟨47, .data⟩, Array.mem_of_getElem? (i := 0) rfl, rfl, rfl⟩
        have w148 := v148
        rw [Array.getD_eq_getD_getElem?] at w148
        clear hf hfar
        go_simp
        exact ⟨_, rfl, Kept.refl _ _, rfl⟩
      refine OweAll.cons ?_ ?_
      · intro u a hk hf hfar
        have v149 : a.tmps.getD 149 undef = .pointer (some ⟨b7, o7 + 2, none⟩) := hf 48 _ 149 rfl rfl ⟨⟨48, .data⟩, Array.mem_of_getElem? (i := 0) rfl, rfl, rfl⟩
        have w149 := v149
        rw [Array.getD_eq_getD_getElem?] at w149
        have c0 := hk.cell_some X7.out (fun x => x)
        clear hf hfar
        go_simp
        exact ⟨_, rfl, Kept.refl _ _, rfl⟩
      refine OweAll.cons ?_ ?_
      · intro u a hk hf hfar
        have v150 : a.tmps.getD 150 undef = .int .u8 9 := hf 49 _ 150 rfl rfl ⟨⟨49, .data⟩, Array.mem_of_getElem? (i := 0) rfl, rfl, rfl⟩
        have w150 := v150
        rw [Array.getD_eq_getD_getElem?] at w150
        clear hf hfar
        go_simp
        exact ⟨_, rfl, Kept.refl _ _, rfl⟩
      refine OweAll.cons ?_ ?_
      · intro u a hk hf hfar
        have v146 : a.tmps.getD 146 undef = .bool true := hf 45 _ 146 rfl rfl ⟨⟨45, .data⟩, Array.mem_of_getElem? (i := 0) rfl, rfl, rfl⟩
        have w146 := v146
        rw [Array.getD_eq_getD_getElem?] at w146
        have v151 : a.tmps.getD 151 undef = .bool true := hf 50 _ 151 rfl rfl ⟨⟨50, .data⟩, Array.mem_of_getElem? (i := 1) rfl, rfl, rfl⟩
        have w151 := v151
        rw [Array.getD_eq_getD_getElem?] at w151
        clear hf hfar
        go_simp
        exact ⟨_, rfl, Kept.refl _ _, rfl⟩
      refine OweAll.cons ?_ ?_
      · intro u a hk hf hfar
        have v152 : a.tmps.getD 152 undef = .bool true := hf 51 _ 152 rfl rfl ⟨⟨51, .data⟩, Array.mem_of_getElem? (i := 0) rfl, rfl, rfl⟩
        have w152 := v152
        rw [Array.getD_eq_getD_getElem?] at w152
        clear hf hfar
        go_simp
        exact ⟨_, rfl, Kept.refl _ _, rfl⟩
      refine OweAll.cons ?_ ?_
      · intro u a hk hf hfar
        have v15 : a.tmps.getD 15 undef = .pointer (some ⟨p8, 0, none⟩) := hfar 15 (by decide)
        have w15 := v15
        rw [Array.getD_eq_getD_getElem?] at w15
        have c0 := hk.cell_some X8.out (fun x => x)
        have c1 := hk.cell_some Y8.out (fun x => x)
        clear hf hfar
        go_simp
        exact ⟨_, rfl, Kept.refl _ _, rfl⟩
      refine OweAll.cons ?_ ?_
      · intro u a hk hf hfar
        clear hf hfar
        go_simp
        exact ⟨_, rfl, Kept.refl _ _, rfl⟩
      refine OweAll.cons ?_ ?_
      · intro u a hk hf hfar
        have v154 : a.tmps.getD 154 undef = .agg #[.int .u8 2, .int .u8 0] := hf 53 _ 154 rfl rfl ⟨⟨53, .data⟩, Array.mem_of_getElem? (i := 0) rfl, rfl, rfl⟩
        have w154 := v154
        rw [Array.getD_eq_getD_getElem?] at w154
        have v155 : a.tmps.getD 155 undef = .agg #[.int .u8 2, .int .u8 0] := hf 54 _ 155 rfl rfl ⟨⟨54, .data⟩, Array.mem_of_getElem? (i := 1) rfl, rfl, rfl⟩
        have w155 := v155
        rw [Array.getD_eq_getD_getElem?] at w155
        clear hf hfar
        go_simp
        exact ⟨_, rfl, Kept.refl _ _, rfl⟩
      refine OweAll.cons ?_ ?_
      · intro u a hk hf hfar
        have v153 : a.tmps.getD 153 undef = .bool true := hf 52 _ 153 rfl rfl ⟨⟨52, .data⟩, Array.mem_of_getElem? (i := 0) rfl, rfl, rfl⟩
        have w153 := v153
        rw [Array.getD_eq_getD_getElem?] at w153
        have v156 : a.tmps.getD 156 undef = .bool true := hf 55 _ 156 rfl rfl ⟨⟨55, .data⟩, Array.mem_of_getElem? (i := 1) rfl, rfl, rfl⟩
        have w156 := v156
        rw [Array.getD_eq_getD_getElem?] at w156
        clear hf hfar
        go_simp
        exact ⟨_, rfl, Kept.refl _ _, rfl⟩
      refine OweAll.cons ?_ ?_
      · intro u a hk hf hfar
        have v157 : a.tmps.getD 157 undef = .bool true := hf 56 _ 157 rfl rfl ⟨⟨56, .data⟩, Array.mem_of_getElem? (i := 0) rfl, rfl, rfl⟩
        have w157 := v157
        rw [Array.getD_eq_getD_getElem?] at w157
        clear hf hfar
        go_simp
        exact ⟨_, rfl, Kept.refl _ _, rfl⟩
      refine OweAll.cons ?_ ?_
      · intro u a hk hf hfar
        have v17 : a.tmps.getD 17 undef = .pointer (some ⟨p9, 0, none⟩) := hfar 17 (by decide)
        have w17 := v17
        rw [Array.getD_eq_getD_getElem?] at w17
        have c0 := hk.cell_some X9.out (fun x => x)
        have c1 := hk.cell_some Y9.out (fun x => x)
        clear hf hfar
        go_simp
        exact ⟨_, rfl, Kept.refl _ _, rfl⟩
      refine OweAll.cons ?_ ?_
      · intro u a hk hf hfar
        clear hf hfar
        go_simp
        exact ⟨_, rfl, Kept.refl _ _, rfl⟩
      refine OweAll.cons ?_ ?_
      · intro u a hk hf hfar
        have v159 : a.tmps.getD 159 undef = .agg #[.int .u8 2, .int .u8 0] := hf 58 _ 159 rfl rfl ⟨⟨58, .data⟩, Array.mem_of_getElem? (i := 0) rfl, rfl, rfl⟩
        have w159 := v159
        rw [Array.getD_eq_getD_getElem?] at w159
        have v160 : a.tmps.getD 160 undef = .agg #[.int .u8 2, .int .u8 0] := hf 59 _ 160 rfl rfl ⟨⟨59, .data⟩, Array.mem_of_getElem? (i := 1) rfl, rfl, rfl⟩
        have w160 := v160
        rw [Array.getD_eq_getD_getElem?] at w160
        clear hf hfar
        go_simp
        exact ⟨_, rfl, Kept.refl _ _, rfl⟩
      refine OweAll.cons ?_ ?_
      · intro u a hk hf hfar
        have v158 : a.tmps.getD 158 undef = .bool true := hf 57 _ 158 rfl rfl ⟨⟨57, .data⟩, Array.mem_of_getElem? (i := 0) rfl, rfl, rfl⟩
        have w158 := v158
        rw [Array.getD_eq_getD_getElem?] at w158
        have v161 : a.tmps.getD 161 undef = .bool true := hf 60 _ 161 rfl rfl ⟨⟨60, .data⟩, Array.mem_of_getElem? (i := 1) rfl, rfl, rfl⟩
        have w161 := v161
        rw [Array.getD_eq_getD_getElem?] at w161
        clear hf hfar
        go_simp
        exact ⟨_, rfl, Kept.refl _ _, rfl⟩
      refine OweAll.cons ?_ ?_
      · intro u a hk hf hfar
        have v162 : a.tmps.getD 162 undef = .bool true := hf 61 _ 162 rfl rfl ⟨⟨61, .data⟩, Array.mem_of_getElem? (i := 0) rfl, rfl, rfl⟩
        have w162 := v162
        rw [Array.getD_eq_getD_getElem?] at w162
        clear hf hfar
        go_simp
        exact ⟨_, rfl, Kept.refl _ _, rfl⟩
      refine OweAll.cons ?_ ?_
      · intro u a hk hf hfar
        have v19 : a.tmps.getD 19 undef = .pointer (some ⟨p10, 0, none⟩) := hfar 19 (by decide)
        have w19 := v19
        rw [Array.getD_eq_getD_getElem?] at w19
        have c0 := hk.cell_some X10.out (fun x => x)
        have c1 := hk.cell_some Y10.out (fun x => x)
        clear hf hfar
        go_simp
        exact ⟨_, rfl, Kept.refl _ _, rfl⟩
      refine OweAll.cons ?_ ?_
      · intro u a hk hf hfar
        clear hf hfar
        go_simp
        exact ⟨_, rfl, Kept.refl _ _, rfl⟩
      refine OweAll.cons ?_ ?_
      · intro u a hk hf hfar
        have v164 : a.tmps.getD 164 undef = .agg #[.int .u8 2, .int .u8 0] := hf 63 _ 164 rfl rfl ⟨⟨63, .data⟩, Array.mem_of_getElem? (i := 0) rfl, rfl, rfl⟩
        have w164 := v164
        rw [Array.getD_eq_getD_getElem?] at w164
        have v165 : a.tmps.getD 165 undef = .agg #[.int .u8 2, .int .u8 0] := hf 64 _ 165 rfl rfl ⟨⟨64, .data⟩, Array.mem_of_getElem? (i := 1) rfl, rfl, rfl⟩
        have w165 := v165
        rw [Array.getD_eq_getD_getElem?] at w165
        clear hf hfar
        go_simp
        exact ⟨_, rfl, Kept.refl _ _, rfl⟩
      refine OweAll.cons ?_ ?_
      · intro u a hk hf hfar
        have v163 : a.tmps.getD 163 undef = .bool true := hf 62 _ 163 rfl rfl ⟨⟨62, .data⟩, Array.mem_of_getElem? (i := 0) rfl, rfl, rfl⟩
        have w163 := v163
        rw [Array.getD_eq_getD_getElem?] at w163
        have v166 : a.tmps.getD 166 undef = .bool true := hf 65 _ 166 rfl rfl ⟨⟨65, .data⟩, Array.mem_of_getElem? (i := 1) rfl, rfl, rfl⟩
        have w166 := v166
        rw [Array.getD_eq_getD_getElem?] at w166
        clear hf hfar
        go_simp
        exact ⟨_, rfl, Kept.refl _ _, rfl⟩
      refine OweAll.cons ?_ ?_
      · intro u a hk hf hfar
        have v167 : a.tmps.getD 167 undef = .bool true := hf 66 _ 167 rfl rfl ⟨⟨66, .data⟩, Array.mem_of_getElem? (i := 0) rfl, rfl, rfl⟩
        have w167 := v167
        rw [Array.getD_eq_getD_getElem?] at w167
        clear hf hfar
        go_simp
        exact ⟨_, rfl, Kept.refl _ _, rfl⟩
      refine OweAll.cons ?_ ?_
      · intro u a hk hf hfar
        have v21 : a.tmps.getD 21 undef = .bool false := hfar 21 (by decide)
        have w21 := v21
        rw [Array.getD_eq_getD_getElem?] at w21
        clear hf hfar
        go_simp
        exact ⟨_, rfl, Kept.refl _ _, rfl⟩
      refine OweAll.cons ?_ ?_
      · intro u a hk hf hfar
        have v169 : a.tmps.getD 169 undef = .bool false := hf 68 _ 169 rfl rfl ⟨⟨68, .data⟩, Array.mem_of_getElem? (i := 0) rfl, rfl, rfl⟩
        have w169 := v169
        rw [Array.getD_eq_getD_getElem?] at w169
        clear hf hfar
        go_simp
        exact ⟨_, rfl, Kept.refl _ _, rfl⟩
      refine OweAll.cons ?_ ?_
      · intro u a hk hf hfar
        have v168 : a.tmps.getD 168 undef = .bool true := hf 67 _ 168 rfl rfl ⟨⟨67, .data⟩, Array.mem_of_getElem? (i := 0) rfl, rfl, rfl⟩
        have w168 := v168
        rw [Array.getD_eq_getD_getElem?] at w168
        have v170 : a.tmps.getD 170 undef = .bool true := hf 69 _ 170 rfl rfl ⟨⟨69, .data⟩, Array.mem_of_getElem? (i := 1) rfl, rfl, rfl⟩
        have w170 := v170
        rw [Array.getD_eq_getD_getElem?] at w170
        clear hf hfar
        go_simp
        exact ⟨_, rfl, Kept.refl _ _, rfl⟩
      refine OweAll.cons ?_ ?_
      · intro u a hk hf hfar
        have v171 : a.tmps.getD 171 undef = .bool true := hf 70 _ 171 rfl rfl ⟨⟨70, .data⟩, Array.mem_of_getElem? (i := 0) rfl, rfl, rfl⟩
        have w171 := v171
        rw [Array.getD_eq_getD_getElem?] at w171
        clear hf hfar
        go_simp
        exact ⟨_, rfl, Kept.refl _ _, rfl⟩
      refine OweAll.cons ?_ ?_
      · intro u a hk hf hfar
        have v23 : a.tmps.getD 23 undef = .bool true := hfar 23 (by decide)
        have w23 := v23
        rw [Array.getD_eq_getD_getElem?] at w23
        clear hf hfar
        go_simp
        exact ⟨_, rfl, Kept.refl _ _, rfl⟩
      refine OweAll.cons ?_ ?_
      · intro u a hk hf hfar
        have v172 : a.tmps.getD 172 undef = .bool true := hf 71 _ 172 rfl rfl ⟨⟨71, .data⟩, Array.mem_of_getElem? (i := 0) rfl, rfl, rfl⟩
        have w172 := v172
        rw [Array.getD_eq_getD_getElem?] at w172
        have v173 : a.tmps.getD 173 undef = .bool true := hf 72 _ 173 rfl rfl ⟨⟨72, .data⟩, Array.mem_of_getElem? (i := 1) rfl, rfl, rfl⟩
        have w173 := v173
        rw [Array.getD_eq_getD_getElem?] at w173
        clear hf hfar
        go_simp
        exact ⟨_, rfl, Kept.refl _ _, rfl⟩
      refine OweAll.cons ?_ ?_
      · intro u a hk hf hfar
        have v174 : a.tmps.getD 174 undef = .bool true := hf 73 _ 174 rfl rfl ⟨⟨73, .data⟩, Array.mem_of_getElem? (i := 0) rfl, rfl, rfl⟩
        have w174 := v174
        rw [Array.getD_eq_getD_getElem?] at w174
        clear hf hfar
        go_simp
        exact ⟨_, rfl, Kept.refl _ _, rfl⟩
      refine OweAll.cons ?_ ?_
      · intro u a hk hf hfar
        have v22 : a.tmps.getD 22 undef = .int .u32 7 := hfar 22 (by decide)
        have w22 := v22
        rw [Array.getD_eq_getD_getElem?] at w22
        clear hf hfar
        go_simp
        exact ⟨_, rfl, Kept.refl _ _, rfl⟩
      refine OweAll.cons ?_ ?_
      · intro u a hk hf hfar
        have v176 : a.tmps.getD 176 undef = .int .u32 7 := hf 75 _ 176 rfl rfl ⟨⟨75, .data⟩, Array.mem_of_getElem? (i := 0) rfl, rfl, rfl⟩
        have w176 := v176
        rw [Array.getD_eq_getD_getElem?] at w176
        clear hf hfar
        go_simp
        exact ⟨_, rfl, Kept.refl _ _, rfl⟩
      refine OweAll.cons ?_ ?_
      · intro u a hk hf hfar
        have v175 : a.tmps.getD 175 undef = .bool true := hf 74 _ 175 rfl rfl ⟨⟨74, .data⟩, Array.mem_of_getElem? (i := 0) rfl, rfl, rfl⟩
        have w175 := v175
        rw [Array.getD_eq_getD_getElem?] at w175
        have v177 : a.tmps.getD 177 undef = .bool true := hf 76 _ 177 rfl rfl ⟨⟨76, .data⟩, Array.mem_of_getElem? (i := 1) rfl, rfl, rfl⟩
        have w177 := v177
        rw [Array.getD_eq_getD_getElem?] at w177
        clear hf hfar
        go_simp
        exact ⟨_, rfl, Kept.refl _ _, rfl⟩
      refine OweAll.cons ?_ ?_
      · intro u a hk hf hfar
        have v178 : a.tmps.getD 178 undef = .bool true := hf 77 _ 178 rfl rfl ⟨⟨77, .data⟩, Array.mem_of_getElem? (i := 0) rfl, rfl, rfl⟩
        have w178 := v178
        rw [Array.getD_eq_getD_getElem?] at w178
        clear hf hfar
        go_simp
        exact ⟨_, rfl, Kept.refl _ _, rfl⟩
      refine OweAll.cons ?_ ?_
      · intro u a hk hf hfar
        have v24 : a.tmps.getD 24 undef = .pointer (some ⟨g12 + 1, 0, none⟩) := hfar 24 (by decide)
        have w24 := v24
        rw [Array.getD_eq_getD_getElem?] at w24
        have c0 := hk.cell_some O0.out (fun x => x)
        have c1 := hk.cell_some O1.out (fun x => x)
        clear hf hfar
        go_simp
        exact ⟨_, rfl, Kept.refl _ _, rfl⟩
      refine OweAll.cons ?_ ?_
      · intro u a hk hf hfar
        have v180 : a.tmps.getD 180 undef = .agg #[.int .u8 1, .slice (some ⟨g12, 0, none⟩) 4 4] := hf 79 _ 180 rfl rfl ⟨⟨79, .data⟩, Array.mem_of_getElem? (i := 0) rfl, rfl, rfl⟩
        have w180 := v180
        rw [Array.getD_eq_getD_getElem?] at w180
        clear hf hfar
        go_simp
        exact ⟨_, rfl, (Kept.refl _ _).alloc _, Cps.two_of (made_blk rfl) ⟨rfl, (BY.out.old hk).old ((Kept.refl Nothing _).alloc _), trivial⟩ (by simp [maxLen]) rfl⟩
      refine OweAll.cons ?_ ?_
      · intro u a hk hf hfar
        have z181 : Cps u (a.tmps.getD 181 undef) [(1, [0, 2, 0, 1])] := hf 80 _ 181 rfl rfl ⟨⟨80, .data⟩, Array.mem_of_getElem? (i := 0) rfl, rfl, rfl⟩
        generalize hx181 : a.tmps.getD 181 undef = x181 at z181
        have v181 : a.tmps.getD 181 undef = x181 := hx181
        have w181 := v181
        rw [Array.getD_eq_getD_getElem?] at w181
        clear hf hfar
        go_simp
        refine (ip_at _ _ false ipx1 _ (RD.out.kept hk) z181 (by decide)).mono ?_
        rintro e u' ⟨rfl, hk'⟩
        exact ⟨_, rfl, hk', rfl⟩
      refine OweAll.cons ?_ ?_
      · intro u a hk hf hfar
        have v182 : a.tmps.getD 182 undef = .bool false := hf 81 _ 182 rfl rfl ⟨⟨81, .data⟩, Array.mem_of_getElem? (i := 0) rfl, rfl, rfl⟩
        have w182 := v182
        rw [Array.getD_eq_getD_getElem?] at w182
        clear hf hfar
        go_simp
        exact ⟨_, rfl, Kept.refl _ _, rfl⟩
      refine OweAll.cons ?_ ?_
      · intro u a hk hf hfar
        have v179 : a.tmps.getD 179 undef = .bool true := hf 78 _ 179 rfl rfl ⟨⟨78, .data⟩, Array.mem_of_getElem? (i := 0) rfl, rfl, rfl⟩
        have w179 := v179
        rw [Array.getD_eq_getD_getElem?] at w179
        have v183 : a.tmps.getD 183 undef = .bool true := hf 82 _ 183 rfl rfl ⟨⟨82, .data⟩, Array.mem_of_getElem? (i := 1) rfl, rfl, rfl⟩
        have w183 := v183
        rw [Array.getD_eq_getD_getElem?] at w183
        clear hf hfar
        go_simp
        exact ⟨_, rfl, Kept.refl _ _, rfl⟩
      refine OweAll.cons ?_ ?_
      · intro u a hk hf hfar
        have v184 : a.tmps.getD 184 undef = .bool true := hf 83 _ 184 rfl rfl ⟨⟨83, .data⟩, Array.mem_of_getElem? (i := 0) rfl, rfl, rfl⟩
        have w184 := v184
        rw [Array.getD_eq_getD_getElem?] at w184
        clear hf hfar
        go_simp
        exact ⟨_, rfl, Kept.refl _ _, rfl⟩
      refine OweAll.cons ?_ ?_
      · intro u a hk hf hfar
        have v24 : a.tmps.getD 24 undef = .pointer (some ⟨g12 + 1, 0, none⟩) := hfar 24 (by decide)
        have w24 := v24
        rw [Array.getD_eq_getD_getElem?] at w24
        have c0 := hk.cell_some O0.out (fun x => x)
        have c1 := hk.cell_some O1.out (fun x => x)
        clear hf hfar
        go_simp
        exact ⟨_, rfl, Kept.refl _ _, rfl⟩
      refine OweAll.cons ?_ ?_
      · intro u a hk hf hfar
        clear hf hfar
        go_simp
        refine (HO1.out _ (RD.out.kept hk)).mono ?_
        rintro e u' ⟨g, cs, rfl, hb, hcs, hc, hg, hk'⟩
        obtain ⟨e0, uv, e1, hu⟩ := ours_first hb hc
        have hz : ∃ g' uv, (.slice (some ⟨g, 0, none⟩) 3 3 : Value) = .slice (some ⟨g', 0, none⟩) 3 3 ∧ u'.cell? ⟨g', 0, none⟩ = some (.int .u8 1) ∧ u'.cell? ⟨g', 1, none⟩ = some uv ∧ By u' uv [0, 1, 0, 1] := ⟨g, uv, rfl, e0, e1, hu⟩
        exact ⟨_, rfl, hk', hz⟩
      refine OweAll.cons ?_ ?_
      · intro u a hk hf hfar
        have z187 : ∃ g uv, (a.tmps.getD 187 undef) = .slice (some ⟨g, 0, none⟩) 3 3 ∧ u.cell? ⟨g, 0, none⟩ = some (.int .u8 1) ∧ u.cell? ⟨g, 1, none⟩ = some uv ∧ By u uv [0, 1, 0, 1] := hf 86 _ 187 rfl rfl ⟨⟨86, .data⟩, Array.mem_of_getElem? (i := 0) rfl, rfl, rfl⟩
        obtain ⟨g, uv, v187, e0, e1, hu⟩ := z187
        have w187 := v187
        rw [Array.getD_eq_getD_getElem?] at w187
        clear hf hfar
        go_simp
        have hz : ∃ g' uv, (.pointer (some ⟨g, 0, none⟩) : Value) = .pointer (some ⟨g', 0, none⟩) ∧ u.cell? ⟨g', 0, none⟩ = some (.int .u8 1) ∧ u.cell? ⟨g', 1, none⟩ = some uv ∧ By u uv [0, 1, 0, 1] := ⟨g, uv, rfl, e0, e1, hu⟩
        exact ⟨_, rfl, Kept.refl _ _, hz⟩
      refine OweAll.cons ?_ ?_
      · intro u a hk hf hfar
        have z188 : ∃ g uv, (a.tmps.getD 188 undef) = .pointer (some ⟨g, 0, none⟩) ∧ u.cell? ⟨g, 0, none⟩ = some (.int .u8 1) ∧ u.cell? ⟨g, 1, none⟩ = some uv ∧ By u uv [0, 1, 0, 1] := hf 87 _ 188 rfl rfl ⟨⟨87, .data⟩, Array.mem_of_getElem? (i := 0) rfl, rfl, rfl⟩
        obtain ⟨g, uv, v188, e0, e1, hu⟩ := z188
        obtain ⟨Au, cu, rfl, _, _⟩ := hu.form
        have w188 := v188
        rw [Array.getD_eq_getD_getElem?] at w188
        clear hf hfar
        go_simp
        have hz : ∃ uv', (.agg #[.int .u8 1, .slice Au 4 cu] : Value) = .agg #[.int .u8 1, uv'] ∧ By u uv' [0, 1, 0, 1] := ⟨_, rfl, hu⟩
        exact ⟨_, rfl, Kept.refl _ _, hz⟩
      refine OweAll.cons ?_ ?_
      · intro u a hk hf hfar
        have v186 : a.tmps.getD 186 undef = .agg #[.int .u8 1, .slice (some ⟨g12, 0, none⟩) 4 4] := hf 85 _ 186 rfl rfl ⟨⟨85, .data⟩, Array.mem_of_getElem? (i := 0) rfl, rfl, rfl⟩
        have w186 := v186
        rw [Array.getD_eq_getD_getElem?] at w186
        have z189 : ∃ uv, (a.tmps.getD 189 undef) = .agg #[.int .u8 1, uv] ∧ By u uv [0, 1, 0, 1] := hf 88 _ 189 rfl rfl ⟨⟨88, .data⟩, Array.mem_of_getElem? (i := 1) rfl, rfl, rfl⟩
        obtain ⟨uv, v189, hu⟩ := z189
        obtain ⟨Au, cu, rfl, _, _⟩ := hu.form
        have w189 := v189
        rw [Array.getD_eq_getD_getElem?] at w189
        clear hf hfar
        go_simp
        exact ⟨_, rfl, (Kept.refl _ _).alloc _, Cps.two_of (made_blk rfl) ⟨rfl, (BY.out.old hk).old ((Kept.refl Nothing _).alloc _), rfl, hu.old ((Kept.refl Nothing _).alloc _), trivial⟩ (by simp [maxLen]) rfl⟩
      refine OweAll.cons ?_ ?_
      · intro u a hk hf hfar
        have z190 : Cps u (a.tmps.getD 190 undef) [(1, [0, 2, 0, 1]), (1, [0, 1, 0, 1])] := hf 89 _ 190 rfl rfl ⟨⟨89, .data⟩, Array.mem_of_getElem? (i := 0) rfl, rfl, rfl⟩
        generalize hx190 : a.tmps.getD 190 undef = x190 at z190
        have v190 : a.tmps.getD 190 undef = x190 := hx190
        have w190 := v190
        rw [Array.getD_eq_getD_getElem?] at w190
        clear hf hfar
        go_simp
        refine (ip_at _ _ true ipx2 _ (RD.out.kept hk) z190 (by decide)).mono ?_
        rintro e u' ⟨rfl, hk'⟩
        exact ⟨_, rfl, hk', rfl⟩
      refine OweAll.cons ?_ ?_
      · intro u a hk hf hfar
        have v185 : a.tmps.getD 185 undef = .bool true := hf 84 _ 185 rfl rfl ⟨⟨84, .data⟩, Array.mem_of_getElem? (i := 0) rfl, rfl, rfl⟩
        have w185 := v185
        rw [Array.getD_eq_getD_getElem?] at w185
        have v191 : a.tmps.getD 191 undef = .bool true := hf 90 _ 191 rfl rfl ⟨⟨90, .data⟩, Array.mem_of_getElem? (i := 1) rfl, rfl, rfl⟩
        have w191 := v191
        rw [Array.getD_eq_getD_getElem?] at w191
        clear hf hfar
        go_simp
        exact ⟨_, rfl, Kept.refl _ _, rfl⟩
      refine OweAll.cons ?_ ?_
      · intro u a hk hf hfar
        have v192 : a.tmps.getD 192 undef = .bool true := hf 91 _ 192 rfl rfl ⟨⟨91, .data⟩, Array.mem_of_getElem? (i := 0) rfl, rfl, rfl⟩
        have w192 := v192
        rw [Array.getD_eq_getD_getElem?] at w192
        clear hf hfar
        go_simp
        exact ⟨_, rfl, Kept.refl _ _, rfl⟩
      refine OweAll.cons ?_ ?_
      · intro u a hk hf hfar
        clear hf hfar
        go_simp
        refine (ip_at (.slice none 0 0) [] true rfl _ (RD.out.kept hk) (Cps.nil _) (by decide)).mono ?_
        rintro e u' ⟨rfl, hk'⟩
        exact ⟨_, rfl, hk', rfl⟩
      refine OweAll.cons ?_ ?_
      · intro u a hk hf hfar
        have v193 : a.tmps.getD 193 undef = .bool true := hf 92 _ 193 rfl rfl ⟨⟨92, .data⟩, Array.mem_of_getElem? (i := 0) rfl, rfl, rfl⟩
        have w193 := v193
        rw [Array.getD_eq_getD_getElem?] at w193
        have v194 : a.tmps.getD 194 undef = .bool true := hf 93 _ 194 rfl rfl ⟨⟨93, .data⟩, Array.mem_of_getElem? (i := 1) rfl, rfl, rfl⟩
        have w194 := v194
        rw [Array.getD_eq_getD_getElem?] at w194
        clear hf hfar
        go_simp
        exact ⟨_, rfl, Kept.refl _ _, rfl⟩
      refine OweAll.cons ?_ ?_
      · intro u a hk hf hfar
        have v195 : a.tmps.getD 195 undef = .bool true := hf 94 _ 195 rfl rfl ⟨⟨94, .data⟩, Array.mem_of_getElem? (i := 0) rfl, rfl, rfl⟩
        have w195 := v195
        rw [Array.getD_eq_getD_getElem?] at w195
        clear hf hfar
        go_simp
        exact ⟨_, rfl, Kept.refl _ _, rfl⟩
      refine OweAll.cons ?_ ?_
      · intro u a hk hf hfar
        clear hf hfar
        go_simp
        refine (refreshes_at (.slice none 0 0) [] false rfl _ (Cps.nil _) (by decide)).mono ?_
        rintro e u' ⟨rfl, hk'⟩
        exact ⟨_, rfl, hk', rfl⟩
      refine OweAll.cons ?_ ?_
      · intro u a hk hf hfar
        have v197 : a.tmps.getD 197 undef = .bool false := hf 96 _ 197 rfl rfl ⟨⟨96, .data⟩, Array.mem_of_getElem? (i := 0) rfl, rfl, rfl⟩
        have w197 := v197
        rw [Array.getD_eq_getD_getElem?] at w197
        clear hf hfar
        go_simp
        exact ⟨_, rfl, Kept.refl _ _, rfl⟩
      refine OweAll.cons ?_ ?_
      · intro u a hk hf hfar
        have v196 : a.tmps.getD 196 undef = .bool true := hf 95 _ 196 rfl rfl ⟨⟨95, .data⟩, Array.mem_of_getElem? (i := 0) rfl, rfl, rfl⟩
        have w196 := v196
        rw [Array.getD_eq_getD_getElem?] at w196
        have v198 : a.tmps.getD 198 undef = .bool true := hf 97 _ 198 rfl rfl ⟨⟨97, .data⟩, Array.mem_of_getElem? (i := 1) rfl, rfl, rfl⟩
        have w198 := v198
        rw [Array.getD_eq_getD_getElem?] at w198
        clear hf hfar
        go_simp
        exact ⟨_, rfl, Kept.refl _ _, rfl⟩
      refine OweAll.cons ?_ ?_
      · intro u a hk hf hfar
        have v199 : a.tmps.getD 199 undef = .bool true := hf 98 _ 199 rfl rfl ⟨⟨98, .data⟩, Array.mem_of_getElem? (i := 0) rfl, rfl, rfl⟩
        have w199 := v199
        rw [Array.getD_eq_getD_getElem?] at w199
        clear hf hfar
        go_simp
        exact ⟨_, rfl, Kept.refl _ _, rfl⟩
      refine OweAll.cons ?_ ?_
      · intro u a hk hf hfar
        clear hf hfar
        go_simp
        exact ⟨_, rfl, (Kept.refl _ _).alloc _, made_by (l := [1]) (n := u.heap.size) rfl rfl (by decide)⟩
      refine OweAll.cons ?_ ?_
      · intro u a hk hf hfar
        have z201 : By u (a.tmps.getD 201 undef) [1] := hf 100 _ 201 rfl rfl ⟨⟨100, .data⟩, Array.mem_of_getElem? (i := 0) rfl, rfl, rfl⟩
        generalize hx201 : a.tmps.getD 201 undef = x201 at z201
        obtain ⟨A2, cc2, hform, _, _⟩ := z201.form
        have v201 : a.tmps.getD 201 undef = .slice A2 1 cc2 := hx201.trans hform
        rw [hform] at z201
        have w201 := v201
        rw [Array.getD_eq_getD_getElem?] at w201
        clear hf hfar
        go_simp
        have hz : ∃ uv, (.agg #[.int .u8 2, .slice A2 1 cc2] : Value) = .agg #[.int .u8 2, uv] ∧ By u uv [1] := ⟨_, rfl, z201⟩
        exact ⟨_, rfl, Kept.refl _ _, hz⟩
      refine OweAll.cons ?_ ?_
      · intro u a hk hf hfar
        have z202 : ∃ uv, (a.tmps.getD 202 undef) = .agg #[.int .u8 2, uv] ∧ By u uv [1] := hf 101 _ 202 rfl rfl ⟨⟨101, .data⟩, Array.mem_of_getElem? (i := 0) rfl, rfl, rfl⟩
        obtain ⟨uv, v202, hu⟩ := z202
        obtain ⟨Au, cu, rfl, _, _⟩ := hu.form
        have w202 := v202
        rw [Array.getD_eq_getD_getElem?] at w202
        clear hf hfar
        go_simp
        exact ⟨_, rfl, (Kept.refl _ _).alloc _, Cps.two_of (made_blk rfl) ⟨rfl, hu.old ((Kept.refl Nothing _).alloc _), trivial⟩ (by simp [maxLen]) rfl⟩
      refine OweAll.cons ?_ ?_
      · intro u a hk hf hfar
        have z203 : Cps u (a.tmps.getD 203 undef) [(2, [1])] := hf 102 _ 203 rfl rfl ⟨⟨102, .data⟩, Array.mem_of_getElem? (i := 0) rfl, rfl, rfl⟩
        generalize hx203 : a.tmps.getD 203 undef = x203 at z203
        have v203 : a.tmps.getD 203 undef = x203 := hx203
        have w203 := v203
        rw [Array.getD_eq_getD_getElem?] at w203
        clear hf hfar
        go_simp
        refine (refreshes_at _ [(2, [1])] false rfl _ z203 (by decide)).mono ?_
        rintro e u' ⟨rfl, hk'⟩
        exact ⟨_, rfl, hk', rfl⟩
      refine OweAll.cons ?_ ?_
      · intro u a hk hf hfar
        have v204 : a.tmps.getD 204 undef = .bool false := hf 103 _ 204 rfl rfl ⟨⟨103, .data⟩, Array.mem_of_getElem? (i := 0) rfl, rfl, rfl⟩
        have w204 := v204
        rw [Array.getD_eq_getD_getElem?] at w204
        clear hf hfar
        go_simp
        exact ⟨_, rfl, Kept.refl _ _, rfl⟩
      refine OweAll.cons ?_ ?_
      · intro u a hk hf hfar
        have v200 : a.tmps.getD 200 undef = .bool true := hf 99 _ 200 rfl rfl ⟨⟨99, .data⟩, Array.mem_of_getElem? (i := 0) rfl, rfl, rfl⟩
        have w200 := v200
        rw [Array.getD_eq_getD_getElem?] at w200
        have v205 : a.tmps.getD 205 undef = .bool true := hf 104 _ 205 rfl rfl ⟨⟨104, .data⟩, Array.mem_of_getElem? (i := 1) rfl, rfl, rfl⟩
        have w205 := v205
        rw [Array.getD_eq_getD_getElem?] at w205
        clear hf hfar
        go_simp
        exact ⟨_, rfl, Kept.refl _ _, rfl⟩
      refine OweAll.cons ?_ ?_
      · intro u a hk hf hfar
        have v206 : a.tmps.getD 206 undef = .bool true := hf 105 _ 206 rfl rfl ⟨⟨105, .data⟩, Array.mem_of_getElem? (i := 0) rfl, rfl, rfl⟩
        have w206 := v206
        rw [Array.getD_eq_getD_getElem?] at w206
        clear hf hfar
        go_simp
        exact ⟨_, rfl, Kept.refl _ _, rfl⟩
      refine OweAll.cons ?_ ?_
      · intro u a hk hf hfar
        clear hf hfar
        go_simp
        refine (cp_wakes _).mono ?_
        rintro e u' ⟨rfl, hk'⟩
        exact ⟨_, rfl, hk', rfl⟩
      refine OweAll.cons ?_ ?_
      · intro u a hk hf hfar
        have v207 : a.tmps.getD 207 undef = .bool true := hf 106 _ 207 rfl rfl ⟨⟨106, .data⟩, Array.mem_of_getElem? (i := 0) rfl, rfl, rfl⟩
        have w207 := v207
        rw [Array.getD_eq_getD_getElem?] at w207
        have v208 : a.tmps.getD 208 undef = .bool true := hf 107 _ 208 rfl rfl ⟨⟨107, .data⟩, Array.mem_of_getElem? (i := 1) rfl, rfl, rfl⟩
        have w208 := v208
        rw [Array.getD_eq_getD_getElem?] at w208
        clear hf hfar
        go_simp
        exact ⟨_, rfl, Kept.refl _ _, rfl⟩
      refine OweAll.cons ?_ ?_
      · intro u a hk hf hfar
        have v209 : a.tmps.getD 209 undef = .bool true := hf 108 _ 209 rfl rfl ⟨⟨108, .data⟩, Array.mem_of_getElem? (i := 0) rfl, rfl, rfl⟩
        have w209 := v209
        rw [Array.getD_eq_getD_getElem?] at w209
        clear hf hfar
        go_simp
        exact ⟨_, rfl, Kept.refl _ _, rfl⟩
      exact OweAll.nil
    · intro A u hku hA hdef
      have hA' : A.tmps.getD 0 undef = .bool true := hA
      have hr := results_tmp (fn := Tryd.f5) (t := 0) (by rfl) A.tmps Tryd.prog u
      rw [hA'] at hr
      go_wp2
      exact bodyPost_ret hr (hdef.trans rfl) ⟨rfl, TW.out.trans hku⟩
end Go.Proofs.YtknmpadfklckkaaDoor
