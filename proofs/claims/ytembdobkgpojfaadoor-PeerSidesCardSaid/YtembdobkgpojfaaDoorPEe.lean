
/-
  The law PeerSides.
-/
import Derived.Test.YtembdobkgpojfaaDoorPEd
import Derived.Test.YtembdobkgpojfaaDoorXt
namespace Go.Proofs.YtembdobkgpojfaaDoor
open Go.RowKit

theorem Ck.agreed_comm2 (a b : Int) : Ck.agreed b a = Ck.agreed a b := by
  unfold Ck.agreed
  rw [show min b a = min a b by omega]
theorem number_ours (n : Nat) (hn : n < 4294967296) : Cp.number (oursL n) = (n, true) := by
  unfold oursL
  rw [Cp.number_miss (by decide), Cp.number_miss (by decide), Cp.number_hit rfl rfl]
  rw [be4_num n hn]
theorem refreshes_ours (n : Nat) : Cp.refreshes (oursL n) = true := by
  unfold oursL
  rw [Cp.refreshes_miss (by decide), Cp.refreshes_hit rfl rfl]
theorem wrap16_small {x : Nat} (h : x < 65536) : IntKind.u16.wrap (x : Int) = (x : Int) := by
  simp only [IntKind.wrap, IntKind.bits, IntKind.signed]
  simp
  omega
theorem wrap64_small {x : Nat} (h : x < 65536) : IntKind.i64.wrap (x : Int) = (x : Int) := by
  simp only [IntKind.wrap, IntKind.bits, IntKind.signed]
  simp
  omega
theorem wrap8_small {x : Nat} (h : x < 256) : IntKind.u8.wrap (x : Int) = (x : Int) := by
  simp only [IntKind.wrap, IntKind.bits, IntKind.signed]
  simp
  omega
def Pe.short (n : Nat) : Nat := if 65535 < n then 23456 else n
theorem pe_short (n : Nat) (w : World) : Calls Tryd.prog 43 #[.int .u32 (n : Int)] w fun e w' => e = .returned (.int .u16 (Pe.short n : Nat)) ∧ Kept Nothing w w' := by
  have HW : Hid (∀ u, Calls Tryd.prog 76 #[.int .u32 (n : Int)] u fun e w' => e = .returned (.bool (decide (65535 < n))) ∧ u = w') := Lib.hid (fun u => by
    have hi : decide (65535 < (n : Int)) = decide (65535 < n) := by rw [Bool.eq_iff_iff]; simp only [decide_eq_true_eq]; omega
    rw [← hi]
    clear hi
    generalize (n : Int) = z
    go_enter Tryd.func76, Tryd.ntmps76
    go_wp2
    go_ret
    exact ⟨rfl, rfl⟩)
  by_cases h : 65535 < n
  · rw [decide_eq_true h] at HW
    have HP : Hid (Pe.short n = 23456) := Lib.hid (if_pos h)
    clear h
    go_enter Tryd.func43, Tryd.ntmps43
    go_wp2_with (go_at_call 76; refine (HW.out _).mono ?_; rintro e w1 ⟨rfl, rfl⟩)
    go_ret
    exact ⟨by rw [HP.out]; rfl, Kept.refl _ _⟩
  · rw [decide_eq_false h] at HW
    have HP : Hid (Pe.short n = n) := Lib.hid (if_neg h)
    have hw := wrap16_small (show n < 65536 by omega)
    clear h
    obtain ⟨z, hz⟩ : ∃ z : Int, (n : Int) = z := ⟨_, rfl⟩
    rw [hz] at HW hw ⊢
    have HZ := Lib.hid hz
    clear hz
    go_enter Tryd.func43, Tryd.ntmps43
    go_wp2_with (go_at_call 76; refine (HW.out _).mono ?_; rintro e w1 ⟨rfl, rfl⟩)
    go_ret
    exact ⟨by rw [HP.out, HZ.out]; rfl, Kept.refl _ _⟩
theorem pe_member (n : Nat) (hn : n < 256) (w : World) : Calls Tryd.prog 36 #[.int .u8 (n : Int)] w fun e w' => e = .returned (.int .u32 ((65001 + n % 16 : Nat) : Int)) ∧ w = w' := by
  have h1 : Int.tmod (n : Int) 16 = ((n % 16 : Nat) : Int) := by rw [Int.tmod_eq_emod_of_nonneg (by omega)]; omega
  have h2 : IntKind.u8.wrap ((n % 16 : Nat) : Int) = ((n % 16 : Nat) : Int) := wrap8_small (by omega)
  have h3 : IntKind.u32.wrap ((n % 16 : Nat) : Int) = ((n % 16 : Nat) : Int) := wrap32_small (by omega)
  have h4 : IntKind.u32.wrap (65001 + ((n % 16 : Nat) : Int)) = 65001 + ((n % 16 : Nat) : Int) := by
    have := wrap32_small (show 65001 + n % 16 < 65536 by omega)
    simpa using this
  have HZ : Hid (((65001 + n % 16 : Nat) : Int) = 65001 + ((n % 16 : Nat) : Int)) := Lib.hid (by omega)
  rw [HZ.out]
  generalize ((n % 16 : Nat) : Int) = q at *
  generalize (n : Int) = z at *
  go_enter Tryd.func36, Tryd.ntmps36
  go_wp2
  go_ret
  exact ⟨rfl, rfl⟩
def oX (m : Nat) : Pe.O := ⟨m, 70000, [], 1⟩
def oY (n : Nat) : Pe.O := ⟨n, n, [], 2⟩
theorem Pe.told_of {n : Nat} (h : n ≠ 0 ∧ n ≠ 23456 ∧ n ≠ 65535 ∧ n ≠ 4294967295) : Pe.told n = true := by simp [Pe.told, h]
theorem may_oX (m : Nat) (h : 65001 ≤ m ∧ m ≤ 65016) : Pe.may (oX m) = true := by
  have h1 := Pe.told_of (n := m) (by omega)
  have h2 : ¬ m = 70000 := by omega
  have h3 : Pe.told 70000 = true := by decide
  simp [Pe.may, oX, h1, h2, h3, Pe.rise]
theorem may_oY (n : Nat) (h : 100 ≤ n ∧ n ≤ 355) : Pe.may (oY n) = true := by
  have h1 := Pe.told_of (n := n) (by omega)
  simp [Pe.may, oY, h1]
theorem cls_oX (m n : Nat) (h : 65001 ≤ m ∧ m ≤ 65016) (h' : 100 ≤ n ∧ n ≤ 355) : Pe.cls (oX m) n = 3 := by
  have h1 := Pe.told_of (n := n) (by omega)
  have h2 : ¬ n = m := by omega
  have h3 : ¬ n = 70000 := by omega
  unfold Pe.cls
  rw [may_oX m h]
  simp [oX, h1, h2, h3]
theorem cls_oY (n : Nat) (h : 100 ≤ n ∧ n ≤ 355) : Pe.cls (oY n) 70000 = 3 := by
  have h2 : ¬ 70000 = n := by omega
  unfold Pe.cls
  rw [may_oY n h]
  simp [oY, h2, Pe.told]

def ksSi9 (nyN : Nat) : Nat → Value → World → Prop
  | 2, v, w => ∃ A n c, v = .slice A n c ∧ Cps w (.slice A n c) (oursL 70000)
  | 5, v, w => ∃ A n c, v = .slice A n c ∧ Cps w (.slice A n c) (oursL nyN)
  | 6, v, w => ∃ A n c, v = .slice A n c ∧ Cps w (.slice A n c) (oursL 70000)
  | _, _, _ => True
theorem ksSi9_stab (nyN : Nat) (k : Nat) (v : Value) (w w' : World) (kk : Kept Nothing w w') (h : ksSi9 nyN k v w) : ksSi9 nyN k v w' := by
  unfold ksSi9 at h ⊢
  split at h
  all_goals first
    | (obtain ⟨A, n, c, h1, h2⟩ := h; exact ⟨A, n, c, h1, h2.old kk⟩)
    | (obtain ⟨A, n, c, h1, h2⟩ := h; exact ⟨A, n, c, h1, h2.old kk⟩)
    | (obtain ⟨A, n, c, h1, h2⟩ := h; exact ⟨A, n, c, h1, h2.old kk⟩)
    | trivial
def ksSi15 (szW : Nat) : Nat → Value → World → Prop
  | 12, v, w => ∃ g, v = .pointer (some ⟨g, 0, none⟩) ∧ Blk w g 79 #[.int .i64 0, .int .i64 0, .bool false, .bool false, .int .u32 0] ∧ szW ≤ g
  | _, _, _ => True
theorem ksSi15_stab (szW : Nat) (k : Nat) (v : Value) (w w' : World) (kk : Kept Nothing w w') (h : ksSi15 szW k v w) : ksSi15 szW k v w' := by
  unfold ksSi15 at h ⊢
  split at h
  all_goals first
    | (obtain ⟨g, h1, h2, h3⟩ := h; exact ⟨g, h1, h2.kept kk (fun x => x), h3⟩)
    | trivial
def ksSi16 (szW : Nat) : Nat → Value → World → Prop
  | 12, v, w => ∃ g, v = .pointer (some ⟨g, 0, none⟩) ∧ Blk w g 79 #[.int .i64 0, .int .i64 0, .bool false, .bool false, .int .u32 0] ∧ szW ≤ g
  | _, _, _ => True
theorem ksSi16_stab (szW : Nat) (k : Nat) (v : Value) (w w' : World) (kk : Kept Nothing w w') (h : ksSi16 szW k v w) : ksSi16 szW k v w' := by
  unfold ksSi16 at h ⊢
  split at h
  all_goals first
    | (obtain ⟨g, h1, h2, h3⟩ := h; exact ⟨g, h1, h2.kept kk (fun x => x), h3⟩)
    | trivial
set_option maxRecDepth 100000 in
set_option maxHeartbeats 16000000 in
theorem sides_law (a b h0 h1 : Nat) (ha : a < 256) (hb : b < 256) (hh0 : h0 < 65536) (hh1 : h1 < 65536) (nn : Bool) (W : World) (hs : Spans W) (hr : RdC W) :
    Calls Tryd.prog 7 #[.agg #[.int .u8 (a : Int), .int .u8 (b : Int)], .agg #[.int .u16 (h0 : Int), .int .u16 (h1 : Int)], .bool nn] W fun e w' => e = .returned (.bool true) ∧ Kept Nothing W w' := by
  obtain ⟨L0, H0, K0⟩ := boxes2P W 93 94 #[.int .u8 (a : Int), .int .u8 (b : Int)] #[.int .u16 (h0 : Int), .int .u16 (h1 : Int)]
  have HME := Lib.hid (fun u => pe_member a ha u)
  have hmx : 65001 ≤ 65001 + a % 16 ∧ 65001 + a % 16 ≤ 65016 := by omega
  have hny : 100 ≤ 100 + b ∧ 100 + b ≤ 355 := by omega
  have hw1 := wrap32_small (show b < 65536 by omega)
  have hw2 : IntKind.u32.wrap (100 + (b : Int)) = ((100 + b : Nat) : Int) := by
    have := wrap32_small (show 100 + b < 65536 by omega)
    rw [← this]
    congr 1
  generalize hmxE : 65001 + a % 16 = mxN at *
  generalize hnyE : 100 + b = nyN at *
  have HMX := Lib.hid hmx
  have HNY := Lib.hid hny
  have HS := Lib.hid hs
  have HR := Lib.hid hr
  have HH := Lib.hid (And.intro hh0 hh1)
  have HV0 := wrap64_small hh0
  have HV1 := wrap64_small hh1
  clear ha hb hh0 hh1 hmx hny hmxE hnyE hs hr
  obtain ⟨mx, hmx⟩ : ∃ z : Int, (mxN : Int) = z := ⟨_, rfl⟩
  obtain ⟨ny, hny⟩ : ∃ z : Int, (nyN : Int) = z := ⟨_, rfl⟩
  obtain ⟨z0, hz0⟩ : ∃ z : Int, (h0 : Int) = z := ⟨_, rfl⟩
  obtain ⟨z1, hz1⟩ : ∃ z : Int, (h1 : Int) = z := ⟨_, rfl⟩
  rw [hmx] at HME
  rw [hny] at hw2
  rw [hz0, hz1] at L0 H0 K0 ⊢
  rw [hz0] at HV0
  rw [hz1] at HV1
  have HE := Lib.hid (And.intro hmx (And.intro hny (And.intro hz0 hz1)))
  clear hmx hny hz0 hz1
  obtain ⟨za, hza⟩ : ∃ z : Int, (a : Int) = z := ⟨_, rfl⟩
  obtain ⟨zb, hzb⟩ : ∃ z : Int, (b : Int) = z := ⟨_, rfl⟩
  rw [hza] at HME
  rw [hza, hzb] at L0 H0 K0 ⊢
  rw [hzb] at hw1 hw2
  clear hza hzb
  go_enter Tryd.func7, Tryd.ntmps7
  go_upto_region 1 with fail
  change Code.wp _ _ _ _ ((W.alloc (.cells #[.int .u8 za, .int .u8 zb] 93)).alloc (.cells #[.int .u16 z0, .int .u16 z1] 94))
  generalize (W.alloc (.cells #[.int .u8 za, .int .u8 zb] 93)).alloc (.cells #[.int .u16 z0, .int .u16 z1] 94) = W0 at *
  have l0 : W0.cell? ⟨W.heap.size, 0, none⟩ = some (.int .u8 za) := L0.cell 0
  have l1 : W0.cell? ⟨W.heap.size, 1, none⟩ = some (.int .u8 zb) := L0.cell 1
  have HK0 := Lib.hid K0
  have HH0 := Lib.hid H0
  clear L0 K0 H0
  go_cut [7, 8] (fun x y wx => x = .int .u8 za ∧ y = .int .u8 zb ∧ Hid (Kept Nothing W0 wx))
  case first =>
    go_region_law (fail)
    all_goals
      go_wp2
      go_meet
      exact ⟨rfl, rfl, Lib.hid (Kept.refl Nothing W0).drew⟩
  case rest =>
    obtain ⟨rfl, rfl, hk1⟩ := hcut
    clear l0 l1
    have K1 := Lib.hid (HK0.out.trans hk1.out)
    have H1 := Lib.hid (HH0.out.kept hk1.out (fun x => x))
    clear hk1 HK0 HH0
    generalize wc = W1 at *
    go_wp2_with fail
    refine (HME.out W1).mono ?_
    rintro e w ⟨rfl, rfl⟩
    clear HME
    have k2 := ((Kept.refl Nothing W1).alloc (.cells #[.int .u32 mx, .int .u32 70000, .slice none 0 0, .int .u32 1] 49)).alloc (.cells #[.int .u32 ny, .int .u32 ny, .slice none 0 0, .int .u32 2] 49)
    have X2 := Lib.hid ((Blk.fresh W1 49 #[.int .u32 mx, .int .u32 70000, .slice none 0 0, .int .u32 1]).alloc (.cells #[.int .u32 ny, .int .u32 ny, .slice none 0 0, .int .u32 2] 49))
    have Y2 := Blk.fresh (W1.alloc (.cells #[.int .u32 mx, .int .u32 70000, .slice none 0 0, .int .u32 1] 49)) 49 #[.int .u32 ny, .int .u32 ny, .slice none 0 0, .int .u32 2]
    rw [World.size_alloc] at Y2
    have Y2h := Lib.hid Y2
    have K2 := Lib.hid (K1.out.trans k2)
    have H2 := Lib.hid (H1.out.kept k2 (fun x => x))
    have hlt2 : W.heap.size + 1 < W1.heap.size := H1.out.lt
    clear k2 Y2 H1 K1
    go_upto_region 4 with fail
    change Code.wp _ _ _ _ ((W1.alloc (.cells #[.int .u32 mx, .int .u32 70000, .slice none 0 0, .int .u32 1] 49)).alloc (.cells #[.int .u32 ny, .int .u32 ny, .slice none 0 0, .int .u32 2] 49))
    generalize (W1.alloc (.cells #[.int .u32 mx, .int .u32 70000, .slice none 0 0, .int .u32 1] 49)).alloc (.cells #[.int .u32 ny, .int .u32 ny, .slice none 0 0, .int .u32 2] 49) = W2 at *
    generalize W1.heap.size = gX at *
    have HOX : Hid (∀ u, Kept Nothing W2 u → PeO u (.slice none 0 0) (oX mxN) ∧ Spans u ∧ RdC u) := Lib.hid (fun u k => ⟨⟨by have := HMX.out; show mxN < _; omega, (by decide : 70000 < 4294967296), As.nil u⟩, HS.out.kept (K2.out.trans k), HR.out.kept (K2.out.trans k)⟩)
    have HOY : Hid (∀ u, Kept Nothing W2 u → PeO u (.slice none 0 0) (oY nyN) ∧ Spans u ∧ RdC u) := Lib.hid (fun u k => ⟨⟨by have := HNY.out; show nyN < _; omega, by have := HNY.out; show nyN < _; omega, As.nil u⟩, HS.out.kept (K2.out.trans k), HR.out.kept (K2.out.trans k)⟩)
    have EX : Hid ((oX mxN).cl (.slice none 0 0) = #[.int .u32 mx, .int .u32 70000, .slice none 0 0, .int .u32 1]) := Lib.hid (by rw [← HE.out.1]; rfl)
    have EY : Hid ((oY nyN).cl (.slice none 0 0) = #[.int .u32 ny, .int .u32 ny, .slice none 0 0, .int .u32 2]) := Lib.hid (by rw [← HE.out.2.1]; rfl)
    have MX : Hid (∀ u, Kept Nothing W2 u → Calls Tryd.prog 24 #[.agg #[.int .u32 mx, .int .u32 70000, .slice none 0 0, .int .u32 1]] u fun e w' => e = .returned (.bool true) ∧ Kept Nothing u w') := Lib.hid (fun u k => by
      have := pe_may (oX mxN) _ u (HOX.out u k).1 (HOX.out u k).2.1
      rwa [may_oX mxN HMX.out, EX.out] at this)
    have MY : Hid (∀ u, Kept Nothing W2 u → Calls Tryd.prog 24 #[.agg #[.int .u32 ny, .int .u32 ny, .slice none 0 0, .int .u32 2]] u fun e w' => e = .returned (.bool true) ∧ Kept Nothing u w') := Lib.hid (fun u k => by
      have := pe_may (oY nyN) _ u (HOY.out u k).1 (HOY.out u k).2.1
      rwa [may_oY nyN HNY.out, EY.out] at this)
    have CX : Hid (∀ u, Kept Nothing W2 u → Calls Tryd.prog 26 #[.agg #[.int .u32 mx, .int .u32 70000, .slice none 0 0, .int .u32 1], .int .u32 ny] u fun e w' => e = .returned (.int .i64 3) ∧ Kept Nothing u w') := Lib.hid (fun u k => by
      have := pe_class (oX mxN) _ nyN (by have := HNY.out; omega) u (HOX.out u k).1 (HOX.out u k).2.1
      rwa [cls_oX mxN nyN HMX.out HNY.out, EX.out, HE.out.2.1] at this)
    have CY : Hid (∀ u, Kept Nothing W2 u → Calls Tryd.prog 26 #[.agg #[.int .u32 ny, .int .u32 ny, .slice none 0 0, .int .u32 2], .int .u32 70000] u fun e w' => e = .returned (.int .i64 3) ∧ Kept Nothing u w') := Lib.hid (fun u k => by
      have := pe_class (oY nyN) _ 70000 (by decide) u (HOY.out u k).1 (HOY.out u k).2.1
      rwa [cls_oY nyN HNY.out, EY.out] at this)
    have TX : Hid (∀ u, Calls Tryd.prog 28 #[.agg #[.int .u32 mx, .int .u32 70000, .slice none 0 0, .int .u32 1], .int .i64 3] u fun e w' => e = .returned (.int .u32 70000) ∧ Kept Nothing u w') := Lib.hid (fun u => by
      have := pe_tells (oX mxN) (.slice none 0 0) ⟨_, _, _, rfl⟩ 3 u
      rwa [EX.out] at this)
    have TY : Hid (∀ u, Calls Tryd.prog 28 #[.agg #[.int .u32 ny, .int .u32 ny, .slice none 0 0, .int .u32 2], .int .i64 3] u fun e w' => e = .returned (.int .u32 ny) ∧ Kept Nothing u w') := Lib.hid (fun u => by
      have := pe_tells (oY nyN) (.slice none 0 0) ⟨_, _, _, rfl⟩ 3 u
      rw [EY.out] at this
      refine this.mono fun e w' ⟨h1, h2⟩ => ⟨?_, h2⟩
      rw [h1, ← HE.out.2.1]
      rfl)
    have PX : Hid (∀ u, Kept Nothing W2 u → Calls Tryd.prog 20 #[.agg #[.int .u32 mx, .int .u32 70000, .slice none 0 0, .int .u32 1], .int .i64 3] u fun e w' => ∃ rv, e = .returned rv ∧ Cps w' rv (oursL 70000) ∧ Kept Nothing u w') := Lib.hid (fun u k => by
      have := pe_caps (oX mxN) _ 3 u (HOX.out u k).1 (HOX.out u k).2.2
      rwa [EX.out] at this)
    have PY : Hid (∀ u, Kept Nothing W2 u → Calls Tryd.prog 20 #[.agg #[.int .u32 ny, .int .u32 ny, .slice none 0 0, .int .u32 2], .int .i64 3] u fun e w' => ∃ rv, e = .returned rv ∧ Cps w' rv (oursL nyN) ∧ Kept Nothing u w') := Lib.hid (fun u k => by
      have := pe_caps (oY nyN) _ 3 u (HOY.out u k).1 (HOY.out u k).2.2
      rwa [EY.out] at this)
    have SX : Hid (∀ u, Calls Tryd.prog 43 #[.int .u32 70000] u fun e w' => e = .returned (.int .u16 23456) ∧ Kept Nothing u w') := Lib.hid (fun u => pe_short 70000 u)
    have SY : Hid (∀ u, Calls Tryd.prog 43 #[.int .u32 ny] u fun e w' => e = .returned (.int .u16 ny) ∧ Kept Nothing u w') := Lib.hid (fun u => by
      have := pe_short nyN u
      rwa [show Pe.short nyN = nyN from if_neg (by have := HNY.out; omega), HE.out.2.1] at this)
    have AG : Hid (∀ u (v : Value), Cps u v (oursL nyN) → Calls Tryd.prog 34 #[.int .i64 z0, .int .i64 z1, .int .u16 ny, v] u fun e w' => e = .returned (.agg #[.int .i64 (Ck.agreed z0 z1).1, .int .i64 (Ck.agreed z0 z1).2, .bool true, .bool true, .int .u32 ny]) ∧ Kept Nothing u w') := Lib.hid (fun u v hv => by
      obtain ⟨-, e2, e3, e4⟩ := HE.out
      have := pe_agree z0 z1 (by have := HH.out.1; omega) (by have := HH.out.2; omega) nyN (by have := HNY.out; omega) v (oursL nyN) (by simp [oursL]) u hv
      rw [e2] at this
      refine this.mono fun e w' ⟨h1, h2⟩ => ⟨?_, h2⟩
      rw [h1]
      unfold Pe.agree Pe.Ag.cl
      rw [number_ours nyN (by have := HNY.out; omega), refreshes_ours]
      simp only [if_true]
      rw [e2])
    have AG2 : Hid (∀ u (v : Value), Cps u v (if nn = true then [] else oursL 70000) → Calls Tryd.prog 34 #[.int .i64 z1, .int .i64 z0, .int .u16 23456, v] u fun e w' => e = .returned (.agg #[.int .i64 (Ck.agreed z0 z1).1, .int .i64 (Ck.agreed z0 z1).2, .bool (!nn), .bool (!nn), .int .u32 (if nn = true then 23456 else 70000)]) ∧ Kept Nothing u w') := Lib.hid (fun u v hv => by
      obtain ⟨-, -, e3, e4⟩ := HE.out
      have := pe_agree z1 z0 (by have := HH.out.2; omega) (by have := HH.out.1; omega) 23456 (by decide) v _ (by cases nn <;> simp [oursL]) u hv
      refine this.mono fun e w' ⟨h1, h2⟩ => ⟨?_, h2⟩
      rw [h1]
      unfold Pe.agree Pe.Ag.cl
      rw [Ck.agreed_comm2 z0 z1]
      cases nn
      · simp only [Bool.false_eq_true, if_false]
        rw [number_ours 70000 (by decide), refreshes_ours]
        rfl
      · rfl)
    have HWK : Hid (∀ u, Kept Nothing W2 u → Calls Tryd.prog 33 #[] u fun e w' => e = .returned (.bool true) ∧ Kept Nothing u w') := Lib.hid (fun u k => pe_wakes u (HOX.out u k).2.1)
    generalize Ck.agreed z0 z1 = ag at *
    obtain ⟨hA, kA⟩ := ag
    simp only at AG AG2
    clear HOX HOY HMX HNY HS HR
    obtain ⟨x0, x1, x2, x3⟩ := (show W2.cell? ⟨gX, 0, none⟩ = some (.int .u32 mx) ∧ W2.cell? ⟨gX, 1, none⟩ = some (.int .u32 70000) ∧ W2.cell? ⟨gX, 2, none⟩ = some (.slice none 0 0) ∧ W2.cell? ⟨gX, 3, none⟩ = some (.int .u32 1) from ⟨X2.out.cell 0, X2.out.cell 1, X2.out.cell 2, X2.out.cell 3⟩)
    obtain ⟨y0, y1, y2, y3⟩ := (show W2.cell? ⟨gX + 1, 0, none⟩ = some (.int .u32 ny) ∧ W2.cell? ⟨gX + 1, 1, none⟩ = some (.int .u32 ny) ∧ W2.cell? ⟨gX + 1, 2, none⟩ = some (.slice none 0 0) ∧ W2.cell? ⟨gX + 1, 3, none⟩ = some (.int .u32 2) from ⟨Y2h.out.cell 0, Y2h.out.cell 1, Y2h.out.cell 2, Y2h.out.cell 3⟩)
    have x0h := Lib.hid x0
    have x1h := Lib.hid x1
    have x2h := Lib.hid x2
    have x3h := Lib.hid x3
    have y0h := Lib.hid y0
    have y1h := Lib.hid y1
    have y2h := Lib.hid y2
    have y3h := Lib.hid y3
    clear y0 y1 y2 y3
    go_wp2_with fail
    refine (MX.out W2 (Kept.refl _ _)).mono ?_
    rintro e w3 ⟨rfl, hk3⟩
    have y0 := hk3.cell_some y0h.out (fun x => x)
    have y1 := hk3.cell_some y1h.out (fun x => x)
    have y2 := hk3.cell_some y2h.out (fun x => x)
    have y3 := hk3.cell_some y3h.out (fun x => x)
    have K3 := Lib.hid hk3
    clear x0 x1 x2 x3 hk3
    go_upto_region 6 with (go_at_call 24; refine (MY.out w3 K3.out).mono ?_; rintro e w4 ⟨rfl, hk4⟩; (have K4 := Lib.hid (K3.out.trans hk4)); clear hk4)
    clear y0 y1 y2 y3 MX MY K3
    refine wp_region_tail w4 (Facts [some (.agg #[.int .u32 mx, .int .u32 70000, .slice none 0 0, .int .u32 1]), some (.agg #[.int .u32 ny, .int .u32 ny, .slice none 0 0, .int .u32 2]), some (.int .u32 ny), some (.int .i64 3), some (.agg #[.int .u32 ny, .int .u32 ny, .slice none 0 0, .int .u32 2]), some (.agg #[.int .u32 mx, .int .u32 70000, .slice none 0 0, .int .u32 1]), some (.int .u32 70000), some (.int .i64 3), some (.int .i64 3)] (fun _ _ _ => True)) 9 (by decide) (by kernel_rfl) (by kernel_rfl) (by kernel_rfl) (by decide +kernel) (by intro d hd; simp [dsts] at hd ⊢; omega) (ready_nil (by kernel_rfl)) (fun _ => true) (by kernel_rfl) ?_ (Facts.stab (fun _ _ _ _ _ _ => trivial)) ((Kept.refl Nothing w4).drew) ?_ ?_
    · intro x hx; simp at hx
    · refine OweTo.cons ?_ (by rfl) ?_
      · intro u aa hk hf hfar
        have v9 : aa.tmps.getD 9 undef = .pointer (some ⟨gX, 0, none⟩) := hfar 9 (by decide)
        have w9 := v9
        rw [Array.getD_eq_getD_getElem?] at w9
        have x0 := (K4.out.trans hk).cell_some x0h.out (fun x => x)
        have x1 := (K4.out.trans hk).cell_some x1h.out (fun x => x)
        have x2 := (K4.out.trans hk).cell_some x2h.out (fun x => x)
        have x3 := (K4.out.trans hk).cell_some x3h.out (fun x => x)
        clear hf hfar
        go_simp
        exact ⟨_, rfl, Kept.refl _ _, rfl⟩
      refine OweTo.cons ?_ (by rfl) ?_
      · intro u aa hk hf hfar
        have v10 : aa.tmps.getD 10 undef = .pointer (some ⟨gX + 1, 0, none⟩) := hfar 10 (by decide)
        have w10 := v10
        rw [Array.getD_eq_getD_getElem?] at w10
        have y0 := (K4.out.trans hk).cell_some y0h.out (fun x => x)
        have y1 := (K4.out.trans hk).cell_some y1h.out (fun x => x)
        have y2 := (K4.out.trans hk).cell_some y2h.out (fun x => x)
        have y3 := (K4.out.trans hk).cell_some y3h.out (fun x => x)
        clear hf hfar
        go_simp
        exact ⟨_, rfl, Kept.refl _ _, rfl⟩
      refine OweTo.cons ?_ (by rfl) ?_
      · intro u aa hk hf hfar
        have v40 : aa.tmps.getD 40 undef = .agg #[.int .u32 ny, .int .u32 ny, .slice none 0 0, .int .u32 2] := hf 1 _ 40 rfl rfl ⟨⟨1, .data⟩, Array.mem_of_getElem? (i := 0) rfl, rfl, rfl⟩
        have w40 := v40
        rw [Array.getD_eq_getD_getElem?] at w40
        clear hf hfar
        go_simp
        refine (TY.out u).mono ?_
        rintro e u' ⟨rfl, hk'⟩
        exact ⟨_, rfl, hk', rfl⟩
      refine OweTo.cons ?_ (by rfl) ?_
      · intro u aa hk hf hfar
        have v39 : aa.tmps.getD 39 undef = .agg #[.int .u32 mx, .int .u32 70000, .slice none 0 0, .int .u32 1] := hf 0 _ 39 rfl rfl ⟨⟨0, .data⟩, Array.mem_of_getElem? (i := 0) rfl, rfl, rfl⟩
        have w39 := v39
        rw [Array.getD_eq_getD_getElem?] at w39
        have v41 : aa.tmps.getD 41 undef = .int .u32 ny := hf 2 _ 41 rfl rfl ⟨⟨2, .data⟩, Array.mem_of_getElem? (i := 1) rfl, rfl, rfl⟩
        have w41 := v41
        rw [Array.getD_eq_getD_getElem?] at w41
        clear hf hfar
        go_simp
        refine (CX.out u (K4.out.trans hk)).mono ?_
        rintro e u' ⟨rfl, hk'⟩
        exact ⟨_, rfl, hk', rfl⟩
      refine OweTo.cons ?_ (by rfl) ?_
      · intro u aa hk hf hfar
        have v10 : aa.tmps.getD 10 undef = .pointer (some ⟨gX + 1, 0, none⟩) := hfar 10 (by decide)
        have w10 := v10
        rw [Array.getD_eq_getD_getElem?] at w10
        have y0 := (K4.out.trans hk).cell_some y0h.out (fun x => x)
        have y1 := (K4.out.trans hk).cell_some y1h.out (fun x => x)
        have y2 := (K4.out.trans hk).cell_some y2h.out (fun x => x)
        have y3 := (K4.out.trans hk).cell_some y3h.out (fun x => x)
        clear hf hfar
        go_simp
        exact ⟨_, rfl, Kept.refl _ _, rfl⟩
      refine OweTo.cons ?_ (by rfl) ?_
      · intro u aa hk hf hfar
        have v9 : aa.tmps.getD 9 undef = .pointer (some ⟨gX, 0, none⟩) := hfar 9 (by decide)
        have w9 := v9
        rw [Array.getD_eq_getD_getElem?] at w9
        have x0 := (K4.out.trans hk).cell_some x0h.out (fun x => x)
        have x1 := (K4.out.trans hk).cell_some x1h.out (fun x => x)
        have x2 := (K4.out.trans hk).cell_some x2h.out (fun x => x)
        have x3 := (K4.out.trans hk).cell_some x3h.out (fun x => x)
        clear hf hfar
        go_simp
        exact ⟨_, rfl, Kept.refl _ _, rfl⟩
      refine OweTo.cons ?_ (by rfl) ?_
      · intro u aa hk hf hfar
        have v44 : aa.tmps.getD 44 undef = .agg #[.int .u32 mx, .int .u32 70000, .slice none 0 0, .int .u32 1] := hf 5 _ 44 rfl rfl ⟨⟨5, .data⟩, Array.mem_of_getElem? (i := 0) rfl, rfl, rfl⟩
        have w44 := v44
        rw [Array.getD_eq_getD_getElem?] at w44
        clear hf hfar
        go_simp
        refine (TX.out u).mono ?_
        rintro e u' ⟨rfl, hk'⟩
        exact ⟨_, rfl, hk', rfl⟩
      refine OweTo.cons ?_ (by rfl) ?_
      · intro u aa hk hf hfar
        have v43 : aa.tmps.getD 43 undef = .agg #[.int .u32 ny, .int .u32 ny, .slice none 0 0, .int .u32 2] := hf 4 _ 43 rfl rfl ⟨⟨4, .data⟩, Array.mem_of_getElem? (i := 0) rfl, rfl, rfl⟩
        have w43 := v43
        rw [Array.getD_eq_getD_getElem?] at w43
        have v45 : aa.tmps.getD 45 undef = .int .u32 70000 := hf 6 _ 45 rfl rfl ⟨⟨6, .data⟩, Array.mem_of_getElem? (i := 1) rfl, rfl, rfl⟩
        have w45 := v45
        rw [Array.getD_eq_getD_getElem?] at w45
        clear hf hfar
        go_simp
        refine (CY.out u (K4.out.trans hk)).mono ?_
        rintro e u' ⟨rfl, hk'⟩
        exact ⟨_, rfl, hk', rfl⟩
      refine OweTo.cons ?_ (by rfl) ?_
      · intro u aa hk hf hfar
        have v42 : aa.tmps.getD 42 undef = .int .i64 3 := hf 3 _ 42 rfl rfl ⟨⟨3, .data⟩, Array.mem_of_getElem? (i := 0) rfl, rfl, rfl⟩
        have w42 := v42
        rw [Array.getD_eq_getD_getElem?] at w42
        clear hf hfar
        go_simp
        exact ⟨_, rfl, Kept.refl _ _, rfl⟩
      exact OweTo.last (by decide)
    · intro AA u hk hsz hdef hfar hfacts
      have x39 : AA.tmps.getD 39 undef = .agg #[.int .u32 mx, .int .u32 70000, .slice none 0 0, .int .u32 1] := hfacts 0 _ 39 (by decide) rfl rfl
      have x40 : AA.tmps.getD 40 undef = .agg #[.int .u32 ny, .int .u32 ny, .slice none 0 0, .int .u32 2] := hfacts 1 _ 40 (by decide) rfl rfl
      have x41 : AA.tmps.getD 41 undef = .int .u32 ny := hfacts 2 _ 41 (by decide) rfl rfl
      have x42 : AA.tmps.getD 42 undef = .int .i64 3 := hfacts 3 _ 42 (by decide) rfl rfl
      have x43 : AA.tmps.getD 43 undef = .agg #[.int .u32 ny, .int .u32 ny, .slice none 0 0, .int .u32 2] := hfacts 4 _ 43 (by decide) rfl rfl
      have x44 : AA.tmps.getD 44 undef = .agg #[.int .u32 mx, .int .u32 70000, .slice none 0 0, .int .u32 1] := hfacts 5 _ 44 (by decide) rfl rfl
      have x45 : AA.tmps.getD 45 undef = .int .u32 70000 := hfacts 6 _ 45 (by decide) rfl rfl
      have x46 : AA.tmps.getD 46 undef = .int .i64 3 := hfacts 7 _ 46 (by decide) rfl rfl
      have x11 : AA.tmps.getD 11 undef = .int .i64 3 := hfacts 8 _ 11 (by decide) rfl rfl
      have hA := arr_put AA.tmps [39, 40, 41, 42, 43, 44, 45, 46, 11, 12] _ hsz (fun t ht => hfar t ht)
      obtain ⟨At, Ad⟩ := AA
      simp only at hdef x39 x40 x41 x42 x43 x44 x45 x46 x11 hA
      subst hdef
      simp only [List.foldl_cons, List.foldl_nil, x39, x40, x41, x42, x43, x44, x45, x46, x11] at hA
      clear hfar hfacts hsz x39 x40 x41 x42 x43 x44 x45 x46 x11
      generalize At.getD 12 undef = y12 at hA
      simp only [List.setIfInBounds_toArray, List.set_cons_succ, List.set_cons_zero] at hA
      subst hA
      simp only [List.drop_succ_cons, List.drop_zero]
      have K5 := Lib.hid (K4.out.trans hk)
      clear hk
      go_upto_region 9 with fail
      refine wp_region_tail u (Facts [some (.agg #[.int .u32 mx, .int .u32 70000, .slice none 0 0, .int .u32 1]), some (.int .i64 3), none, some (.agg #[.int .u32 ny, .int .u32 ny, .slice none 0 0, .int .u32 2]), some (.int .i64 3), none, none] (ksSi9 nyN)) 7 (by decide) (by kernel_rfl) (by kernel_rfl) (by kernel_rfl) (by decide +kernel) (by intro d hd; simp [dsts] at hd ⊢; omega) (ready_nil (by kernel_rfl)) (fun _ => true) (by kernel_rfl) ?_ (Facts.stab (ksSi9_stab nyN)) ((Kept.refl Nothing u).drew) ?_ ?_
      · intro x hx; simp at hx
      · refine OweTo.cons ?_ (by rfl) ?_
        · intro u aa hk hf hfar
          have v9 : aa.tmps.getD 9 undef = .pointer (some ⟨gX, 0, none⟩) := hfar 9 (by decide)
          have w9 := v9
          rw [Array.getD_eq_getD_getElem?] at w9
          have x0 := (K5.out.trans hk).cell_some x0h.out (fun x => x)
          have x1 := (K5.out.trans hk).cell_some x1h.out (fun x => x)
          have x2 := (K5.out.trans hk).cell_some x2h.out (fun x => x)
          have x3 := (K5.out.trans hk).cell_some x3h.out (fun x => x)
          clear hf hfar
          go_simp
          exact ⟨_, rfl, Kept.refl _ _, rfl⟩
        refine OweTo.cons ?_ (by rfl) ?_
        · intro u aa hk hf hfar
          have v11 : aa.tmps.getD 11 undef = .int .i64 3 := hfar 11 (by decide)
          have w11 := v11
          rw [Array.getD_eq_getD_getElem?] at w11
          clear hf hfar
          go_simp
          exact ⟨_, rfl, Kept.refl _ _, rfl⟩
        refine OweTo.cons ?_ (by rfl) ?_
        · intro u aa hk hf hfar
          have v53 : aa.tmps.getD 53 undef = .agg #[.int .u32 mx, .int .u32 70000, .slice none 0 0, .int .u32 1] := hf 0 _ 53 rfl rfl ⟨⟨0, .data⟩, Array.mem_of_getElem? (i := 0) rfl, rfl, rfl⟩
          have w53 := v53
          rw [Array.getD_eq_getD_getElem?] at w53
          have v54 : aa.tmps.getD 54 undef = .int .i64 3 := hf 1 _ 54 rfl rfl ⟨⟨1, .data⟩, Array.mem_of_getElem? (i := 1) rfl, rfl, rfl⟩
          have w54 := v54
          rw [Array.getD_eq_getD_getElem?] at w54
          clear hf hfar
          go_simp
          refine (PX.out u (K5.out.trans hk)).mono ?_
          rintro e u' ⟨rv, rfl, hcp, hk'⟩
          obtain ⟨Az, cz, rfl, -, -⟩ := hcp.form
          exact ⟨_, rfl, hk', _, _, _, rfl, hcp⟩
        refine OweTo.cons ?_ (by rfl) ?_
        · intro u aa hk hf hfar
          have v10 : aa.tmps.getD 10 undef = .pointer (some ⟨gX + 1, 0, none⟩) := hfar 10 (by decide)
          have w10 := v10
          rw [Array.getD_eq_getD_getElem?] at w10
          have y0 := (K5.out.trans hk).cell_some y0h.out (fun x => x)
          have y1 := (K5.out.trans hk).cell_some y1h.out (fun x => x)
          have y2 := (K5.out.trans hk).cell_some y2h.out (fun x => x)
          have y3 := (K5.out.trans hk).cell_some y3h.out (fun x => x)
          clear hf hfar
          go_simp
          exact ⟨_, rfl, Kept.refl _ _, rfl⟩
        refine OweTo.cons ?_ (by rfl) ?_
        · intro u aa hk hf hfar
          have v12 : aa.tmps.getD 12 undef = .int .i64 3 := hfar 12 (by decide)
          have w12 := v12
          rw [Array.getD_eq_getD_getElem?] at w12
          clear hf hfar
          go_simp
          exact ⟨_, rfl, Kept.refl _ _, rfl⟩
        refine OweTo.cons ?_ (by rfl) ?_
        · intro u aa hk hf hfar
          have v56 : aa.tmps.getD 56 undef = .agg #[.int .u32 ny, .int .u32 ny, .slice none 0 0, .int .u32 2] := hf 3 _ 56 rfl rfl ⟨⟨3, .data⟩, Array.mem_of_getElem? (i := 0) rfl, rfl, rfl⟩
          have w56 := v56
          rw [Array.getD_eq_getD_getElem?] at w56
          have v57 : aa.tmps.getD 57 undef = .int .i64 3 := hf 4 _ 57 rfl rfl ⟨⟨4, .data⟩, Array.mem_of_getElem? (i := 1) rfl, rfl, rfl⟩
          have w57 := v57
          rw [Array.getD_eq_getD_getElem?] at w57
          clear hf hfar
          go_simp
          refine (PY.out u (K5.out.trans hk)).mono ?_
          rintro e u' ⟨rv, rfl, hcp, hk'⟩
          obtain ⟨Az, cz, rfl, -, -⟩ := hcp.form
          exact ⟨_, rfl, hk', _, _, _, rfl, hcp⟩
        refine OweTo.cons ?_ (by rfl) ?_
        · intro u aa hk hf hfar
          obtain ⟨A55, n55, c55, v55, h55⟩ : ∃ A n c, (aa.tmps.getD 55 undef) = .slice A n c ∧ Cps u (.slice A n c) (oursL 70000) := hf 2 _ 55 rfl rfl ⟨⟨2, .data⟩, Array.mem_of_getElem? (i := 0) rfl, rfl, rfl⟩
          have w55 := v55
          rw [Array.getD_eq_getD_getElem?] at w55
          clear hf hfar
          go_simp
          exact ⟨_, rfl, Kept.refl _ _, _, _, _, rfl, h55⟩
        exact OweTo.last (by decide)
      · intro AA u hk hsz hdef hfar hfacts
        have x53 : AA.tmps.getD 53 undef = .agg #[.int .u32 mx, .int .u32 70000, .slice none 0 0, .int .u32 1] := hfacts 0 _ 53 (by decide) rfl rfl
        have x54 : AA.tmps.getD 54 undef = .int .i64 3 := hfacts 1 _ 54 (by decide) rfl rfl
        obtain ⟨A55, n55, c55, x55, h55⟩ : ∃ A n c, (AA.tmps.getD 55 undef) = .slice A n c ∧ Cps u (.slice A n c) (oursL 70000) := hfacts 2 _ 55 (by decide) rfl rfl
        have x56 : AA.tmps.getD 56 undef = .agg #[.int .u32 ny, .int .u32 ny, .slice none 0 0, .int .u32 2] := hfacts 3 _ 56 (by decide) rfl rfl
        have x57 : AA.tmps.getD 57 undef = .int .i64 3 := hfacts 4 _ 57 (by decide) rfl rfl
        obtain ⟨A58, n58, c58, x58, h58⟩ : ∃ A n c, (AA.tmps.getD 58 undef) = .slice A n c ∧ Cps u (.slice A n c) (oursL nyN) := hfacts 5 _ 58 (by decide) rfl rfl
        obtain ⟨A13, n13, c13, x13, h13⟩ : ∃ A n c, (AA.tmps.getD 13 undef) = .slice A n c ∧ Cps u (.slice A n c) (oursL 70000) := hfacts 6 _ 13 (by decide) rfl rfl
        have hA := arr_put AA.tmps [53, 54, 55, 56, 57, 58, 13, 14] _ hsz (fun t ht => hfar t ht)
        obtain ⟨At, Ad⟩ := AA
        simp only at hdef x53 x54 x55 x56 x57 x58 x13 hA
        subst hdef
        simp only [List.foldl_cons, List.foldl_nil, x53, x54, x55, x56, x57, x58, x13] at hA
        clear hfar hfacts hsz x53 x54 x55 x56 x57 x58 x13
        generalize At.getD 14 undef = y14 at hA
        simp only [List.setIfInBounds_toArray, List.set_cons_succ, List.set_cons_zero] at hA
        subst hA
        simp only [List.drop_succ_cons, List.drop_zero]
        have K6 := Lib.hid (K5.out.trans hk)
        clear hk h55
        have H13 := Lib.hid h13
        have H14 := Lib.hid h58
        clear h13 h58
        have HH0 : Hid (W2.cell? ⟨W.heap.size + 1, 0, none⟩ = some (.int .u16 z0)) := Lib.hid (H2.out.cell 0)
        have HH1 : Hid (W2.cell? ⟨W.heap.size + 1, 1, none⟩ = some (.int .u16 z1)) := Lib.hid (H2.out.cell 1)
        go_upto_if 59 with fail
        go_cut [13] (fun v wx => ∃ A n c, v = .slice A n c ∧ Hid (Cps wx (.slice A n c) (if nn = true then [] else oursL 70000) ∧ Kept Nothing u wx))
        case first =>
          cases nn with
          | true =>
            go_wp2
            go_meet
            exact ⟨_, _, _, rfl, Lib.hid ⟨⟨_, 0, rfl, Nat.le_refl _, by simp [maxLen], fun h => absurd h (by simp)⟩, (Kept.refl _ _).alloc _⟩⟩
          | false =>
            go_wp2
            go_meet
            exact ⟨_, _, _, rfl, Lib.hid ⟨H13.out, Kept.refl _ _⟩⟩
        case rest =>
          obtain ⟨A13, n13, c13, rfl, hcut⟩ := hcut
          have K7 := Lib.hid (K6.out.trans hcut.out.2)
          have H13b := Lib.hid hcut.out.1
          have H14b := Lib.hid (H14.out.old hcut.out.2)
          clear hcut H13 H14 K6 K5 K4 H2 X2 Y2h
          go_upto_region 12 with fail
          refine wp_region_tail wc (Facts [some (.pointer (some ⟨W.heap.size + 1, 0, none⟩)), some (.int .u16 z0), some (.int .i64 z0), some (.pointer (some ⟨W.heap.size + 1, 1, none⟩)), some (.int .u16 z1), some (.int .i64 z1), some (.agg #[.int .u32 ny, .int .u32 ny, .slice none 0 0, .int .u32 2]), some (.int .i64 3), some (.int .u32 ny), some (.int .u16 ny), some (.slice A58 n58 c58), some (.agg #[.int .i64 hA, .int .i64 kA, .bool true, .bool true, .int .u32 ny]), none] (ksSi15 wc.heap.size)) 13 (by decide) (by kernel_rfl) (by kernel_rfl) (by kernel_rfl) (by decide +kernel) (by intro d hd; exact (show d < 145 from (by simp [dsts] at hd; omega))) (ready_nil (by kernel_rfl)) (fun _ => true) (by kernel_rfl) ?_ (Facts.stab (ksSi15_stab wc.heap.size)) ((Kept.refl Nothing wc).drew) ?_ ?_
          · intro x hx; simp at hx
          · refine OweTo.cons ?_ (by rfl) ?_
            · intro u aa hk hf hfar
              have v4 : aa.tmps.getD 4 undef = .pointer (some ⟨W.heap.size + 1, 0, none⟩) := hfar 4 (by decide)
              have w4 := v4
              rw [Array.getD_eq_getD_getElem?] at w4
              clear hf hfar
              go_simp
              exact ⟨_, rfl, Kept.refl _ _, rfl⟩
            refine OweTo.cons ?_ (by rfl) ?_
            · intro u aa hk hf hfar
              have v61 : aa.tmps.getD 61 undef = .pointer (some ⟨W.heap.size + 1, 0, none⟩) := hf 0 _ 61 rfl rfl ⟨⟨0, .data⟩, Array.mem_of_getElem? (i := 0) rfl, rfl, rfl⟩
              have w61 := v61
              rw [Array.getD_eq_getD_getElem?] at w61
              have h0_ := (K7.out.trans hk).cell_some HH0.out (fun x => x)
              clear hf hfar
              go_simp
              exact ⟨_, rfl, Kept.refl _ _, rfl⟩
            refine OweTo.cons ?_ (by rfl) ?_
            · intro u aa hk hf hfar
              have v62 : aa.tmps.getD 62 undef = .int .u16 z0 := hf 1 _ 62 rfl rfl ⟨⟨1, .data⟩, Array.mem_of_getElem? (i := 0) rfl, rfl, rfl⟩
              have w62 := v62
              rw [Array.getD_eq_getD_getElem?] at w62
              have q_ := HV0
              clear hf hfar
              go_simp
              exact ⟨_, rfl, Kept.refl _ _, rfl⟩
            refine OweTo.cons ?_ (by rfl) ?_
            · intro u aa hk hf hfar
              have v4 : aa.tmps.getD 4 undef = .pointer (some ⟨W.heap.size + 1, 0, none⟩) := hfar 4 (by decide)
              have w4 := v4
              rw [Array.getD_eq_getD_getElem?] at w4
              clear hf hfar
              go_simp
              exact ⟨_, rfl, Kept.refl _ _, rfl⟩
            refine OweTo.cons ?_ (by rfl) ?_
            · intro u aa hk hf hfar
              have v64 : aa.tmps.getD 64 undef = .pointer (some ⟨W.heap.size + 1, 1, none⟩) := hf 3 _ 64 rfl rfl ⟨⟨3, .data⟩, Array.mem_of_getElem? (i := 0) rfl, rfl, rfl⟩
              have w64 := v64
              rw [Array.getD_eq_getD_getElem?] at w64
              have h1_ := (K7.out.trans hk).cell_some HH1.out (fun x => x)
              clear hf hfar
              go_simp
              exact ⟨_, rfl, Kept.refl _ _, rfl⟩
            refine OweTo.cons ?_ (by rfl) ?_
            · intro u aa hk hf hfar
              have v65 : aa.tmps.getD 65 undef = .int .u16 z1 := hf 4 _ 65 rfl rfl ⟨⟨4, .data⟩, Array.mem_of_getElem? (i := 0) rfl, rfl, rfl⟩
              have w65 := v65
              rw [Array.getD_eq_getD_getElem?] at w65
              have q_ := HV1
              clear hf hfar
              go_simp
              exact ⟨_, rfl, Kept.refl _ _, rfl⟩
            refine OweTo.cons ?_ (by rfl) ?_
            · intro u aa hk hf hfar
              have v10 : aa.tmps.getD 10 undef = .pointer (some ⟨gX + 1, 0, none⟩) := hfar 10 (by decide)
              have w10 := v10
              rw [Array.getD_eq_getD_getElem?] at w10
              have y0 := (K7.out.trans hk).cell_some y0h.out (fun x => x)
              have y1 := (K7.out.trans hk).cell_some y1h.out (fun x => x)
              have y2 := (K7.out.trans hk).cell_some y2h.out (fun x => x)
              have y3 := (K7.out.trans hk).cell_some y3h.out (fun x => x)
              clear hf hfar
              go_simp
              exact ⟨_, rfl, Kept.refl _ _, rfl⟩
            refine OweTo.cons ?_ (by rfl) ?_
            · intro u aa hk hf hfar
              have v12 : aa.tmps.getD 12 undef = .int .i64 3 := hfar 12 (by decide)
              have w12 := v12
              rw [Array.getD_eq_getD_getElem?] at w12
              clear hf hfar
              go_simp
              exact ⟨_, rfl, Kept.refl _ _, rfl⟩
            refine OweTo.cons ?_ (by rfl) ?_
            · intro u aa hk hf hfar
              have v67 : aa.tmps.getD 67 undef = .agg #[.int .u32 ny, .int .u32 ny, .slice none 0 0, .int .u32 2] := hf 6 _ 67 rfl rfl ⟨⟨6, .data⟩, Array.mem_of_getElem? (i := 0) rfl, rfl, rfl⟩
              have w67 := v67
              rw [Array.getD_eq_getD_getElem?] at w67
              have v68 : aa.tmps.getD 68 undef = .int .i64 3 := hf 7 _ 68 rfl rfl ⟨⟨7, .data⟩, Array.mem_of_getElem? (i := 1) rfl, rfl, rfl⟩
              have w68 := v68
              rw [Array.getD_eq_getD_getElem?] at w68
              clear hf hfar
              go_simp
              refine (TY.out u).mono ?_
              rintro e u' ⟨rfl, hk'⟩
              exact ⟨_, rfl, hk', rfl⟩
            refine OweTo.cons ?_ (by rfl) ?_
            · intro u aa hk hf hfar
              have v69 : aa.tmps.getD 69 undef = .int .u32 ny := hf 8 _ 69 rfl rfl ⟨⟨8, .data⟩, Array.mem_of_getElem? (i := 0) rfl, rfl, rfl⟩
              have w69 := v69
              rw [Array.getD_eq_getD_getElem?] at w69
              clear hf hfar
              go_simp
              refine (SY.out u).mono ?_
              rintro e u' ⟨rfl, hk'⟩
              exact ⟨_, rfl, hk', rfl⟩
            refine OweTo.cons ?_ (by rfl) ?_
            · intro u aa hk hf hfar
              have v14 : aa.tmps.getD 14 undef = .slice A58 n58 c58 := hfar 14 (by decide)
              have w14 := v14
              rw [Array.getD_eq_getD_getElem?] at w14
              clear hf hfar
              go_simp
              exact ⟨_, rfl, Kept.refl _ _, rfl⟩
            refine OweTo.cons ?_ (by rfl) ?_
            · intro u aa hk hf hfar
              have v63 : aa.tmps.getD 63 undef = .int .i64 z0 := hf 2 _ 63 rfl rfl ⟨⟨2, .data⟩, Array.mem_of_getElem? (i := 0) rfl, rfl, rfl⟩
              have w63 := v63
              rw [Array.getD_eq_getD_getElem?] at w63
              have v66 : aa.tmps.getD 66 undef = .int .i64 z1 := hf 5 _ 66 rfl rfl ⟨⟨5, .data⟩, Array.mem_of_getElem? (i := 1) rfl, rfl, rfl⟩
              have w66 := v66
              rw [Array.getD_eq_getD_getElem?] at w66
              have v70 : aa.tmps.getD 70 undef = .int .u16 ny := hf 9 _ 70 rfl rfl ⟨⟨9, .data⟩, Array.mem_of_getElem? (i := 2) rfl, rfl, rfl⟩
              have w70 := v70
              rw [Array.getD_eq_getD_getElem?] at w70
              have v71 : aa.tmps.getD 71 undef = .slice A58 n58 c58 := hf 10 _ 71 rfl rfl ⟨⟨10, .data⟩, Array.mem_of_getElem? (i := 3) rfl, rfl, rfl⟩
              have w71 := v71
              rw [Array.getD_eq_getD_getElem?] at w71
              clear hf hfar
              go_simp
              refine (AG.out u _ (H14b.out.old hk)).mono ?_
              rintro e u' ⟨rfl, hk'⟩
              exact ⟨_, rfl, hk', rfl⟩
            refine OweTo.cons ?_ (by rfl) ?_
            · intro u aa hk hf hfar
              have hle := hk.size
              clear hf hfar
              go_simp
              exact ⟨_, rfl, (Kept.refl _ _).alloc _, _, rfl, Blk.fresh _ _ _, hle⟩
            exact OweTo.last (by decide)
          · intro AA u hk hsz hdef hfar hfacts
            have x61 : AA.tmps.getD 61 undef = .pointer (some ⟨W.heap.size + 1, 0, none⟩) := hfacts 0 _ 61 (by decide) rfl rfl
            have x62 : AA.tmps.getD 62 undef = .int .u16 z0 := hfacts 1 _ 62 (by decide) rfl rfl
            have x63 : AA.tmps.getD 63 undef = .int .i64 z0 := hfacts 2 _ 63 (by decide) rfl rfl
            have x64 : AA.tmps.getD 64 undef = .pointer (some ⟨W.heap.size + 1, 1, none⟩) := hfacts 3 _ 64 (by decide) rfl rfl
            have x65 : AA.tmps.getD 65 undef = .int .u16 z1 := hfacts 4 _ 65 (by decide) rfl rfl
            have x66 : AA.tmps.getD 66 undef = .int .i64 z1 := hfacts 5 _ 66 (by decide) rfl rfl
            have x67 : AA.tmps.getD 67 undef = .agg #[.int .u32 ny, .int .u32 ny, .slice none 0 0, .int .u32 2] := hfacts 6 _ 67 (by decide) rfl rfl
            have x68 : AA.tmps.getD 68 undef = .int .i64 3 := hfacts 7 _ 68 (by decide) rfl rfl
            have x69 : AA.tmps.getD 69 undef = .int .u32 ny := hfacts 8 _ 69 (by decide) rfl rfl
            have x70 : AA.tmps.getD 70 undef = .int .u16 ny := hfacts 9 _ 70 (by decide) rfl rfl
            have x71 : AA.tmps.getD 71 undef = .slice A58 n58 c58 := hfacts 10 _ 71 (by decide) rfl rfl
            have x72 : AA.tmps.getD 72 undef = .agg #[.int .i64 hA, .int .i64 kA, .bool true, .bool true, .int .u32 ny] := hfacts 11 _ 72 (by decide) rfl rfl
            obtain ⟨g15, x15, B15, n15⟩ : ∃ g, (AA.tmps.getD 15 undef) = .pointer (some ⟨g, 0, none⟩) ∧ Blk u g 79 #[.int .i64 0, .int .i64 0, .bool false, .bool false, .int .u32 0] ∧ wc.heap.size ≤ g := hfacts 12 _ 15 (by decide) rfl rfl
            have hA := arr_put AA.tmps [61, 62, 63, 64, 65, 66, 67, 68, 69, 70, 71, 72, 15] _ hsz (fun t ht => hfar t ht)
            obtain ⟨At, Ad⟩ := AA
            simp only at hdef x61 x62 x63 x64 x65 x66 x67 x68 x69 x70 x71 x72 x15 hA
            subst hdef
            simp only [List.foldl_cons, List.foldl_nil, x61, x62, x63, x64, x65, x66, x67, x68, x69, x70, x71, x72, x15] at hA
            clear hfar hfacts hsz x61 x62 x63 x64 x65 x66 x67 x68 x69 x70 x71 x72 x15
            try dsimp only at hA
            simp only [List.setIfInBounds_toArray, List.set_cons_succ, List.set_cons_zero] at hA
            subst hA
            simp only [List.drop_succ_cons, List.drop_zero]
            have kw : Kept Nothing wc (u.setRow g15 #[.int .i64 hA, .int .i64 kA, .bool true, .bool true, .int .u32 ny]) := hk.trans_new (Kept.setRow _ _) (fun i hi (e : i = g15) => by omega)
            have Bh := Lib.hid B15
            have BP15 : Hid (Blk (u.setRow g15 #[.int .i64 hA, .int .i64 kA, .bool true, .bool true, .int .u32 ny]) g15 79 #[.int .i64 hA, .int .i64 kA, .bool true, .bool true, .int .u32 ny]) := Lib.hid (setRow_heap u g15 _ #[.int .i64 hA, .int .i64 kA, .bool true, .bool true, .int .u32 ny] _ _ B15)
            have KW := Lib.hid kw
            clear hk B15 n15 kw
            go_upto_region 13 with (refine wpList_store_row rfl 79 _ _ rfl g15 #[.int .i64 hA, .int .i64 kA, .bool true, .bool true, .int .u32 ny] rfl rfl 79 _ Bh.out (by kernel_rfl) rfl (by kernel_rfl) ?_)
            have K8 := Lib.hid (K7.out.trans KW.out)
            clear Bh
            generalize u.setRow g15 #[.int .i64 hA, .int .i64 kA, .bool true, .bool true, .int .u32 ny] = W9 at *
            simp only [Act.put]
            have H13c := Lib.hid (H13b.out.old KW.out)
            clear KW H13b H14b
            refine wp_region_tail W9 (Facts [some (.pointer (some ⟨W.heap.size + 1, 1, none⟩)), some (.int .u16 z1), some (.int .i64 z1), some (.pointer (some ⟨W.heap.size + 1, 0, none⟩)), some (.int .u16 z0), some (.int .i64 z0), some (.agg #[.int .u32 mx, .int .u32 70000, .slice none 0 0, .int .u32 1]), some (.int .i64 3), some (.int .u32 70000), some (.int .u16 23456), some (.slice A13 n13 c13), some (.agg #[.int .i64 hA, .int .i64 kA, .bool (!nn), .bool (!nn), .int .u32 (if nn = true then 23456 else 70000)]), none] (ksSi16 W9.heap.size)) 13 (by decide) (by kernel_rfl) (by kernel_rfl) (by kernel_rfl) (by decide +kernel) (by intro d hd; exact (show d < 145 from (by simp [dsts] at hd; omega))) (ready_nil (by kernel_rfl)) (fun _ => true) (by kernel_rfl) ?_ (Facts.stab (ksSi16_stab W9.heap.size)) ((Kept.refl Nothing W9).drew) ?_ ?_
            · intro x hx; simp at hx
            · refine OweTo.cons ?_ (by rfl) ?_
              · intro u aa hk hf hfar
                have v4 : aa.tmps.getD 4 undef = .pointer (some ⟨W.heap.size + 1, 0, none⟩) := hfar 4 (by decide)
                have w4 := v4
                rw [Array.getD_eq_getD_getElem?] at w4
                clear hf hfar
                go_simp
                exact ⟨_, rfl, Kept.refl _ _, rfl⟩
              refine OweTo.cons ?_ (by rfl) ?_
              · intro u aa hk hf hfar
                have v73 : aa.tmps.getD 73 undef = .pointer (some ⟨W.heap.size + 1, 1, none⟩) := hf 0 _ 73 rfl rfl ⟨⟨0, .data⟩, Array.mem_of_getElem? (i := 0) rfl, rfl, rfl⟩
                have w73 := v73
                rw [Array.getD_eq_getD_getElem?] at w73
                have h1_ := (K8.out.trans hk).cell_some HH1.out (fun x => x)
                clear hf hfar
                go_simp
                exact ⟨_, rfl, Kept.refl _ _, rfl⟩
              refine OweTo.cons ?_ (by rfl) ?_
              · intro u aa hk hf hfar
                have v74 : aa.tmps.getD 74 undef = .int .u16 z1 := hf 1 _ 74 rfl rfl ⟨⟨1, .data⟩, Array.mem_of_getElem? (i := 0) rfl, rfl, rfl⟩
                have w74 := v74
                rw [Array.getD_eq_getD_getElem?] at w74
                have q_ := HV1
                clear hf hfar
                go_simp
                exact ⟨_, rfl, Kept.refl _ _, rfl⟩
              refine OweTo.cons ?_ (by rfl) ?_
              · intro u aa hk hf hfar
                have v4 : aa.tmps.getD 4 undef = .pointer (some ⟨W.heap.size + 1, 0, none⟩) := hfar 4 (by decide)
                have w4 := v4
                rw [Array.getD_eq_getD_getElem?] at w4
                clear hf hfar
                go_simp
                exact ⟨_, rfl, Kept.refl _ _, rfl⟩
              refine OweTo.cons ?_ (by rfl) ?_
              · intro u aa hk hf hfar
                have v76 : aa.tmps.getD 76 undef = .pointer (some ⟨W.heap.size + 1, 0, none⟩) := hf 3 _ 76 rfl rfl ⟨⟨3, .data⟩, Array.mem_of_getElem? (i := 0) rfl, rfl, rfl⟩
                have w76 := v76
                rw [Array.getD_eq_getD_getElem?] at w76
                have h0_ := (K8.out.trans hk).cell_some HH0.out (fun x => x)
                clear hf hfar
                go_simp
                exact ⟨_, rfl, Kept.refl _ _, rfl⟩
              refine OweTo.cons ?_ (by rfl) ?_
              · intro u aa hk hf hfar
                have v77 : aa.tmps.getD 77 undef = .int .u16 z0 := hf 4 _ 77 rfl rfl ⟨⟨4, .data⟩, Array.mem_of_getElem? (i := 0) rfl, rfl, rfl⟩
                have w77 := v77
                rw [Array.getD_eq_getD_getElem?] at w77
                have q_ := HV0
                clear hf hfar
                go_simp
                exact ⟨_, rfl, Kept.refl _ _, rfl⟩
              refine OweTo.cons ?_ (by rfl) ?_
              · intro u aa hk hf hfar
                have v9 : aa.tmps.getD 9 undef = .pointer (some ⟨gX, 0, none⟩) := hfar 9 (by decide)
                have w9 := v9
                rw [Array.getD_eq_getD_getElem?] at w9
                have x0 := (K8.out.trans hk).cell_some x0h.out (fun x => x)
                have x1 := (K8.out.trans hk).cell_some x1h.out (fun x => x)
                have x2 := (K8.out.trans hk).cell_some x2h.out (fun x => x)
                have x3 := (K8.out.trans hk).cell_some x3h.out (fun x => x)
                clear hf hfar
                go_simp
                exact ⟨_, rfl, Kept.refl _ _, rfl⟩
              refine OweTo.cons ?_ (by rfl) ?_
              · intro u aa hk hf hfar
                have v11 : aa.tmps.getD 11 undef = .int .i64 3 := hfar 11 (by decide)
                have w11 := v11
                rw [Array.getD_eq_getD_getElem?] at w11
                clear hf hfar
                go_simp
                exact ⟨_, rfl, Kept.refl _ _, rfl⟩
              refine OweTo.cons ?_ (by rfl) ?_
              · intro u aa hk hf hfar
                have v79 : aa.tmps.getD 79 undef = .agg #[.int .u32 mx, .int .u32 70000, .slice none 0 0, .int .u32 1] := hf 6 _ 79 rfl rfl ⟨⟨6, .data⟩, Array.mem_of_getElem? (i := 0) rfl, rfl, rfl⟩
                have w79 := v79
                rw [Array.getD_eq_getD_getElem?] at w79
                have v80 : aa.tmps.getD 80 undef = .int .i64 3 := hf 7 _ 80 rfl rfl ⟨⟨7, .data⟩, Array.mem_of_getElem? (i := 1) rfl, rfl, rfl⟩
                have w80 := v80
                rw [Array.getD_eq_getD_getElem?] at w80
                clear hf hfar
                go_simp
                refine (TX.out u).mono ?_
                rintro e u' ⟨rfl, hk'⟩
                exact ⟨_, rfl, hk', rfl⟩
              refine OweTo.cons ?_ (by rfl) ?_
              · intro u aa hk hf hfar
                have v81 : aa.tmps.getD 81 undef = .int .u32 70000 := hf 8 _ 81 rfl rfl ⟨⟨8, .data⟩, Array.mem_of_getElem? (i := 0) rfl, rfl, rfl⟩
                have w81 := v81
                rw [Array.getD_eq_getD_getElem?] at w81
                clear hf hfar
                go_simp
                refine (SX.out u).mono ?_
                rintro e u' ⟨rfl, hk'⟩
                exact ⟨_, rfl, hk', rfl⟩
              refine OweTo.cons ?_ (by rfl) ?_
              · intro u aa hk hf hfar
                have v13 : aa.tmps.getD 13 undef = .slice A13 n13 c13 := hfar 13 (by decide)
                have w13 := v13
                rw [Array.getD_eq_getD_getElem?] at w13
                clear hf hfar
                go_simp
                exact ⟨_, rfl, Kept.refl _ _, rfl⟩
              refine OweTo.cons ?_ (by rfl) ?_
              · intro u aa hk hf hfar
                have v75 : aa.tmps.getD 75 undef = .int .i64 z1 := hf 2 _ 75 rfl rfl ⟨⟨2, .data⟩, Array.mem_of_getElem? (i := 0) rfl, rfl, rfl⟩
                have w75 := v75
                rw [Array.getD_eq_getD_getElem?] at w75
                have v78 : aa.tmps.getD 78 undef = .int .i64 z0 := hf 5 _ 78 rfl rfl ⟨⟨5, .data⟩, Array.mem_of_getElem? (i := 1) rfl, rfl, rfl⟩
                have w78 := v78
                rw [Array.getD_eq_getD_getElem?] at w78
                have v82 : aa.tmps.getD 82 undef = .int .u16 23456 := hf 9 _ 82 rfl rfl ⟨⟨9, .data⟩, Array.mem_of_getElem? (i := 2) rfl, rfl, rfl⟩
                have w82 := v82
                rw [Array.getD_eq_getD_getElem?] at w82
                have v83 : aa.tmps.getD 83 undef = .slice A13 n13 c13 := hf 10 _ 83 rfl rfl ⟨⟨10, .data⟩, Array.mem_of_getElem? (i := 3) rfl, rfl, rfl⟩
                have w83 := v83
                rw [Array.getD_eq_getD_getElem?] at w83
                clear hf hfar
                go_simp
                refine (AG2.out u _ (H13c.out.old hk)).mono ?_
                rintro e u' ⟨rfl, hk'⟩
                exact ⟨_, rfl, hk', rfl⟩
              refine OweTo.cons ?_ (by rfl) ?_
              · intro u aa hk hf hfar
                have hle := hk.size
                clear hf hfar
                go_simp
                exact ⟨_, rfl, (Kept.refl _ _).alloc _, _, rfl, Blk.fresh _ _ _, hle⟩
              exact OweTo.last (by decide)
            · intro AA u hk hsz hdef hfar hfacts
              have x73 : AA.tmps.getD 73 undef = .pointer (some ⟨W.heap.size + 1, 1, none⟩) := hfacts 0 _ 73 (by decide) rfl rfl
              have x74 : AA.tmps.getD 74 undef = .int .u16 z1 := hfacts 1 _ 74 (by decide) rfl rfl
              have x75 : AA.tmps.getD 75 undef = .int .i64 z1 := hfacts 2 _ 75 (by decide) rfl rfl
              have x76 : AA.tmps.getD 76 undef = .pointer (some ⟨W.heap.size + 1, 0, none⟩) := hfacts 3 _ 76 (by decide) rfl rfl
              have x77 : AA.tmps.getD 77 undef = .int .u16 z0 := hfacts 4 _ 77 (by decide) rfl rfl
              have x78 : AA.tmps.getD 78 undef = .int .i64 z0 := hfacts 5 _ 78 (by decide) rfl rfl
              have x79 : AA.tmps.getD 79 undef = .agg #[.int .u32 mx, .int .u32 70000, .slice none 0 0, .int .u32 1] := hfacts 6 _ 79 (by decide) rfl rfl
              have x80 : AA.tmps.getD 80 undef = .int .i64 3 := hfacts 7 _ 80 (by decide) rfl rfl
              have x81 : AA.tmps.getD 81 undef = .int .u32 70000 := hfacts 8 _ 81 (by decide) rfl rfl
              have x82 : AA.tmps.getD 82 undef = .int .u16 23456 := hfacts 9 _ 82 (by decide) rfl rfl
              have x83 : AA.tmps.getD 83 undef = .slice A13 n13 c13 := hfacts 10 _ 83 (by decide) rfl rfl
              have x84 : AA.tmps.getD 84 undef = .agg #[.int .i64 hA, .int .i64 kA, .bool (!nn), .bool (!nn), .int .u32 (if nn = true then 23456 else 70000)] := hfacts 11 _ 84 (by decide) rfl rfl
              obtain ⟨g16, x16, B16, n16⟩ : ∃ g, (AA.tmps.getD 16 undef) = .pointer (some ⟨g, 0, none⟩) ∧ Blk u g 79 #[.int .i64 0, .int .i64 0, .bool false, .bool false, .int .u32 0] ∧ W9.heap.size ≤ g := hfacts 12 _ 16 (by decide) rfl rfl
              have hA := arr_put AA.tmps [73, 74, 75, 76, 77, 78, 79, 80, 81, 82, 83, 84, 16] _ hsz (fun t ht => hfar t ht)
              obtain ⟨At, Ad⟩ := AA
              simp only at hdef x73 x74 x75 x76 x77 x78 x79 x80 x81 x82 x83 x84 x16 hA
              subst hdef
              simp only [List.foldl_cons, List.foldl_nil, x73, x74, x75, x76, x77, x78, x79, x80, x81, x82, x83, x84, x16] at hA
              clear hfar hfacts hsz x73 x74 x75 x76 x77 x78 x79 x80 x81 x82 x83 x84 x16
              try dsimp only at hA
              simp only [List.setIfInBounds_toArray, List.set_cons_succ, List.set_cons_zero] at hA
              subst hA
              simp only [List.drop_succ_cons, List.drop_zero]
              have kw : Kept Nothing W9 (u.setRow g16 #[.int .i64 hA, .int .i64 kA, .bool (!nn), .bool (!nn), .int .u32 (if nn = true then 23456 else 70000)]) := hk.trans_new (Kept.setRow _ _) (fun i hi (e : i = g16) => by omega)
              have Bh := Lib.hid B16
              have BP16 : Hid (Blk (u.setRow g16 #[.int .i64 hA, .int .i64 kA, .bool (!nn), .bool (!nn), .int .u32 (if nn = true then 23456 else 70000)]) g16 79 #[.int .i64 hA, .int .i64 kA, .bool (!nn), .bool (!nn), .int .u32 (if nn = true then 23456 else 70000)]) := Lib.hid (setRow_heap u g16 _ #[.int .i64 hA, .int .i64 kA, .bool (!nn), .bool (!nn), .int .u32 (if nn = true then 23456 else 70000)] _ _ B16)
              have KW := Lib.hid kw
              clear hk B16 n16 kw
              go_upto_region 14 with (refine wpList_store_row rfl 79 _ _ rfl g16 #[.int .i64 hA, .int .i64 kA, .bool (!nn), .bool (!nn), .int .u32 (if nn = true then 23456 else 70000)] rfl rfl 79 _ Bh.out (by kernel_rfl) rfl (by kernel_rfl) ?_)
              have K9 := Lib.hid (K8.out.trans KW.out)
              clear Bh
              generalize u.setRow g16 #[.int .i64 hA, .int .i64 kA, .bool (!nn), .bool (!nn), .int .u32 (if nn = true then 23456 else 70000)] = W10 at *
              simp only [Act.put]
              have BP15b := Lib.hid (BP15.out.kept KW.out (fun x => x))
              clear KW BP15 H13c TX TY PX PY SX SY AG AG2 CX CY
              have p0 : W10.cell? ⟨g15, 0, none⟩ = some (.int .i64 hA) := BP15b.out.cell 0
              have p1 : W10.cell? ⟨g15, 1, none⟩ = some (.int .i64 kA) := BP15b.out.cell 1
              have p2 : W10.cell? ⟨g15, 2, none⟩ = some (.bool true) := BP15b.out.cell 2
              have p3 : W10.cell? ⟨g15, 3, none⟩ = some (.bool true) := BP15b.out.cell 3
              have p4 : W10.cell? ⟨g15, 4, none⟩ = some (.int .u32 ny) := BP15b.out.cell 4
              have yy : W10.cell? ⟨gX + 1, 1, none⟩ = some (.int .u32 ny) := K9.out.cell_some y1h.out (fun x => x)
              have t1 : (hA == hA) = true := beq_self_eq_true _
              have t2 : (kA == kA) = true := beq_self_eq_true _
              have t3 : (ny == ny) = true := beq_self_eq_true _
              have HKF := Lib.hid (K2.out.trans K9.out)
              cases nn with
              | true =>
                have q0 : W10.cell? ⟨g16, 0, none⟩ = some (.int .i64 hA) := BP16.out.cell 0
                have q1 : W10.cell? ⟨g16, 1, none⟩ = some (.int .i64 kA) := BP16.out.cell 1
                have q2 : W10.cell? ⟨g16, 2, none⟩ = some (.bool false) := BP16.out.cell 2
                have q3 : W10.cell? ⟨g16, 3, none⟩ = some (.bool false) := BP16.out.cell 3
                have q4 : W10.cell? ⟨g16, 4, none⟩ = some (.int .u32 23456) := BP16.out.cell 4
                clear BP16 BP15b
                go_wp2_with (go_at_call 33; refine (HWK.out W10 K9.out).mono ?_; rintro e w11 ⟨rfl, hk11⟩; (have HL := Lib.hid hk11); clear hk11)
                go_ret
                exact ⟨rfl, HKF.out.trans HL.out⟩
              | false =>
                have q0 : W10.cell? ⟨g16, 0, none⟩ = some (.int .i64 hA) := BP16.out.cell 0
                have q1 : W10.cell? ⟨g16, 1, none⟩ = some (.int .i64 kA) := BP16.out.cell 1
                have q2 : W10.cell? ⟨g16, 2, none⟩ = some (.bool true) := BP16.out.cell 2
                have q3 : W10.cell? ⟨g16, 3, none⟩ = some (.bool true) := BP16.out.cell 3
                have q4 : W10.cell? ⟨g16, 4, none⟩ = some (.int .u32 70000) := BP16.out.cell 4
                clear BP16 BP15b
                go_wp2_with (go_at_call 33; refine (HWK.out W10 K9.out).mono ?_; rintro e w11 ⟨rfl, hk11⟩; (have HL := Lib.hid hk11); clear hk11)
                go_ret
                exact ⟨rfl, HKF.out.trans HL.out⟩
end Go.Proofs.YtembdobkgpojfaaDoor
