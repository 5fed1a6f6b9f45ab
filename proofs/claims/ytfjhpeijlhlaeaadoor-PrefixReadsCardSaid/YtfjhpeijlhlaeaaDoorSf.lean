
/-
  PrefixReads: the document's Read, walked.
-/
import Derived.Test.YtfjhpeijlhlaeaaDoorSe
namespace Go.Proofs.YtfjhpeijlhlaeaaDoor
open Go.RowKit

theorem rpfx_info : (Tryd.prog.info? 27).map (fun i => (i.zero, i.size, i.bytes)) = some (some (.agg #[.int .u32 0, .int .i64 0]), 2, 16) := by kernel_rfl
/-- An address's bytes, so many of them. -/
def pj (t : List UInt8) : Nat → Nat
  | 0 => 0
  | k + 1 => 256 * pj t k + (t.getD k 0).toNat
theorem pj_lt (t : List UInt8) : ∀ k, pj t k < 256 ^ k
  | 0 => by simp [pj]
  | k + 1 => by
    have := pj_lt t k
    have h := (t.getD k 0).toNat_lt
    rw [Nat.pow_succ]
    show 256 * pj t k + (t.getD k 0).toNat < _
    omega
theorem pj_four (t : List UInt8) : pj t 4 = padJ t := by
  unfold padJ pj pj pj pj pj
  omega
set_option maxRecDepth 20000 in
set_option maxHeartbeats 4000000 in
theorem rread_any (v : Value) (l : List UInt8) (hl : l.length ≤ 100000) (w : World) (hv : By w v l) :
    Calls Tryd.prog 34 #[v] w fun e w' => ∃ rv, e = .returned (.tuple #[rv, .int .i64 (readL l).2]) ∧ w'.ownsRow w.heap.size 27 2 rv (readL l).1.length (pcs (readL l).1) ∧ Kept Nothing w w' := by
  obtain ⟨A, c, rfl, hc, hm⟩ := hv.form
  obtain ⟨i0, hi, hz0, hz1, hz2⟩ := info_parts rpfx_info
  go_enter Tryd.func34, Tryd.ntmps34
  go_wp2
  go_loopw [4, 5] (fun u at_ wr => ∃ (a : Nat) (acc : List (Nat × Nat)), a ≤ l.length ∧ at_ = .int .i64 a ∧ wr.ownsRow w.heap.size 27 2 u acc.length (pcs acc) ∧ acc.length ≤ a ∧ Kept Nothing w wr ∧ Hid (Rest l acc (l.drop a))) (fun _ at_ _ => l.length - (intOf at_).toNat)
  case atStart => exact ⟨0, [], by omega, rfl, World.ownsRow_nil _ _ _ _, by simp, Kept.refl _ w, Lib.hid (Rest.start l)⟩
  case round =>
    obtain ⟨a, acc, ha, rfl, ho, hal, hk, HR⟩ := hrel
    have HO := Lib.hid ho
    by_cases hlt : a < l.length
    · obtain ⟨bk, o, rfl, hcell⟩ := hv.at (by omega)
      have c0 := hk.cell_some (hcell a hlt) (fun x => x)
      have ed : l.drop a = l.getD a 0 :: l.drop (a + 1) := by
        rw [List.drop_eq_getElem_cons hlt, List.getD_eq_getElem?_getD, List.getElem?_eq_getElem hlt]; rfl
      rw [ed] at HR
      have hcr : ∀ j, a + 1 + j < l.length → w.cell? ⟨bk, o + (a + 1 + j), none⟩ = some (by8 ((l.drop (a + 1)).getD j 0)) := fun j hj => by
        have := hcell (a + 1 + j) hj
        rwa [show (l.drop (a + 1)).getD j 0 = l.getD (a + 1 + j) 0 by rw [List.getD_eq_getElem?_getD, List.getD_eq_getElem?_getD, List.getElem?_drop]]
      have hrl : (l.drop (a + 1)).length = l.length - (a + 1) := List.length_drop
      have hdd : ∀ n, (l.drop (a + 1)).drop n = l.drop (a + 1 + n) := fun n => List.drop_drop
      generalize l.drop (a + 1) = r at *
      generalize l.getD a 0 = b at *
      have hb := b.toNat_lt
      replace c0 : wr.cell? ⟨bk, o + a, none⟩ = some (.int .u8 (b.toNat : Nat)) := by simpa [by8] using c0
      have h1 : (a : Int) < (l.length : Int) := by omega
      have h0 : (0 : Int) ≤ (a : Int) := by omega
      clear hcell ho ed
      by_cases h32 : 32 < b.toNat
      · have HE := Lib.hid (HR.out.form h32)
        have h33 : (32 : Int) < (b.toNat : Int) := by omega
        clear hcr hdd hv hm hc hrl HR HO
        go_wp2
        go_ret2
        exact ⟨_, by rw [HE.out]; rfl, by rw [HE.out]; exact World.ownsRow_nil _ _ _ _, hk⟩
      have h33 : (b.toNat : Int) ≤ 32 := by omega
      have hsz : szB b.toNat ≤ 4 := by unfold szB; omega
      have hs8 : ∀ k, 8 * k < b.toNat ↔ k < szB b.toNat := fun k => by unfold szB; omega
      have HT := Lib.hid (fun k (h : szB b.toNat ≤ k) => show (r.take (szB b.toNat)).getD k 0 = 0 by rw [List.getD_eq_getElem?_getD, List.getElem?_eq_none (by simp; omega)]; rfl)
      have HG := Lib.hid (fun k (h : k < szB b.toNat) => show (r.take (szB b.toNat)).getD k 0 = r.getD k 0 by rw [List.getD_eq_getElem?_getD, List.getD_eq_getElem?_getD, List.getElem?_take_of_lt h])
      have HC := Lib.hid hcr
      have HD := Lib.hid hdd
      have H8 := Lib.hid hs8
      have h32' : b.toNat ≤ 32 := by omega
      clear hcr hdd hs8
      go_wp2
      have ht0 : (r.take (szB b.toNat)).length ≤ szB b.toNat := by simp; omega
      generalize ht : r.take (szB b.toNat) = t at HT HG ht0
      have HPF := Lib.hid (pj_four t)
      generalize hszz : szB b.toNat = sz at *
      have HN := Lib.hid (fun h => HR.out.next h32 (by rw [hszz]; exact h))
      have HS := Lib.hid (fun h => HR.out.short h32 (by rw [hszz]; exact h))
      rw [hszz, ht] at HN
      try rw [hszz] at HS
      clear ht hszz HR
      go_loopw [5, 7, 8] (fun p_ x_ k_ wq => ∃ (k p : Nat), k ≤ 4 ∧ p = a + 1 + min k sz ∧ p ≤ l.length ∧ p_ = .int .i64 (p : Nat) ∧ x_ = .int .u32 (pj t k : Nat) ∧ k_ = .int .i64 (k : Nat) ∧ Kept Nothing wr wq) (fun _ _ k_ _ => 4 - (intOf k_).toNat)
      case atStart => exact ⟨0, a + 1, by omega, by omega, by omega, by go_num, rfl, rfl, Kept.refl _ wr⟩
      case round =>
        obtain ⟨k, p, hk4, hp, hpl, rfl, rfl, rfl, kq⟩ := hrel
        by_cases h4 : k = 4
        · subst h4
          have hnl : ¬ r.length < sz := by omega
          have HN := Lib.hid (HN.out hnl)
          have hpp : p = a + 1 + sz := by omega
          subst hpp
          rw [HD.out sz] at HN
          rw [HPF.out]
          have hx := padJ_lt t
          have hlen : acc.length + 1 ≤ a + 1 + sz := by omega
          generalize padJ t = x at *
          have HOF : Hid (∀ w, Calls Tryd.prog 25 #[.int .u32 (x : Int), .int .i64 (b.toNat : Int)] w fun e w' => e = .returned (.agg #[.int .u32 (low x b.toNat : Nat), .int .i64 (b.toNat : Nat)]) ∧ Kept Nothing w w') := Lib.hid (fun w => by
            have := rof_any x b.toNat hx w
            rwa [show cl (b.toNat : Int) = b.toNat by unfold cl; rw [if_neg (by omega), if_neg (by omega)]; omega] at this)
          clear HT HG HPF HS HC HD H8 hp hnl
          go_wp2_with (first
            | (go_at_call 25; refine (HOF.out _).mono ?_; rintro e w4 ⟨rfl, hk4⟩; have kq4 := kq.trans hk4)
            | (at_builtin; refine wpList_app _ rfl _ _ 61 rfl w.heap.size 27 i0 _ 2 16 Tryd.underlying61 hi hz0 hz1 hz2 rfl (by decide) u4 acc.length (pcs acc) rfl ((ow_kept HO.out kq4 (fun _ _ x => x)).alloc _) (some ⟨w4.heap.size, 0, none⟩) 1 1 [.int .u32 (low x b.toNat : Nat), .int .i64 (b.toNat : Nat)] rfl (src_new w4 _ _ 2 1 rfl (by simp [Value.oneCell'])) (by simp [maxLen]; omega) (by omega) (by have := (hk.trans kq4).size; simp; omega) ?_; intro v' w6 ho6 hg6 hat6))
          go_roundw
          case rel =>
            refine ⟨a + 1 + sz, acc ++ [(low x b.toNat, b.toNat)], hpl, by go_num, ?_, by simp; omega, ?_, HN⟩
            · rw [List.length_append, pcs_append]
              exact ho6
            · exact ((hk.trans kq4).alloc _).grown hg6 (fun k hk' hlt => by have := (HO.out.lt k hk').1; omega)
          case measure => simp [intOf]; omega
        have hxk := pj_lt t k
        have hx24 : pj t k < 16777216 := by
          have : (256:Nat) ^ k ≤ 256 ^ 3 := Nat.pow_le_pow_right (by omega) (by omega)
          omega
        have hpk : pj t (k + 1) = 256 * pj t k + (t.getD k 0).toNat := rfl
        by_cases hb8 : 8 * k < b.toNat
        · have hks := (H8.out k).1 hb8
          have hb8i : (8 : Int) * (k : Int) < (b.toNat : Int) := by omega
          have hpe : p = a + 1 + k := by omega
          subst hpe
          rw [HG.out k hks] at hpk
          by_cases hin : a + 1 + k < l.length
          · have cc := (hk.trans kq).cell_some (HC.out k hin) (fun x => x)
            have hy := (r.getD k 0).toNat_lt
            generalize r.getD k 0 = y at cc hpk hy
            replace cc : wr.cell? ⟨bk, o + (a + 1 + k), none⟩ = some (.int .u8 (y.toNat : Nat)) := by simpa [by8] using cc
            have HP := Lib.hid hpk
            have hin1 : ((a + 1 + k : Nat) : Int) < (l.length : Int) := by omega
            clear hpk hxk hv HT HG HPF HS HC HD H8 HN hp
            generalize pj t k = x at *
            generalize hpp : a + 1 + k = p at *
            have HPP := Lib.hid hpp
            have HKS := Lib.hid hks
            clear hpp hks
            go_wp2
            go_roundw
            case rel => exact ⟨k + 1, p + 1, by omega, by have := HPP.out; have := HKS.out; omega, by omega, by go_num, by rw [HP.out]; go_num, by go_num, kq⟩
            case measure => simp [intOf]; omega
          · have HE := Lib.hid (HS.out (by omega))
            have hin1 : (l.length : Int) ≤ ((a + 1 + k : Nat) : Int) := by omega
            clear hpk hxk hv HT HG HPF HS HC HD H8 HN hp
            generalize pj t k = x at *
            generalize hpp : a + 1 + k = p at *
            clear hpp hks
            go_wp2
            go_ret2
            exact ⟨_, by rw [HE.out]; rfl, by rw [HE.out]; exact World.ownsRow_nil _ _ _ _, hk.trans kq⟩
        · have hks : sz ≤ k := by have := H8.out k; omega
          have hb8i : (b.toNat : Int) ≤ (8 : Int) * (k : Int) := by omega
          rw [HT.out k hks] at hpk
          have HP := Lib.hid (show pj t (k + 1) = 256 * pj t k from hpk)
          clear hpk hxk hv HT HG HPF HS HC HD H8 HN
          generalize pj t k = x at *
          go_wp2
          go_roundw
          case rel => exact ⟨k + 1, p, by omega, by omega, by omega, rfl, by rw [HP.out]; go_num, by go_num, kq⟩
          case measure => simp [intOf]; omega
    · have e : l.drop a = [] := List.drop_eq_nil_of_le (by omega)
      rw [e] at HR
      have HE := Lib.hid HR.out.end
      have h1 : (l.length : Int) ≤ (a : Int) := by omega
      clear ho e hv
      go_wp2
      go_ret2
      exact ⟨_, by rw [HE.out]; rfl, by rw [HE.out]; exact HO.out, hk⟩
end Go.Proofs.YtfjhpeijlhlaeaaDoor
