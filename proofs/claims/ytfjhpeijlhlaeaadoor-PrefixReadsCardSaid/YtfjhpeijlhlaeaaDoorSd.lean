
/-
  PrefixReads: the document's Parse, walked.
-/
import Derived.Test.YtfjhpeijlhlaeaaDoorSc
namespace Go.Proofs.YtfjhpeijlhlaeaaDoor
open Go.RowKit

set_option maxHeartbeats 2000000 in
theorem rparse_any (s : ByteArray) (hs : s.size ≤ 100000) (w : World) :
    Calls Tryd.prog 32 #[.string s] w fun e w' => e = .returned (ptup (rparse s.data.toList)) ∧ Kept Nothing w w' := by
  have HA := raddress_any s hs
  have hN := fun p hp w => rnumber_any s p hp hs w
  have hI := fun p h w => str_at0 s p h w
  have hl : s.data.toList.length = s.size := by simp
  have hD := rparse.eq_1 s.data.toList
  have hsp := adv_spec s.data.toList
  have k0 : Kept Nothing w (w.alloc (.cells #[.int .u32 0, .int .i64 0] 27)) := (Kept.refl _ w).alloc _
  have HB := Lib.hid (Blk.fresh w 27 #[.int .u32 0, .int .i64 0])
  have c0 : (w.alloc (.cells #[.int .u32 0, .int .i64 0] 27)).cell? ⟨w.heap.size, 0, none⟩ = some (.int .u32 0) := HB.out.cell 0
  have c1 : (w.alloc (.cells #[.int .u32 0, .int .i64 0] 27)).cell? ⟨w.heap.size, 1, none⟩ = some (.int .i64 0) := HB.out.cell 1
  have f0 := HB.out.free 0
  have f1 := HB.out.free 1
  generalize s.data.toList = l at *
  rcases hsp with ⟨h, e⟩ | ⟨r, x, f, h, hr, hdr, e, hx⟩
  · rw [e] at HA
    rw [h] at hD
    have HD := Lib.hid (show rparse l = ((0, 0), 5) from hD)
    have HA := Lib.hid HA
    clear hD h e hN hI
    go_enter Tryd.func32, Tryd.ntmps32
    go_wp2_with (first
        | (go_at_call 51; refine (HA.out _).mono ?_; rintro e w1 ⟨rfl, rfl⟩)
        | (go_at_call 53; refine (HN.out _).mono ?_; rintro e w1 ⟨rfl, rfl⟩)
        | (go_at_call 12; refine (HM.out _).mono ?_; rintro e w4 ⟨rfl, hk4⟩; have hB4 := (HB.out.alloc (.cells #[.int .u32 (x : Nat), .int .i64 (n : Nat)] 27)).kept hk4 (fun x => x); have hC4 := HC.out.kept hk4 (fun x => x); have b0 : w4.cell? ⟨w.heap.size, 0, none⟩ = some (.int .u32 0) := hB4.cell 0; have b1 : w4.cell? ⟨w.heap.size, 1, none⟩ = some (.int .i64 0) := hB4.cell 1; have g0 := hB4.free 0; have g1 := hB4.free 1; have e0 : w4.cell? ⟨w.heap.size + 1, 0, none⟩ = some (.int .u32 (x : Nat)) := hC4.cell 0; have e1 : w4.cell? ⟨w.heap.size + 1, 1, none⟩ = some (.int .i64 (n : Nat)) := hC4.cell 1; have k4 := (k0.alloc (.cells #[.int .u32 (x : Nat), .int .i64 (n : Nat)] 27)).trans hk4; have HC4 := Lib.hid hC4; have HB4 := Lib.hid hB4; clear hB4 hC4))
    refine bodyPost_ret (v := ptup ((0, 0), 5)) (by simp [results, Tryd.results32, go_sem, c0, c1, ptup]) rfl ⟨by rw [HD.out], ?_⟩
    first | exact k0 | exact (k0.setCell (p := ⟨w.heap.size, 0, none⟩) (fun h => absurd h (by simp)) _).setCell (p := ⟨w.heap.size, 1, none⟩) (fun h => absurd h (by simp)) _
  rw [e] at HA
  rw [h] at hD
  have hD : rparse l = if r.getD 0 0 ≠ 47 then ((0, 0), 5) else if (rr (r.drop 1)).2 = 0 ∨ (rr (r.drop 1)).2 ≠ (r.drop 1).length then ((0, 0), 5) else if f = false ∨ may x ((rr (r.drop 1)).1 : Nat) = false then ((0, 0), 24) else ((x, (rr (r.drop 1)).1), 0) := hD
  clear h e
  by_cases hn : r = []
  · subst hn
    rw [if_pos (by decide)] at hD
    have h0 : (((l.length - 0 : Nat) : Int) == 0) = false := by have : 0 < l.length := hr; have e : l.length - 0 = l.length := rfl; rw [e]; simp only [beq_eq_false_iff_ne]; omega
    have HA := Lib.hid HA
    simp only [List.length_nil] at HA
    rw [Nat.sub_zero, hl] at HA h0
    have HD := Lib.hid hD
    clear hD hN hI hr hdr
    go_enter Tryd.func32, Tryd.ntmps32
    go_wp2_with (first
        | (go_at_call 51; refine (HA.out _).mono ?_; rintro e w1 ⟨rfl, rfl⟩)
        | (go_at_call 53; refine (HN.out _).mono ?_; rintro e w1 ⟨rfl, rfl⟩)
        | (go_at_call 12; refine (HM.out _).mono ?_; rintro e w4 ⟨rfl, hk4⟩; have hB4 := (HB.out.alloc (.cells #[.int .u32 (x : Nat), .int .i64 (n : Nat)] 27)).kept hk4 (fun x => x); have hC4 := HC.out.kept hk4 (fun x => x); have b0 : w4.cell? ⟨w.heap.size, 0, none⟩ = some (.int .u32 0) := hB4.cell 0; have b1 : w4.cell? ⟨w.heap.size, 1, none⟩ = some (.int .i64 0) := hB4.cell 1; have g0 := hB4.free 0; have g1 := hB4.free 1; have e0 : w4.cell? ⟨w.heap.size + 1, 0, none⟩ = some (.int .u32 (x : Nat)) := hC4.cell 0; have e1 : w4.cell? ⟨w.heap.size + 1, 1, none⟩ = some (.int .i64 (n : Nat)) := hC4.cell 1; have k4 := (k0.alloc (.cells #[.int .u32 (x : Nat), .int .i64 (n : Nat)] 27)).trans hk4; have HC4 := Lib.hid hC4; have HB4 := Lib.hid hB4; clear hB4 hC4))
    refine bodyPost_ret (v := ptup ((0, 0), 5)) (by simp [results, Tryd.results32, go_sem, c0, c1, ptup]) rfl ⟨by rw [HD.out], ?_⟩
    first | exact k0 | exact (k0.setCell (p := ⟨w.heap.size, 0, none⟩) (fun h => absurd h (by simp)) _).setCell (p := ⟨w.heap.size, 1, none⟩) (fun h => absurd h (by simp)) _
  have hp := List.length_pos_iff.2 hn
  generalize hm : l.length - r.length = m at HA hdr
  have hms : m < s.size := by omega
  have hi := hI m hms
  rw [hdr] at hi
  have h0 : ((m : Int) == 0) = false := by simp; omega
  have h1 : (m : Int) < (s.size : Int) := by omega
  have HA := Lib.hid HA
  have hN := hN (m + 1) (by omega)
  have em : ((m + 1 : Nat) : Int) = (m : Int) + 1 := by omega
  have hd1 : l.drop (m + 1) = r.drop 1 := by rw [← hdr, List.drop_drop]
  rw [em, hd1] at hN
  have hle := rr_le (r.drop 1)
  have hlt := rr_lt (r.drop 1)
  have hlr : m + 1 + (r.drop 1).length = s.size := by rw [List.length_drop]; omega
  clear hI hdr em hd1 hr hn hp hm
  by_cases h47 : r.getD 0 0 ≠ 47
  · rw [if_pos h47] at hD
    have h3 : (((r.getD 0 0).toNat : Int) == 47) = false := by
      have : (r.getD 0 0).toNat ≠ 47 := fun e => h47 (UInt8.toNat_inj.1 (by rw [e]; rfl))
      simp only [beq_eq_false_iff_ne]
      omega
    have h3' : (((r.getD 0 0).toNat : Int) != 47) = true := by simp only [bne, h3]; rfl
    have HD := Lib.hid hD
    clear hD hN h47 hle hlt hlr
    generalize r.getD 0 0 = c at hi h3 h3'
    go_enter Tryd.func32, Tryd.ntmps32
    go_wp2_with (first
        | (go_at_call 51; refine (HA.out _).mono ?_; rintro e w1 ⟨rfl, rfl⟩)
        | (go_at_call 53; refine (HN.out _).mono ?_; rintro e w1 ⟨rfl, rfl⟩)
        | (go_at_call 12; refine (HM.out _).mono ?_; rintro e w4 ⟨rfl, hk4⟩; have hB4 := (HB.out.alloc (.cells #[.int .u32 (x : Nat), .int .i64 (n : Nat)] 27)).kept hk4 (fun x => x); have hC4 := HC.out.kept hk4 (fun x => x); have b0 : w4.cell? ⟨w.heap.size, 0, none⟩ = some (.int .u32 0) := hB4.cell 0; have b1 : w4.cell? ⟨w.heap.size, 1, none⟩ = some (.int .i64 0) := hB4.cell 1; have g0 := hB4.free 0; have g1 := hB4.free 1; have e0 : w4.cell? ⟨w.heap.size + 1, 0, none⟩ = some (.int .u32 (x : Nat)) := hC4.cell 0; have e1 : w4.cell? ⟨w.heap.size + 1, 1, none⟩ = some (.int .i64 (n : Nat)) := hC4.cell 1; have k4 := (k0.alloc (.cells #[.int .u32 (x : Nat), .int .i64 (n : Nat)] 27)).trans hk4; have HC4 := Lib.hid hC4; have HB4 := Lib.hid hB4; clear hB4 hC4))
    refine bodyPost_ret (v := ptup ((0, 0), 5)) (by simp [results, Tryd.results32, go_sem, c0, c1, ptup]) rfl ⟨by rw [HD.out], ?_⟩
    first | exact k0 | exact (k0.setCell (p := ⟨w.heap.size, 0, none⟩) (fun h => absurd h (by simp)) _).setCell (p := ⟨w.heap.size, 1, none⟩) (fun h => absurd h (by simp)) _
  rw [if_neg h47] at hD
  have h47 : r.getD 0 0 = 47 := by simpa using h47
  rw [h47] at hi
  have hi : ∀ w, (Instr.index 9 (.string s) (.int .i64 (m : Int))).run Tryd.prog w = .ok (.int .u8 47) w := hi
  clear h47
  generalize (r.drop 1).length = len at *
  generalize (rr (r.drop 1)).1 = n at *
  generalize (rr (r.drop 1)).2 = j at *
  have HN := Lib.hid hN
  clear hN
  by_cases hj : j = 0
  · rw [if_pos (.inl hj)] at hD
    subst hj
    have HD := Lib.hid hD
    clear hD
    go_enter Tryd.func32, Tryd.ntmps32
    go_wp2_with (first
        | (go_at_call 51; refine (HA.out _).mono ?_; rintro e w1 ⟨rfl, rfl⟩)
        | (go_at_call 53; refine (HN.out _).mono ?_; rintro e w1 ⟨rfl, rfl⟩)
        | (go_at_call 12; refine (HM.out _).mono ?_; rintro e w4 ⟨rfl, hk4⟩; have hB4 := (HB.out.alloc (.cells #[.int .u32 (x : Nat), .int .i64 (n : Nat)] 27)).kept hk4 (fun x => x); have hC4 := HC.out.kept hk4 (fun x => x); have b0 : w4.cell? ⟨w.heap.size, 0, none⟩ = some (.int .u32 0) := hB4.cell 0; have b1 : w4.cell? ⟨w.heap.size, 1, none⟩ = some (.int .i64 0) := hB4.cell 1; have g0 := hB4.free 0; have g1 := hB4.free 1; have e0 : w4.cell? ⟨w.heap.size + 1, 0, none⟩ = some (.int .u32 (x : Nat)) := hC4.cell 0; have e1 : w4.cell? ⟨w.heap.size + 1, 1, none⟩ = some (.int .i64 (n : Nat)) := hC4.cell 1; have k4 := (k0.alloc (.cells #[.int .u32 (x : Nat), .int .i64 (n : Nat)] 27)).trans hk4; have HC4 := Lib.hid hC4; have HB4 := Lib.hid hB4; clear hB4 hC4))
    refine bodyPost_ret (v := ptup ((0, 0), 5)) (by simp [results, Tryd.results32, go_sem, c0, c1, ptup]) rfl ⟨by rw [HD.out], ?_⟩
    first | exact k0 | exact (k0.setCell (p := ⟨w.heap.size, 0, none⟩) (fun h => absurd h (by simp)) _).setCell (p := ⟨w.heap.size, 1, none⟩) (fun h => absurd h (by simp)) _
  have hj0 : ((j : Int) == 0) = false := by simp; omega
  by_cases hjl : j = len
  · rw [if_neg (by rintro (h | h); exact hj h; exact h hjl)] at hD
    subst hjl
    have hj0 : ((j : Int) == 0) = false := by simp; omega
    have h4 : ¬ ((m : Int) + 1 + (j : Int) < (s.size : Int)) := by omega
    clear hj hle
    have HM := Lib.hid (rmay_any x (n : Int) hx)
    have HC : Hid (Blk ((w.alloc (.cells #[.int .u32 0, .int .i64 0] 27)).alloc (.cells #[.int .u32 (x : Nat), .int .i64 (n : Nat)] 27)) (w.heap.size + 1) 27 #[.int .u32 (x : Nat), .int .i64 (n : Nat)]) := Lib.hid (by
      have := Blk.fresh (w.alloc (.cells #[.int .u32 0, .int .i64 0] 27)) 27 #[.int .u32 (x : Nat), .int .i64 (n : Nat)]
      rwa [World.size_alloc] at this)
    cases f with
    | false =>
      rw [if_pos (.inl rfl)] at hD
      have HD := Lib.hid hD
      clear hD
      go_enter Tryd.func32, Tryd.ntmps32
      have q0 : ((w.alloc (.cells #[.int .u32 0, .int .i64 0] 27)).alloc (.cells #[.int .u32 (x : Nat), .int .i64 (n : Nat)] 27)).cell? ⟨w.heap.size, 0, none⟩ = some (.int .u32 0) := (HB.out.alloc _).cell 0
      have q1 : ((w.alloc (.cells #[.int .u32 0, .int .i64 0] 27)).alloc (.cells #[.int .u32 (x : Nat), .int .i64 (n : Nat)] 27)).cell? ⟨w.heap.size, 1, none⟩ = some (.int .i64 0) := (HB.out.alloc _).cell 1
      have p0 := (HB.out.alloc (.cells #[.int .u32 (x : Nat), .int .i64 (n : Nat)] 27)).free 0
      have p1 := (HB.out.alloc (.cells #[.int .u32 (x : Nat), .int .i64 (n : Nat)] 27)).free 1
      go_wp2_with (first
          | (go_at_call 51; refine (HA.out _).mono ?_; rintro e w1 ⟨rfl, rfl⟩)
          | (go_at_call 53; refine (HN.out _).mono ?_; rintro e w1 ⟨rfl, rfl⟩)
          | (go_at_call 12; refine (HM.out _).mono ?_; rintro e w4 ⟨rfl, hk4⟩; have hB4 := (HB.out.alloc (.cells #[.int .u32 (x : Nat), .int .i64 (n : Nat)] 27)).kept hk4 (fun x => x); have hC4 := HC.out.kept hk4 (fun x => x); have b0 : w4.cell? ⟨w.heap.size, 0, none⟩ = some (.int .u32 0) := hB4.cell 0; have b1 : w4.cell? ⟨w.heap.size, 1, none⟩ = some (.int .i64 0) := hB4.cell 1; have g0 := hB4.free 0; have g1 := hB4.free 1; have e0 : w4.cell? ⟨w.heap.size + 1, 0, none⟩ = some (.int .u32 (x : Nat)) := hC4.cell 0; have e1 : w4.cell? ⟨w.heap.size + 1, 1, none⟩ = some (.int .i64 (n : Nat)) := hC4.cell 1; have k4 := (k0.alloc (.cells #[.int .u32 (x : Nat), .int .i64 (n : Nat)] 27)).trans hk4; have HC4 := Lib.hid hC4; have HB4 := Lib.hid hB4; clear hB4 hC4))
      refine bodyPost_ret (v := ptup ((0, 0), 24)) (by simp [results, Tryd.results32, go_sem, q0, q1, ptup]) rfl ⟨by rw [HD.out], ?_⟩
      first | exact k0.alloc _ | exact ((k0.alloc _).setCell (p := ⟨w.heap.size, 0, none⟩) (fun h => absurd h (by simp)) _).setCell (p := ⟨w.heap.size, 1, none⟩) (fun h => absurd h (by simp)) _
    | true =>
      cases hm : may x (n : Int) with
      | false =>
        rw [if_pos (.inr hm)] at hD
        rw [hm] at HM
        have HD := Lib.hid hD
        clear hD hm
        go_enter Tryd.func32, Tryd.ntmps32
        go_wp2_with (first
            | (go_at_call 51; refine (HA.out _).mono ?_; rintro e w1 ⟨rfl, rfl⟩)
            | (go_at_call 53; refine (HN.out _).mono ?_; rintro e w1 ⟨rfl, rfl⟩)
            | (go_at_call 12; refine (HM.out _).mono ?_; rintro e w4 ⟨rfl, hk4⟩; have hB4 := (HB.out.alloc (.cells #[.int .u32 (x : Nat), .int .i64 (n : Nat)] 27)).kept hk4 (fun x => x); have hC4 := HC.out.kept hk4 (fun x => x); have b0 : w4.cell? ⟨w.heap.size, 0, none⟩ = some (.int .u32 0) := hB4.cell 0; have b1 : w4.cell? ⟨w.heap.size, 1, none⟩ = some (.int .i64 0) := hB4.cell 1; have g0 := hB4.free 0; have g1 := hB4.free 1; have e0 : w4.cell? ⟨w.heap.size + 1, 0, none⟩ = some (.int .u32 (x : Nat)) := hC4.cell 0; have e1 : w4.cell? ⟨w.heap.size + 1, 1, none⟩ = some (.int .i64 (n : Nat)) := hC4.cell 1; have k4 := (k0.alloc (.cells #[.int .u32 (x : Nat), .int .i64 (n : Nat)] 27)).trans hk4; have HC4 := Lib.hid hC4; have HB4 := Lib.hid hB4; clear hB4 hC4))
        refine bodyPost_ret (v := ptup ((0, 0), 24)) (by simp [results, Tryd.results32, go_sem, b0, b1, ptup]) rfl ⟨by rw [HD.out], ?_⟩
        first | exact k4 | exact (k4.setCell (p := ⟨w.heap.size, 0, none⟩) (fun h => absurd h (by simp)) _).setCell (p := ⟨w.heap.size, 1, none⟩) (fun h => absurd h (by simp)) _
      | true =>
        rw [if_neg (by rw [hm]; simp)] at hD
        rw [hm] at HM
        have HD := Lib.hid hD
        clear hD hm
        go_enter Tryd.func32, Tryd.ntmps32
        go_wp2_with (first
            | (go_at_call 51; refine (HA.out _).mono ?_; rintro e w1 ⟨rfl, rfl⟩)
            | (go_at_call 53; refine (HN.out _).mono ?_; rintro e w1 ⟨rfl, rfl⟩)
            | (go_at_call 12; refine (HM.out _).mono ?_; rintro e w4 ⟨rfl, hk4⟩; have hB4 := (HB.out.alloc (.cells #[.int .u32 (x : Nat), .int .i64 (n : Nat)] 27)).kept hk4 (fun x => x); have hC4 := HC.out.kept hk4 (fun x => x); have b0 : w4.cell? ⟨w.heap.size, 0, none⟩ = some (.int .u32 0) := hB4.cell 0; have b1 : w4.cell? ⟨w.heap.size, 1, none⟩ = some (.int .i64 0) := hB4.cell 1; have g0 := hB4.free 0; have g1 := hB4.free 1; have e0 : w4.cell? ⟨w.heap.size + 1, 0, none⟩ = some (.int .u32 (x : Nat)) := hC4.cell 0; have e1 : w4.cell? ⟨w.heap.size + 1, 1, none⟩ = some (.int .i64 (n : Nat)) := hC4.cell 1; have k4 := (k0.alloc (.cells #[.int .u32 (x : Nat), .int .i64 (n : Nat)] 27)).trans hk4; have HC4 := Lib.hid hC4; have HB4 := Lib.hid hB4; clear hB4 hC4))
        refine bodyPost_ret (v := ptup ((x, n), 0)) (by simp [results, Tryd.results32, go_sem, b0, b1, ptup]) rfl ⟨by rw [HD.out], ?_⟩
        first | exact k4 | exact (k4.setCell (p := ⟨w.heap.size, 0, none⟩) (fun h => absurd h (by simp)) _).setCell (p := ⟨w.heap.size, 1, none⟩) (fun h => absurd h (by simp)) _
  · rw [if_pos (.inr hjl)] at hD
    have h4 : (m : Int) + 1 + (j : Int) < (s.size : Int) := by omega
    have HD := Lib.hid hD
    clear hD
    go_enter Tryd.func32, Tryd.ntmps32
    go_wp2_with (first
        | (go_at_call 51; refine (HA.out _).mono ?_; rintro e w1 ⟨rfl, rfl⟩)
        | (go_at_call 53; refine (HN.out _).mono ?_; rintro e w1 ⟨rfl, rfl⟩)
        | (go_at_call 12; refine (HM.out _).mono ?_; rintro e w4 ⟨rfl, hk4⟩; have hB4 := (HB.out.alloc (.cells #[.int .u32 (x : Nat), .int .i64 (n : Nat)] 27)).kept hk4 (fun x => x); have hC4 := HC.out.kept hk4 (fun x => x); have b0 : w4.cell? ⟨w.heap.size, 0, none⟩ = some (.int .u32 0) := hB4.cell 0; have b1 : w4.cell? ⟨w.heap.size, 1, none⟩ = some (.int .i64 0) := hB4.cell 1; have g0 := hB4.free 0; have g1 := hB4.free 1; have e0 : w4.cell? ⟨w.heap.size + 1, 0, none⟩ = some (.int .u32 (x : Nat)) := hC4.cell 0; have e1 : w4.cell? ⟨w.heap.size + 1, 1, none⟩ = some (.int .i64 (n : Nat)) := hC4.cell 1; have k4 := (k0.alloc (.cells #[.int .u32 (x : Nat), .int .i64 (n : Nat)] 27)).trans hk4; have HC4 := Lib.hid hC4; have HB4 := Lib.hid hB4; clear hB4 hC4))
    refine bodyPost_ret (v := ptup ((0, 0), 5)) (by simp [results, Tryd.results32, go_sem, c0, c1, ptup]) rfl ⟨by rw [HD.out], ?_⟩
    first | exact k0 | exact (k0.setCell (p := ⟨w.heap.size, 0, none⟩) (fun h => absurd h (by simp)) _).setCell (p := ⟨w.heap.size, 1, none⟩) (fun h => absurd h (by simp)) _
end Go.Proofs.YtfjhpeijlhlaeaaDoor
