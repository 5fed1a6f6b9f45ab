
/-
  Lists of prefixes: read of bytes.
-/
import Derived.Test.YtfjhpeijlhlaeaaDoorPg
import Derived.Test.YtfjhpeijlhlaeaaDoorOw
namespace Go.Proofs.YtfjhpeijlhlaeaaDoor
open Go.RowKit

def szB (b : Nat) : Nat := (b + 7) / 8
/-- Four bytes joined, those that lack as 0. -/
def padJ (l : List UInt8) : Nat := (((l.getD 0 0).toNat * 256 + (l.getD 1 0).toNat) * 256 + (l.getD 2 0).toNat) * 256 + (l.getD 3 0).toNat
/-- A list's prefixes, and the error. -/
def readP : Nat → List UInt8 → List (Nat × Nat) × Int
  | 0, _ => ([], 0)
  | _ + 1, [] => ([], 0)
  | f + 1, b :: r =>
    if 32 < b.toNat then ([], 5)
    else if r.length < szB b.toNat then ([], 4)
    else if (readP f (r.drop (szB b.toNat))).2 = 0 then ((low (padJ (r.take (szB b.toNat))) b.toNat, b.toNat) :: (readP f (r.drop (szB b.toNat))).1, 0)
    else ([], (readP f (r.drop (szB b.toNat))).2)
theorem readP_fuel : ∀ (f g : Nat) (r : List UInt8), r.length ≤ f → r.length ≤ g → readP f r = readP g r
  | 0, 0, _, _, _ => rfl
  | 0, g + 1, [], _, _ => rfl
  | 0, _ + 1, _ :: _, h, _ => absurd h (by simp)
  | _ + 1, 0, [], _, _ => rfl
  | _ + 1, 0, _ :: _, _, h => absurd h (by simp)
  | _ + 1, _ + 1, [], _, _ => rfl
  | f + 1, g + 1, b :: r, h, h' => by
    have e := readP_fuel f g (r.drop (szB b.toNat)) (by simp at h ⊢; omega) (by simp at h' ⊢; omega)
    simp only [readP, e]
theorem readP_nil : ∀ (f : Nat) (r : List UInt8), (readP f r).2 ≠ 0 → (readP f r).1 = []
  | 0, _, h => rfl
  | _ + 1, [], h => rfl
  | f + 1, b :: r, h => by
    unfold readP at h ⊢
    split
    · rfl
    · split
      · rfl
      · split
        · next h1 h2 h3 => rw [if_neg h1, if_neg h2, if_pos h3] at h; exact absurd rfl h
        · rfl
def readL (l : List UInt8) : List (Nat × Nat) × Int := readP l.length l
theorem readL_cons (b : UInt8) (r : List UInt8) : readL (b :: r) =
    if 32 < b.toNat then ([], 5)
    else if r.length < szB b.toNat then ([], 4)
    else if (readL (r.drop (szB b.toNat))).2 = 0 then ((low (padJ (r.take (szB b.toNat))) b.toNat, b.toNat) :: (readL (r.drop (szB b.toNat))).1, 0)
    else ([], (readL (r.drop (szB b.toNat))).2) := by
  have e := readP_fuel r.length (r.drop (szB b.toNat)).length (r.drop (szB b.toNat)) (by simp) (Nat.le_refl _)
  unfold readL
  rw [List.length_cons, readP, e]

/-- The cells of prefixes in a row. -/
def pcs (l : List (Nat × Nat)) : List Value := l.flatMap fun p => [.int .u32 (p.1 : Nat), .int .i64 (p.2 : Nat)]
theorem pcs_append (a b : List (Nat × Nat)) : pcs (a ++ b) = pcs a ++ pcs b := List.flatMap_append
theorem pcs_len (a : List (Nat × Nat)) : (pcs a).length = a.length * 2 := by
  induction a with
  | nil => rfl
  | cons x a ih => show (_ :: _ :: pcs a).length = _; simp [ih]; omega

theorem By.at {w : World} {A : Option Addr} {n c : Nat} {l : List UInt8} (h : By w (.slice A n c) l) (h0 : 0 < n) : ∃ b o, A = some ⟨b, o, none⟩ ∧ ∀ i, i < n → w.cell? ⟨b, o + i, none⟩ = some (by8 (l.getD i 0)) := by
  obtain ⟨A', c', hv, hc, hm, s1, s2, s3, s4⟩ := h
  injection hv with h1 h2 h3
  subst h1 h2 h3
  cases hA : A with
  | none => have := s2 hA; omega
  | some a =>
    have hcell : ∀ i, i < l.length → w.cell? (a.add i) = some (by8 (l.getD i 0)) := fun i hi => s3 a hA i _ (getD_bys l i hi)
    obtain ⟨b, off, spot⟩ := a
    have hspot : spot = none := by simpa [Addr.add] using World.cell?_spot (hcell 0 h0)
    subst hspot
    refine ⟨b, off, rfl, fun i hi => ?_⟩
    have := hcell i hi
    rwa [add_none] at this

theorem slice_lo (A : Option Addr) (n c k : Nat) (hk : k ≤ n) (w : World) :
    (Instr.slice 48 (.slice A n c) (some (.int .i64 (k : Int))) none none).run Tryd.prog w = .ok (.slice (if c = k then A else A.map (·.add k)) (n - k) (c - k)) w := by
  have hz := Tryd.sizeOf5
  have he : Tryd.prog.elem 48 = 5 := by kernel_rfl
  rw [run_slice_l w 48 A n c (by kernel_rfl) .i64 k (by omega) (by omega), he, hz]
  simp [sliced]
theorem slice_hi (A : Option Addr) (n c k : Nat) (hk : k ≤ c) (w : World) :
    (Instr.slice 48 (.slice A n c) none (some (.int .i64 (k : Int))) none).run Tryd.prog w = .ok (.slice A k c) w := by
  have hz := Tryd.sizeOf5
  have he : Tryd.prog.elem 48 = 5 := by kernel_rfl
  rw [run_slice_h w 48 A n c (by kernel_rfl) .i64 k (by omega) (by omega), he, hz]
  cases A <;> simp [sliced, Addr.add]
theorem size_any (n : Nat) (h : n ≤ 256) (w : World) : Calls Tryd.prog 54 #[.int .i64 (n : Int)] w fun e w' => e = .returned (.int .i64 (szB n : Nat)) ∧ w = w' := by
  go_enter Tryd.func54, Tryd.ntmps54
  go_wp2
  go_ret
  exact ⟨ret_int (by unfold szB; omega), rfl⟩

theorem padJ_lt (l : List UInt8) : padJ l < 4294967296 := by
  have h0 := (l.getD 0 0).toNat_lt
  have h1 := (l.getD 1 0).toNat_lt
  have h2 := (l.getD 2 0).toNat_lt
  have h3 := (l.getD 3 0).toNat_lt
  unfold padJ
  omega
theorem pfx_info : (Tryd.prog.info? 25).map (fun i => (i.zero, i.size, i.bytes)) = some (some (.agg #[.int .u32 0, .int .i64 0]), 2, 16) := by kernel_rfl
/-- Behind what stands already. -/
def Rest (l : List UInt8) (acc : List (Nat × Nat)) (r : List UInt8) : Prop := readL l = if (readL r).2 = 0 then (acc ++ (readL r).1, 0) else ([], (readL r).2)

theorem Rest.start (l : List UInt8) : Rest l [] l := by
  unfold Rest
  rcases hq : readL l with ⟨a, e⟩
  by_cases h : e = 0
  · subst h; simp
  · simp only [if_neg h]
    have := readP_nil l.length l
    unfold readL at hq
    rw [hq] at this
    simp only at this
    rw [this h]
theorem Rest.end {l : List UInt8} {acc : List (Nat × Nat)} (h : Rest l acc []) : readL l = (acc, 0) := by
  unfold Rest at h
  rw [h]
  simp [readL, readP]
theorem Rest.form {l : List UInt8} {acc : List (Nat × Nat)} {b : UInt8} {r : List UInt8} (h : Rest l acc (b :: r)) (hb : 32 < b.toNat) : readL l = ([], 5) := by
  unfold Rest at h
  rw [readL_cons, if_pos hb] at h
  rw [h]
  rfl
theorem Rest.short {l : List UInt8} {acc : List (Nat × Nat)} {b : UInt8} {r : List UInt8} (h : Rest l acc (b :: r)) (hb : ¬ 32 < b.toNat) (hr : r.length < szB b.toNat) : readL l = ([], 4) := by
  unfold Rest at h
  rw [readL_cons, if_neg hb, if_pos hr] at h
  rw [h]
  rfl
theorem Rest.next {l : List UInt8} {acc : List (Nat × Nat)} {b : UInt8} {r : List UInt8} (h : Rest l acc (b :: r)) (hb : ¬ 32 < b.toNat) (hr : ¬ r.length < szB b.toNat) : Rest l (acc ++ [(low (padJ (r.take (szB b.toNat))) b.toNat, b.toNat)]) (r.drop (szB b.toNat)) := by
  unfold Rest at h ⊢
  rw [readL_cons, if_neg hb, if_neg hr] at h
  rw [h]
  by_cases h0 : (readL (r.drop (szB b.toNat))).2 = 0
  · simp [h0]
  · simp [h0]

set_option maxHeartbeats 1000000 in
theorem read_any (v : Value) (l : List UInt8) (hl : l.length ≤ 100000) (w : World) (hv : By w v l) :
    Calls Tryd.prog 33 #[v] w fun e w' => ∃ rv, e = .returned (.tuple #[rv, .int .i64 (readL l).2]) ∧ w'.ownsRow w.heap.size 25 2 rv (readL l).1.length (pcs (readL l).1) ∧ Kept Nothing w w' := by
  go_enter Tryd.func33, Tryd.ntmps33
  go_wp2
  go_loopw [0, 4] (fun u a wr => ∃ r acc, By w u r ∧ r.length ≤ l.length ∧ wr.ownsRow w.heap.size 25 2 a acc.length (pcs acc) ∧ acc.length + r.length ≤ l.length ∧ Kept Nothing w wr ∧ Hid (Rest l acc r)) (fun u _ _ => match u with | .slice _ n _ => n | _ => 0)
  case atStart => exact ⟨l, [], hv, Nat.le_refl _, World.ownsRow_nil _ _ _ _, by simp, Kept.refl _ w, Lib.hid (Rest.start l)⟩
  case round =>
    obtain ⟨r, acc, hr, hrl, ho, hal, hk, HR⟩ := hrel
    obtain ⟨A, c, rfl, hc, hm⟩ := hr.form
    cases r with
    | nil =>
      have HE := Lib.hid HR.out.end
      have HO := Lib.hid ho
      go_wp2
      go_ret2
      exact ⟨_, by rw [HE.out]; rfl, by rw [HE.out]; exact HO.out, hk⟩
    | cons b r =>
      obtain ⟨bk, o, rfl, hcell⟩ := (hr.old hk).at (by simp)
      have c0 : wr.cell? ⟨bk, o, none⟩ = some (.int .u8 (b.toNat : Nat)) := by have := hcell 0 (by simp); simpa [by8] using this
      have hb := b.toNat_lt
      have HB := Lib.hid hr
      simp only [List.length_cons] at hc hrl hal ⊢
      clear hcell hr
      have hs1 : ∀ w, (Instr.slice 48 (.slice (some ⟨bk, o, none⟩) (r.length + 1) c) (some (.int .i64 1)) none none).run Tryd.prog w = .ok (.slice (if c = 1 then some ⟨bk, o, none⟩ else (some ⟨bk, o, none⟩ : Option Addr).map (·.add 1)) r.length (c - 1)) w := fun w => slice_lo (some ⟨bk, o, none⟩) (r.length + 1) c 1 (by omega) w
      have HB1 := HB.out.piece (k := 1) (m := r.length) (by simp; omega)
      have et : ((b :: r).drop 1).take r.length = r := by simp
      rw [et] at HB1
      clear HB et
      generalize (if c = 1 then some ⟨bk, o, none⟩ else (some ⟨bk, o, none⟩ : Option Addr).map (·.add 1)) = A1 at hs1 HB1
      have HB1 := Lib.hid HB1
      by_cases h32 : 32 < b.toNat
      · have HE := Lib.hid (HR.out.form h32)
        have h33 : (32 : Int) < (b.toNat : Int) := by omega
        go_wp2
        go_ret2
        exact ⟨_, by rw [HE.out]; rfl, by rw [HE.out]; exact World.ownsRow_nil _ _ _ _, hk⟩
      have h33 : ¬ (32 : Int) < (b.toNat : Int) := by omega
      by_cases hsh : r.length < szB b.toNat
      · have HE := Lib.hid (HR.out.short h32 hsh)
        go_wp2_with (first | (go_at_call 54; refine (size_any b.toNat (by omega) _).mono ?_; rintro e w' ⟨rfl, rfl⟩))
        go_ret2
        exact ⟨_, by rw [HE.out]; rfl, by rw [HE.out]; exact World.ownsRow_nil _ _ _ _, hk⟩
      · have hsz : szB b.toNat ≤ 4 := by unfold szB; omega
        have HN := Lib.hid (HR.out.next h32 hsh)
        have hs2 := slice_hi A1 r.length (c - 1) (szB b.toNat) (by omega)
        have hs3 := slice_lo A1 r.length (c - 1) (szB b.toNat) (by omega)
        have HB2 := HB1.out.pre (m := szB b.toNat) (by omega)
        have HB3 := HB1.out.piece (k := szB b.toNat) (m := r.length - szB b.toNat) (by omega)
        rw [List.take_of_length_le (by simp)] at HB3
        generalize (if c - 1 = szB b.toNat then A1 else A1.map (·.add (szB b.toNat))) = A2 at hs3 HB3
        have HB2 := Lib.hid HB2
        have HB3 := Lib.hid HB3
        go_wp2_with (first | (go_at_call 54; refine (size_any b.toNat (by omega) _).mono ?_; rintro e w' ⟨rfl, rfl⟩))
        have hW := hk.alloc (.cells #[.int .u8 0, .int .u8 0, .int .u8 0, .int .u8 0] 83)
        have k1 : Kept Nothing wr (wr.alloc (.cells #[.int .u8 0, .int .u8 0, .int .u8 0, .int .u8 0] 83)).drew := ((Kept.refl _ wr).alloc _).drew
        have hf := Blk.fresh wr 83 #[.int .u8 0, .int .u8 0, .int .u8 0, .int .u8 0]
        obtain ⟨w2, hcp, hB2, k2⟩ := copy_pad wr.heap.size 83 A1 (szB b.toNat) (c - 1) _ 3 _ hf.drew ((HB2.out.old hk).old k1) hsz
        go_region
        have kk : Kept Nothing wr w2 := k1.trans_new k2 (fun i hi e => by have : i = wr.heap.size := e; omega)
        have d0 : w2.cell? ⟨wr.heap.size, 0, none⟩ = some (.int .u8 (((r.take (szB b.toNat)).getD 0 0).toNat : Nat)) := hB2.cell 0
        have d1 : w2.cell? ⟨wr.heap.size, 1, none⟩ = some (.int .u8 (((r.take (szB b.toNat)).getD 1 0).toNat : Nat)) := hB2.cell 1
        have d2 : w2.cell? ⟨wr.heap.size, 2, none⟩ = some (.int .u8 (((r.take (szB b.toNat)).getD 2 0).toNat : Nat)) := hB2.cell 2
        have d3 : w2.cell? ⟨wr.heap.size, 3, none⟩ = some (.int .u8 (((r.take (szB b.toNat)).getD 3 0).toNat : Nat)) := hB2.cell 3
        obtain ⟨i0, hi, hz0, hz1, hz2⟩ := info_parts pfx_info
        have HO := Lib.hid ho
        clear hcp hB2 k2 hf k1 hW ho hs1 hs2
        go_wp2_with (first
          | (go_at_call 50; refine (join_any _ _ _ _ (UInt8.toNat_lt _) (UInt8.toNat_lt _) (UInt8.toNat_lt _) (UInt8.toNat_lt _) _).mono ?_; rintro e w3 ⟨rfl, hk3⟩)
          | (go_at_call 24; refine (of_in (padJ (r.take (szB b.toNat))) b.toNat (padJ_lt _) (by omega) _).mono ?_; rintro e w4 ⟨rfl, hk4⟩; have kq := (kk.trans hk3).trans hk4)
          | (at_builtin; refine wpList_app _ rfl _ _ 58 rfl w.heap.size 25 i0 _ 2 16 Tryd.underlying58 hi hz0 hz1 hz2 rfl (by decide) u4 acc.length (pcs acc) rfl ((ow_kept HO.out kq (fun _ _ x => x)).alloc _) (some ⟨w4.heap.size, 0, none⟩) 1 1 [.int .u32 (low (padJ (r.take (szB b.toNat))) b.toNat : Nat), .int .i64 (b.toNat : Nat)] rfl (src_new w4 _ _ 2 1 rfl (by simp [Value.oneCell'])) (by simp [maxLen]; omega) (by omega) (by have := (hk.trans kq).size; simp; omega) ?_; intro v' w6 ho6 hg6 hat6))
        go_roundw
        case rel =>
          refine ⟨r.drop (szB b.toNat), acc ++ [(low (padJ (r.take (szB b.toNat))) b.toNat, b.toNat)], HB3.out, by simp; omega, ?_, by simp; omega, ?_, HN⟩
          · rw [List.length_append, pcs_append]
            exact ho6
          · exact ((hk.trans kq).alloc _).grown hg6 (fun k hk' hlt => by have := (HO.out.lt k hk').1; omega)
        case measure => simp; omega
end Go.Proofs.YtfjhpeijlhlaeaaDoor
