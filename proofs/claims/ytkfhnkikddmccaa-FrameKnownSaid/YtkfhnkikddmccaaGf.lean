
/-
  For the law FrameBack: messages wherever they lie, compared; what begins a row of bytes; two rows that grow side by side.
-/
import Derived.Test.YtkfhnkikddmccaaFv
import Derived.Test.YtkfhnkikddmccaaCb
namespace Go.Proofs.Ytkfhnkikddmccaa
open Go.RowKit

theorem mcs_cps {B : Value → List UInt8 → Prop} : ∀ (tl : List (Msg × Value)), (∀ x ∈ tl, B x.2 x.1.2) → Cells B (mcs tl) (tl.map (·.1))
  | [], _ => trivial
  | a :: r, h => by
    have e : mcs (a :: r) = .int .u8 (a.1.1.toNat : Int) :: a.2 :: mcs r := rfl
    rw [e]
    exact ⟨rfl, h a (List.mem_cons_self ..), mcs_cps r (fun x hx => h x (List.mem_cons_of_mem _ hx))⟩
/-- What is told reads as messages. -/
theorem Ms.cps {w : World} {base : Nat} {F : Nat → Prop} {v : Value} {l : List Msg} (h : Ms w base F v l) : Cps w v l := by
  obtain ⟨tl, rfl, h2, h3⟩ := h
  exact Cps.of_own (by rw [List.length_map]; exact h2) (mcs_cps tl (fun x hx => (h3 x hx).1.by))

theorem equal_byf {w : World} {a b : Value} {l m : List UInt8} (ha : By w a l) (hb : By w b m) (n : Nat) :
    Calls Try.prog 14 #[a, b] (w.drewN n) fun e w'' => e = .returned (.bool (l == m)) ∧ ∃ k, w'' = w.drewN k :=
  (by_equal a b l m _ (ha.old ((Kept.refl Nothing w).drewN n)) (hb.old ((Kept.refl Nothing w).drewN n))).mono fun _ _ ⟨h1, h2⟩ => ⟨h1, n, h2.symm⟩

set_option maxHeartbeats 1000000 in
/-- The same messages, wherever they lie. -/
theorem alike_cps (v1 v2 : Value) (l : List Cp) (w : World) (h1 : Cps w v1 l) (h2 : Cps w v2 l) (hl : l.length ≤ 1000000) :
    Calls Try.prog 17 #[v1, v2] w fun r w' => r = .returned (.bool true) ∧ Kept Nothing w w' := by
  obtain ⟨A1, c1, rfl, hc1, hm1⟩ := h1.form
  obtain ⟨A2, c2, rfl, hc2, hm2⟩ := h2.form
  have H1 := Lib.hid h1
  have H2 := Lib.hid h2
  clear h1 h2
  go_enter Try.func17, Try.ntmps17
  go_wp2_with fail
  go_loopw [13] (fun i wr => ∃ k : Nat, i = .int .i64 (k : Int) ∧ k ≤ l.length ∧ Kept Nothing w wr) (fun i _ => l.length - (intOf i).toNat)
  case atStart => exact ⟨0, rfl, Nat.zero_le _, Kept.refl _ _⟩
  case round =>
    obtain ⟨k, rfl, hk, hkk⟩ := hrel
    have KK := Lib.hid hkk
    clear hkk
    by_cases hlt : k < l.length
    · obtain ⟨b1, x1, rfl, g1⟩ := (H1.out.old KK.out).at (by omega)
      obtain ⟨b2, x2, rfl, g2⟩ := (H2.out.old KK.out).at (by omega)
      obtain ⟨p0, u1, p1, hx1⟩ := g1 k hlt
      obtain ⟨q0, u2, q1, hx2⟩ := g2 k hlt
      clear g1 g2
      have X1 := Lib.hid hx1
      have X2 := Lib.hid hx2
      have i1 : (0 : Int) ≤ (k : Int) := by omega
      have i2 : (k : Int) < (l.length : Int) := by omega
      unfold by8 at p0 q0
      have d1 : (((l[k]).1.toNat : Int) != ((l[k]).1.toNat : Int)) = false := by simp
      have d2 : ((l[k]).2 == (l[k]).2) = true := beq_self_eq_true _
      generalize (l[k]).1.toNat = t at *
      have E := Lib.hid (fun m => equal_byf X1.out X2.out m)
      rw [d2] at E
      clear hx1 hx2 d2 X1 X2
      go_wp2_with fail
      go_quiet ((go_at_call 14; exact E.out _))
      go_wp2
      go_roundw
      case rel => exact ⟨k + 1, by go_num, by omega, KK.out.drewN _⟩
      case measure => simp [intOf]; omega
    · go_wp2
      go_ret
      exact ⟨rfl, KK.out⟩

theorem slice_tof (A : Option Addr) (n c k : Nat) (hk : k ≤ c) (w : World) :
    (Instr.slice 25 (.slice A n c) none (some (.int .i64 (k : Int))) none).run Try.prog w = .ok (.slice A k c) w := by
  have hz := Try.sizeOf5
  have he : Try.prog.elem 25 = 5 := by kernel_rfl
  rw [run_slice_h w 25 A n c (by kernel_rfl) .i64 k (by omega) (by omega), he, hz]
  cases A <;> simp [sliced, Addr.add]
theorem slice_msgs (A : Option Addr) (n c k : Nat) (hk : k ≤ c) (w : World) :
    (Instr.slice 26 (.slice A n c) none (some (.int .i64 (k : Int))) none).run Try.prog w = .ok (.slice A k c) w := by
  have hz := Try.sizeOf43
  have he : Try.prog.elem 26 = 43 := by kernel_rfl
  rw [run_slice_h w 26 A n c (by kernel_rfl) .i64 k (by omega) (by omega), he, hz]
  cases A <;> simp [sliced, Addr.add]

/-- What begins so. -/
theorem by_hasprefix (a b : Value) (l m : List UInt8) (w : World) (ha : By w a l) (hb : By w b m) (hp : m <+: l) :
    Calls Try.prog 18 #[a, b] w fun r w' => r = .returned (.bool true) ∧ Kept Nothing w w' := by
  obtain ⟨A1, c1, rfl, hc1, hm1⟩ := ha.form
  obtain ⟨A2, c2, rfl, hc2, hm2⟩ := hb.form
  have hle := hp.length_le
  have ht : l.take m.length = m := by obtain ⟨r, rfl⟩ := hp; simp
  have hpre := ha.pre (m := m.length) hle
  rw [ht] at hpre
  have hsl := slice_tof A1 l.length c1 m.length (by omega)
  have hge : (m.length : Int) ≤ (l.length : Int) := by omega
  have hbe : (m == m) = true := beq_self_eq_true _
  have E := Lib.hid (by_equal _ _ m m w hpre hb)
  rw [hbe] at E
  clear ha hb hp hpre ht hbe
  go_enter Try.func18, Try.ntmps18
  go_wp2_with (go_at_call 14; refine E.out.mono ?_; rintro e w2 ⟨rfl, rfl⟩)
  go_ret
  exact ⟨rfl, Kept.refl _ _⟩

theorem grown_keptf {w w' : World} {v : Value} (hg : w.grownBy w' v.ownBlock) : Kept (fun k => v.ownBlock = some k) w w' := (Kept.refl _ w).grown hg (fun _ hk _ => hk)
/-- Messages and bytes that the call makes, side by side. -/
structure Acc (w wr : World) (ov av : Value) (o : List Cp) (a : List UInt8) : Prop where
  own : ∃ xs, wr.ownsRow w.heap.size 43 2 ov o.length xs ∧ Cells (By w) xs o
  all : wr.ownsRow w.heap.size 5 1 av a.length (bys a)
  kept : Kept Nothing w wr
theorem Acc.old {w wr w' : World} {ov av : Value} {o : List Cp} {a : List UInt8} (h : Acc w wr ov av o a) (k : Kept Nothing wr w') : Acc w w' ov av o a := by
  obtain ⟨⟨xs, h1, h2⟩, h3, h4⟩ := h
  exact ⟨⟨xs, ow_kept h1 k (fun _ _ x => x), h2⟩, ow_kept h3 k (fun _ _ x => x), h4.trans k⟩
theorem Acc.cps {w wr : World} {ov av : Value} {o : List Cp} {a : List UInt8} (h : Acc w wr ov av o a) : Cps wr ov o := by
  obtain ⟨⟨xs, h1, h2⟩, _, h4⟩ := h
  exact Cps.of_own h1 (h2.mono (fun _ _ h => h.old h4))
theorem Acc.by {w wr : World} {ov av : Value} {o : List Cp} {a : List UInt8} (h : Acc w wr ov av o a) : By wr av a := (Bs.of_own h.all).by
theorem Acc.apart {w wr : World} {ov av : Value} {o : List Cp} {a : List UInt8} (h : Acc w wr ov av o a) {g : Nat} (h1 : ov.ownBlock = some g) (h2 : av.ownBlock = some g) : False := by
  obtain ⟨⟨xs, h3, _⟩, h4, _⟩ := h
  obtain ⟨cs, e1⟩ := ow_lt h3 h1
  obtain ⟨cs', e2⟩ := ow_lt h4 h2
  rw [e1] at e2
  injection e2 with e2
  injection e2 with _ e3
  exact absurd e3 (by decide)
theorem Acc.own_app {w wr w' : World} {ov av v' bv : Value} {o : List Cp} {a : List UInt8} {c : Cp} {xs : List Value} (h : Acc w wr ov av o a) (hx : Cells (By w) xs o) (hb : By w bv c.2)
    (ho : w'.ownsRow w.heap.size 43 2 v' (o.length + 1) (xs ++ [by8 c.1, bv])) (hg : wr.grownBy w' ov.ownBlock) : Acc w w' v' av (o ++ [c]) a := by
  have hlt : ∀ k, ov.ownBlock = some k → w.heap.size ≤ k := fun k hk => by
    obtain ⟨⟨xs', h3, _⟩, _, _⟩ := h
    exact (h3.lt k hk).1
  exact ⟨⟨_, by rw [List.length_append]; exact ho, Cells.snoc hb hx⟩, ow_kept h.all (grown_keptf hg) (fun g hg' e => h.apart e hg'), h.kept.grown hg (fun k hk hl => by have := hlt k hk; omega)⟩
theorem Acc.all_app {w wr w' : World} {ov av v' : Value} {o : List Cp} {a d : List UInt8} (h : Acc w wr ov av o a)
    (ho : w'.ownsRow w.heap.size 5 1 v' (a.length + d.length) (bys a ++ bys d)) (hg : wr.grownBy w' av.ownBlock) : Acc w w' ov v' o (a ++ d) := by
  have hlt : ∀ k, av.ownBlock = some k → w.heap.size ≤ k := fun k hk => (h.all.lt k hk).1
  obtain ⟨xs, h3, h4⟩ := h.own
  exact ⟨⟨xs, ow_kept h3 (grown_keptf hg) (fun g hg' e => h.apart hg' e), h4⟩, by rw [List.length_append, bys_append]; exact ho, h.kept.grown hg (fun k hk hl => by have := hlt k hk; omega)⟩

/-- The messages that may be, cut. -/
def cutM (m : Msg) : Msg := (m.1, m.2.take 5000)
def mayM (m : Msg) : Bool := decide ((Fr.bytes m).2 = 0)
def ownM (l : List Msg) : List Msg := ((l.map cutM).filter mayM)
theorem ownM_snoc_yes {l : List Msg} {m : Msg} (h : (Fr.bytes (cutM m)).2 = 0) : ownM (l ++ [m]) = ownM l ++ [cutM m] := by
  unfold ownM mayM; rw [List.map_append, List.filter_append]; simp [h]
theorem ownM_snoc_no {l : List Msg} {m : Msg} (h : (Fr.bytes (cutM m)).2 ≠ 0) : ownM (l ++ [m]) = ownM l := by
  unfold ownM mayM; rw [List.map_append, List.filter_append]; simp [h]
theorem ownM_ok {l : List Msg} : ∀ m ∈ ownM l, (Fr.bytes m).2 = 0 := fun m hm => by
  unfold ownM mayM at hm
  simpa using (List.mem_filter.1 hm).2
theorem ownM_len (l : List Msg) : (ownM l).length ≤ l.length := by
  unfold ownM
  exact Nat.le_trans (List.length_filter_le _ _) (by rw [List.length_map]; omega)
theorem forms_snoc (l : List Msg) (m : Msg) : Fr.forms (l ++ [m]) = Fr.forms l ++ (Fr.bytes m).1 := by
  unfold Fr.forms; rw [List.flatMap_append]; simp
theorem bytes_err (m : Msg) : (Fr.bytes m).2 = 0 ∨ ((Fr.bytes m).2 = 1 ∧ (Fr.bytes m).1 = []) ∨ ((Fr.bytes m).2 = 3 ∧ (Fr.bytes m).1 = []) := by
  unfold Fr.bytes
  split
  · exact .inr (.inl ⟨rfl, rfl⟩)
  · split
    · exact .inr (.inr ⟨rfl, rfl⟩)
    · exact .inl rfl
theorem forms_len : ∀ (l : List Msg), (∀ m ∈ l, (Fr.bytes m).2 = 0) → (Fr.forms l).length ≤ 4096 * l.length ∧ 19 * l.length ≤ (Fr.forms l).length
  | [], _ => ⟨Nat.le_refl _, Nat.le_refl _⟩
  | m :: l, h => by
    have h1 := h m (List.mem_cons_self ..)
    have h2 := Fr.bytes_length h1
    have h3 := (Fr.bytes_ok h1).2.1
    have h4 := forms_len l (fun x hx => h x (List.mem_cons_of_mem _ hx))
    have e : Fr.forms (m :: l) = (Fr.bytes m).1 ++ Fr.forms l := rfl
    rw [e, List.length_append, List.length_cons]
    omega
end Go.Proofs.Ytkfhnkikddmccaa
