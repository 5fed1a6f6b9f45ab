
/-
  The law OpenKnown (closed): it returns true, and leaves what was there as it was.
-/
import Derived.Test.YtohgkibpcgfihaaDoorEu
import Derived.Test.YtohgkibpcgfihaaDoorEp
import Derived.Test.YtohgkibpcgfihaaDoorIx
import Derived.Deep.DeepCutAuto
import Derived.Deep.CutBlock
namespace Go.Proofs.YtohgkibpcgfihaaDoor
open Go.RowKit

theorem get_nok (s : Nat) (z : Int) (hz : z = (s : Int)) (v : Value) (b : List UInt8) (w : World) (h1 : (Opn.get b).1 = Opn.zero) (h2 : (Opn.get b).2.1 = 2) (h3 : (Opn.get b).2.2.1 = s) (hv : By w v b) (hb : b.length ≤ 100000) :
    Calls Tryd.prog 9 #[v] w fun e w' => ∃ A c Ad nd cd, e = .returned (.tuple #[.agg #[.int .u8 0, .int .u16 0, .int .u16 0, .int .u32 0, .slice A 0 c], .agg #[.int .u8 2, .int .u8 z], .slice Ad nd cd]) ∧ Kept Nothing w w' := by
  subst hz
  have C := op_get v b w hv hb
  rw [h1, h2, h3] at C
  refine C.mono ?_
  rintro e w' ⟨rv, d, rfl, hc, hd, hk⟩
  obtain ⟨A, c, rfl, _, _⟩ := hc.form
  obtain ⟨Ad, cd, rfl, _, _⟩ := hd.form
  exact ⟨A, c, Ad, _, cd, rfl, hk⟩
theorem get_bad0k (v : Value) (b : List UInt8) (w : World) (h : Opn.get b = Opn.bad 0) (hv : By w v b) (hb : b.length ≤ 100000) :
    Calls Tryd.prog 9 #[v] w fun e w' => ∃ A c Ad nd cd, e = .returned (.tuple #[.agg #[.int .u8 0, .int .u16 0, .int .u16 0, .int .u32 0, .slice A 0 c], .agg #[.int .u8 2, .int .u8 0], .slice Ad nd cd]) ∧ Kept Nothing w w' :=
  get_nok 0 0 rfl v b w (by rw [h]; rfl) (by rw [h]; rfl) (by rw [h]; rfl) hv hb
/-- A region of a code, by its number. -/
def findR6 (id : Nat) : Code → Option Code
  | .region i o d => match Nat.beq i id with
    | true => some (.region i o d)
    | false => none
  | .seq a b => match findR6 id a with
    | some c => some c
    | none => findR6 id b
  | .cond _ a b => match findR6 id a with
    | some c => some c
    | none => findR6 id b
  | .block _ b => findR6 id b
  | .loop b => findR6 id b
  | .scope b => findR6 id b
  | .rangeFunc _ _ _ b => findR6 id b
  | _ => none
def zko (n : Nat) : Array Value := madeCells #[.int .u8 0] n
def zlo (n : Nat) : List UInt8 := List.replicate n 0
theorem zlo_len (n : Nat) : (zlo n).length = n := List.length_replicate
theorem make_zko (n : Nat) (h : n ≤ 70000) : ∀ w : World, (Instr.makeSlice 22 (.int .i64 (n : Int)) (.int .i64 (n : Int))).run Tryd.prog w = .ok (.slice (some ⟨w.heap.size, 0, none⟩) n n) (w.alloc (.cells (zko n) 5)) := by
  intro w
  obtain ⟨i, hi, h1, h2, h3⟩ := info_parts u8_info
  have := run_make (P := Tryd.prog) w 22 5 i (.int .u8 0) Tryd.underlying22 hi h1 .i64 .i64 (n : Int) (n : Int) (by omega) (by omega) (by rw [h3]; omega) (by omega)
  rw [h2, Nat.mul_one, Int.toNat_natCast] at this
  exact this
theorem zko_by (n : Nat) (hn : n ≤ 70000) {w : World} {g : Nat} (h : Blk w g 5 (zko n)) : By w (.slice (some ⟨g, 0, none⟩) n n) (zlo n) := by
  have := Bs.made (l := zlo n) h (by unfold zko zlo; rw [toList_madeCells_one]; simp [bys]; exact .inr rfl) (by rw [zlo_len]; unfold maxLen; omega)
  rw [zlo_len] at this
  exact this.by
theorem two_cps {u : World} {b1 b2 : Nat} (h1 : Blk u b1 5 (zko 253)) (h2 : Blk u b2 5 (zko 9)) :
    Cps (u.alloc (.cells #[.int .u8 0, .slice (some ⟨b1, 0, none⟩) 253 253, .int .u8 0, .slice (some ⟨b2, 0, none⟩) 9 9] 66)) (.slice (some ⟨u.heap.size, 0, none⟩) 2 2) [(0, zlo 253), (0, zlo 9)] :=
  Cps.of_blk (l := [(0, zlo 253), (0, zlo 9)]) (Blk.fresh u 66 _) ⟨rfl, (zko_by 253 (by decide) h1).old ((Kept.refl Nothing u).alloc _), rfl, (zko_by 9 (by decide) h2).old ((Kept.refl Nothing u).alloc _), trivial⟩ (by simp [maxLen])
theorem one_cps {u : World} {b1 n : Nat} (hn : n ≤ 70000) (h1 : Blk u b1 5 (zko n)) :
    Cps (u.alloc (.cells #[.int .u8 0, .slice (some ⟨b1, 0, none⟩) n n] 66)) (.slice (some ⟨u.heap.size, 0, none⟩) 1 1) [(0, zlo n)] :=
  Cps.of_blk (l := [(0, zlo n)]) (Blk.fresh u 66 _) ⟨rfl, (zko_by n hn h1).old ((Kept.refl Nothing u).alloc _), trivial⟩ (by simp [maxLen])
theorem put_no (l : List Cp) (e : Nat) (z : Int) (hz : z = (e : Int)) (he : (Cp.bytes l).2 = e) (h0 : e ≠ 0) (s : Value) (u : World) (hs : Cps u s l) (hl : l.length ≤ 1000000) :
    Calls Tryd.prog 15 #[.agg #[.int .u8 0, .int .u16 0, .int .u16 0, .int .u32 0, s]] u fun r w' => ∃ A c, r = .returned (.tuple #[.slice A 0 c, .int .i64 z]) ∧ Kept Nothing u w' := by
  have C := op_put ⟨0, 0, 0, 0, l⟩ ⟨by show 0 < 256; decide, by show 0 < 65536; decide, by show 0 < 65536; decide, by show 0 < 4294967296; decide⟩ s u hs hl
  have hp : (⟨0, 0, 0, 0, l⟩ : Opn).put = ([], e) := by rw [← he]; exact Opn.put_err (by rw [he]; exact h0)
  rw [hp] at C
  subst hz
  refine C.mono ?_
  rintro _ w' ⟨v, rfl, hb, hk⟩
  obtain ⟨A, c, rfl, _, _⟩ := hb.form
  exact ⟨A, c, rfl, hk⟩
structure KS (W : World) (L : List Cp) (p r2 : Nat) (s T5 G : Value) (w : World) : Prop where
  bx : Blk w p 28 #[.int .u8 4, .int .u16 65001, .int .u16 180, .int .u32 3221225985, s]
  d : Cps w s L
  m : Cps w T5 [(1, [0, 2, 0, 1])]
  o : w.cell? ⟨r2, 0, none⟩ = some T5
  g : By w G [1, 4, 0, 1, 0, 1]
  k : Kept Nothing W w
  r : RdC w
theorem KS.old {W : World} {L : List Cp} {p r2 : Nat} {s T5 G : Value} {w w' : World} (h : KS W L p r2 s T5 G w) (k : Kept Nothing w w') : KS W L p r2 s T5 G w' :=
  ⟨h.bx.kept k (fun x => x), h.d.old k, h.m.old k, k.cell_some h.o (fun x => x), h.g.old k, h.k.trans k, h.r.kept k⟩
theorem ready_nilb {l : List Oper} (hB : (l.zipIdx.all fun x => x.1.after.all fun e => !(Region.binds .any e) || decide (e.on < x.2)) = true) : ∀ listed : Array Bool, listed.size = l.length → Region.ready .any l.toArray listed = [] → ∀ j, j < l.length → listed.getD j false = true := by
  intro listed hsz hr j
  induction j using Nat.strongRecOn with
  | _ j ih =>
    intro hj
    cases hc : listed.getD j false with
    | true => rfl
    | false =>
      exfalso
      have hjl : j < listed.size := by omega
      have : j ∈ Region.ready .any l.toArray listed := mem_ready.2 ⟨by
          rw [Array.getD_eq_getD_getElem?] at hc ⊢
          rw [Array.getElem?_eq_getElem hjl] at hc ⊢
          exact hc, l[j], by simp [hj], fun e he hbd => by
            have h1 := List.all_eq_true.1 hB (l[j], j) (by rw [List.mem_zipIdx_iff_getElem?]; simp [hj])
            have h2 := (Array.all_eq_true_iff_forall_mem.1 h1) e he
            have h3 : e.on < j := by
              have h4 : (!(Region.binds .any e) || decide (e.on < j)) = true := h2
              rw [hbd] at h4
              simpa using h4
            exact ih e.on h3 (by omega)⟩
      rw [hr] at this
      cases this
def kl8 : List (Option Value) := [none, none, none, none, none, none, none, none, none, some (.int .i64 3), none, some (.int .i64 3)]
def ks8 : Nat → Value → World → Prop
  | 0, v, w => ∃ b, v = .slice (some ⟨b, 0, none⟩) 253 253 ∧ Blk w b 5 (zko 253)
  | 1, v, w => ∃ b, v = .agg #[.int .u8 0, .slice (some ⟨b, 0, none⟩) 253 253] ∧ Blk w b 5 (zko 253)
  | 2, v, w => ∃ b, v = .slice (some ⟨b, 0, none⟩) 9 9 ∧ Blk w b 5 (zko 9)
  | 3, v, w => ∃ b, v = .agg #[.int .u8 0, .slice (some ⟨b, 0, none⟩) 9 9] ∧ Blk w b 5 (zko 9)
  | 4, v, w => ∃ g, v = .slice (some ⟨g, 0, none⟩) 2 2 ∧ Cps w (.slice (some ⟨g, 0, none⟩) 2 2) [(0, zlo 253), (0, zlo 9)]
  | 5, v, w => ∃ g, v = .agg #[.int .u8 0, .int .u16 0, .int .u16 0, .int .u32 0, .slice (some ⟨g, 0, none⟩) 2 2] ∧ Cps w (.slice (some ⟨g, 0, none⟩) 2 2) [(0, zlo 253), (0, zlo 9)]
  | 6, v, w => ∃ A c, v = .tuple #[.slice A 0 c, .int .i64 3] ∧ Kept Nothing w w
  | 7, v, w => ∃ A c, v = .tuple #[.slice A 0 c, .int .i64 3] ∧ Kept Nothing w w
  | 8, v, w => ∃ A c, v = .slice A 0 c ∧ Kept Nothing w w
  | 10, v, w => ∃ A c, v = .slice A 0 c ∧ Kept Nothing w w
  | _, _, _ => True
theorem ks8_stab (k : Nat) (v : Value) (w w' : World) (kk : Kept Nothing w w') (h : ks8 k v w) : ks8 k v w' := by
  unfold ks8 at h ⊢
  split at h
  all_goals first
    | (obtain ⟨b, h1, h2⟩ := h; exact ⟨b, h1, h2.kept kk (fun x => x)⟩)
    | (obtain ⟨b, h1, h2⟩ := h; exact ⟨b, h1, h2.old kk⟩)
    | (obtain ⟨A, c, h1, -⟩ := h; exact ⟨A, c, h1, Kept.refl _ _⟩)
    | trivial
def kl13 (p : Nat) (r2 : Nat) (cd : Nat) (Ad : Option Addr) : List (Option Value) := [some (.func (.func 23) #[] #[.pointer (some ⟨p, 0, none⟩)]), some (.int .u8 0), some (.bool true), some (.bool true), some (.func (.func 23) #[] #[.pointer (some ⟨p, 0, none⟩)]), some (.int .u8 2), some (.bool true), some (.bool true), some (.bool true), some (.func (.func 23) #[] #[.pointer (some ⟨p, 0, none⟩)]), some (.int .u8 3), some (.bool true), some (.bool true), some (.bool true), some (.func (.func 23) #[] #[.pointer (some ⟨p, 0, none⟩)]), some (.int .u8 3), some (.bool true), some (.bool true), some (.bool true), some (.func (.func 23) #[] #[.pointer (some ⟨p, 0, none⟩)]), some (.int .u8 6), some (.bool true), some (.bool true), some (.bool true), some (.func (.func 23) #[] #[.pointer (some ⟨p, 0, none⟩)]), some (.int .u8 0), some (.bool true), some (.bool true), some (.bool true), some (.func (.func 23) #[] #[.pointer (some ⟨p, 0, none⟩)]), some (.int .u8 0), some (.bool true), some (.bool true), some (.bool true), some (.func (.func 23) #[] #[.pointer (some ⟨p, 0, none⟩)]), some (.func (.func 31) #[] #[.pointer (some ⟨r2, 0, none⟩)]), some (.int .u8 7), some (.bool true), some (.bool true), some (.bool true), some (.func (.func 23) #[] #[.pointer (some ⟨p, 0, none⟩)]), some (.int .u8 0), some (.bool true), some (.bool true), some (.bool true), some (.slice Ad 6 cd), some (.string ⟨#[1, 4, 0, 1, 0, 1]⟩), some (.bool true), some (.bool true), some (.bool true), some (.int .i64 3), some (.bool true), some (.bool true), some (.bool true), some (.int .i64 1), some (.bool true), some (.bool true), some (.bool true), some (.agg #[.int .u8 2, .int .u8 0]), some (.agg #[.int .u8 2, .int .u8 0]), some (.bool true), some (.bool true), some (.bool true), some (.agg #[.int .u8 2, .int .u8 4]), some (.agg #[.int .u8 2, .int .u8 4]), some (.bool true), some (.bool true), some (.bool true), some (.agg #[.int .u8 2, .int .u8 0]), some (.agg #[.int .u8 2, .int .u8 0]), some (.bool true), some (.bool true), some (.bool true), some (.bool true), some (.bool true), some (.bool true)]
theorem kl13_guards (p : Nat) (r2 : Nat) (cd : Nat) (Ad : Option Addr) : ∀ y ∈ ([(3, true), (8, true), (13, true), (18, true), (23, true), (28, true), (33, true), (39, true), (44, true), (49, true), (53, true), (57, true), (62, true), (67, true), (72, true)] : List (Nat × Bool)), (kl13 p r2 cd Ad)[y.1]? = some (some (.bool y.2)) := by
  repeat (first | refine List.forall_mem_cons.2 ⟨by rfl, ?_⟩ | exact List.forall_mem_nil _)
set_option maxRecDepth 20000 in
set_option maxHeartbeats 16000000 in
theorem known_tail (W : World) (L : List Cp) (p r2 q1 q2 q3 cd : Nat) (Ad : Option Addr) (s T5 : Value) (w9 : World) (T : Hid (KS W L p r2 s T5 (.slice Ad 6 cd) w9)) (HN : Hid (Cp.number L = (65001, true))) (HI : Hid (Cp.ipv4 false L = true)) (HLL : Hid (L.length ≤ 1000000))
    (X1 : Hid (Blk w9 q1 30 #[.int .u8 2, .int .u8 0])) (X2 : Hid (Blk w9 q2 30 #[.int .u8 2, .int .u8 4])) (X3 : Hid (Blk w9 q3 30 #[.int .u8 2, .int .u8 0]))
    (C : Code) (hC : (Tryd.f8.body).bind (findR6 13) = some C)
    (AA : Act) (hsz : AA.tmps.size = 157) (hdf : AA.defers = []) (f4 : AA.tmps.getD 4 undef = .func (.func 23) #[] #[.pointer (some ⟨p, 0, none⟩)]) (f5 : AA.tmps.getD 5 undef = .pointer (some ⟨r2, 0, none⟩)) (f7 : AA.tmps.getD 7 undef = .slice Ad 6 cd) (f9 : AA.tmps.getD 9 undef = .int .i64 3) (f11 : AA.tmps.getD 11 undef = .int .i64 1) (f13 : AA.tmps.getD 13 undef = .pointer (some ⟨q1, 0, none⟩)) (f16 : AA.tmps.getD 16 undef = .pointer (some ⟨q2, 0, none⟩)) (f19 : AA.tmps.getD 19 undef = .pointer (some ⟨q3, 0, none⟩)) {Q : Exit → Act → World → Prop}
    (hQ : ∀ (A : Act) (u : World), Kept Nothing w9 u → A.tmps.getD 0 undef = .bool true → A.defers = [] → Q .normal A u) : C.wp Tryd.prog Q AA w9 := by
  have h2 := Option.some.inj hC
  rw [← h2]
  clear h2 hC
  try simp only [List.append_eq, List.cons_append, List.nil_append]
  refine wp_region_seq1 (a0 := AA) w9 (Facts (kl13 p r2 cd Ad) (fun _ _ _ => True)) 75 0 (by rfl) (by decide +kernel) (by intro d hd; rw [hsz]; simp [dsts] at hd ⊢; omega) (by kernel_rfl) (by kernel_rfl) (Facts.guards (E := [(3, true), (8, true), (13, true), (18, true), (23, true), (28, true), (33, true), (39, true), (44, true), (49, true), (53, true), (57, true), (62, true), (67, true), (72, true)]) (by kernel_rfl) (kl13_guards p r2 cd Ad)) (Facts.stab (fun _ _ _ _ _ _ => trivial)) (Kept.refl Nothing w9) ?_ ?_
  · refine OweAll.cons ?_ ?_
    · intro u a hk hf hfar
      have v4 : a.tmps.getD 4 undef = .func (.func 23) #[] #[.pointer (some ⟨p, 0, none⟩)] := (hfar 4 (by decide)).trans f4
      have w4 := v4
      rw [Array.getD_eq_getD_getElem?] at w4
      clear hf hfar
      go_simp
      exact ⟨_, rfl, Kept.refl _ _, rfl⟩
    refine OweAll.cons ?_ ?_
    · intro u a hk hf hfar
      have v82 : a.tmps.getD 82 undef = .func (.func 23) #[] #[.pointer (some ⟨p, 0, none⟩)] := hf 0 _ 82 rfl rfl ⟨⟨0, .data⟩, Array.mem_of_getElem? (i := 0) rfl, rfl, rfl⟩
      have w82 := v82
      rw [Array.getD_eq_getD_getElem?] at w82
      clear hf hfar
      go_simp
      refine (kc_2 p _ L _ (T.out.bx.kept hk (fun x => x)) (T.out.d.old hk) (T.out.r.kept hk) HN.out HI.out HLL.out).mono ?_
      rintro _ u' ⟨rfl, hk'⟩
      exact ⟨_, rfl, hk', rfl⟩
    refine OweAll.cons ?_ ?_
    · intro u a hk hf hfar
      have v83 : a.tmps.getD 83 undef = .int .u8 0 := hf 1 _ 83 rfl rfl ⟨⟨1, .data⟩, Array.mem_of_getElem? (i := 0) rfl, rfl, rfl⟩
      have w83 := v83
      rw [Array.getD_eq_getD_getElem?] at w83
      clear hf hfar
      go_simp
      exact ⟨_, rfl, Kept.refl _ _, rfl⟩
    refine OweAll.cons ?_ ?_
    · intro u a hk hf hfar
      have v84 : a.tmps.getD 84 undef = .bool true := hf 2 _ 84 rfl rfl ⟨⟨2, .data⟩, Array.mem_of_getElem? (i := 0) rfl, rfl, rfl⟩
      have w84 := v84
      rw [Array.getD_eq_getD_getElem?] at w84
      clear hf hfar
      go_simp
      exact ⟨_, rfl, Kept.refl _ _, rfl⟩
    refine OweAll.cons ?_ ?_
    · intro u a hk hf hfar
      have v4 : a.tmps.getD 4 undef = .func (.func 23) #[] #[.pointer (some ⟨p, 0, none⟩)] := (hfar 4 (by decide)).trans f4
      have w4 := v4
      rw [Array.getD_eq_getD_getElem?] at w4
      clear hf hfar
      go_simp
      exact ⟨_, rfl, Kept.refl _ _, rfl⟩
    refine OweAll.cons ?_ ?_
    · intro u a hk hf hfar
      have v86 : a.tmps.getD 86 undef = .func (.func 23) #[] #[.pointer (some ⟨p, 0, none⟩)] := hf 4 _ 86 rfl rfl ⟨⟨4, .data⟩, Array.mem_of_getElem? (i := 0) rfl, rfl, rfl⟩
      have w86 := v86
      rw [Array.getD_eq_getD_getElem?] at w86
      clear hf hfar
      go_simp
      refine (kc_3 p _ L _ (T.out.bx.kept hk (fun x => x)) (T.out.d.old hk) (T.out.r.kept hk) HN.out HI.out HLL.out).mono ?_
      rintro _ u' ⟨rfl, hk'⟩
      exact ⟨_, rfl, hk', rfl⟩
    refine OweAll.cons ?_ ?_
    · intro u a hk hf hfar
      have v87 : a.tmps.getD 87 undef = .int .u8 2 := hf 5 _ 87 rfl rfl ⟨⟨5, .data⟩, Array.mem_of_getElem? (i := 0) rfl, rfl, rfl⟩
      have w87 := v87
      rw [Array.getD_eq_getD_getElem?] at w87
      clear hf hfar
      go_simp
      exact ⟨_, rfl, Kept.refl _ _, rfl⟩
    refine OweAll.cons ?_ ?_
    · intro u a hk hf hfar
      have v85 : a.tmps.getD 85 undef = .bool true := hf 3 _ 85 rfl rfl ⟨⟨3, .data⟩, Array.mem_of_getElem? (i := 0) rfl, rfl, rfl⟩
      have w85 := v85
      rw [Array.getD_eq_getD_getElem?] at w85
      have v88 : a.tmps.getD 88 undef = .bool true := hf 6 _ 88 rfl rfl ⟨⟨6, .data⟩, Array.mem_of_getElem? (i := 1) rfl, rfl, rfl⟩
      have w88 := v88
      rw [Array.getD_eq_getD_getElem?] at w88
      clear hf hfar
      go_simp
      exact ⟨_, rfl, Kept.refl _ _, rfl⟩
    refine OweAll.cons ?_ ?_
    · intro u a hk hf hfar
      have v89 : a.tmps.getD 89 undef = .bool true := hf 7 _ 89 rfl rfl ⟨⟨7, .data⟩, Array.mem_of_getElem? (i := 0) rfl, rfl, rfl⟩
      have w89 := v89
      rw [Array.getD_eq_getD_getElem?] at w89
      clear hf hfar
      go_simp
      exact ⟨_, rfl, Kept.refl _ _, rfl⟩
    refine OweAll.cons ?_ ?_
    · intro u a hk hf hfar
      have v4 : a.tmps.getD 4 undef = .func (.func 23) #[] #[.pointer (some ⟨p, 0, none⟩)] := (hfar 4 (by decide)).trans f4
      have w4 := v4
      rw [Array.getD_eq_getD_getElem?] at w4
      clear hf hfar
      go_simp
      exact ⟨_, rfl, Kept.refl _ _, rfl⟩
    refine OweAll.cons ?_ ?_
    · intro u a hk hf hfar
      have v91 : a.tmps.getD 91 undef = .func (.func 23) #[] #[.pointer (some ⟨p, 0, none⟩)] := hf 9 _ 91 rfl rfl ⟨⟨9, .data⟩, Array.mem_of_getElem? (i := 0) rfl, rfl, rfl⟩
      have w91 := v91
      rw [Array.getD_eq_getD_getElem?] at w91
      clear hf hfar
      go_simp
      refine (kc_4 p _ L _ (T.out.bx.kept hk (fun x => x)) (T.out.d.old hk) (T.out.r.kept hk) HN.out HI.out HLL.out).mono ?_
      rintro _ u' ⟨rfl, hk'⟩
      exact ⟨_, rfl, hk', rfl⟩
    refine OweAll.cons ?_ ?_
    · intro u a hk hf hfar
      have v92 : a.tmps.getD 92 undef = .int .u8 3 := hf 10 _ 92 rfl rfl ⟨⟨10, .data⟩, Array.mem_of_getElem? (i := 0) rfl, rfl, rfl⟩
      have w92 := v92
      rw [Array.getD_eq_getD_getElem?] at w92
      clear hf hfar
      go_simp
      exact ⟨_, rfl, Kept.refl _ _, rfl⟩
    refine OweAll.cons ?_ ?_
    · intro u a hk hf hfar
      have v90 : a.tmps.getD 90 undef = .bool true := hf 8 _ 90 rfl rfl ⟨⟨8, .data⟩, Array.mem_of_getElem? (i := 0) rfl, rfl, rfl⟩
      have w90 := v90
      rw [Array.getD_eq_getD_getElem?] at w90
      have v93 : a.tmps.getD 93 undef = .bool true := hf 11 _ 93 rfl rfl ⟨⟨11, .data⟩, Array.mem_of_getElem? (i := 1) rfl, rfl, rfl⟩
      have w93 := v93
      rw [Array.getD_eq_getD_getElem?] at w93
      clear hf hfar
      go_simp
      exact ⟨_, rfl, Kept.refl _ _, rfl⟩
    refine OweAll.cons ?_ ?_
    · intro u a hk hf hfar
      have v94 : a.tmps.getD 94 undef = .bool true := hf 12 _ 94 rfl rfl ⟨⟨12, .data⟩, Array.mem_of_getElem? (i := 0) rfl, rfl, rfl⟩
      have w94 := v94
      rw [Array.getD_eq_getD_getElem?] at w94
      clear hf hfar
      go_simp
      exact ⟨_, rfl, Kept.refl _ _, rfl⟩
    refine OweAll.cons ?_ ?_
    · intro u a hk hf hfar
      have v4 : a.tmps.getD 4 undef = .func (.func 23) #[] #[.pointer (some ⟨p, 0, none⟩)] := (hfar 4 (by decide)).trans f4
      have w4 := v4
      rw [Array.getD_eq_getD_getElem?] at w4
      clear hf hfar
      go_simp
      exact ⟨_, rfl, Kept.refl _ _, rfl⟩
    refine OweAll.cons ?_ ?_
    · intro u a hk hf hfar
      have v96 : a.tmps.getD 96 undef = .func (.func 23) #[] #[.pointer (some ⟨p, 0, none⟩)] := hf 14 _ 96 rfl rfl ⟨⟨14, .data⟩, Array.mem_of_getElem? (i := 0) rfl, rfl, rfl⟩
      have w96 := v96
      rw [Array.getD_eq_getD_getElem?] at w96
      clear hf hfar
      go_simp
      refine (kc_5 p _ L _ (T.out.bx.kept hk (fun x => x)) (T.out.d.old hk) (T.out.r.kept hk) HN.out HI.out HLL.out).mono ?_
      rintro _ u' ⟨rfl, hk'⟩
      exact ⟨_, rfl, hk', rfl⟩
    refine OweAll.cons ?_ ?_
    · intro u a hk hf hfar
      have v97 : a.tmps.getD 97 undef = .int .u8 3 := hf 15 _ 97 rfl rfl ⟨⟨15, .data⟩, Array.mem_of_getElem? (i := 0) rfl, rfl, rfl⟩
      have w97 := v97
      rw [Array.getD_eq_getD_getElem?] at w97
      clear hf hfar
      go_simp
      exact ⟨_, rfl, Kept.refl _ _, rfl⟩
    refine OweAll.cons ?_ ?_
    · intro u a hk hf hfar
      have v95 : a.tmps.getD 95 undef = .bool true := hf 13 _ 95 rfl rfl ⟨⟨13, .data⟩, Array.mem_of_getElem? (i := 0) rfl, rfl, rfl⟩
      have w95 := v95
      rw [Array.getD_eq_getD_getElem?] at w95
      have v98 : a.tmps.getD 98 undef = .bool true := hf 16 _ 98 rfl rfl ⟨⟨16, .data⟩, Array.mem_of_getElem? (i := 1) rfl, rfl, rfl⟩
      have w98 := v98
      rw [Array.getD_eq_getD_getElem?] at w98
      clear hf hfar
      go_simp
      exact ⟨_, rfl, Kept.refl _ _, rfl⟩
    refine OweAll.cons ?_ ?_
    · intro u a hk hf hfar
      have v99 : a.tmps.getD 99 undef = .bool true := hf 17 _ 99 rfl rfl ⟨⟨17, .data⟩, Array.mem_of_getElem? (i := 0) rfl, rfl, rfl⟩
      have w99 := v99
      rw [Array.getD_eq_getD_getElem?] at w99
      clear hf hfar
      go_simp
      exact ⟨_, rfl, Kept.refl _ _, rfl⟩
    refine OweAll.cons ?_ ?_
    · intro u a hk hf hfar
      have v4 : a.tmps.getD 4 undef = .func (.func 23) #[] #[.pointer (some ⟨p, 0, none⟩)] := (hfar 4 (by decide)).trans f4
      have w4 := v4
      rw [Array.getD_eq_getD_getElem?] at w4
      clear hf hfar
      go_simp
      exact ⟨_, rfl, Kept.refl _ _, rfl⟩
    refine OweAll.cons ?_ ?_
    · intro u a hk hf hfar
      have v101 : a.tmps.getD 101 undef = .func (.func 23) #[] #[.pointer (some ⟨p, 0, none⟩)] := hf 19 _ 101 rfl rfl ⟨⟨19, .data⟩, Array.mem_of_getElem? (i := 0) rfl, rfl, rfl⟩
      have w101 := v101
      rw [Array.getD_eq_getD_getElem?] at w101
      clear hf hfar
      go_simp
      refine (kc_6 p _ L _ (T.out.bx.kept hk (fun x => x)) (T.out.d.old hk) (T.out.r.kept hk) HN.out HI.out HLL.out).mono ?_
      rintro _ u' ⟨rfl, hk'⟩
      exact ⟨_, rfl, hk', rfl⟩
    refine OweAll.cons ?_ ?_
    · intro u a hk hf hfar
      have v102 : a.tmps.getD 102 undef = .int .u8 6 := hf 20 _ 102 rfl rfl ⟨⟨20, .data⟩, Array.mem_of_getElem? (i := 0) rfl, rfl, rfl⟩
      have w102 := v102
      rw [Array.getD_eq_getD_getElem?] at w102
      clear hf hfar
      go_simp
      exact ⟨_, rfl, Kept.refl _ _, rfl⟩
    refine OweAll.cons ?_ ?_
    · intro u a hk hf hfar
      have v100 : a.tmps.getD 100 undef = .bool true := hf 18 _ 100 rfl rfl ⟨⟨18, .data⟩, Array.mem_of_getElem? (i := 0) rfl, rfl, rfl⟩
      have w100 := v100
      rw [Array.getD_eq_getD_getElem?] at w100
      have v103 : a.tmps.getD 103 undef = .bool true := hf 21 _ 103 rfl rfl ⟨⟨21, .data⟩, Array.mem_of_getElem? (i := 1) rfl, rfl, rfl⟩
      have w103 := v103
      rw [Array.getD_eq_getD_getElem?] at w103
      clear hf hfar
      go_simp
      exact ⟨_, rfl, Kept.refl _ _, rfl⟩
    refine OweAll.cons ?_ ?_
    · intro u a hk hf hfar
      have v104 : a.tmps.getD 104 undef = .bool true := hf 22 _ 104 rfl rfl ⟨⟨22, .data⟩, Array.mem_of_getElem? (i := 0) rfl, rfl, rfl⟩
      have w104 := v104
      rw [Array.getD_eq_getD_getElem?] at w104
      clear hf hfar
      go_simp
      exact ⟨_, rfl, Kept.refl _ _, rfl⟩
    refine OweAll.cons ?_ ?_
    · intro u a hk hf hfar
      have v4 : a.tmps.getD 4 undef = .func (.func 23) #[] #[.pointer (some ⟨p, 0, none⟩)] := (hfar 4 (by decide)).trans f4
      have w4 := v4
      rw [Array.getD_eq_getD_getElem?] at w4
      clear hf hfar
      go_simp
      exact ⟨_, rfl, Kept.refl _ _, rfl⟩
    refine OweAll.cons ?_ ?_
    · intro u a hk hf hfar
      have v106 : a.tmps.getD 106 undef = .func (.func 23) #[] #[.pointer (some ⟨p, 0, none⟩)] := hf 24 _ 106 rfl rfl ⟨⟨24, .data⟩, Array.mem_of_getElem? (i := 0) rfl, rfl, rfl⟩
      have w106 := v106
      rw [Array.getD_eq_getD_getElem?] at w106
      clear hf hfar
      go_simp
      refine (kc_7 p _ L _ (T.out.bx.kept hk (fun x => x)) (T.out.d.old hk) (T.out.r.kept hk) HN.out HI.out HLL.out).mono ?_
      rintro _ u' ⟨rfl, hk'⟩
      exact ⟨_, rfl, hk', rfl⟩
    refine OweAll.cons ?_ ?_
    · intro u a hk hf hfar
      have v107 : a.tmps.getD 107 undef = .int .u8 0 := hf 25 _ 107 rfl rfl ⟨⟨25, .data⟩, Array.mem_of_getElem? (i := 0) rfl, rfl, rfl⟩
      have w107 := v107
      rw [Array.getD_eq_getD_getElem?] at w107
      clear hf hfar
      go_simp
      exact ⟨_, rfl, Kept.refl _ _, rfl⟩
    refine OweAll.cons ?_ ?_
    · intro u a hk hf hfar
      have v105 : a.tmps.getD 105 undef = .bool true := hf 23 _ 105 rfl rfl ⟨⟨23, .data⟩, Array.mem_of_getElem? (i := 0) rfl, rfl, rfl⟩
      have w105 := v105
      rw [Array.getD_eq_getD_getElem?] at w105
      have v108 : a.tmps.getD 108 undef = .bool true := hf 26 _ 108 rfl rfl ⟨⟨26, .data⟩, Array.mem_of_getElem? (i := 1) rfl, rfl, rfl⟩
      have w108 := v108
      rw [Array.getD_eq_getD_getElem?] at w108
      clear hf hfar
      go_simp
      exact ⟨_, rfl, Kept.refl _ _, rfl⟩
    refine OweAll.cons ?_ ?_
    · intro u a hk hf hfar
      have v109 : a.tmps.getD 109 undef = .bool true := hf 27 _ 109 rfl rfl ⟨⟨27, .data⟩, Array.mem_of_getElem? (i := 0) rfl, rfl, rfl⟩
      have w109 := v109
      rw [Array.getD_eq_getD_getElem?] at w109
      clear hf hfar
      go_simp
      exact ⟨_, rfl, Kept.refl _ _, rfl⟩
    refine OweAll.cons ?_ ?_
    · intro u a hk hf hfar
      have v4 : a.tmps.getD 4 undef = .func (.func 23) #[] #[.pointer (some ⟨p, 0, none⟩)] := (hfar 4 (by decide)).trans f4
      have w4 := v4
      rw [Array.getD_eq_getD_getElem?] at w4
      clear hf hfar
      go_simp
      exact ⟨_, rfl, Kept.refl _ _, rfl⟩
    refine OweAll.cons ?_ ?_
    · intro u a hk hf hfar
      have v111 : a.tmps.getD 111 undef = .func (.func 23) #[] #[.pointer (some ⟨p, 0, none⟩)] := hf 29 _ 111 rfl rfl ⟨⟨29, .data⟩, Array.mem_of_getElem? (i := 0) rfl, rfl, rfl⟩
      have w111 := v111
      rw [Array.getD_eq_getD_getElem?] at w111
      clear hf hfar
      go_simp
      refine (kc_8 p _ L _ (T.out.bx.kept hk (fun x => x)) (T.out.d.old hk) (T.out.r.kept hk) HN.out HI.out HLL.out).mono ?_
      rintro _ u' ⟨rfl, hk'⟩
      exact ⟨_, rfl, hk', rfl⟩
    refine OweAll.cons ?_ ?_
    · intro u a hk hf hfar
      have v112 : a.tmps.getD 112 undef = .int .u8 0 := hf 30 _ 112 rfl rfl ⟨⟨30, .data⟩, Array.mem_of_getElem? (i := 0) rfl, rfl, rfl⟩
      have w112 := v112
      rw [Array.getD_eq_getD_getElem?] at w112
      clear hf hfar
      go_simp
      exact ⟨_, rfl, Kept.refl _ _, rfl⟩
    refine OweAll.cons ?_ ?_
    · intro u a hk hf hfar
      have v110 : a.tmps.getD 110 undef = .bool true := hf 28 _ 110 rfl rfl ⟨⟨28, .data⟩, Array.mem_of_getElem? (i := 0) rfl, rfl, rfl⟩
      have w110 := v110
      rw [Array.getD_eq_getD_getElem?] at w110
      have v113 : a.tmps.getD 113 undef = .bool true := hf 31 _ 113 rfl rfl ⟨⟨31, .data⟩, Array.mem_of_getElem? (i := 1) rfl, rfl, rfl⟩
      have w113 := v113
      rw [Array.getD_eq_getD_getElem?] at w113
      clear hf hfar
      go_simp
      exact ⟨_, rfl, Kept.refl _ _, rfl⟩
    refine OweAll.cons ?_ ?_
    · intro u a hk hf hfar
      have v114 : a.tmps.getD 114 undef = .bool true := hf 32 _ 114 rfl rfl ⟨⟨32, .data⟩, Array.mem_of_getElem? (i := 0) rfl, rfl, rfl⟩
      have w114 := v114
      rw [Array.getD_eq_getD_getElem?] at w114
      clear hf hfar
      go_simp
      exact ⟨_, rfl, Kept.refl _ _, rfl⟩
    refine OweAll.cons ?_ ?_
    · intro u a hk hf hfar
      have v4 : a.tmps.getD 4 undef = .func (.func 23) #[] #[.pointer (some ⟨p, 0, none⟩)] := (hfar 4 (by decide)).trans f4
      have w4 := v4
      rw [Array.getD_eq_getD_getElem?] at w4
      clear hf hfar
      go_simp
      exact ⟨_, rfl, Kept.refl _ _, rfl⟩
    refine OweAll.cons ?_ ?_
    · intro u a hk hf hfar
      have v5 : a.tmps.getD 5 undef = .pointer (some ⟨r2, 0, none⟩) := (hfar 5 (by decide)).trans f5
      have w5 := v5
      rw [Array.getD_eq_getD_getElem?] at w5
      clear hf hfar
      go_simp
      exact ⟨_, rfl, Kept.refl _ _, rfl⟩
    refine OweAll.cons ?_ ?_
    · intro u a hk hf hfar
      have v116 : a.tmps.getD 116 undef = .func (.func 23) #[] #[.pointer (some ⟨p, 0, none⟩)] := hf 34 _ 116 rfl rfl ⟨⟨34, .data⟩, Array.mem_of_getElem? (i := 0) rfl, rfl, rfl⟩
      have w116 := v116
      rw [Array.getD_eq_getD_getElem?] at w116
      have v117 : a.tmps.getD 117 undef = .func (.func 31) #[] #[.pointer (some ⟨r2, 0, none⟩)] := hf 35 _ 117 rfl rfl ⟨⟨35, .data⟩, Array.mem_of_getElem? (i := 1) rfl, rfl, rfl⟩
      have w117 := v117
      rw [Array.getD_eq_getD_getElem?] at w117
      clear hf hfar
      go_simp
      refine (kc_9 p _ L _ (T.out.bx.kept hk (fun x => x)) (T.out.d.old hk) (T.out.r.kept hk) HN.out HI.out HLL.out r2 _ [(1, [0, 2, 0, 1])] (T.out.m.old hk) (hk.cell_some T.out.o (fun x => x)) (by decide +kernel) (by decide +kernel) (by decide)).mono ?_
      rintro _ u' ⟨rfl, hk'⟩
      exact ⟨_, rfl, hk', rfl⟩
    refine OweAll.cons ?_ ?_
    · intro u a hk hf hfar
      have v118 : a.tmps.getD 118 undef = .int .u8 7 := hf 36 _ 118 rfl rfl ⟨⟨36, .data⟩, Array.mem_of_getElem? (i := 0) rfl, rfl, rfl⟩
      have w118 := v118
      rw [Array.getD_eq_getD_getElem?] at w118
      clear hf hfar
      go_simp
      exact ⟨_, rfl, Kept.refl _ _, rfl⟩
    refine OweAll.cons ?_ ?_
    · intro u a hk hf hfar
      have v115 : a.tmps.getD 115 undef = .bool true := hf 33 _ 115 rfl rfl ⟨⟨33, .data⟩, Array.mem_of_getElem? (i := 0) rfl, rfl, rfl⟩
      have w115 := v115
      rw [Array.getD_eq_getD_getElem?] at w115
      have v119 : a.tmps.getD 119 undef = .bool true := hf 37 _ 119 rfl rfl ⟨⟨37, .data⟩, Array.mem_of_getElem? (i := 1) rfl, rfl, rfl⟩
      have w119 := v119
      rw [Array.getD_eq_getD_getElem?] at w119
      clear hf hfar
      go_simp
      exact ⟨_, rfl, Kept.refl _ _, rfl⟩
    refine OweAll.cons ?_ ?_
    · intro u a hk hf hfar
      have v120 : a.tmps.getD 120 undef = .bool true := hf 38 _ 120 rfl rfl ⟨⟨38, .data⟩, Array.mem_of_getElem? (i := 0) rfl, rfl, rfl⟩
      have w120 := v120
      rw [Array.getD_eq_getD_getElem?] at w120
      clear hf hfar
      go_simp
      exact ⟨_, rfl, Kept.refl _ _, rfl⟩
    refine OweAll.cons ?_ ?_
    · intro u a hk hf hfar
      have v4 : a.tmps.getD 4 undef = .func (.func 23) #[] #[.pointer (some ⟨p, 0, none⟩)] := (hfar 4 (by decide)).trans f4
      have w4 := v4
      rw [Array.getD_eq_getD_getElem?] at w4
      clear hf hfar
      go_simp
      exact ⟨_, rfl, Kept.refl _ _, rfl⟩
    refine OweAll.cons ?_ ?_
    · intro u a hk hf hfar
      have v122 : a.tmps.getD 122 undef = .func (.func 23) #[] #[.pointer (some ⟨p, 0, none⟩)] := hf 40 _ 122 rfl rfl ⟨⟨40, .data⟩, Array.mem_of_getElem? (i := 0) rfl, rfl, rfl⟩
      have w122 := v122
      rw [Array.getD_eq_getD_getElem?] at w122
      clear hf hfar
      go_simp
      refine (kc_10 p _ L _ (T.out.bx.kept hk (fun x => x)) (T.out.d.old hk) (T.out.r.kept hk) HN.out HI.out HLL.out).mono ?_
      rintro _ u' ⟨rfl, hk'⟩
      exact ⟨_, rfl, hk', rfl⟩
    refine OweAll.cons ?_ ?_
    · intro u a hk hf hfar
      have v123 : a.tmps.getD 123 undef = .int .u8 0 := hf 41 _ 123 rfl rfl ⟨⟨41, .data⟩, Array.mem_of_getElem? (i := 0) rfl, rfl, rfl⟩
      have w123 := v123
      rw [Array.getD_eq_getD_getElem?] at w123
      clear hf hfar
      go_simp
      exact ⟨_, rfl, Kept.refl _ _, rfl⟩
    refine OweAll.cons ?_ ?_
    · intro u a hk hf hfar
      have v121 : a.tmps.getD 121 undef = .bool true := hf 39 _ 121 rfl rfl ⟨⟨39, .data⟩, Array.mem_of_getElem? (i := 0) rfl, rfl, rfl⟩
      have w121 := v121
      rw [Array.getD_eq_getD_getElem?] at w121
      have v124 : a.tmps.getD 124 undef = .bool true := hf 42 _ 124 rfl rfl ⟨⟨42, .data⟩, Array.mem_of_getElem? (i := 1) rfl, rfl, rfl⟩
      have w124 := v124
      rw [Array.getD_eq_getD_getElem?] at w124
      clear hf hfar
      go_simp
      exact ⟨_, rfl, Kept.refl _ _, rfl⟩
    refine OweAll.cons ?_ ?_
    · intro u a hk hf hfar
      have v125 : a.tmps.getD 125 undef = .bool true := hf 43 _ 125 rfl rfl ⟨⟨43, .data⟩, Array.mem_of_getElem? (i := 0) rfl, rfl, rfl⟩
      have w125 := v125
      rw [Array.getD_eq_getD_getElem?] at w125
      clear hf hfar
      go_simp
      exact ⟨_, rfl, Kept.refl _ _, rfl⟩
    refine OweAll.cons ?_ ?_
    · intro u a hk hf hfar
      have v7 : a.tmps.getD 7 undef = .slice Ad 6 cd := (hfar 7 (by decide)).trans f7
      have w7 := v7
      rw [Array.getD_eq_getD_getElem?] at w7
      clear hf hfar
      go_simp
      exact ⟨_, rfl, Kept.refl _ _, rfl⟩
    refine OweAll.cons ?_ ?_
    · intro u a hk hf hfar
      have v127 : a.tmps.getD 127 undef = .slice Ad 6 cd := hf 45 _ 127 rfl rfl ⟨⟨45, .data⟩, Array.mem_of_getElem? (i := 0) rfl, rfl, rfl⟩
      have w127 := v127
      rw [Array.getD_eq_getD_getElem?] at w127
      have hcv : (convert 22 9 (.slice Ad 6 cd)).run Tryd.prog u = .ok (.string ⟨#[1, 4, 0, 1, 0, 1]⟩) u := run_conv (T.out.g.old hk)
      clear hf hfar
      go_simp
      exact ⟨_, rfl, Kept.refl _ _, rfl⟩
    refine OweAll.cons ?_ ?_
    · intro u a hk hf hfar
      have v128 : a.tmps.getD 128 undef = .string ⟨#[1, 4, 0, 1, 0, 1]⟩ := hf 46 _ 128 rfl rfl ⟨⟨46, .data⟩, Array.mem_of_getElem? (i := 0) rfl, rfl, rfl⟩
      have w128 := v128
      rw [Array.getD_eq_getD_getElem?] at w128
      clear hf hfar
      go_simp
      exact ⟨_, rfl, Kept.refl _ _, rfl⟩
    refine OweAll.cons ?_ ?_
    · intro u a hk hf hfar
      have v126 : a.tmps.getD 126 undef = .bool true := hf 44 _ 126 rfl rfl ⟨⟨44, .data⟩, Array.mem_of_getElem? (i := 0) rfl, rfl, rfl⟩
      have w126 := v126
      rw [Array.getD_eq_getD_getElem?] at w126
      have v129 : a.tmps.getD 129 undef = .bool true := hf 47 _ 129 rfl rfl ⟨⟨47, .data⟩, Array.mem_of_getElem? (i := 1) rfl, rfl, rfl⟩
      have w129 := v129
      rw [Array.getD_eq_getD_getElem?] at w129
      clear hf hfar
      go_simp
      exact ⟨_, rfl, Kept.refl _ _, rfl⟩
    refine OweAll.cons ?_ ?_
    · intro u a hk hf hfar
      have v130 : a.tmps.getD 130 undef = .bool true := hf 48 _ 130 rfl rfl ⟨⟨48, .data⟩, Array.mem_of_getElem? (i := 0) rfl, rfl, rfl⟩
      have w130 := v130
      rw [Array.getD_eq_getD_getElem?] at w130
      clear hf hfar
      go_simp
      exact ⟨_, rfl, Kept.refl _ _, rfl⟩
    refine OweAll.cons ?_ ?_
    · intro u a hk hf hfar
      have v9 : a.tmps.getD 9 undef = .int .i64 3 := (hfar 9 (by decide)).trans f9
      have w9 := v9
      rw [Array.getD_eq_getD_getElem?] at w9
      clear hf hfar
      go_simp
      exact ⟨_, rfl, Kept.refl _ _, rfl⟩
    refine OweAll.cons ?_ ?_
    · intro u a hk hf hfar
      have v132 : a.tmps.getD 132 undef = .int .i64 3 := hf 50 _ 132 rfl rfl ⟨⟨50, .data⟩, Array.mem_of_getElem? (i := 0) rfl, rfl, rfl⟩
      have w132 := v132
      rw [Array.getD_eq_getD_getElem?] at w132
      clear hf hfar
      go_simp
      exact ⟨_, rfl, Kept.refl _ _, rfl⟩
    refine OweAll.cons ?_ ?_
    · intro u a hk hf hfar
      have v131 : a.tmps.getD 131 undef = .bool true := hf 49 _ 131 rfl rfl ⟨⟨49, .data⟩, Array.mem_of_getElem? (i := 0) rfl, rfl, rfl⟩
      have w131 := v131
      rw [Array.getD_eq_getD_getElem?] at w131
      have v133 : a.tmps.getD 133 undef = .bool true := hf 51 _ 133 rfl rfl ⟨⟨51, .data⟩, Array.mem_of_getElem? (i := 1) rfl, rfl, rfl⟩
      have w133 := v133
      rw [Array.getD_eq_getD_getElem?] at w133
      clear hf hfar
      go_simp
      exact ⟨_, rfl, Kept.refl _ _, rfl⟩
    refine OweAll.cons ?_ ?_
    · intro u a hk hf hfar
      have v134 : a.tmps.getD 134 undef = .bool true := hf 52 _ 134 rfl rfl ⟨⟨52, .data⟩, Array.mem_of_getElem? (i := 0) rfl, rfl, rfl⟩
      have w134 := v134
      rw [Array.getD_eq_getD_getElem?] at w134
      clear hf hfar
      go_simp
      exact ⟨_, rfl, Kept.refl _ _, rfl⟩
    refine OweAll.cons ?_ ?_
    · intro u a hk hf hfar
      have v11 : a.tmps.getD 11 undef = .int .i64 1 := (hfar 11 (by decide)).trans f11
      have w11 := v11
      rw [Array.getD_eq_getD_getElem?] at w11
      clear hf hfar
      go_simp
      exact ⟨_, rfl, Kept.refl _ _, rfl⟩
    refine OweAll.cons ?_ ?_
    · intro u a hk hf hfar
      have v136 : a.tmps.getD 136 undef = .int .i64 1 := hf 54 _ 136 rfl rfl ⟨⟨54, .data⟩, Array.mem_of_getElem? (i := 0) rfl, rfl, rfl⟩
      have w136 := v136
      rw [Array.getD_eq_getD_getElem?] at w136
      clear hf hfar
      go_simp
      exact ⟨_, rfl, Kept.refl _ _, rfl⟩
    refine OweAll.cons ?_ ?_
    · intro u a hk hf hfar
      have v135 : a.tmps.getD 135 undef = .bool true := hf 53 _ 135 rfl rfl ⟨⟨53, .data⟩, Array.mem_of_getElem? (i := 0) rfl, rfl, rfl⟩
      have w135 := v135
      rw [Array.getD_eq_getD_getElem?] at w135
      have v137 : a.tmps.getD 137 undef = .bool true := hf 55 _ 137 rfl rfl ⟨⟨55, .data⟩, Array.mem_of_getElem? (i := 1) rfl, rfl, rfl⟩
      have w137 := v137
      rw [Array.getD_eq_getD_getElem?] at w137
      clear hf hfar
      go_simp
      exact ⟨_, rfl, Kept.refl _ _, rfl⟩
    refine OweAll.cons ?_ ?_
    · intro u a hk hf hfar
      have v138 : a.tmps.getD 138 undef = .bool true := hf 56 _ 138 rfl rfl ⟨⟨56, .data⟩, Array.mem_of_getElem? (i := 0) rfl, rfl, rfl⟩
      have w138 := v138
      rw [Array.getD_eq_getD_getElem?] at w138
      clear hf hfar
      go_simp
      exact ⟨_, rfl, Kept.refl _ _, rfl⟩
    refine OweAll.cons ?_ ?_
    · intro u a hk hf hfar
      have v13 : a.tmps.getD 13 undef = .pointer (some ⟨q1, 0, none⟩) := (hfar 13 (by decide)).trans f13
      have w13 := v13
      rw [Array.getD_eq_getD_getElem?] at w13
      obtain ⟨⟨f0, f1⟩, -⟩ := full2 (X1.out.kept hk (fun x => x))
      clear hf hfar
      go_simp
      exact ⟨_, rfl, Kept.refl _ _, rfl⟩
    refine OweAll.cons ?_ ?_
    · intro u a hk hf hfar
      clear hf hfar
      go_simp
      exact ⟨_, rfl, Kept.refl _ _, rfl⟩
    refine OweAll.cons ?_ ?_
    · intro u a hk hf hfar
      have v140 : a.tmps.getD 140 undef = .agg #[.int .u8 2, .int .u8 0] := hf 58 _ 140 rfl rfl ⟨⟨58, .data⟩, Array.mem_of_getElem? (i := 0) rfl, rfl, rfl⟩
      have w140 := v140
      rw [Array.getD_eq_getD_getElem?] at w140
      have v141 : a.tmps.getD 141 undef = .agg #[.int .u8 2, .int .u8 0] := hf 59 _ 141 rfl rfl ⟨⟨59, .data⟩, Array.mem_of_getElem? (i := 1) rfl, rfl, rfl⟩
      have w141 := v141
      rw [Array.getD_eq_getD_getElem?] at w141
      clear hf hfar
      go_simp
      exact ⟨_, rfl, Kept.refl _ _, rfl⟩
    refine OweAll.cons ?_ ?_
    · intro u a hk hf hfar
      have v139 : a.tmps.getD 139 undef = .bool true := hf 57 _ 139 rfl rfl ⟨⟨57, .data⟩, Array.mem_of_getElem? (i := 0) rfl, rfl, rfl⟩
      have w139 := v139
      rw [Array.getD_eq_getD_getElem?] at w139
      have v142 : a.tmps.getD 142 undef = .bool true := hf 60 _ 142 rfl rfl ⟨⟨60, .data⟩, Array.mem_of_getElem? (i := 1) rfl, rfl, rfl⟩
      have w142 := v142
      rw [Array.getD_eq_getD_getElem?] at w142
      clear hf hfar
      go_simp
      exact ⟨_, rfl, Kept.refl _ _, rfl⟩
    refine OweAll.cons ?_ ?_
    · intro u a hk hf hfar
      have v143 : a.tmps.getD 143 undef = .bool true := hf 61 _ 143 rfl rfl ⟨⟨61, .data⟩, Array.mem_of_getElem? (i := 0) rfl, rfl, rfl⟩
      have w143 := v143
      rw [Array.getD_eq_getD_getElem?] at w143
      clear hf hfar
      go_simp
      exact ⟨_, rfl, Kept.refl _ _, rfl⟩
    refine OweAll.cons ?_ ?_
    · intro u a hk hf hfar
      have v16 : a.tmps.getD 16 undef = .pointer (some ⟨q2, 0, none⟩) := (hfar 16 (by decide)).trans f16
      have w16 := v16
      rw [Array.getD_eq_getD_getElem?] at w16
      obtain ⟨⟨f0, f1⟩, -⟩ := full2 (X2.out.kept hk (fun x => x))
      clear hf hfar
      go_simp
      exact ⟨_, rfl, Kept.refl _ _, rfl⟩
    refine OweAll.cons ?_ ?_
    · intro u a hk hf hfar
      clear hf hfar
      go_simp
      exact ⟨_, rfl, Kept.refl _ _, rfl⟩
    refine OweAll.cons ?_ ?_
    · intro u a hk hf hfar
      have v145 : a.tmps.getD 145 undef = .agg #[.int .u8 2, .int .u8 4] := hf 63 _ 145 rfl rfl ⟨⟨63, .data⟩, Array.mem_of_getElem? (i := 0) rfl, rfl, rfl⟩
      have w145 := v145
      rw [Array.getD_eq_getD_getElem?] at w145
      have v146 : a.tmps.getD 146 undef = .agg #[.int .u8 2, .int .u8 4] := hf 64 _ 146 rfl rfl ⟨⟨64, .data⟩, Array.mem_of_getElem? (i := 1) rfl, rfl, rfl⟩
      have w146 := v146
      rw [Array.getD_eq_getD_getElem?] at w146
      clear hf hfar
      go_simp
      exact ⟨_, rfl, Kept.refl _ _, rfl⟩
    refine OweAll.cons ?_ ?_
    · intro u a hk hf hfar
      have v144 : a.tmps.getD 144 undef = .bool true := hf 62 _ 144 rfl rfl ⟨⟨62, .data⟩, Array.mem_of_getElem? (i := 0) rfl, rfl, rfl⟩
      have w144 := v144
      rw [Array.getD_eq_getD_getElem?] at w144
      have v147 : a.tmps.getD 147 undef = .bool true := hf 65 _ 147 rfl rfl ⟨⟨65, .data⟩, Array.mem_of_getElem? (i := 1) rfl, rfl, rfl⟩
      have w147 := v147
      rw [Array.getD_eq_getD_getElem?] at w147
      clear hf hfar
      go_simp
      exact ⟨_, rfl, Kept.refl _ _, rfl⟩
    refine OweAll.cons ?_ ?_
    · intro u a hk hf hfar
      have v148 : a.tmps.getD 148 undef = .bool true := hf 66 _ 148 rfl rfl ⟨⟨66, .data⟩, Array.mem_of_getElem? (i := 0) rfl, rfl, rfl⟩
      have w148 := v148
      rw [Array.getD_eq_getD_getElem?] at w148
      clear hf hfar
      go_simp
      exact ⟨_, rfl, Kept.refl _ _, rfl⟩
    refine OweAll.cons ?_ ?_
    · intro u a hk hf hfar
      have v19 : a.tmps.getD 19 undef = .pointer (some ⟨q3, 0, none⟩) := (hfar 19 (by decide)).trans f19
      have w19 := v19
      rw [Array.getD_eq_getD_getElem?] at w19
      obtain ⟨⟨f0, f1⟩, -⟩ := full2 (X3.out.kept hk (fun x => x))
      clear hf hfar
      go_simp
      exact ⟨_, rfl, Kept.refl _ _, rfl⟩
    refine OweAll.cons ?_ ?_
    · intro u a hk hf hfar
      clear hf hfar
      go_simp
      exact ⟨_, rfl, Kept.refl _ _, rfl⟩
    refine OweAll.cons ?_ ?_
    · intro u a hk hf hfar
      have v150 : a.tmps.getD 150 undef = .agg #[.int .u8 2, .int .u8 0] := hf 68 _ 150 rfl rfl ⟨⟨68, .data⟩, Array.mem_of_getElem? (i := 0) rfl, rfl, rfl⟩
      have w150 := v150
      rw [Array.getD_eq_getD_getElem?] at w150
      have v151 : a.tmps.getD 151 undef = .agg #[.int .u8 2, .int .u8 0] := hf 69 _ 151 rfl rfl ⟨⟨69, .data⟩, Array.mem_of_getElem? (i := 1) rfl, rfl, rfl⟩
      have w151 := v151
      rw [Array.getD_eq_getD_getElem?] at w151
      clear hf hfar
      go_simp
      exact ⟨_, rfl, Kept.refl _ _, rfl⟩
    refine OweAll.cons ?_ ?_
    · intro u a hk hf hfar
      have v149 : a.tmps.getD 149 undef = .bool true := hf 67 _ 149 rfl rfl ⟨⟨67, .data⟩, Array.mem_of_getElem? (i := 0) rfl, rfl, rfl⟩
      have w149 := v149
      rw [Array.getD_eq_getD_getElem?] at w149
      have v152 : a.tmps.getD 152 undef = .bool true := hf 70 _ 152 rfl rfl ⟨⟨70, .data⟩, Array.mem_of_getElem? (i := 1) rfl, rfl, rfl⟩
      have w152 := v152
      rw [Array.getD_eq_getD_getElem?] at w152
      clear hf hfar
      go_simp
      exact ⟨_, rfl, Kept.refl _ _, rfl⟩
    refine OweAll.cons ?_ ?_
    · intro u a hk hf hfar
      have v153 : a.tmps.getD 153 undef = .bool true := hf 71 _ 153 rfl rfl ⟨⟨71, .data⟩, Array.mem_of_getElem? (i := 0) rfl, rfl, rfl⟩
      have w153 := v153
      rw [Array.getD_eq_getD_getElem?] at w153
      clear hf hfar
      go_simp
      exact ⟨_, rfl, Kept.refl _ _, rfl⟩
    refine OweAll.cons ?_ ?_
    · intro u a hk hf hfar
      clear hf hfar
      go_simp
      refine (op_tells _ (T.out.r.kept hk)).mono ?_
      rintro _ u' ⟨rfl, hk'⟩
      exact ⟨_, rfl, hk', rfl⟩
    refine OweAll.cons ?_ ?_
    · intro u a hk hf hfar
      have v154 : a.tmps.getD 154 undef = .bool true := hf 72 _ 154 rfl rfl ⟨⟨72, .data⟩, Array.mem_of_getElem? (i := 0) rfl, rfl, rfl⟩
      have w154 := v154
      rw [Array.getD_eq_getD_getElem?] at w154
      have v155 : a.tmps.getD 155 undef = .bool true := hf 73 _ 155 rfl rfl ⟨⟨73, .data⟩, Array.mem_of_getElem? (i := 1) rfl, rfl, rfl⟩
      have w155 := v155
      rw [Array.getD_eq_getD_getElem?] at w155
      clear hf hfar
      go_simp
      exact ⟨_, rfl, Kept.refl _ _, rfl⟩
    refine OweAll.cons ?_ ?_
    · intro u a hk hf hfar
      have v156 : a.tmps.getD 156 undef = .bool true := hf 74 _ 156 rfl rfl ⟨⟨74, .data⟩, Array.mem_of_getElem? (i := 0) rfl, rfl, rfl⟩
      have w156 := v156
      rw [Array.getD_eq_getD_getElem?] at w156
      clear hf hfar
      go_simp
      exact ⟨_, rfl, Kept.refl _ _, rfl⟩
    exact OweAll.nil
  · intro A u hku hA hdef
    exact hQ A u hku hA (hdef.trans hdf)

set_option maxRecDepth 20000 in
set_option maxHeartbeats 16000000 in
theorem openknown_law (W : World) (hr : RdC W) :
    Calls Tryd.prog 8 #[] W fun e w' => e = .returned (.bool true) ∧ Kept Nothing W w' := by
  have CO : Calls Tryd.prog 21 #[.int .u32 65001, .int .u16 180, .int .u32 3221225985] W fun e w' => ∃ rv, e = .returned (.agg #[.int .u8 4, .int .u16 65001, .int .u16 180, .int .u32 3221225985, rv]) ∧ CpsO (fun k => k < W.heap.size) w' rv (oursL 65001) ∧ Kept Nothing W w' := op_ours 65001 180 3221225985 (by decide) W hr
  have hn : Cp.number (oursL 65001) = (65001, true) := by decide +kernel
  have hi : Cp.ipv4 false (oursL 65001) = true := by decide +kernel
  have hll : (oursL 65001).length ≤ 1000000 := by decide
  have hpt : (⟨4, 65001, 180, 3221225985, oursL 65001⟩ : Opn).put = ([4, 253, 233, 0, 180, 192, 0, 2, 1, 16, 2, 14, 1, 4, 0, 1, 0, 1, 2, 0, 65, 4, 0, 0, 253, 233], 0) := by decide +kernel
  obtain ⟨L, hL⟩ : ∃ L, oursL 65001 = L := ⟨_, rfl⟩
  rw [hL] at CO hn hi hll hpt
  have HO := Lib.hid CO
  have HN := Lib.hid hn
  have HI := Lib.hid hi
  have HLL := Lib.hid hll
  have HPT := Lib.hid hpt
  have RW := Lib.hid hr
  clear CO hn hi hll hpt hL hr
  have mk253 : ∀ w : World, (Instr.makeSlice 22 (.int .i64 253) (.int .i64 253)).run Tryd.prog w = .ok (.slice (some ⟨w.heap.size, 0, none⟩) 253 253) (w.alloc (.cells (zko 253) 5)) := make_zko 253 (by decide)
  have mk254 : ∀ w : World, (Instr.makeSlice 22 (.int .i64 254) (.int .i64 254)).run Tryd.prog w = .ok (.slice (some ⟨w.heap.size, 0, none⟩) 254 254) (w.alloc (.cells (zko 254) 5)) := make_zko 254 (by decide)
  have mk9 : ∀ w : World, (Instr.makeSlice 22 (.int .i64 9) (.int .i64 9)).run Tryd.prog w = .ok (.slice (some ⟨w.heap.size, 0, none⟩) 9 9) (w.alloc (.cells (zko 9) 5)) := make_zko 9 (by decide)
  go_enter Tryd.func8, Tryd.ntmps8
  go_wp2_with fail
  refine HO.out.mono ?_
  rintro _ w1 ⟨rv, rfl, hc, hk⟩
  obtain ⟨A, c, rfl, _, _⟩ := hc.form
  have k2 := (Kept.refl Nothing w1).alloc (.cells #[.int .u8 4, .int .u16 65001, .int .u16 180, .int .u32 3221225985, .slice A L.length c] 28)
  have BX := Lib.hid (Blk.fresh w1 28 #[.int .u8 4, .int .u16 65001, .int .u16 180, .int .u32 3221225985, .slice A L.length c])
  have D2 := Lib.hid (hc.cps.old k2)
  have K2 := Lib.hid (hk.trans k2)
  clear hc hk k2 HO
  go_upto_region 2 with fail
  generalize w1.alloc (.cells #[.int .u8 4, .int .u16 65001, .int .u16 180, .int .u32 3221225985, .slice A L.length c] 28) = w2 at *
  generalize w1.heap.size = p at *
  have CP := op_put ⟨4, 65001, 180, 3221225985, L⟩ ⟨by show 4 < 256; decide, by show 65001 < 65536; decide, by show 180 < 65536; decide, by show 3221225985 < 4294967296; decide⟩ _ w2 D2.out HLL.out
  rw [HPT.out] at CP
  have CP' : Calls Tryd.prog 15 #[.agg #[.int .u8 4, .int .u16 65001, .int .u16 180, .int .u32 3221225985, .slice A L.length c]] w2 fun r w' => ∃ v', r = .returned (.tuple #[v', .int .i64 0]) ∧ Bs w' v' [4, 253, 233, 0, 180, 192, 0, 2, 1, 16, 2, 14, 1, 4, 0, 1, 0, 1, 2, 0, 65, 4, 0, 0, 253, 233] ∧ Kept Nothing w2 w' := CP
  have HP := Lib.hid CP'
  clear CP CP' HPT
  obtain ⟨⟨m0, m1, m2, m3, m4⟩, -⟩ := full5 BX.out
  go_wp2_with fail
  refine HP.out.mono ?_
  rintro _ w3 ⟨xv, rfl, hx, hk⟩
  have hf : ∃ Ax cx, xv = .slice Ax 26 cx ∧ 26 ≤ cx := by obtain ⟨Ax, cx, e, h1, _⟩ := hx.form; exact ⟨Ax, cx, e, h1⟩
  obtain ⟨Ax, cx, rfl, hcx⟩ := hf
  have X3' := Lib.hid hx
  have BX3 := Lib.hid (BX.out.kept hk (fun x => x))
  have D3 := Lib.hid (D2.out.old hk)
  have K3 := Lib.hid (K2.out.trans hk)
  have hcv : (convert 22 9 (.slice Ax 26 cx)).run Tryd.prog w3 = .ok (.string ⟨#[4, 253, 233, 0, 180, 192, 0, 2, 1, 16, 2, 14, 1, 4, 0, 1, 0, 1, 2, 0, 65, 4, 0, 0, 253, 233]⟩) w3 := run_conv hx.by
  clear hx hk BX D2 K2 HP m0 m1 m2 m3 m4
  go_upto_region 5 with fail
  clear hcv
  have ka := (Kept.refl Nothing w3).alloc (.cells #[.int .u8 0, .int .u8 2, .int .u8 0, .int .u8 1] 5)
  have ba : By (w3.alloc (.cells #[.int .u8 0, .int .u8 2, .int .u8 0, .int .u8 1] 5)) (.slice (some ⟨w3.heap.size, 0, none⟩) 4 4) [0, 2, 0, 1] := made_by (l := [0, 2, 0, 1]) rfl rfl (by simp [maxLen])
  have hz : (w3.alloc (.cells #[.int .u8 0, .int .u8 2, .int .u8 0, .int .u8 1] 5)).heap.size = w3.heap.size + 1 := World.size_alloc _ _
  have kb := ka.alloc (.cells #[.int .u8 1, .slice (some ⟨w3.heap.size, 0, none⟩) 4 4] 66)
  have cm : Cps ((w3.alloc (.cells #[.int .u8 0, .int .u8 2, .int .u8 0, .int .u8 1] 5)).alloc (.cells #[.int .u8 1, .slice (some ⟨w3.heap.size, 0, none⟩) 4 4] 66)) (.slice (some ⟨w3.heap.size + 1, 0, none⟩) 1 1) [(1, [0, 2, 0, 1])] :=
    Cps.of_blk (l := [(1, [0, 2, 0, 1])]) (made_blk hz) ⟨rfl, ba.old ((Kept.refl Nothing _).alloc _), trivial⟩ (by simp [maxLen])
  have hz2 : ((w3.alloc (.cells #[.int .u8 0, .int .u8 2, .int .u8 0, .int .u8 1] 5)).alloc (.cells #[.int .u8 1, .slice (some ⟨w3.heap.size, 0, none⟩) 4 4] 66)).heap.size = w3.heap.size + 1 + 1 := by rw [World.size_alloc, hz]
  have kc := kb.alloc (.cells #[.slice (some ⟨w3.heap.size + 1, 0, none⟩) 1 1] 26)
  have bo : Blk (((w3.alloc (.cells #[.int .u8 0, .int .u8 2, .int .u8 0, .int .u8 1] 5)).alloc (.cells #[.int .u8 1, .slice (some ⟨w3.heap.size, 0, none⟩) 4 4] 66)).alloc (.cells #[.slice (some ⟨w3.heap.size + 1, 0, none⟩) 1 1] 26)) (w3.heap.size + 1 + 1) 26 #[.slice (some ⟨w3.heap.size + 1, 0, none⟩) 1 1] := made_blk hz2
  have HM := Lib.hid (cm.old ((Kept.refl Nothing _).alloc (.cells #[.slice (some ⟨w3.heap.size + 1, 0, none⟩) 1 1] 26)))
  have HOc := Lib.hid (bo.cell 0)
  have BX4 := Lib.hid (BX3.out.kept kc (fun x => x))
  have D4 := Lib.hid (D3.out.old kc)
  have X4' := Lib.hid (X3'.out.kept kc (NoBytes.nothing _))
  have K4 := Lib.hid (K3.out.trans kc)
  clear ka ba hz kb cm hz2 kc bo BX3 D3 X3' K3
  go_upto_region 7 with fail
  generalize (((w3.alloc (.cells #[.int .u8 0, .int .u8 2, .int .u8 0, .int .u8 1] 5)).alloc (.cells #[.int .u8 1, .slice (some ⟨w3.heap.size, 0, none⟩) 4 4] 66)).alloc (.cells #[.slice (some ⟨w3.heap.size + 1, 0, none⟩) 1 1] 26)) = w4 at *
  obtain ⟨r2, hr2⟩ : ∃ r2, w3.heap.size + 1 + 1 = r2 := ⟨_, rfl⟩
  rw [hr2] at HOc
  rw [hr2]
  clear hr2
  generalize w3.heap.size + 1 = r1 at *
  obtain ⟨T5, hT5⟩ : ∃ T5 : Value, .slice (some ⟨r1, 0, none⟩) 1 1 = T5 := ⟨_, rfl⟩
  have C7 := op_check ⟨0, 7, 0, 1, [(1, [0, 2, 0, 1])]⟩ ⟨by show 0 < 256; decide, by show 7 < 65536; decide, by show 0 < 65536; decide, by show 1 < 4294967296; decide⟩ _ 7 0 false w4 (RW.out.kept K4.out) HM.out (by decide)
  rw [show (⟨0, 7, 0, 1, [(1, [0, 2, 0, 1])]⟩ : Opn).sub 7 0 false = 7 from by decide +kernel] at C7
  have C7' : Calls Tryd.prog 19 #[.agg #[.int .u8 0, .int .u16 7, .int .u16 0, .int .u32 1, .slice (some ⟨r1, 0, none⟩) 1 1], .agg #[.int .u32 7, .int .u32 0, .bool false]] w4 fun e w' => ∃ d, e = .returned (.tuple #[.agg #[.int .u8 2, .int .u8 7], d]) ∧ By w' d [1, 4, 0, 1, 0, 1] ∧ Kept Nothing w4 w' := C7
  have HC7 := Lib.hid C7'
  clear C7 C7' hT5 T5
  have ht := HOc.out
  go_wp2_with fail
  refine HC7.out.mono ?_
  rintro _ w5 ⟨dv, rfl, hd, hk⟩
  have hf : ∃ Ad cd, dv = .slice Ad 6 cd := by obtain ⟨Ad, cd, e, _⟩ := hd.form; exact ⟨Ad, cd, e⟩
  obtain ⟨Ad, cd, rfl⟩ := hf
  have ka := (Kept.refl Nothing w5).alloc (.cells #[.int .u8 2, .int .u8 7] 30)
  have T6 : Hid (KS W L p r2 (.slice A L.length c) (.slice (some ⟨r1, 0, none⟩) 1 1) (.slice Ad 6 cd) (w5.alloc (.cells #[.int .u8 2, .int .u8 7] 30))) := Lib.hid
    ⟨(BX4.out.kept hk (fun x => x)).kept ka (fun x => x), (D4.out.old hk).old ka, (HM.out.old hk).old ka, ka.cell_some (hk.cell_some HOc.out (fun x => x)) (fun x => x), hd.old ka, (K4.out.trans hk).trans ka, ((RW.out.kept K4.out).kept hk).kept ka⟩
  have X6 := Lib.hid ((X4'.out.kept hk (NoBytes.nothing _)).kept ka (NoBytes.nothing _))
  clear ht hd hk ka HC7 BX4 D4 HM HOc X4' K4 RW
  go_upto_region 8 with fail
  generalize w5.alloc (.cells #[.int .u8 2, .int .u8 7] 30) = w6 at *
  refine wp_region_grow w6 (Facts kl8 ks8) (by kernel_rfl) (by decide +kernel) (by intro d hd; simp [dsts] at hd ⊢; omega) (ready_nilb (by kernel_rfl)) (by kernel_rfl) (Facts.guards (E := []) (by kernel_rfl) (fun _ h => by cases h)) (Facts.stab ks8_stab) (Kept.refl Nothing w6).drew ?_ ?_
  · refine OweAll.cons ?_ ?_
    · intro u a hk hf hfar
      clear hf hfar
      go_simp
      have hz : ∃ b, (.slice (some ⟨u.heap.size, 0, none⟩) 253 253 : Value) = .slice (some ⟨b, 0, none⟩) 253 253 ∧ Blk (u.alloc (.cells (zko 253) 5)) b 5 (zko 253) := ⟨_, rfl, Blk.fresh _ _ _⟩
      exact ⟨_, rfl, (Kept.refl _ _).alloc _, hz⟩
    refine OweAll.cons ?_ ?_
    · intro u a hk hf hfar
      have z46 : ∃ b, (a.tmps.getD 46 undef) = .slice (some ⟨b, 0, none⟩) 253 253 ∧ Blk u b 5 (zko 253) := hf 0 _ 46 rfl rfl ⟨⟨0, .data⟩, Array.mem_of_getElem? (i := 0) rfl, rfl, rfl⟩
      obtain ⟨b46, v46, hb46⟩ := z46
      have w46 := v46
      rw [Array.getD_eq_getD_getElem?] at w46
      clear hf hfar
      go_simp
      exact ⟨_, rfl, Kept.refl _ _, ⟨_, rfl, hb46⟩⟩
    refine OweAll.cons ?_ ?_
    · intro u a hk hf hfar
      clear hf hfar
      go_simp
      have hz : ∃ b, (.slice (some ⟨u.heap.size, 0, none⟩) 9 9 : Value) = .slice (some ⟨b, 0, none⟩) 9 9 ∧ Blk (u.alloc (.cells (zko 9) 5)) b 5 (zko 9) := ⟨_, rfl, Blk.fresh _ _ _⟩
      exact ⟨_, rfl, (Kept.refl _ _).alloc _, hz⟩
    refine OweAll.cons ?_ ?_
    · intro u a hk hf hfar
      have z48 : ∃ b, (a.tmps.getD 48 undef) = .slice (some ⟨b, 0, none⟩) 9 9 ∧ Blk u b 5 (zko 9) := hf 2 _ 48 rfl rfl ⟨⟨2, .data⟩, Array.mem_of_getElem? (i := 0) rfl, rfl, rfl⟩
      obtain ⟨b48, v48, hb48⟩ := z48
      have w48 := v48
      rw [Array.getD_eq_getD_getElem?] at w48
      clear hf hfar
      go_simp
      exact ⟨_, rfl, Kept.refl _ _, ⟨_, rfl, hb48⟩⟩
    refine OweAll.cons ?_ ?_
    · intro u a hk hf hfar
      have z47 : ∃ b, (a.tmps.getD 47 undef) = .agg #[.int .u8 0, .slice (some ⟨b, 0, none⟩) 253 253] ∧ Blk u b 5 (zko 253) := hf 1 _ 47 rfl rfl ⟨⟨1, .data⟩, Array.mem_of_getElem? (i := 0) rfl, rfl, rfl⟩
      obtain ⟨b47, v47, hb47⟩ := z47
      have w47 := v47
      rw [Array.getD_eq_getD_getElem?] at w47
      have z49 : ∃ b, (a.tmps.getD 49 undef) = .agg #[.int .u8 0, .slice (some ⟨b, 0, none⟩) 9 9] ∧ Blk u b 5 (zko 9) := hf 3 _ 49 rfl rfl ⟨⟨3, .data⟩, Array.mem_of_getElem? (i := 1) rfl, rfl, rfl⟩
      obtain ⟨b49, v49, hb49⟩ := z49
      have w49 := v49
      rw [Array.getD_eq_getD_getElem?] at w49
      clear hf hfar
      go_simp
      exact ⟨_, rfl, (Kept.refl _ _).alloc _, ⟨_, rfl, two_cps hb47 hb49⟩⟩
    refine OweAll.cons ?_ ?_
    · intro u a hk hf hfar
      have z50 : ∃ g, (a.tmps.getD 50 undef) = .slice (some ⟨g, 0, none⟩) 2 2 ∧ Cps u (.slice (some ⟨g, 0, none⟩) 2 2) [(0, zlo 253), (0, zlo 9)] := hf 4 _ 50 rfl rfl ⟨⟨4, .data⟩, Array.mem_of_getElem? (i := 0) rfl, rfl, rfl⟩
      obtain ⟨b50, v50, hb50⟩ := z50
      have w50 := v50
      rw [Array.getD_eq_getD_getElem?] at w50
      clear hf hfar
      go_simp
      exact ⟨_, rfl, Kept.refl _ _, ⟨_, rfl, hb50⟩⟩
    refine OweAll.cons ?_ ?_
    · intro u a hk hf hfar
      have z51 : ∃ g, (a.tmps.getD 51 undef) = .agg #[.int .u8 0, .int .u16 0, .int .u16 0, .int .u32 0, .slice (some ⟨g, 0, none⟩) 2 2] ∧ Cps u (.slice (some ⟨g, 0, none⟩) 2 2) [(0, zlo 253), (0, zlo 9)] := hf 5 _ 51 rfl rfl ⟨⟨5, .data⟩, Array.mem_of_getElem? (i := 0) rfl, rfl, rfl⟩
      obtain ⟨b51, v51, hb51⟩ := z51
      have w51 := v51
      rw [Array.getD_eq_getD_getElem?] at w51
      clear hf hfar
      go_simp
      refine (put_no _ 3 3 rfl (by decide +kernel) (by decide) _ u hb51 (by decide)).mono ?_
      rintro _ u' ⟨A, c, rfl, hk'⟩
      exact ⟨_, rfl, hk', ⟨_, _, rfl, Kept.refl _ _⟩⟩
    refine OweAll.cons ?_ ?_
    · intro u a hk hf hfar
      have z52 : ∃ A c, (a.tmps.getD 52 undef) = .tuple #[.slice A 0 c, .int .i64 3] ∧ Kept Nothing u u := hf 6 _ 52 rfl rfl ⟨⟨6, .data⟩, Array.mem_of_getElem? (i := 0) rfl, rfl, rfl⟩
      obtain ⟨A52, c52, v52, -⟩ := z52
      have w52 := v52
      rw [Array.getD_eq_getD_getElem?] at w52
      clear hf hfar
      go_simp
      exact ⟨_, rfl, Kept.refl _ _, ⟨_, _, rfl, Kept.refl _ _⟩⟩
    refine OweAll.cons ?_ ?_
    · intro u a hk hf hfar
      have z45 : ∃ A c, (a.tmps.getD 45 undef) = .tuple #[.slice A 0 c, .int .i64 3] ∧ Kept Nothing u u := hf 7 _ 45 rfl rfl ⟨⟨7, .data⟩, Array.mem_of_getElem? (i := 0) rfl, rfl, rfl⟩
      obtain ⟨A45, c45, v45, -⟩ := z45
      have w45 := v45
      rw [Array.getD_eq_getD_getElem?] at w45
      clear hf hfar
      go_simp
      exact ⟨_, rfl, Kept.refl _ _, ⟨_, _, rfl, Kept.refl _ _⟩⟩
    refine OweAll.cons ?_ ?_
    · intro u a hk hf hfar
      have z45 : ∃ A c, (a.tmps.getD 45 undef) = .tuple #[.slice A 0 c, .int .i64 3] ∧ Kept Nothing u u := hf 7 _ 45 rfl rfl ⟨⟨7, .data⟩, Array.mem_of_getElem? (i := 0) rfl, rfl, rfl⟩
      obtain ⟨A45, c45, v45, -⟩ := z45
      have w45 := v45
      rw [Array.getD_eq_getD_getElem?] at w45
      clear hf hfar
      go_simp
      exact ⟨_, rfl, Kept.refl _ _, rfl⟩
    refine OweAll.cons ?_ ?_
    · intro u a hk hf hfar
      have z53 : ∃ A c, (a.tmps.getD 53 undef) = .slice A 0 c ∧ Kept Nothing u u := hf 8 _ 53 rfl rfl ⟨⟨8, .data⟩, Array.mem_of_getElem? (i := 0) rfl, rfl, rfl⟩
      obtain ⟨A53, c53, v53, -⟩ := z53
      have w53 := v53
      rw [Array.getD_eq_getD_getElem?] at w53
      clear hf hfar
      go_simp
      exact ⟨_, rfl, Kept.refl _ _, ⟨_, _, rfl, Kept.refl _ _⟩⟩
    refine OweAll.cons ?_ ?_
    · intro u a hk hf hfar
      have v54 : a.tmps.getD 54 undef = .int .i64 3 := hf 9 _ 54 rfl rfl ⟨⟨9, .data⟩, Array.mem_of_getElem? (i := 0) rfl, rfl, rfl⟩
      have w54 := v54
      rw [Array.getD_eq_getD_getElem?] at w54
      clear hf hfar
      go_simp
      exact ⟨_, rfl, Kept.refl _ _, rfl⟩
    exact OweAll.nil
  · intro vals u hku hV
    have e9 : vals 11 = .int .i64 3 := hV 11 _ 9 rfl rfl
    obtain ⟨A8, c8, e8, -⟩ : ∃ A c, vals 10 = .slice A 0 c ∧ Kept Nothing u u := hV 10 _ 8 rfl rfl
    have T7 := Lib.hid (T6.out.old hku)
    have X7 := Lib.hid (X6.out.kept hku (NoBytes.nothing _))
    clear hV hku T6 X6
    simp [putAll, Act.put, Array.setIfInBounds, e9, e8]
    clear e9 e8
    have hz9 : (u.alloc (.cells (zko 254) 5)).heap.size = u.heap.size + 1 := World.size_alloc _ _
    have c9 := one_cps (n := 254) (by decide) (Blk.fresh u 5 (zko 254))
    rw [hz9] at c9
    have C9 := Lib.hid (put_no [(0, zlo 254)] 1 1 rfl (by decide +kernel) (by decide) _ _ c9 (by decide))
    have kz := ((Kept.refl Nothing u).alloc (.cells (zko 254) 5)).alloc (.cells #[.int .u8 0, .slice (some ⟨u.heap.size, 0, none⟩) 254 254] 66)
    have KZ := Lib.hid kz
    clear c9 hz9 kz
    go_wp2_with fail
    refine C9.out.mono ?_
    rintro _ w10 ⟨A9, c9, rfl, hk⟩
    have T10 := Lib.hid ((T7.out.old KZ.out).old hk)
    have X10 := Lib.hid ((X7.out.kept KZ.out (NoBytes.nothing _)).kept hk (NoBytes.nothing _))
    clear hk KZ T7 X7 C9
    have B10 := Lib.hid (X10.out.by.pre (m := 9) (by decide))
    have hsl : ∀ w, (Instr.slice 22 (.slice Ax 26 cx) none (some (.int .i64 9)) none).run Tryd.prog w = .ok (.slice Ax 9 cx) w := fun w => slice_to Ax 26 cx 9 (by omega) w
    have C10 := Lib.hid (get_bad0k (.slice Ax 9 cx) _ w10 (Opn.get_short (by decide)) B10.out (by decide))
    clear B10
    go_wp2_with fail
    refine C10.out.mono ?_
    rintro _ w11 ⟨A10, c10, Aa, na, ca, rfl, hk⟩
    have k12 := (hk.alloc (.cells #[.int .u8 0, .int .u16 0, .int .u16 0, .int .u32 0, .slice A10 0 c10] 28)).alloc (.cells #[.int .u8 2, .int .u8 0] 30)
    have X1 := Blk.fresh (w11.alloc (.cells #[.int .u8 0, .int .u16 0, .int .u16 0, .int .u32 0, .slice A10 0 c10] 28)) 30 #[.int .u8 2, .int .u8 0]
    rw [World.size_alloc] at X1
    have X1' := Lib.hid X1
    have T12 := Lib.hid (T10.out.old k12)
    clear X1 k12 hk T10 X10 C10 hsl
    go_upto_region 11 with fail
    generalize (w11.alloc (.cells #[.int .u8 0, .int .u16 0, .int .u16 0, .int .u32 0, .slice A10 0 c10] 28)).alloc (.cells #[.int .u8 2, .int .u8 0] 30) = w12 at *
    obtain ⟨q1, hq1⟩ : ∃ q1, w11.heap.size + 1 = q1 := ⟨_, rfl⟩
    rw [hq1] at X1'
    rw [hq1]
    clear hq1
    generalize w11.heap.size = q11 at *
    have C12 := Lib.hid (get_nok 4 4 rfl (.slice (some ⟨w12.heap.size, 0, none⟩) 12 12) [4, 0, 1, 0, 0, 0, 0, 0, 1, 2, 1, 0] (w12.alloc (.cells #[.int .u8 4, .int .u8 0, .int .u8 1, .int .u8 0, .int .u8 0, .int .u8 0, .int .u8 0, .int .u8 0, .int .u8 1, .int .u8 2, .int .u8 1, .int .u8 0] 5)) (Opn.get_bad (b := [4, 0, 1, 0, 0, 0, 0, 0, 1, 2, 1, 0]) (by decide +kernel)).1 (by decide +kernel) (by decide +kernel) (Bs.made (l := [4, 0, 1, 0, 0, 0, 0, 0, 1, 2, 1, 0]) (Blk.fresh w12 _ _) rfl (by simp [maxLen])).by (by decide))
    go_wp2_with fail
    refine C12.out.mono ?_
    rintro _ w13 ⟨A12, c12, Ab, nb, cb, rfl, hk⟩
    have k14 := ((((Kept.refl Nothing w12).alloc (.cells #[.int .u8 4, .int .u8 0, .int .u8 1, .int .u8 0, .int .u8 0, .int .u8 0, .int .u8 0, .int .u8 0, .int .u8 1, .int .u8 2, .int .u8 1, .int .u8 0] 5)).trans hk).alloc (.cells #[.int .u8 0, .int .u16 0, .int .u16 0, .int .u32 0, .slice A12 0 c12] 28)).alloc (.cells #[.int .u8 2, .int .u8 4] 30)
    have X2 := Blk.fresh (w13.alloc (.cells #[.int .u8 0, .int .u16 0, .int .u16 0, .int .u32 0, .slice A12 0 c12] 28)) 30 #[.int .u8 2, .int .u8 4]
    rw [World.size_alloc] at X2
    have X2' := Lib.hid X2
    have X1n := Lib.hid (X1'.out.kept k14 (fun x => x))
    have T14 := Lib.hid (T12.out.old k14)
    clear X2 k14 hk T12 X1' C12
    go_upto_region 12 with fail
    generalize (w13.alloc (.cells #[.int .u8 0, .int .u16 0, .int .u16 0, .int .u32 0, .slice A12 0 c12] 28)).alloc (.cells #[.int .u8 2, .int .u8 4] 30) = w14 at *
    obtain ⟨q2, hq2⟩ : ∃ q2, w13.heap.size + 1 = q2 := ⟨_, rfl⟩
    rw [hq2] at X2'
    rw [hq2]
    clear hq2
    generalize w13.heap.size = q13 at *
    have C14 := Lib.hid (get_nok 0 0 rfl (.slice (some ⟨w14.heap.size, 0, none⟩) 12 12) [4, 0, 1, 0, 0, 0, 0, 0, 1, 2, 2, 1] (w14.alloc (.cells #[.int .u8 4, .int .u8 0, .int .u8 1, .int .u8 0, .int .u8 0, .int .u8 0, .int .u8 0, .int .u8 0, .int .u8 1, .int .u8 2, .int .u8 2, .int .u8 1] 5)) (Opn.get_bad (b := [4, 0, 1, 0, 0, 0, 0, 0, 1, 2, 2, 1]) (by decide +kernel)).1 (by decide +kernel) (by decide +kernel) (Bs.made (l := [4, 0, 1, 0, 0, 0, 0, 0, 1, 2, 2, 1]) (Blk.fresh w14 _ _) rfl (by simp [maxLen])).by (by decide))
    go_wp2_with fail
    refine C14.out.mono ?_
    rintro _ w15 ⟨A14, c14, Ac, nc, cc, rfl, hk⟩
    have k16 := ((((Kept.refl Nothing w14).alloc (.cells #[.int .u8 4, .int .u8 0, .int .u8 1, .int .u8 0, .int .u8 0, .int .u8 0, .int .u8 0, .int .u8 0, .int .u8 1, .int .u8 2, .int .u8 2, .int .u8 1] 5)).trans hk).alloc (.cells #[.int .u8 0, .int .u16 0, .int .u16 0, .int .u32 0, .slice A14 0 c14] 28)).alloc (.cells #[.int .u8 2, .int .u8 0] 30)
    have X3 := Blk.fresh (w15.alloc (.cells #[.int .u8 0, .int .u16 0, .int .u16 0, .int .u32 0, .slice A14 0 c14] 28)) 30 #[.int .u8 2, .int .u8 0]
    rw [World.size_alloc] at X3
    have X3' := Lib.hid X3
    have X1m := Lib.hid (X1n.out.kept k16 (fun x => x))
    have X2m := Lib.hid (X2'.out.kept k16 (fun x => x))
    have T16 := Lib.hid (T14.out.old k16)
    clear X3 k16 hk T14 X1n X2' C14
    go_upto_region 13 with fail
    generalize (w15.alloc (.cells #[.int .u8 0, .int .u16 0, .int .u16 0, .int .u32 0, .slice A14 0 c14] 28)).alloc (.cells #[.int .u8 2, .int .u8 0] 30) = w16 at *
    obtain ⟨q3, hq3⟩ : ∃ q3, w15.heap.size + 1 = q3 := ⟨_, rfl⟩
    rw [hq3] at X3'
    rw [hq3]
    clear hq3
    generalize w15.heap.size = q15 at *
    refine known_tail W L p r2 q1 q2 q3 cd Ad _ _ w16 T16 HN HI HLL X1m X2m X3' _ (by rfl) _ (by rfl) rfl rfl rfl rfl rfl rfl rfl rfl rfl ?_
    intro A' u' hku hA' hdef
    have hr := results_tmp (fn := Tryd.f8) (t := 0) (by rfl) A'.tmps Tryd.prog u'
    rw [hA'] at hr
    go_wp2
    exact bodyPost_ret hr hdef ⟨rfl, T16.out.k.trans hku⟩
end Go.Proofs.YtohgkibpcgfihaaDoor
