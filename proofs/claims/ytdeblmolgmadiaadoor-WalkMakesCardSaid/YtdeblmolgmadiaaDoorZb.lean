
/-
  walk: begins, Right, Length.
-/
import Derived.Test.YtdeblmolgmadiaaDoorJh
import Derived.Laws.EntriesVeiled
namespace Go.Proofs.YtdeblmolgmadiaaDoor
open Go.RowKit Go.Shelf
attribute [local go_sem] Oper.semAt_some

set_option maxRecDepth 20000 in
set_option maxHeartbeats 2000000 in
theorem some_any (w0 w : World) (v : Value) (l : List Seg) (N : Nat) (fr : Array Value) (S : Nat → Prop) (en : ∀ args w, (callFunc N args).run Tryd.prog w = .ok (.enter N args) w)
    (h : Pts w0 v l) (k0 : Kept Nothing w0 w) (hS : ∀ k, S k → w0.heap.size ≤ k) (hS2 : ∀ k, S k → k < w.heap.size) (hl : l.length ≤ 1000000) (hn : ∀ s ∈ l, s.2.length ≤ 1000000)
    (J X : List (UInt8 × Nat) → World → Prop)
    (hJ : ∀ s A B, J s A → w.heap.size ≤ A.heap.size → Kept (fun k => w.heap.size ≤ k) A B → J s B)
    (hX : ∀ s A B, X s A → w.heap.size ≤ A.heap.size → Kept (fun k => w.heap.size ≤ k) A B → X s B)
    (hask : ∀ pre x A, J pre A → pre ++ [x] <+: Pt.all l → Calls Tryd.prog N (#[.int .u8 (x.1.toNat : Int), .int .u32 (x.2 : Int)] ++ fr) A fun e A' => Kept S A A' ∧ ((e = .returned (.bool false) ∧ J (pre ++ [x]) A') ∨ (e = .returned (.bool true) ∧ X (pre ++ [x]) A')))
    (h0 : J [] w) :
    Calls Tryd.prog 33 #[v, .func (.func N) #[] fr] w fun e w' => Kept S w w' ∧ ((Pt.may l = false ∧ e = .returned (.bool false) ∧ J [] w') ∨ (Pt.may l = true ∧ ((e = .returned (.bool false) ∧ J (Pt.all l) w') ∨ (e = .returned (.bool true) ∧ ∃ pre, pre <+: Pt.all l ∧ X pre w')))) := by
  obtain ⟨A, c, rfl, hc, hm⟩ := h.form
  have hmf := run_mkFunc
  have HM := Lib.hid (fun w1 (k1 : Kept Nothing w0 w1) => path_may _ l w1 (h.old k1) (by omega))
  have HJ := Lib.hid hJ
  have HX := Lib.hid hX
  have HASK := Lib.hid hask
  have HV := Lib.hid h
  have HN := Lib.hid hn
  have K0 := Lib.hid k0
  have HS := Lib.hid hS
  have HS2 := Lib.hid hS2
  have H0 := Lib.hid h0
  clear hJ hX hask h hn k0 hS hS2 h0
  refine (callsIn_wide (n := 4)).1 (callsIn_of_wp_marks Tryd.func33 rfl trivial ?_ rfl)
  rw [wpIn_wide]
  simp only [Tryd.ntmps33, List.size_toArray, List.length_cons, List.length_nil, Nat.reduceAdd, Nat.reduceSub, Array.replicate_succ, Array.replicate_zero, List.push_toArray, List.append_toArray, List.nil_append, List.cons_append]
  go_upto_region 1 with fail
  have ba := (Blk.fresh w 67 #[.func (.func N) #[] fr]).alloc (.cells #[.bool false] 4)
  have br := Blk.fresh (w.alloc (.cells #[.func (.func N) #[] fr] 67)) 4 #[.bool false]
  rw [World.size_alloc] at br
  have k1 := ((Kept.refl Nothing w).alloc (.cells #[.func (.func N) #[] fr] 67)).alloc (.cells #[.bool false] 4)
  generalize (w.alloc (.cells #[.func (.func N) #[] fr] 67)).alloc (.cells #[.bool false] 4) = w1 at ba br k1 ⊢
  have BA := Lib.hid ba
  have BR := Lib.hid br
  have K1 := Lib.hid k1
  have HM1 := Lib.hid (HM.out w1 (K0.out.trans k1))
  clear ba br k1 HM
  cases hmay : Pt.may l with
  | false =>
    rw [hmay] at HM1
    have HMY := Lib.hid hmay
    clear hmay
    go_upto_region 2 with (go_at_call 31; refine (HM1.out).mono ?_; rintro e w2 ⟨rfl, k2⟩; (have K2 := Lib.hid k2); clear k2)
    have b2 := BR.out.kept K2.out (fun x => x)
    have c2 := b2.cell 0
    have f2 := b2.free 0
    go_wp2
    have e0 := (b2.put 0 (.bool false)).cell 0
    have kz : Kept Nothing w (w2.setCell ⟨w.heap.size + 1, 0, none⟩ (.bool false)) := (K1.out.trans K2.out).setCell (p := ⟨w.heap.size + 1, 0, none⟩) (fun (h : w.heap.size + 1 < w.heap.size) => absurd h (by omega)) _
    exact ⟨.bool false, by simp [results, Tryd.results33, go_sem, e0], kz.mono (fun _ x => x.elim), .inl ⟨HMY.out, rfl, HJ.out _ _ _ H0.out (Nat.le_refl _) (kz.mono (fun _ x => x.elim))⟩⟩
  | true =>
    rw [hmay] at HM1
    have HMY := Lib.hid hmay
    clear hmay
    go_upto_region 3 with (go_at_call 31; refine (HM1.out).mono ?_; rintro e w2 ⟨rfl, k2⟩; (have K2 := Lib.hid k2); clear k2)
    have HZ : Hid (w.heap.size + 1 < w2.heap.size) := Lib.hid (Nat.lt_of_lt_of_le BR.out.lt K2.out.size)
    go_wp2_with fail
    have KW := Lib.hid (K1.out.trans K2.out)
    have BA2 := Lib.hid (BA.out.kept K2.out (fun x => x))
    have BR2 := Lib.hid (BR.out.kept K2.out (fun x => x))
    obtain ⟨S2, hS2⟩ : ∃ S2 : Nat → Prop, S2 = fun k => S k ∨ k = w.heap.size + 1 := ⟨_, rfl⟩
    have HSS : Hid (∀ k, S k → S2 k) := Lib.hid (fun k h => by rw [hS2]; exact .inl h)
    have HSR : Hid (S2 (w.heap.size + 1)) := Lib.hid (by rw [hS2]; exact .inr rfl)
    have HSN : Hid (¬ S2 w.heap.size) := Lib.hid (by
      rw [hS2]
      rintro (h | h)
      · exact absurd (HS2.out _ h) (Nat.lt_irrefl _)
      · omega)
    have HSB : Hid (∀ k, S2 k → k < w.heap.size → S k) := Lib.hid (fun k h hk => by
      rw [hS2] at h
      rcases h with h | h
      · exact h
      · omega)
    have HS3 : Hid (∀ k, S2 k → w0.heap.size ≤ k ∧ k < w2.heap.size) := Lib.hid (fun k h => by
      rw [hS2] at h
      have := HZ.out
      have := K0.out.size
      rcases h with h | h
      · have := HS.out k h; have := HS2.out k h; omega
      · omega)
    clear hS2
    refine wp_rf (gf := 51) (fs := #[.slice A l.length c]) (encs := encA) (xs := Pt.all l) (S := S2) rfl (enters_of Tryd.func51 (by kernel_rfl) rfl) (fun k e => (HS3.out k e).2)
      (all_seq w0 _ l _ w2 HV.out (K0.out.trans KW.out) (fun k e => (HS3.out k e).1) (fun k e => (HS3.out k e).2) hl HN.out) (fun _ => rfl)
      (fun pre W => J pre W ∧ Kept S2 w2 W ∧ Blk W w.heap.size 67 #[.func (.func N) #[] fr] ∧ Blk W (w.heap.size + 1) 4 #[.bool false])
      (fun c pre W => c = .ret ∧ X pre W ∧ Kept S2 w2 W ∧ Blk W (w.heap.size + 1) 4 #[.bool true])
      (fun s X Y hs hX hk => ⟨HJ.out _ _ _ hs.1 (Nat.le_trans KW.out.size hX) (hk.mono (fun k e => Nat.le_trans KW.out.size e)), hs.2.1.trans_new hk (fun i hi x => by omega), hs.2.2.1.kept hk (by have := HZ.out; omega), hs.2.2.2.kept hk (by have := HZ.out; omega)⟩)
      (fun c s A B hs hA hk => ⟨hs.1, HX.out _ _ _ hs.2.1 (Nat.le_trans KW.out.size hA) (hk.mono (fun k e => Nat.le_trans KW.out.size e)), hs.2.2.1.trans_new hk (fun i hi x => by omega), hs.2.2.2.kept hk (by have := HZ.out; omega)⟩)
      ⟨HJ.out _ _ _ H0.out (Nat.le_refl _) (KW.out.mono (fun _ x => x.elim)), Kept.refl _ _, BA2.out, BR2.out⟩
      (fun x => { tmps := #[.slice A l.length c, .func (.func N) #[] fr, undef, .pointer (some ⟨w.heap.size, 0, none⟩), .pointer (some ⟨w.heap.size + 1, 0, none⟩), .int .u8 (x.1.toNat : Int), .int .u32 (x.2 : Int), .slice A l.length c, .bool true, .bool false, .slice A l.length c, .func (.func 51) #[.slice A l.length c] #[], .int .u8 (x.1.toNat : Int), .int .u32 (x.2 : Int), undef, undef, undef, undef], defers := [] }) ?assign ?body ?done ?stop
    case assign =>
      intro q x W K hK
      simp only [encA, fold_two]
      gi_wp2
      exact hK
    case body =>
      rintro q pre x W ⟨hj, hk, hba, hbr⟩ hp2 hz
      have ca := hba.cell 0
      have HA := Lib.hid (HASK.out pre x W hj hp2)
      have HK := Lib.hid hk
      have HBA := Lib.hid hba
      have HBR := Lib.hid hbr
      clear hj hk hba hbr
      gi_wp2
      refine ⟨trivial, (CallsIn.inRound q (callsIn_wide.2 HA.out)).mono ?_⟩
      rintro e W2 ⟨k2, (⟨rfl, hj2⟩ | ⟨rfl, hx2⟩)⟩
      · have k3 := Lib.hid (k2.mono HSS.out)
        have b3 := Lib.hid (HBA.out.kept k3.out HSN.out)
        have r3 := Lib.hid (HBR.out.kept k2 (fun h => absurd (HS2.out _ h) (by omega)))
        gi_wp2
        exact ⟨k3.out, hj2, HK.out.trans k3.out, b3.out, r3.out⟩
      · have k3 := Lib.hid (k2.mono HSS.out)
        have br3 := HBR.out.kept k2 (fun h => absurd (HS2.out _ h) (by omega))
        have r3 := Lib.hid br3
        have c3 := br3.cell 0
        have f3 := br3.free 0
        clear br3
        gi_wp2
        refine ⟨k3.out.setCell (p := ⟨w.heap.size + 1, 0, none⟩) (fun _ => HSR.out) _, rfl, ?_, (HK.out.trans k3.out).setCell (p := ⟨w.heap.size + 1, 0, none⟩) (fun _ => HSR.out) _, r3.out.put 0 _⟩
        exact HX.out _ W2 _ hx2 (by have := HK.out.size; have := k3.out.size; have := KW.out.size; omega) ((Kept.refl _ W2).setCell (p := ⟨w.heap.size + 1, 0, none⟩) (fun _ => Nat.le_succ _) _)
    case done =>
      rintro D W hD ⟨hj, hk, hba, hbr⟩ hd
      have c0 := hbr.cell 0
      have f0 := hbr.free 0
      have hzz := HZ.out
      go_wp2
      have e0 := ((hbr.put 0 (.bool false)).putObj (D := D) (by omega) (.deferred none)).cell 0
      have hd2 : (W.setCell ⟨w.heap.size + 1, 0, none⟩ (.bool false)).heap[D]? = some (.deferred (some [])) := (Below.heap_setCell W ⟨w.heap.size + 1, 0, none⟩ _ D (by show D ≠ w.heap.size + 1; omega)).trans hd
      refine ⟨by simp, .inl ⟨_, _, rfl, run_takeDeferred hd2, ?_⟩⟩
      have kz : Kept S w ((W.setCell ⟨w.heap.size + 1, 0, none⟩ (.bool false)).putObj D (.deferred none)) :=
        (((KW.out.mono (fun _ x => x.elim)).trans_new hk (fun i hi x => HSB.out i x hi)).setCell (p := ⟨w.heap.size + 1, 0, none⟩) (fun (h : w.heap.size + 1 < w.heap.size) => absurd h (by omega)) _).trans_new ((Kept.putObj _ D _).mono (fun k (e : k = D) => e)) (fun i hi (e : i = D) => by omega)
      exact ⟨.bool false, by simp [results, Tryd.results33, go_sem, e0], kz, .inr ⟨HMY.out, .inl ⟨rfl, HJ.out _ W _ hj (by have := hk.size; have := KW.out.size; omega) (((Kept.refl _ W).setCell (p := ⟨w.heap.size + 1, 0, none⟩) (fun _ => Nat.le_succ _) _).trans ((Kept.putObj _ D _).mono (fun k (e : k = D) => by omega)))⟩⟩⟩
    case stop =>
      rintro D c pre W hD hpre ⟨rfl, hx, hk, hbr⟩ hd
      have c0 := hbr.cell 0
      have hzz := HZ.out
      go_wp2
      have e0 := (hbr.putObj (D := D) (by omega) (.deferred none)).cell 0
      refine ⟨by simp, .inl ⟨_, _, rfl, run_takeDeferred hd, ?_⟩⟩
      have kz : Kept S w (W.putObj D (.deferred none)) := (((KW.out.mono (fun _ x => x.elim)).trans_new hk (fun i hi x => HSB.out i x hi))).trans_new ((Kept.putObj _ D _).mono (fun k (e : k = D) => e)) (fun i hi (e : i = D) => by omega)
      exact ⟨.bool true, by simp [results, Tryd.results33, go_sem, e0], kz, .inr ⟨HMY.out, .inr ⟨rfl, pre, hpre, HX.out _ W _ hx (by have := hk.size; have := KW.out.size; omega) ((Kept.putObj _ D _).mono (fun k (e : k = D) => by omega))⟩⟩⟩

/-- .. by a closure that tells of each number alone. -/
theorem some_pure (w0 w : World) (v : Value) (l : List Seg) (N : Nat) (fr : Array Value) (p : UInt8 × Nat → Bool) (en : ∀ args w, (callFunc N args).run Tryd.prog w = .ok (.enter N args) w)
    (h : Pts w0 v l) (k0 : Kept Nothing w0 w) (hl : l.length ≤ 1000000) (hn : ∀ s ∈ l, s.2.length ≤ 1000000)
    (hask : ∀ x A, Kept Nothing w A → Calls Tryd.prog N (#[.int .u8 (x.1.toNat : Int), .int .u32 (x.2 : Int)] ++ fr) A fun e A' => e = .returned (.bool (p x)) ∧ Kept Nothing A A') :
    Calls Tryd.prog 33 #[v, .func (.func N) #[] fr] w fun e w' => e = .returned (.bool (Pt.may l && (Pt.all l).any p)) ∧ Kept Nothing w w' := by
  refine (some_any w0 w v l N fr Nothing en h k0 (fun _ x => x.elim) (fun _ x => x.elim) hl hn (fun pre A => Kept Nothing w A ∧ ∀ x ∈ pre, p x = false) (fun pre A => Kept Nothing w A ∧ ∃ x ∈ pre, p x = true)
    (fun s A B hs hA hk => ⟨hs.1.trans_new hk (fun i hi x => by omega), hs.2⟩) (fun s A B hs hA hk => ⟨hs.1.trans_new hk (fun i hi x => by omega), hs.2⟩) (fun pre x A hj hp => ?_) ⟨Kept.refl _ _, fun _ x => by cases x⟩).mono ?_
  · refine (hask x A hj.1).mono ?_
    rintro e A' ⟨rfl, k⟩
    refine ⟨k, ?_⟩
    cases hx : p x with
    | false =>
      refine .inl ⟨rfl, hj.1.trans k, fun y hy => ?_⟩
      rcases List.mem_append.1 hy with hy | hy
      · exact hj.2 y hy
      · obtain rfl := List.mem_singleton.1 hy
        exact hx
    | true => exact .inr ⟨rfl, hj.1.trans k, x, by simp, hx⟩
  · rintro e w' ⟨k, (⟨hm, rfl, -⟩ | ⟨hm, (⟨rfl, -, hf⟩ | ⟨rfl, pre, hpre, -, x, hx, ht⟩)⟩)⟩
    · exact ⟨by rw [hm]; rfl, k⟩
    · refine ⟨?_, k⟩
      rw [hm, Bool.true_and]
      have : (Pt.all l).any p = false := by
        rw [List.any_eq_false]
        intro x hx
        rw [hf x hx]
        simp
      rw [this]
    · refine ⟨?_, k⟩
      rw [hm, Bool.true_and]
      have : (Pt.all l).any p = true := List.any_eq_true.2 ⟨x, hpre.subset hx, ht⟩
      rw [this]
end Go.Proofs.YtdeblmolgmadiaaDoor
namespace Go.Proofs.YtdeblmolgmadiaaDoor
open Go.RowKit Go.Shelf

namespace Wk
/-- Is a segment of this kind confed? -/
def confed (k : UInt8) : Bool := decide (k.toNat = 3) || decide (k.toNat = 4)
def has (l : List Seg) (n : Nat) : Bool := Pt.may l && (Pt.all l).any (fun x => x.2 == n)
def loops (l : List Seg) (m c : Nat) : Bool := Pt.may l && (Pt.all l).any (fun x => if confed x.1 then x.2 == m else x.2 == c)
/-- Has a plain number come up, and a confed one behind it? -/
def st (s : Bool × Bool) (x : UInt8 × Nat) : Bool × Bool := if confed x.1 then (s.1, s.2 || s.1) else (true, s.2)
def sts (a : List (UInt8 × Nat)) : Bool × Bool := a.foldl st (false, false)
def ordered (l : List Seg) : Bool := Pt.may l && !(sts (Pt.all l)).2
theorem sts_snoc (a : List (UInt8 × Nat)) (x : UInt8 × Nat) : sts (a ++ [x]) = st (sts a) x := by unfold sts; rw [List.foldl_append]; rfl
theorem bad_stays (b : List (UInt8 × Nat)) : ∀ s : Bool × Bool, s.2 = true → (b.foldl st s).2 = true := by
  induction b with
  | nil => exact fun s h => h
  | cons x b ih =>
    intro s h
    refine ih _ ?_
    unfold st
    split
    · simp [h]
    · exact h
theorem bad_prefix {a b : List (UInt8 × Nat)} (h : a <+: b) (hb : (sts a).2 = true) : (sts b).2 = true := by
  obtain ⟨r, rfl⟩ := h
  unfold sts
  rw [List.foldl_append]
  exact bad_stays r _ hb
/-- The number of a plain one. -/
def nbv (x : Option (UInt8 × Nat)) : Nat := match x with
  | some x => if x.1.toNat = 2 then x.2 else 0
  | none => 0
def neighbour (l : List Seg) : Nat := if Pt.may l then nbv ((Pt.all l).find? (fun x => !confed x.1)) else 0
def origin (l : List Seg) : Nat := if Pt.may l then nbv (Pt.all l).getLast? else 0
theorem find_prefix {a b : List (UInt8 × Nat)} {p : UInt8 × Nat → Bool} (h : a <+: b) {x : UInt8 × Nat} (hf : a.find? p = some x) : b.find? p = some x := by
  obtain ⟨r, rfl⟩ := h
  rw [List.find?_append, hf]; rfl
end Wk
theorem nat_beq (m n : Nat) : ((m : Int) == (n : Int)) = (m == n) := by rw [Bool.eq_iff_iff]; simp; omega
theorem app3 (a b c : Value) : (#[a, b] ++ #[c] : Array Value) = #[a, b, c] := by simp
theorem app4 (a b c d : Value) : (#[a, b] ++ #[c, d] : Array Value) = #[a, b, c, d] := by simp

theorem confed_any (k : UInt8) (w : World) : Calls Tryd.prog 37 #[.int .u8 (k.toNat : Int)] w fun e w' => e = .returned (.bool (Wk.confed k)) ∧ w = w' := by
  unfold Wk.confed
  generalize k.toNat = n
  by_cases h3 : n = 3
  · subst h3
    go_enter Tryd.func37, Tryd.ntmps37
    go_wp2
    go_ret
    exact ⟨rfl, rfl⟩
  · have h3b : ((n : Int) == 3) = false := by simp; omega
    by_cases h4 : n = 4
    · subst h4
      go_enter Tryd.func37, Tryd.ntmps37
      go_wp2
      go_ret
      exact ⟨rfl, rfl⟩
    · have h4b : ((n : Int) == 4) = false := by simp; omega
      have e : (decide (n = 3) || decide (n = 4)) = false := by simp [h3, h4]
      rw [e]
      clear e h3 h4
      go_enter Tryd.func37, Tryd.ntmps37
      go_wp2
      go_ret
      exact ⟨rfl, rfl⟩

theorem has_1 (k m n g : Nat) (A : World) (b : Blk A g 25 #[.int .u32 (n : Int)]) : Calls Tryd.prog 34 #[.int .u8 (k : Int), .int .u32 (m : Int), .pointer (some ⟨g, 0, none⟩)] A fun e w' => e = .returned (.bool (m == n)) ∧ Kept Nothing A w' := by
  have c0 := b.cell 0
  clear b
  go_enter Tryd.func34, Tryd.ntmps34
  go_wp2
  go_ret
  exact ⟨ret_bool (nat_beq m n), Kept.refl _ _⟩
theorem walk_has (v : Value) (l : List Seg) (n : Nat) (w : World) (h : Pts w v l) (hl : l.length ≤ 1000000) (hn : ∀ s ∈ l, s.2.length ≤ 1000000) :
    Calls Tryd.prog 9 #[v, .int .u32 (n : Int)] w fun e w' => e = .returned (.bool (Wk.has l n)) ∧ Kept Nothing w w' := by
  obtain ⟨A, c, rfl, -, -⟩ := h.form
  have hmf := run_mkFunc
  have k1 := (Kept.refl Nothing w).alloc (.cells #[.int .u32 (n : Int)] 25)
  have HS := Lib.hid (some_pure w (w.alloc (.cells #[.int .u32 (n : Int)] 25)) _ l 34 #[.pointer (some ⟨w.heap.size, 0, none⟩)] (fun x => x.2 == n) (enters_of Tryd.func34 (by kernel_rfl) rfl) h k1 hl hn
    (fun x A hA => by rw [app3]; exact has_1 _ _ n _ A ((Blk.fresh w 25 #[.int .u32 (n : Int)]).kept hA (fun x => x))))
  clear h hn
  go_enter Tryd.func9, Tryd.ntmps9
  go_wp2_with (go_at_call 33; refine (HS.out).mono ?_; rintro e w2 ⟨rfl, k2⟩)
  go_ret
  exact ⟨rfl, k1.trans k2⟩

theorem loops_1 (k : UInt8) (m a b g h : Nat) (A : World) (ba : Blk A g 25 #[.int .u32 (a : Int)]) (bb : Blk A h 25 #[.int .u32 (b : Int)]) : Calls Tryd.prog 36 #[.int .u8 (k.toNat : Int), .int .u32 (m : Int), .pointer (some ⟨g, 0, none⟩), .pointer (some ⟨h, 0, none⟩)] A fun e w' => e = .returned (.bool (if Wk.confed k then m == a else m == b)) ∧ Kept Nothing A w' := by
  have c0 := ba.cell 0
  have c1 := bb.cell 0
  have HC := Lib.hid (confed_any k A)
  clear ba bb
  cases hc : Wk.confed k with
  | true =>
    rw [hc] at HC
    clear hc
    go_enter Tryd.func36, Tryd.ntmps36
    go_wp2_with (go_at_call 37; refine (HC.out).mono ?_; rintro e w2 ⟨rfl, rfl⟩)
    go_ret
    exact ⟨ret_bool (nat_beq m a), Kept.refl _ _⟩
  | false =>
    rw [hc] at HC
    clear hc
    go_enter Tryd.func36, Tryd.ntmps36
    go_wp2_with (go_at_call 37; refine (HC.out).mono ?_; rintro e w2 ⟨rfl, rfl⟩)
    go_ret
    exact ⟨ret_bool (nat_beq m b), Kept.refl _ _⟩
theorem walk_loops (v : Value) (l : List Seg) (a b : Nat) (w : World) (h : Pts w v l) (hl : l.length ≤ 1000000) (hn : ∀ s ∈ l, s.2.length ≤ 1000000) :
    Calls Tryd.prog 11 #[v, .int .u32 (a : Int), .int .u32 (b : Int)] w fun e w' => e = .returned (.bool (Wk.loops l a b)) ∧ Kept Nothing w w' := by
  obtain ⟨A, c, rfl, -, -⟩ := h.form
  have hmf := run_mkFunc
  have k1 := ((Kept.refl Nothing w).alloc (.cells #[.int .u32 (a : Int)] 25)).alloc (.cells #[.int .u32 (b : Int)] 25)
  have ba := (Blk.fresh w 25 #[.int .u32 (a : Int)]).alloc (.cells #[.int .u32 (b : Int)] 25)
  have bb := Blk.fresh (w.alloc (.cells #[.int .u32 (a : Int)] 25)) 25 #[.int .u32 (b : Int)]
  rw [World.size_alloc] at bb
  have HS := Lib.hid (some_pure w _ _ l 36 #[.pointer (some ⟨w.heap.size, 0, none⟩), .pointer (some ⟨w.heap.size + 1, 0, none⟩)] (fun x => if Wk.confed x.1 then x.2 == a else x.2 == b) (enters_of Tryd.func36 (by kernel_rfl) rfl) h k1 hl hn
    (fun x A hA => by rw [app4]; exact loops_1 _ _ a b _ _ A (ba.kept hA (fun x => x)) (bb.kept hA (fun x => x))))
  clear h hn ba bb
  go_enter Tryd.func11, Tryd.ntmps11
  go_wp2_with (go_at_call 33; refine (HS.out).mono ?_; rintro e w2 ⟨rfl, k2⟩)
  go_ret
  exact ⟨rfl, k1.trans k2⟩

theorem Wk.confed_seq {k : UInt8} (h : k.toNat = 2) : Wk.confed k = false := by unfold Wk.confed; simp [h]

theorem ordered_1 (k : UInt8) (m g : Nat) (s : Bool × Bool) (A : World) (b : Blk A g 4 #[.bool s.1]) (hs : s.2 = false) :
    Calls Tryd.prog 38 #[.int .u8 (k.toNat : Int), .int .u32 (m : Int), .pointer (some ⟨g, 0, none⟩)] A fun e A' => Kept (Only g) A A' ∧ e = .returned (.bool (Wk.st s (k, m)).2) ∧ Blk A' g 4 #[.bool (Wk.st s (k, m)).1] := by
  obtain ⟨pl, bd⟩ := s
  simp only at hs b
  subst hs
  have c0 := b.cell 0
  have f0 := b.free 0
  have HB := Lib.hid b
  have HC := Lib.hid (confed_any k A)
  have HST : Hid (Wk.st (pl, false) (k, m) = if Wk.confed k then (pl, false || pl) else (true, false)) := Lib.hid rfl
  clear b
  cases hc : Wk.confed k with
  | true =>
    rw [hc] at HC HST
    clear hc
    go_enter Tryd.func38, Tryd.ntmps38
    go_wp2_with (go_at_call 37; refine (HC.out).mono ?_; rintro e w2 ⟨rfl, rfl⟩)
    go_ret
    rw [HST.out]
    exact ⟨Kept.refl _ _, by simp, HB.out⟩
  | false =>
    rw [hc] at HC HST
    clear hc
    go_enter Tryd.func38, Tryd.ntmps38
    go_wp2_with (go_at_call 37; refine (HC.out).mono ?_; rintro e w2 ⟨rfl, rfl⟩)
    go_ret
    rw [HST.out]
    exact ⟨Kept.own A g 0 _, rfl, HB.out.put 0 _⟩
theorem walk_ordered (v : Value) (l : List Seg) (w : World) (h : Pts w v l) (hl : l.length ≤ 1000000) (hn : ∀ s ∈ l, s.2.length ≤ 1000000) :
    Calls Tryd.prog 13 #[v] w fun e w' => e = .returned (.bool (Wk.ordered l)) ∧ Kept Nothing w w' := by
  obtain ⟨A, c, rfl, -, -⟩ := h.form
  have hmf := run_mkFunc
  have k1 := (Kept.refl Nothing w).alloc (.cells #[.bool false] 4)
  have b1 := Blk.fresh w 4 #[.bool false]
  have HM := Lib.hid (path_may _ l _ (h.old k1) (by omega))
  have HS := Lib.hid (fun w2 (k2 : Kept Nothing (w.alloc (.cells #[.bool false] 4)) w2) => some_any w w2 _ l 38 #[.pointer (some ⟨w.heap.size, 0, none⟩)] (Only w.heap.size) (enters_of Tryd.func38 (by kernel_rfl) rfl) h (k1.trans k2) (fun k (e : k = _) => by omega) (fun k (e : k = _) => by have := Nat.lt_of_lt_of_le b1.lt k2.size; omega) hl hn
    (fun pre A => Blk A w.heap.size 4 #[.bool (Wk.sts pre).1] ∧ (Wk.sts pre).2 = false) (fun pre A => (Wk.sts pre).2 = true)
    (fun s X Y hs hX hk => ⟨hs.1.kept hk (by have := Nat.lt_of_lt_of_le b1.lt k2.size; omega), hs.2⟩) (fun s X Y hs hX hk => hs)
    (fun pre x A hj hp => by
      rw [app3]
      refine (ordered_1 x.1 x.2 _ (Wk.sts pre) A hj.1 hj.2).mono ?_
      rintro e A' ⟨k3, rfl, b3⟩
      refine ⟨k3, ?_⟩
      rw [Wk.sts_snoc]
      cases hb : (Wk.st (Wk.sts pre) (x.1, x.2)).2 with
      | true => exact .inr ⟨rfl, rfl⟩
      | false => exact .inl ⟨rfl, b3, rfl⟩) ⟨b1.kept k2 (fun x => x), rfl⟩)
  have HS := Lib.hid (fun w2 (k2 : Kept Nothing (w.alloc (.cells #[.bool false] 4)) w2) => (HS.out w2 k2).mono (R' := fun e w' => e = .returned (.bool (Pt.may l && (Wk.sts (Pt.all l)).2)) ∧ Kept Nothing w w') (by
    rintro e w3 ⟨k3, (⟨hm, rfl, -⟩ | ⟨hm, (⟨rfl, -, hf⟩ | ⟨rfl, pre, hpre, ht⟩)⟩)⟩
    · exact ⟨by rw [hm]; rfl, (k1.trans k2).trans_new k3 (fun i hi (e : i = _) => by omega)⟩
    · exact ⟨by rw [hm, hf]; rfl, (k1.trans k2).trans_new k3 (fun i hi (e : i = _) => by omega)⟩
    · exact ⟨by rw [hm, Wk.bad_prefix hpre ht]; rfl, (k1.trans k2).trans_new k3 (fun i hi (e : i = _) => by omega)⟩))
  have HO : Hid (Wk.ordered l = (Pt.may l && !(Wk.sts (Pt.all l)).2)) := Lib.hid rfl
  clear h hn b1
  cases hm : Pt.may l with
  | false =>
    rw [hm] at HM HO HS
    clear hm
    go_enter Tryd.func13, Tryd.ntmps13
    go_wp2_with (go_at_call 31; refine (HM.out).mono ?_; rintro e w2 ⟨rfl, k2⟩)
    go_ret
    exact ⟨by rw [HO.out]; rfl, k1.trans k2⟩
  | true =>
    rw [hm] at HM HO HS
    clear hm
    go_enter Tryd.func13, Tryd.ntmps13
    go_wp2_with (first
      | (go_at_call 33; refine (HS.out _ K2.out).mono ?_; rintro e w3 ⟨rfl, k3⟩)
      | (go_at_call 31; refine (HM.out).mono ?_; rintro e w2 ⟨rfl, k2⟩; (have K2 := Lib.hid k2); clear k2))
    go_ret
    exact ⟨by rw [HO.out]; rfl, k3⟩
end Go.Proofs.YtdeblmolgmadiaaDoor
namespace Go.Proofs.YtdeblmolgmadiaaDoor
open Go.RowKit Go.Shelf

theorem Pt.may_seg2 {l : List Seg} (h : Pt.may l = true) (s : Seg) (hs : s ∈ l) : s.2 ≠ [] := by
  unfold Pt.may at h
  rw [Bool.and_eq_true, List.all_eq_true] at h
  have := h.1 s hs
  unfold Pt.may1 at this
  simp only [Bool.and_eq_true, decide_eq_true_eq] at this
  exact List.length_pos_iff.1 this.1.2
theorem neighbour_1 (k : UInt8) (m g : Nat) (A : World) (b : Blk A g 25 #[.int .u32 0]) :
    Calls Tryd.prog 40 #[.int .u8 (k.toNat : Int), .int .u32 (m : Int), .pointer (some ⟨g, 0, none⟩)] A fun e A' => Kept (Only g) A A' ∧ e = .returned (.bool (!Wk.confed k)) ∧ Blk A' g 25 #[.int .u32 (Wk.nbv (some (k, m)) : Int)] := by
  have HNV : Hid (Wk.nbv (some (k, m)) = if k.toNat = 2 then m else 0) := Lib.hid rfl
  have c0 := b.cell 0
  have f0 := b.free 0
  have HB := Lib.hid b
  have HC := Lib.hid (fun A => confed_any k A)
  generalize Wk.confed k = cf at *
  generalize Wk.nbv (some (k, m)) = nv at *
  clear b
  by_cases h2 : k.toNat = 2
  · rw [if_pos h2] at HNV
    generalize k.toNat = kn at *
    subst h2
    go_enter Tryd.func40, Tryd.ntmps40
    go_wp2_with (go_at_call 37; refine (HC.out _).mono ?_; rintro e w2 ⟨rfl, rfl⟩)
    go_ret
    exact ⟨Kept.own A g 0 _, rfl, by rw [HNV.out]; exact HB.out.put 0 _⟩
  · rw [if_neg h2] at HNV
    have hb : ((k.toNat : Int) == 2) = false := by simp; omega
    generalize k.toNat = kn at *
    clear h2
    go_enter Tryd.func40, Tryd.ntmps40
    go_wp2_with (go_at_call 37; refine (HC.out _).mono ?_; rintro e w2 ⟨rfl, rfl⟩)
    go_ret
    exact ⟨Kept.refl _ _, rfl, by rw [HNV.out]; exact HB.out⟩
theorem walk_neighbour (v : Value) (l : List Seg) (w : World) (h : Pts w v l) (hl : l.length ≤ 1000000) (hn : ∀ s ∈ l, s.2.length ≤ 1000000) :
    Calls Tryd.prog 17 #[v] w fun e w' => e = .returned (.int .u32 (Wk.neighbour l : Int)) ∧ Kept Nothing w w' := by
  obtain ⟨A, c, rfl, -, -⟩ := h.form
  have hmf := run_mkFunc
  have k1 := (Kept.refl Nothing w).alloc (.cells #[.int .u32 0] 25)
  have b1 := Blk.fresh w 25 #[.int .u32 0]
  have HS := some_any w _ _ l 40 #[.pointer (some ⟨w.heap.size, 0, none⟩)] (Only w.heap.size) (enters_of Tryd.func40 (by kernel_rfl) rfl) h k1 (fun k (e : k = _) => by omega) (fun k (e : k = _) => by have := b1.lt; omega) hl hn
    (fun pre A => Blk A w.heap.size 25 #[.int .u32 0] ∧ pre.find? (fun x => !Wk.confed x.1) = none) (fun pre A => ∃ x, Blk A w.heap.size 25 #[.int .u32 (Wk.nbv (some x) : Int)] ∧ pre.find? (fun x => !Wk.confed x.1) = some x)
    (fun s X Y hs hX hk => ⟨hs.1.kept hk (by have := b1.lt; omega), hs.2⟩) (fun s X Y hs hX hk => by obtain ⟨x, h1, h2⟩ := hs; exact ⟨x, h1.kept hk (by have := b1.lt; omega), h2⟩)
    (fun pre x A hj hp => by
      rw [app3]
      refine (neighbour_1 x.1 x.2 _ A hj.1).mono ?_
      rintro e A' ⟨k3, rfl, b3⟩
      refine ⟨k3, ?_⟩
      rw [List.find?_append, hj.2]
      cases hb : Wk.confed x.1 with
      | true =>
        refine .inl ⟨rfl, ?_, by simp [hb]⟩
        have : Wk.nbv (some (x.1, x.2)) = 0 := by
          show (if x.1.toNat = 2 then x.2 else 0) = 0
          rw [if_neg (fun e => by rw [Wk.confed_seq e] at hb; cases hb)]
        rw [this] at b3
        exact b3
      | false => exact .inr ⟨rfl, x, b3, by simp [hb]⟩) ⟨b1, rfl⟩
  have HN : Hid (Wk.neighbour l = if Pt.may l then Wk.nbv ((Pt.all l).find? (fun x => !Wk.confed x.1)) else 0) := Lib.hid rfl
  have HS := Lib.hid (HS.mono (R' := fun e w' => (∃ b, e = .returned (.bool b)) ∧ Kept Nothing w w' ∧ Blk w' w.heap.size 25 #[.int .u32 (Wk.neighbour l : Int)]) (by
    rintro e w3 ⟨k3, (⟨hm, rfl, hb, -⟩ | ⟨hm, (⟨rfl, hb, hf⟩ | ⟨rfl, pre, hpre, x, hb, hf⟩)⟩)⟩
    · exact ⟨⟨_, rfl⟩, k1.trans_new k3 (fun i hi (e : i = _) => by omega), by rw [HN.out, hm]; exact hb⟩
    · exact ⟨⟨_, rfl⟩, k1.trans_new k3 (fun i hi (e : i = _) => by omega), by rw [HN.out, hm, hf]; exact hb⟩
    · exact ⟨⟨_, rfl⟩, k1.trans_new k3 (fun i hi (e : i = _) => by omega), by rw [HN.out, hm, Wk.find_prefix hpre hf]; exact hb⟩))
  clear h hn b1 k1 HN
  generalize Wk.neighbour l = nb at *
  go_enter Tryd.func17, Tryd.ntmps17
  go_wp2_with (go_at_call 33; refine (HS.out).mono ?_; rintro e w3 ⟨⟨b, rfl⟩, k3, b3⟩; (have c3 := b3.cell 0))
  go_ret
  exact ⟨rfl, k3⟩

theorem origin_1 (k : UInt8) (m z g : Nat) (A : World) (b : Blk A g 25 #[.int .u32 (z : Int)]) :
    Calls Tryd.prog 41 #[.int .u8 (k.toNat : Int), .int .u32 (m : Int), .pointer (some ⟨g, 0, none⟩)] A fun e A' => Kept (Only g) A A' ∧ e = .returned (.bool false) ∧ Blk A' g 25 #[.int .u32 (Wk.nbv (some (k, m)) : Int)] := by
  have HNV : Hid (Wk.nbv (some (k, m)) = if k.toNat = 2 then m else 0) := Lib.hid rfl
  have c0 := b.cell 0
  have f0 := b.free 0
  have b2 := b.put 0 (.int .u32 0)
  have c1 := b2.cell 0
  have f1 := b2.free 0
  have HB := Lib.hid b
  have HB2 := Lib.hid b2
  generalize Wk.nbv (some (k, m)) = nv at *
  clear b b2
  by_cases h2 : k.toNat = 2
  · rw [if_pos h2] at HNV
    generalize k.toNat = kn at *
    subst h2
    go_enter Tryd.func41, Tryd.ntmps41
    go_wp2
    go_ret
    exact ⟨(Kept.own A g 0 _).trans (Kept.own _ g 0 _), rfl, by rw [HNV.out]; exact HB2.out.put 0 _⟩
  · rw [if_neg h2] at HNV
    have hb : ((k.toNat : Int) == 2) = false := by simp; omega
    generalize k.toNat = kn at *
    clear h2
    go_enter Tryd.func41, Tryd.ntmps41
    go_wp2
    go_ret
    exact ⟨Kept.own A g 0 _, rfl, by rw [HNV.out]; exact HB2.out⟩
theorem walk_origin (v : Value) (l : List Seg) (w : World) (h : Pts w v l) (hl : l.length ≤ 1000000) (hn : ∀ s ∈ l, s.2.length ≤ 1000000) :
    Calls Tryd.prog 19 #[v] w fun e w' => e = .returned (.int .u32 (Wk.origin l : Int)) ∧ Kept Nothing w w' := by
  obtain ⟨A, c, rfl, -, -⟩ := h.form
  have hmf := run_mkFunc
  have k1 := (Kept.refl Nothing w).alloc (.cells #[.int .u32 0] 25)
  have b1 := Blk.fresh w 25 #[.int .u32 0]
  have HS := some_any w _ _ l 41 #[.pointer (some ⟨w.heap.size, 0, none⟩)] (Only w.heap.size) (enters_of Tryd.func41 (by kernel_rfl) rfl) h k1 (fun k (e : k = _) => by omega) (fun k (e : k = _) => by have := b1.lt; omega) hl hn
    (fun pre A => Blk A w.heap.size 25 #[.int .u32 (Wk.nbv pre.getLast? : Int)]) (fun pre A => False)
    (fun s X Y hs hX hk => hs.kept hk (by have := b1.lt; omega)) (fun s X Y hs hX hk => hs.elim)
    (fun pre x A hj hp => by
      rw [app3]
      refine (origin_1 x.1 x.2 _ _ A hj).mono ?_
      rintro e A' ⟨k3, rfl, b3⟩
      exact ⟨k3, .inl ⟨rfl, by rw [List.getLast?_append]; exact b3⟩⟩) b1
  have HN : Hid (Wk.origin l = if Pt.may l then Wk.nbv (Pt.all l).getLast? else 0) := Lib.hid rfl
  have HS := Lib.hid (HS.mono (R' := fun e w' => (∃ b, e = .returned (.bool b)) ∧ Kept Nothing w w' ∧ Blk w' w.heap.size 25 #[.int .u32 (Wk.origin l : Int)]) (by
    rintro e w3 ⟨k3, (⟨hm, rfl, hb⟩ | ⟨hm, (⟨rfl, hb⟩ | ⟨rfl, pre, hpre, hb⟩)⟩)⟩
    · exact ⟨⟨_, rfl⟩, k1.trans_new k3 (fun i hi (e : i = _) => by omega), by rw [HN.out, hm]; exact hb⟩
    · exact ⟨⟨_, rfl⟩, k1.trans_new k3 (fun i hi (e : i = _) => by omega), by rw [HN.out, hm]; exact hb⟩
    · exact hb.elim))
  clear h hn b1 k1 HN
  generalize Wk.origin l = nb at *
  go_enter Tryd.func19, Tryd.ntmps19
  go_wp2_with (go_at_call 33; refine (HS.out).mono ?_; rintro e w3 ⟨⟨b, rfl⟩, k3, b3⟩; (have c3 := b3.cell 0))
  go_ret
  exact ⟨rfl, k3⟩

namespace Wk
def first (l : List Seg) : Nat × Nat × Bool := if Pt.may l then (match l with | [] => (0, 0, false) | s :: _ => (s.1.toNat, s.2.getD 0 0, true)) else (0, 0, false)
end Wk
set_option maxHeartbeats 800000 in
theorem walk_first (v : Value) (l : List Seg) (w : World) (h : Pts w v l) (hl : l.length ≤ 1000000) :
    Calls Tryd.prog 7 #[v] w fun e w' => e = .returned (.tuple #[.int .u8 ((Wk.first l).1 : Int), .int .u32 ((Wk.first l).2.1 : Int), .bool (Wk.first l).2.2]) ∧ Kept Nothing w w' := by
  obtain ⟨A, c, rfl, hc, hm⟩ := h.form
  have HM := Lib.hid (path_may _ l w h (by omega))
  have HV := Lib.hid h
  have HF : Hid (Wk.first l = if Pt.may l then (match l with | [] => (0, 0, false) | s :: _ => (s.1.toNat, s.2.getD 0 0, true)) else (0, 0, false)) := Lib.hid rfl
  clear h
  cases hmay : Pt.may l with
  | false =>
    rw [hmay] at HM HF
    clear hmay
    go_enter Tryd.func7, Tryd.ntmps7
    go_wp2_with (go_at_call 31; refine (HM.out).mono ?_; rintro e w1 ⟨rfl, k1⟩)
    refine bodyPost_ret (v := .tuple #[.int .u8 0, .int .u32 0, .bool false]) (by simp [results, Tryd.results7, go_sem]) rfl ⟨by rw [HF.out]; rfl, k1⟩
  | true =>
    have HMS := Lib.hid (fun s hs => @Pt.may_seg2 l hmay s hs)
    rw [hmay] at HM HF
    clear hmay
    cases l with
    | nil =>
      go_enter Tryd.func7, Tryd.ntmps7
      go_wp2_with (go_at_call 31; refine (HM.out).mono ?_; rintro e w1 ⟨rfl, k1⟩)
      refine bodyPost_ret (v := .tuple #[.int .u8 0, .int .u32 0, .bool false]) (by simp [results, Tryd.results7, go_sem]) rfl ⟨by rw [HF.out]; rfl, k1⟩
    | cons s r =>
      obtain ⟨sk, sn⟩ := s
      have hne : sn ≠ [] := HMS.out (sk, sn) (List.mem_cons_self ..)
      rw [List.length_cons] at *
      obtain ⟨b, o, Au, cu, rfl, p0, p1, hp⟩ := HV.out.at2 (i := 0) (by simp)
      rw [Nat.zero_mul, Nat.add_zero] at p0 p1
      replace p0 : w.cell? ⟨b, o, none⟩ = some (.int .u8 (sk.toNat : Int)) := p0
      replace p1 : w.cell? ⟨b, o + 1, none⟩ = some (.slice Au sn.length cu) := p1
      replace hp : As w (.slice Au sn.length cu) sn := hp
      have hpos : 0 < sn.length := List.length_pos_iff.2 hne
      obtain ⟨b2, o2, rfl, hc2⟩ := hp.at hpos
      have q0 := hc2 0 hpos
      rw [Nat.add_zero] at q0
      rw [show Wk.first ((sk, sn) :: r) = (sk.toNat, sn.getD 0 0, true) from HF.out]
      generalize sn.getD 0 0 = n0 at *
      have hli : ((r.length + 1 : Nat) : Int) = (r.length : Int) + 1 := by omega
      have hlb : (((r.length : Nat) : Int) + 1 == 0) = false := by simp; omega
      have i2 : (0 : Int) < (r.length : Int) + 1 := by omega
      have i3 : (0 : Int) < (sn.length : Int) := by omega
      clear hp hc2 hne HMS HV
      go_enter Tryd.func7, Tryd.ntmps7
      go_upto_region 3 with (go_at_call 31; refine (HM.out).mono ?_; rintro e w1 ⟨rfl, k1⟩; (have K1 := Lib.hid k1); (have c0 := k1.cell_some p0 (fun x => x)); (have c1 := k1.cell_some p1 (fun x => x)); (have c2 := k1.cell_some q0 (fun x => x)); clear k1)
      go_region
      go_wp2
      refine bodyPost_ret (v := .tuple #[.int .u8 (sk.toNat : Int), .int .u32 (n0 : Int), .bool true]) (by simp [results, Tryd.results7, go_sem]) rfl ⟨rfl, K1.out.drew⟩
end Go.Proofs.YtdeblmolgmadiaaDoor
namespace Go.Proofs.YtdeblmolgmadiaaDoor
open Go.RowKit Go.Shelf

namespace Wk
def begins (l : List Seg) (k n : Nat) : Bool := (first l).2.2 && decide ((first l).1 = k) && decide ((first l).2.1 = n)
def right (l : List Seg) (cl : Int) (peer : Nat) : Bool := ordered l && !has l 0 && (if cl = 1 then true else if cl = 2 then begins l 3 peer else if cl = 3 then begins l 2 peer else false)
def len1 (s : Seg) : Nat := if s.1.toNat = 2 then s.2.length else if s.1.toNat = 1 then 1 else 0
def lens (l : List Seg) : Nat := (l.map len1).sum
def length (l : List Seg) : Nat := if Pt.may l then lens l else 0
theorem lens_snoc (l : List Seg) (s : Seg) : lens (l ++ [s]) = lens l + len1 s := by unfold lens; rw [List.map_append, List.sum_append]; simp
theorem lens_le (l : List Seg) (h : ∀ s ∈ l, s.2.length ≤ 1000000) : lens l ≤ 1000000 * l.length := by
  unfold lens
  induction l with
  | nil => simp
  | cons s l ih =>
    have h1 := ih (fun x hx => h x (List.mem_cons_of_mem _ hx))
    have h3 := h s (List.mem_cons_self ..)
    have h4 : len1 s ≤ 1000000 := by unfold len1; split; exact h3; split <;> omega
    rw [List.map_cons, List.sum_cons, List.length_cons]
    omega
end Wk

theorem walk_begins (v : Value) (l : List Seg) (k n : Nat) (w : World) (h : Pts w v l) (hl : l.length ≤ 1000000) :
    Calls Tryd.prog 39 #[v, .int .u8 (k : Int), .int .u32 (n : Int)] w fun e w' => e = .returned (.bool (Wk.begins l k n)) ∧ Kept Nothing w w' := by
  obtain ⟨A, c, rfl, -, -⟩ := h.form
  have HF := Lib.hid (walk_first _ l w h hl)
  have HB : Hid (Wk.begins l k n = ((Wk.first l).2.2 && decide ((Wk.first l).1 = k) && decide ((Wk.first l).2.1 = n))) := Lib.hid rfl
  clear h
  generalize Wk.first l = ff at *
  obtain ⟨fk, fn, fi⟩ := ff
  replace HB : Hid (Wk.begins l k n = (fi && decide (fk = k) && decide (fn = n))) := HB
  cases fi with
  | false =>
    go_enter Tryd.func39, Tryd.ntmps39
    go_wp2_with (go_at_call 7; refine (HF.out).mono ?_; rintro e w1 ⟨rfl, k1⟩)
    go_ret
    exact ⟨by rw [HB.out]; rfl, k1⟩
  | true =>
    by_cases hk : fk = k
    · subst hk
      have HB2 : Hid (Wk.begins l fk n = decide (fn = n)) := Lib.hid (by rw [HB.out]; simp)
      go_enter Tryd.func39, Tryd.ntmps39
      go_wp2_with (go_at_call 7; refine (HF.out).mono ?_; rintro e w1 ⟨rfl, k1⟩)
      go_ret
      exact ⟨by rw [HB2.out]; exact ret_bool (by rw [Bool.eq_iff_iff]; simp; omega), k1⟩
    · have hb : ((fk : Int) == (k : Int)) = false := by simp; omega
      have HB2 : Hid (Wk.begins l k n = false) := Lib.hid (by rw [HB.out]; simp [hk])
      clear hk
      go_enter Tryd.func39, Tryd.ntmps39
      go_wp2_with (go_at_call 7; refine (HF.out).mono ?_; rintro e w1 ⟨rfl, k1⟩)
      go_ret
      exact ⟨by rw [HB2.out]; rfl, k1⟩

theorem walk_right (v : Value) (l : List Seg) (cl : Int) (n : Nat) (w : World) (h : Pts w v l) (hl : l.length ≤ 1000000) (hn : ∀ s ∈ l, s.2.length ≤ 1000000) :
    Calls Tryd.prog 15 #[v, .int .i64 cl, .int .u32 (n : Int)] w fun e w' => e = .returned (.bool (Wk.right l cl n)) ∧ Kept Nothing w w' := by
  obtain ⟨A, c, rfl, -, -⟩ := h.form
  have HO := Lib.hid (walk_ordered _ l w h hl hn)
  have HH := Lib.hid (fun w1 (k1 : Kept Nothing w w1) => walk_has _ l 0 w1 (h.old k1) hl hn)
  have HB := Lib.hid (fun (k : Nat) w1 (k1 : Kept Nothing w w1) => walk_begins _ l k n w1 (h.old k1) hl)
  have HR : Hid (Wk.right l cl n = (Wk.ordered l && !Wk.has l 0 && (if cl = 1 then true else if cl = 2 then Wk.begins l 3 n else if cl = 3 then Wk.begins l 2 n else false))) := Lib.hid rfl
  have HB3 := Lib.hid (HB.out 3)
  have HB2 := Lib.hid (HB.out 2)
  clear h hn HB
  generalize Wk.ordered l = o at *
  generalize Wk.has l 0 = z at *
  generalize Wk.begins l 3 n = b3 at *
  generalize Wk.begins l 2 n = b2 at *
  cases o with
  | false =>
    go_enter Tryd.func15, Tryd.ntmps15
    go_wp2_with (go_at_call 13; refine (HO.out).mono ?_; rintro e w1 ⟨rfl, k1⟩)
    go_ret
    exact ⟨by rw [HR.out]; rfl, k1⟩
  | true =>
    cases z with
    | true =>
      go_enter Tryd.func15, Tryd.ntmps15
      go_wp2_with (first
        | (go_at_call 9; refine (HH.out _ k1).mono ?_; rintro e w2 ⟨rfl, k2⟩)
        | (go_at_call 13; refine (HO.out).mono ?_; rintro e w1 ⟨rfl, k1⟩))
      go_ret
      exact ⟨by rw [HR.out]; rfl, k1.trans k2⟩
    | false =>
      by_cases h1 : cl = 1
      · subst h1
        go_enter Tryd.func15, Tryd.ntmps15
        go_wp2_with (first
          | (go_at_call 9; refine (HH.out _ k1).mono ?_; rintro e w2 ⟨rfl, k2⟩)
          | (go_at_call 13; refine (HO.out).mono ?_; rintro e w1 ⟨rfl, k1⟩))
        go_ret
        exact ⟨by rw [HR.out]; rfl, k1.trans k2⟩
      · have c1 : (cl == 1) = false := by simp [h1]
        by_cases h2 : cl = 2
        · subst h2
          clear h1
          go_enter Tryd.func15, Tryd.ntmps15
          go_wp2_with (first
            | (go_at_call 39; refine (HB3.out _ (k1.trans k2)).mono ?_; rintro e w3 ⟨rfl, k3⟩)
            | (go_at_call 9; refine (HH.out _ k1).mono ?_; rintro e w2 ⟨rfl, k2⟩)
            | (go_at_call 13; refine (HO.out).mono ?_; rintro e w1 ⟨rfl, k1⟩))
          go_ret
          exact ⟨by rw [HR.out]; simp, (k1.trans k2).trans k3⟩
        · have c2 : (cl == 2) = false := by simp [h2]
          by_cases h3 : cl = 3
          · subst h3
            clear h1 h2
            go_enter Tryd.func15, Tryd.ntmps15
            go_wp2_with (first
              | (go_at_call 39; refine (HB2.out _ (k1.trans k2)).mono ?_; rintro e w3 ⟨rfl, k3⟩)
              | (go_at_call 9; refine (HH.out _ k1).mono ?_; rintro e w2 ⟨rfl, k2⟩)
              | (go_at_call 13; refine (HO.out).mono ?_; rintro e w1 ⟨rfl, k1⟩))
            go_ret
            exact ⟨by rw [HR.out]; simp, (k1.trans k2).trans k3⟩
          · have c3 : (cl == 3) = false := by simp [h3]
            have HE : Hid (Wk.right l cl n = false) := Lib.hid (by rw [HR.out]; simp [h1, h2, h3])
            clear h1 h2 h3
            go_enter Tryd.func15, Tryd.ntmps15
            go_wp2_with (first
              | (go_at_call 9; refine (HH.out _ k1).mono ?_; rintro e w2 ⟨rfl, k2⟩)
              | (go_at_call 13; refine (HO.out).mono ?_; rintro e w1 ⟨rfl, k1⟩))
            go_ret
            exact ⟨by rw [HE.out]; rfl, k1.trans k2⟩

set_option maxHeartbeats 800000 in
theorem walk_length (v : Value) (l : List Seg) (w : World) (h : Pts w v l) (hl : l.length ≤ 1000000) (hn : ∀ s ∈ l, s.2.length ≤ 1000000) :
    Calls Tryd.prog 21 #[v] w fun e w' => e = .returned (.int .i64 (Wk.length l : Int)) ∧ Kept Nothing w w' := by
  obtain ⟨A, c, rfl, hc, hm⟩ := h.form
  have HM := Lib.hid (path_may _ l w h (by omega))
  have HV := Lib.hid h
  have HN := Lib.hid hn
  have HE : Hid (Wk.length l = if Pt.may l then Wk.lens l else 0) := Lib.hid rfl
  clear h hn
  cases hmay : Pt.may l with
  | false =>
    rw [hmay] at HM HE
    clear hmay
    go_enter Tryd.func21, Tryd.ntmps21
    go_wp2_with (go_at_call 31; refine (HM.out).mono ?_; rintro e w1 ⟨rfl, k1⟩)
    go_ret
    exact ⟨by rw [HE.out]; rfl, k1⟩
  | true =>
    rw [hmay] at HM HE
    clear hmay
    go_enter Tryd.func21, Tryd.ntmps21
    go_upto_region 5 with (go_at_call 31; refine (HM.out).mono ?_; rintro e w1 ⟨rfl, k1⟩; (have K1 := Lib.hid k1); clear k1)
    go_loopw [3, 11] (fun q i wr => ∃ k : Nat, i = .int .i64 (k : Int) ∧ q = .int .i64 (Wk.lens (l.take k) : Int) ∧ k ≤ l.length ∧ Hid (Kept Nothing w wr)) (fun _ i _ => l.length - (intOf i).toNat)
    case atStart => exact ⟨0, rfl, rfl, Nat.zero_le _, K1⟩
    case round =>
      clear K1
      obtain ⟨k, rfl, rfl, hk, KK⟩ := hrel
      by_cases hlt : k < l.length
      · obtain ⟨b, o, Au, cu, rfl, p0w, p1w, hp⟩ := HV.out.at2 hlt
        have p0 := KK.out.cell_some p0w (fun x => x)
        have p1 := KK.out.cell_some p1w (fun x => x)
        have i1 : (0 : Int) ≤ (k : Int) := by omega
        have i2 : (k : Int) < (l.length : Int) := by omega
        have hls : b < wr.heap.size := World.block_lt_of_cell? _ _ p0
        have ET : Hid (Wk.lens (l.take (k + 1)) = Wk.lens (l.take k) + Wk.len1 (l.getD k (0, []))) := Lib.hid (by rw [List.take_succ_eq_append_getElem hlt, Wk.lens_snoc, getD_get hlt])
        have hb1 := Wk.lens_le (l.take k) (fun s hs => HN.out s (List.mem_of_mem_take hs))
        have hn1 : (l.getD k (0, [])).2.length ≤ 1000000 := HN.out _ (by rw [getD_get hlt]; exact List.getElem_mem _)
        have hb2 : (l.take k).length ≤ 1000000 := by rw [List.length_take]; omega
        have E1 : Hid (Wk.len1 (l.getD k (0, [])) = if (l.getD k (0, [])).1.toNat = 2 then (l.getD k (0, [])).2.length else if (l.getD k (0, [])).1.toNat = 1 then 1 else 0) := Lib.hid rfl
        clear hp p0w p1w
        generalize Wk.len1 (l.getD k (0, [])) = dl at *
        generalize (l.getD k (0, [])).1.toNat = kn at *
        generalize (l.getD k (0, [])).2.length = nl at *
        generalize Wk.lens (l.take k) = acc at *
        generalize (l.take k).length = tl at *
        have KX := Lib.hid (KK.out.alloc (.cells #[.int .u8 (kn : Int), .slice Au nl cu] 61))
        by_cases h2 : kn = 2
        · subst h2
          rw [if_pos rfl] at E1
          go_wp2
          go_roundw
          case rel => exact ⟨k + 1, by go_num, by rw [ET.out, E1.out]; go_num, by omega, KX⟩
          case measure => simp [intOf]; omega
        · have c2 : ((kn : Int) == 2) = false := by simp; omega
          rw [if_neg h2] at E1
          by_cases h1 : kn = 1
          · subst h1
            rw [if_pos rfl] at E1
            clear h2
            go_wp2
            go_roundw
            case rel => exact ⟨k + 1, by go_num, by rw [ET.out, E1.out]; go_num, by omega, KX⟩
            case measure => simp [intOf]; omega
          · have c1 : ((kn : Int) == 1) = false := by simp; omega
            rw [if_neg h1] at E1
            clear h1 h2
            go_wp2
            go_roundw
            case rel => exact ⟨k + 1, by go_num, by rw [ET.out, E1.out]; go_num, by omega, KX⟩
            case measure => simp [intOf]; omega
      · obtain rfl : k = l.length := by omega
        rw [List.take_of_length_le (Nat.le_refl _)]
        go_wp2
        go_ret
        exact ⟨by rw [HE.out]; rfl, KK.out⟩
end Go.Proofs.YtdeblmolgmadiaaDoor
