
/-
  The law's check of itself: what five texts are read as.
-/
import Derived.Test.YthjljamngpddmaaDoorY07
import Derived.Laws.EntriesVeiled
import Derived.Test.YthjljamngpddmaaDoorY03
import Derived.Deep.RegionHeld3
import Derived.Test.YthjljamngpddmaaDoorY05
import Derived.BigQuiet
namespace Go.Proofs.YthjljamngpddmaaDoor
open Go.RowKit Go.Shelf
attribute [local go_sem] Oper.semAt_some

set_option maxRecDepth 20000 in
set_option maxHeartbeats 2000000 in
theorem some_any (w0 w : World) (v : Value) (l : List Seg) (N : Nat) (fr : Array Value) (S : Nat → Prop) (en : ∀ args w, (callFunc N args).run Tryd.prog w = .ok (.enter N args) w)
    (h : Pts w0 v l) (k0 : Kept Nothing w0 w) (hS : ∀ k, S k → w0.heap.size ≤ k) (hS2 : ∀ k, S k → k < w.heap.size) (hl : l.length ≤ 1000000) (hn : ∀ s ∈ l, s.2.length ≤ 1000000)
    (J X : List (UInt8 × Nat) → World → Prop)
    (hJ : ∀ s A B, J s A → w.heap.size ≤ A.heap.size → Kept (fun k => w.heap.size ≤ k) A B → J s B)
    (hX : ∀ s A B, X s A → w.heap.size ≤ A.heap.size → Kept (fun k => w.heap.size ≤ k) A B → X s B)
    (hask : ∀ pre x A, J pre A → pre ++ [x] <+: Pt.all l → Calls Tryd.prog N (#[.int .u8 (x.1.toNat : Int), .int .u32 (x.2 : Int)] ++ fr) A fun e A' => Kept S A A' ∧ ((e = .returned (.bool false) ∧ J (pre ++ [x]) A') ∨ (e = .returned (.bool true) ∧ X (pre ++ [x]) A')))
    (h0 : J [] w) :
    Calls Tryd.prog 36 #[v, .func (.func N) #[] fr] w fun e w' => Kept S w w' ∧ ((Pt.may l = false ∧ e = .returned (.bool false) ∧ J [] w') ∨ (Pt.may l = true ∧ ((e = .returned (.bool false) ∧ J (Pt.all l) w') ∨ (e = .returned (.bool true) ∧ ∃ pre, pre <+: Pt.all l ∧ X pre w')))) := by
  obtain ⟨A, c, rfl, hc, hm⟩ := h.form
  have hmf := run_mkFunc
  have HM := Lib.hid (fun w1 (k1 : Kept Nothing w0 w1) => path_may _ l w1 (h.old k1) (by omega))
  have HJ := Lib.hid hJ
  have HX := Lib.hid hX
  have HASK := Lib.hid hask
  have HV := Lib.hid h
  have HN := Lib.hid hn
  have K0 := Lib.hid k0
  have HS := Lib.hid hS
  have HS2 := Lib.hid hS2
  have H0 := Lib.hid h0
  clear hJ hX hask h hn k0 hS hS2 h0
  refine (callsIn_wide (n := 4)).1 (callsIn_of_wp_marks Tryd.func36 rfl trivial ?_ rfl)
  rw [wpIn_wide]
  simp only [Tryd.ntmps36, List.size_toArray, List.length_cons, List.length_nil, Nat.reduceAdd, Nat.reduceSub, Array.replicate_succ, Array.replicate_zero, List.push_toArray, List.append_toArray, List.nil_append, List.cons_append]
  go_upto_region 1 with fail
  have ba := (Blk.fresh w 69 #[.func (.func N) #[] fr]).alloc (.cells #[.bool false] 4)
  have br := Blk.fresh (w.alloc (.cells #[.func (.func N) #[] fr] 69)) 4 #[.bool false]
  rw [World.size_alloc] at br
  have k1 := ((Kept.refl Nothing w).alloc (.cells #[.func (.func N) #[] fr] 69)).alloc (.cells #[.bool false] 4)
  generalize (w.alloc (.cells #[.func (.func N) #[] fr] 69)).alloc (.cells #[.bool false] 4) = w1 at ba br k1 ⊢
  have BA := Lib.hid ba
  have BR := Lib.hid br
  have K1 := Lib.hid k1
  have HM1 := Lib.hid (HM.out w1 (K0.out.trans k1))
  clear ba br k1 HM
  cases hmay : Pt.may l with
  | false =>
    rw [hmay] at HM1
    have HMY := Lib.hid hmay
    clear hmay
    go_upto_region 2 with (go_at_call 34; refine (HM1.out).mono ?_; rintro e w2 ⟨rfl, k2⟩; (have K2 := Lib.hid k2); clear k2)
    have b2 := BR.out.kept K2.out (fun x => x)
    have c2 := b2.cell 0
    have f2 := b2.free 0
    go_wp2
    have e0 := (b2.put 0 (.bool false)).cell 0
    have kz : Kept Nothing w (w2.setCell ⟨w.heap.size + 1, 0, none⟩ (.bool false)) := (K1.out.trans K2.out).setCell (p := ⟨w.heap.size + 1, 0, none⟩) (fun (h : w.heap.size + 1 < w.heap.size) => absurd h (by omega)) _
    exact ⟨.bool false, by simp [results, Tryd.results36, go_sem, e0], kz.mono (fun _ x => x.elim), .inl ⟨HMY.out, rfl, HJ.out _ _ _ H0.out (Nat.le_refl _) (kz.mono (fun _ x => x.elim))⟩⟩
  | true =>
    rw [hmay] at HM1
    have HMY := Lib.hid hmay
    clear hmay
    go_upto_region 3 with (go_at_call 34; refine (HM1.out).mono ?_; rintro e w2 ⟨rfl, k2⟩; (have K2 := Lib.hid k2); clear k2)
    have HZ : Hid (w.heap.size + 1 < w2.heap.size) := Lib.hid (Nat.lt_of_lt_of_le BR.out.lt K2.out.size)
    go_wp2_with fail
    have KW := Lib.hid (K1.out.trans K2.out)
    have BA2 := Lib.hid (BA.out.kept K2.out (fun x => x))
    have BR2 := Lib.hid (BR.out.kept K2.out (fun x => x))
    obtain ⟨S2, hS2⟩ : ∃ S2 : Nat → Prop, S2 = fun k => S k ∨ k = w.heap.size + 1 := ⟨_, rfl⟩
    have HSS : Hid (∀ k, S k → S2 k) := Lib.hid (fun k h => by rw [hS2]; exact .inl h)
    have HSR : Hid (S2 (w.heap.size + 1)) := Lib.hid (by rw [hS2]; exact .inr rfl)
    have HSN : Hid (¬ S2 w.heap.size) := Lib.hid (by
      rw [hS2]
      rintro (h | h)
      · exact absurd (HS2.out _ h) (Nat.lt_irrefl _)
      · omega)
    have HSB : Hid (∀ k, S2 k → k < w.heap.size → S k) := Lib.hid (fun k h hk => by
      rw [hS2] at h
      rcases h with h | h
      · exact h
      · omega)
    have HS3 : Hid (∀ k, S2 k → w0.heap.size ≤ k ∧ k < w2.heap.size) := Lib.hid (fun k h => by
      rw [hS2] at h
      have := HZ.out
      have := K0.out.size
      rcases h with h | h
      · have := HS.out k h; have := HS2.out k h; omega
      · omega)
    clear hS2
    refine wp_rf (gf := 57) (fs := #[.slice A l.length c]) (encs := encA) (xs := Pt.all l) (S := S2) rfl (enters_of Tryd.func57 (by kernel_rfl) rfl) (fun k e => (HS3.out k e).2)
      (all_seq w0 _ l _ w2 HV.out (K0.out.trans KW.out) (fun k e => (HS3.out k e).1) (fun k e => (HS3.out k e).2) hl HN.out) (fun _ => rfl)
      (fun pre W => J pre W ∧ Kept S2 w2 W ∧ Blk W w.heap.size 69 #[.func (.func N) #[] fr] ∧ Blk W (w.heap.size + 1) 4 #[.bool false])
      (fun c pre W => c = .ret ∧ X pre W ∧ Kept S2 w2 W ∧ Blk W (w.heap.size + 1) 4 #[.bool true])
      (fun s X Y hs hX hk => ⟨HJ.out _ _ _ hs.1 (Nat.le_trans KW.out.size hX) (hk.mono (fun k e => Nat.le_trans KW.out.size e)), hs.2.1.trans_new hk (fun i hi x => by omega), hs.2.2.1.kept hk (by have := HZ.out; omega), hs.2.2.2.kept hk (by have := HZ.out; omega)⟩)
      (fun c s A B hs hA hk => ⟨hs.1, HX.out _ _ _ hs.2.1 (Nat.le_trans KW.out.size hA) (hk.mono (fun k e => Nat.le_trans KW.out.size e)), hs.2.2.1.trans_new hk (fun i hi x => by omega), hs.2.2.2.kept hk (by have := HZ.out; omega)⟩)
      ⟨HJ.out _ _ _ H0.out (Nat.le_refl _) (KW.out.mono (fun _ x => x.elim)), Kept.refl _ _, BA2.out, BR2.out⟩
      (fun x => { tmps := #[.slice A l.length c, .func (.func N) #[] fr, undef, .pointer (some ⟨w.heap.size, 0, none⟩), .pointer (some ⟨w.heap.size + 1, 0, none⟩), .int .u8 (x.1.toNat : Int), .int .u32 (x.2 : Int), .slice A l.length c, .bool true, .bool false, .slice A l.length c, .func (.func 57) #[.slice A l.length c] #[], .int .u8 (x.1.toNat : Int), .int .u32 (x.2 : Int), undef, undef, undef, undef], defers := [] }) ?assign ?body ?done ?stop
    case assign =>
      intro q x W K hK
      simp only [encA, fold_two]
      gi_wp2
      exact hK
    case body =>
      rintro q pre x W ⟨hj, hk, hba, hbr⟩ hp2 hz
      have ca := hba.cell 0
      have HA := Lib.hid (HASK.out pre x W hj hp2)
      have HK := Lib.hid hk
      have HBA := Lib.hid hba
      have HBR := Lib.hid hbr
      clear hj hk hba hbr
      gi_wp2
      refine ⟨trivial, (CallsIn.inRound q (callsIn_wide.2 HA.out)).mono ?_⟩
      rintro e W2 ⟨k2, (⟨rfl, hj2⟩ | ⟨rfl, hx2⟩)⟩
      · have k3 := Lib.hid (k2.mono HSS.out)
        have b3 := Lib.hid (HBA.out.kept k3.out HSN.out)
        have r3 := Lib.hid (HBR.out.kept k2 (fun h => absurd (HS2.out _ h) (by omega)))
        gi_wp2
        exact ⟨k3.out, hj2, HK.out.trans k3.out, b3.out, r3.out⟩
      · have k3 := Lib.hid (k2.mono HSS.out)
        have br3 := HBR.out.kept k2 (fun h => absurd (HS2.out _ h) (by omega))
        have r3 := Lib.hid br3
        have c3 := br3.cell 0
        have f3 := br3.free 0
        clear br3
        gi_wp2
        refine ⟨k3.out.setCell (p := ⟨w.heap.size + 1, 0, none⟩) (fun _ => HSR.out) _, rfl, ?_, (HK.out.trans k3.out).setCell (p := ⟨w.heap.size + 1, 0, none⟩) (fun _ => HSR.out) _, r3.out.put 0 _⟩
        exact HX.out _ W2 _ hx2 (by have := HK.out.size; have := k3.out.size; have := KW.out.size; omega) ((Kept.refl _ W2).setCell (p := ⟨w.heap.size + 1, 0, none⟩) (fun _ => Nat.le_succ _) _)
    case done =>
      rintro D W hD ⟨hj, hk, hba, hbr⟩ hd
      have c0 := hbr.cell 0
      have f0 := hbr.free 0
      have hzz := HZ.out
      go_wp2
      have e0 := ((hbr.put 0 (.bool false)).putObj (D := D) (by omega) (.deferred none)).cell 0
      have hd2 : (W.setCell ⟨w.heap.size + 1, 0, none⟩ (.bool false)).heap[D]? = some (.deferred (some [])) := (Below.heap_setCell W ⟨w.heap.size + 1, 0, none⟩ _ D (by show D ≠ w.heap.size + 1; omega)).trans hd
      refine ⟨by simp, .inl ⟨_, _, rfl, run_takeDeferred hd2, ?_⟩⟩
      have kz : Kept S w ((W.setCell ⟨w.heap.size + 1, 0, none⟩ (.bool false)).putObj D (.deferred none)) :=
        (((KW.out.mono (fun _ x => x.elim)).trans_new hk (fun i hi x => HSB.out i x hi)).setCell (p := ⟨w.heap.size + 1, 0, none⟩) (fun (h : w.heap.size + 1 < w.heap.size) => absurd h (by omega)) _).trans_new ((Kept.putObj _ D _).mono (fun k (e : k = D) => e)) (fun i hi (e : i = D) => by omega)
      exact ⟨.bool false, by simp [results, Tryd.results36, go_sem, e0], kz, .inr ⟨HMY.out, .inl ⟨rfl, HJ.out _ W _ hj (by have := hk.size; have := KW.out.size; omega) (((Kept.refl _ W).setCell (p := ⟨w.heap.size + 1, 0, none⟩) (fun _ => Nat.le_succ _) _).trans ((Kept.putObj _ D _).mono (fun k (e : k = D) => by omega)))⟩⟩⟩
    case stop =>
      rintro D c pre W hD hpre ⟨rfl, hx, hk, hbr⟩ hd
      have c0 := hbr.cell 0
      have hzz := HZ.out
      go_wp2
      have e0 := (hbr.putObj (D := D) (by omega) (.deferred none)).cell 0
      refine ⟨by simp, .inl ⟨_, _, rfl, run_takeDeferred hd, ?_⟩⟩
      have kz : Kept S w (W.putObj D (.deferred none)) := (((KW.out.mono (fun _ x => x.elim)).trans_new hk (fun i hi x => HSB.out i x hi))).trans_new ((Kept.putObj _ D _).mono (fun k (e : k = D) => e)) (fun i hi (e : i = D) => by omega)
      exact ⟨.bool true, by simp [results, Tryd.results36, go_sem, e0], kz, .inr ⟨HMY.out, .inr ⟨rfl, pre, hpre, HX.out _ W _ hx (by have := hk.size; have := KW.out.size; omega) ((Kept.putObj _ D _).mono (fun k (e : k = D) => by omega))⟩⟩⟩

/-- .. by a closure that tells of each number alone. -/
theorem some_pure (w0 w : World) (v : Value) (l : List Seg) (N : Nat) (fr : Array Value) (p : UInt8 × Nat → Bool) (en : ∀ args w, (callFunc N args).run Tryd.prog w = .ok (.enter N args) w)
    (h : Pts w0 v l) (k0 : Kept Nothing w0 w) (hl : l.length ≤ 1000000) (hn : ∀ s ∈ l, s.2.length ≤ 1000000)
    (hask : ∀ x A, Kept Nothing w A → Calls Tryd.prog N (#[.int .u8 (x.1.toNat : Int), .int .u32 (x.2 : Int)] ++ fr) A fun e A' => e = .returned (.bool (p x)) ∧ Kept Nothing A A') :
    Calls Tryd.prog 36 #[v, .func (.func N) #[] fr] w fun e w' => e = .returned (.bool (Pt.may l && (Pt.all l).any p)) ∧ Kept Nothing w w' := by
  refine (some_any w0 w v l N fr Nothing en h k0 (fun _ x => x.elim) (fun _ x => x.elim) hl hn (fun pre A => Kept Nothing w A ∧ ∀ x ∈ pre, p x = false) (fun pre A => Kept Nothing w A ∧ ∃ x ∈ pre, p x = true)
    (fun s A B hs hA hk => ⟨hs.1.trans_new hk (fun i hi x => by omega), hs.2⟩) (fun s A B hs hA hk => ⟨hs.1.trans_new hk (fun i hi x => by omega), hs.2⟩) (fun pre x A hj hp => ?_) ⟨Kept.refl _ _, fun _ x => by cases x⟩).mono ?_
  · refine (hask x A hj.1).mono ?_
    rintro e A' ⟨rfl, k⟩
    refine ⟨k, ?_⟩
    cases hx : p x with
    | false =>
      refine .inl ⟨rfl, hj.1.trans k, fun y hy => ?_⟩
      rcases List.mem_append.1 hy with hy | hy
      · exact hj.2 y hy
      · obtain rfl := List.mem_singleton.1 hy
        exact hx
    | true => exact .inr ⟨rfl, hj.1.trans k, x, by simp, hx⟩
  · rintro e w' ⟨k, (⟨hm, rfl, -⟩ | ⟨hm, (⟨rfl, -, hf⟩ | ⟨rfl, pre, hpre, -, x, hx, ht⟩)⟩)⟩
    · exact ⟨by rw [hm]; rfl, k⟩
    · refine ⟨?_, k⟩
      rw [hm, Bool.true_and]
      have : (Pt.all l).any p = false := by
        rw [List.any_eq_false]
        intro x hx
        rw [hf x hx]
        simp
      rw [this]
    · refine ⟨?_, k⟩
      rw [hm, Bool.true_and]
      have : (Pt.all l).any p = true := List.any_eq_true.2 ⟨x, hpre.subset hx, ht⟩
      rw [this]
end Go.Proofs.YthjljamngpddmaaDoor
namespace Go.Proofs.YthjljamngpddmaaDoor
open Go.RowKit Go.Shelf

namespace Wk
/-- Is a segment of this kind confed? -/
def confed (k : UInt8) : Bool := decide (k.toNat = 3) || decide (k.toNat = 4)
def has (l : List Seg) (n : Nat) : Bool := Pt.may l && (Pt.all l).any (fun x => x.2 == n)
def loops (l : List Seg) (m c : Nat) : Bool := Pt.may l && (Pt.all l).any (fun x => if confed x.1 then x.2 == m else x.2 == c)
/-- Has a plain number come up, and a confed one behind it? -/
def st (s : Bool × Bool) (x : UInt8 × Nat) : Bool × Bool := if confed x.1 then (s.1, s.2 || s.1) else (true, s.2)
def sts (a : List (UInt8 × Nat)) : Bool × Bool := a.foldl st (false, false)
def ordered (l : List Seg) : Bool := Pt.may l && !(sts (Pt.all l)).2
theorem sts_snoc (a : List (UInt8 × Nat)) (x : UInt8 × Nat) : sts (a ++ [x]) = st (sts a) x := by unfold sts; rw [List.foldl_append]; rfl
theorem bad_stays (b : List (UInt8 × Nat)) : ∀ s : Bool × Bool, s.2 = true → (b.foldl st s).2 = true := by
  induction b with
  | nil => exact fun s h => h
  | cons x b ih =>
    intro s h
    refine ih _ ?_
    unfold st
    split
    · simp [h]
    · exact h
theorem bad_prefix {a b : List (UInt8 × Nat)} (h : a <+: b) (hb : (sts a).2 = true) : (sts b).2 = true := by
  obtain ⟨r, rfl⟩ := h
  unfold sts
  rw [List.foldl_append]
  exact bad_stays r _ hb
/-- The number of a plain one. -/
def nbv (x : Option (UInt8 × Nat)) : Nat := match x with
  | some x => if x.1.toNat = 2 then x.2 else 0
  | none => 0
def neighbour (l : List Seg) : Nat := if Pt.may l then nbv ((Pt.all l).find? (fun x => !confed x.1)) else 0
def origin (l : List Seg) : Nat := if Pt.may l then nbv (Pt.all l).getLast? else 0
theorem find_prefix {a b : List (UInt8 × Nat)} {p : UInt8 × Nat → Bool} (h : a <+: b) {x : UInt8 × Nat} (hf : a.find? p = some x) : b.find? p = some x := by
  obtain ⟨r, rfl⟩ := h
  rw [List.find?_append, hf]; rfl
end Wk
theorem nat_beq (m n : Nat) : ((m : Int) == (n : Int)) = (m == n) := by rw [Bool.eq_iff_iff]; simp; omega
theorem app3 (a b c : Value) : (#[a, b] ++ #[c] : Array Value) = #[a, b, c] := by simp
theorem app4 (a b c d : Value) : (#[a, b] ++ #[c, d] : Array Value) = #[a, b, c, d] := by simp

theorem confed_any (k : UInt8) (w : World) : Calls Tryd.prog 40 #[.int .u8 (k.toNat : Int)] w fun e w' => e = .returned (.bool (Wk.confed k)) ∧ w = w' := by
  unfold Wk.confed
  generalize k.toNat = n
  by_cases h3 : n = 3
  · subst h3
    go_enter Tryd.func40, Tryd.ntmps40
    go_wp2
    go_ret
    exact ⟨rfl, rfl⟩
  · have h3b : ((n : Int) == 3) = false := by simp; omega
    by_cases h4 : n = 4
    · subst h4
      go_enter Tryd.func40, Tryd.ntmps40
      go_wp2
      go_ret
      exact ⟨rfl, rfl⟩
    · have h4b : ((n : Int) == 4) = false := by simp; omega
      have e : (decide (n = 3) || decide (n = 4)) = false := by simp [h3, h4]
      rw [e]
      clear e h3 h4
      go_enter Tryd.func40, Tryd.ntmps40
      go_wp2
      go_ret
      exact ⟨rfl, rfl⟩

theorem has_1 (k m n g : Nat) (A : World) (b : Blk A g 25 #[.int .u32 (n : Int)]) : Calls Tryd.prog 37 #[.int .u8 (k : Int), .int .u32 (m : Int), .pointer (some ⟨g, 0, none⟩)] A fun e w' => e = .returned (.bool (m == n)) ∧ Kept Nothing A w' := by
  have c0 := b.cell 0
  clear b
  go_enter Tryd.func37, Tryd.ntmps37
  go_wp2
  go_ret
  exact ⟨ret_bool (nat_beq m n), Kept.refl _ _⟩
theorem walk_has (v : Value) (l : List Seg) (n : Nat) (w : World) (h : Pts w v l) (hl : l.length ≤ 1000000) (hn : ∀ s ∈ l, s.2.length ≤ 1000000) :
    Calls Tryd.prog 10 #[v, .int .u32 (n : Int)] w fun e w' => e = .returned (.bool (Wk.has l n)) ∧ Kept Nothing w w' := by
  obtain ⟨A, c, rfl, -, -⟩ := h.form
  have hmf := run_mkFunc
  have k1 := (Kept.refl Nothing w).alloc (.cells #[.int .u32 (n : Int)] 25)
  have HS := Lib.hid (some_pure w (w.alloc (.cells #[.int .u32 (n : Int)] 25)) _ l 37 #[.pointer (some ⟨w.heap.size, 0, none⟩)] (fun x => x.2 == n) (enters_of Tryd.func37 (by kernel_rfl) rfl) h k1 hl hn
    (fun x A hA => by rw [app3]; exact has_1 _ _ n _ A ((Blk.fresh w 25 #[.int .u32 (n : Int)]).kept hA (fun x => x))))
  clear h hn
  go_enter Tryd.func10, Tryd.ntmps10
  go_wp2_with (go_at_call 36; refine (HS.out).mono ?_; rintro e w2 ⟨rfl, k2⟩)
  go_ret
  exact ⟨rfl, k1.trans k2⟩

theorem loops_1 (k : UInt8) (m a b g h : Nat) (A : World) (ba : Blk A g 25 #[.int .u32 (a : Int)]) (bb : Blk A h 25 #[.int .u32 (b : Int)]) : Calls Tryd.prog 39 #[.int .u8 (k.toNat : Int), .int .u32 (m : Int), .pointer (some ⟨g, 0, none⟩), .pointer (some ⟨h, 0, none⟩)] A fun e w' => e = .returned (.bool (if Wk.confed k then m == a else m == b)) ∧ Kept Nothing A w' := by
  have c0 := ba.cell 0
  have c1 := bb.cell 0
  have HC := Lib.hid (confed_any k A)
  clear ba bb
  cases hc : Wk.confed k with
  | true =>
    rw [hc] at HC
    clear hc
    go_enter Tryd.func39, Tryd.ntmps39
    go_wp2_with (go_at_call 40; refine (HC.out).mono ?_; rintro e w2 ⟨rfl, rfl⟩)
    go_ret
    exact ⟨ret_bool (nat_beq m a), Kept.refl _ _⟩
  | false =>
    rw [hc] at HC
    clear hc
    go_enter Tryd.func39, Tryd.ntmps39
    go_wp2_with (go_at_call 40; refine (HC.out).mono ?_; rintro e w2 ⟨rfl, rfl⟩)
    go_ret
    exact ⟨ret_bool (nat_beq m b), Kept.refl _ _⟩
theorem walk_loops (v : Value) (l : List Seg) (a b : Nat) (w : World) (h : Pts w v l) (hl : l.length ≤ 1000000) (hn : ∀ s ∈ l, s.2.length ≤ 1000000) :
    Calls Tryd.prog 12 #[v, .int .u32 (a : Int), .int .u32 (b : Int)] w fun e w' => e = .returned (.bool (Wk.loops l a b)) ∧ Kept Nothing w w' := by
  obtain ⟨A, c, rfl, -, -⟩ := h.form
  have hmf := run_mkFunc
  have k1 := ((Kept.refl Nothing w).alloc (.cells #[.int .u32 (a : Int)] 25)).alloc (.cells #[.int .u32 (b : Int)] 25)
  have ba := (Blk.fresh w 25 #[.int .u32 (a : Int)]).alloc (.cells #[.int .u32 (b : Int)] 25)
  have bb := Blk.fresh (w.alloc (.cells #[.int .u32 (a : Int)] 25)) 25 #[.int .u32 (b : Int)]
  rw [World.size_alloc] at bb
  have HS := Lib.hid (some_pure w _ _ l 39 #[.pointer (some ⟨w.heap.size, 0, none⟩), .pointer (some ⟨w.heap.size + 1, 0, none⟩)] (fun x => if Wk.confed x.1 then x.2 == a else x.2 == b) (enters_of Tryd.func39 (by kernel_rfl) rfl) h k1 hl hn
    (fun x A hA => by rw [app4]; exact loops_1 _ _ a b _ _ A (ba.kept hA (fun x => x)) (bb.kept hA (fun x => x))))
  clear h hn ba bb
  go_enter Tryd.func12, Tryd.ntmps12
  go_wp2_with (go_at_call 36; refine (HS.out).mono ?_; rintro e w2 ⟨rfl, k2⟩)
  go_ret
  exact ⟨rfl, k1.trans k2⟩

theorem Wk.confed_seq {k : UInt8} (h : k.toNat = 2) : Wk.confed k = false := by unfold Wk.confed; simp [h]

theorem ordered_1 (k : UInt8) (m g : Nat) (s : Bool × Bool) (A : World) (b : Blk A g 4 #[.bool s.1]) (hs : s.2 = false) :
    Calls Tryd.prog 41 #[.int .u8 (k.toNat : Int), .int .u32 (m : Int), .pointer (some ⟨g, 0, none⟩)] A fun e A' => Kept (Only g) A A' ∧ e = .returned (.bool (Wk.st s (k, m)).2) ∧ Blk A' g 4 #[.bool (Wk.st s (k, m)).1] := by
  obtain ⟨pl, bd⟩ := s
  simp only at hs b
  subst hs
  have c0 := b.cell 0
  have f0 := b.free 0
  have HB := Lib.hid b
  have HC := Lib.hid (confed_any k A)
  have HST : Hid (Wk.st (pl, false) (k, m) = if Wk.confed k then (pl, false || pl) else (true, false)) := Lib.hid rfl
  clear b
  cases hc : Wk.confed k with
  | true =>
    rw [hc] at HC HST
    clear hc
    go_enter Tryd.func41, Tryd.ntmps41
    go_wp2_with (go_at_call 40; refine (HC.out).mono ?_; rintro e w2 ⟨rfl, rfl⟩)
    go_ret
    rw [HST.out]
    exact ⟨Kept.refl _ _, by simp, HB.out⟩
  | false =>
    rw [hc] at HC HST
    clear hc
    go_enter Tryd.func41, Tryd.ntmps41
    go_wp2_with (go_at_call 40; refine (HC.out).mono ?_; rintro e w2 ⟨rfl, rfl⟩)
    go_ret
    rw [HST.out]
    exact ⟨Kept.own A g 0 _, rfl, HB.out.put 0 _⟩
theorem walk_ordered (v : Value) (l : List Seg) (w : World) (h : Pts w v l) (hl : l.length ≤ 1000000) (hn : ∀ s ∈ l, s.2.length ≤ 1000000) :
    Calls Tryd.prog 14 #[v] w fun e w' => e = .returned (.bool (Wk.ordered l)) ∧ Kept Nothing w w' := by
  obtain ⟨A, c, rfl, -, -⟩ := h.form
  have hmf := run_mkFunc
  have k1 := (Kept.refl Nothing w).alloc (.cells #[.bool false] 4)
  have b1 := Blk.fresh w 4 #[.bool false]
  have HM := Lib.hid (path_may _ l _ (h.old k1) (by omega))
  have HS := Lib.hid (fun w2 (k2 : Kept Nothing (w.alloc (.cells #[.bool false] 4)) w2) => some_any w w2 _ l 41 #[.pointer (some ⟨w.heap.size, 0, none⟩)] (Only w.heap.size) (enters_of Tryd.func41 (by kernel_rfl) rfl) h (k1.trans k2) (fun k (e : k = _) => by omega) (fun k (e : k = _) => by have := Nat.lt_of_lt_of_le b1.lt k2.size; omega) hl hn
    (fun pre A => Blk A w.heap.size 4 #[.bool (Wk.sts pre).1] ∧ (Wk.sts pre).2 = false) (fun pre A => (Wk.sts pre).2 = true)
    (fun s X Y hs hX hk => ⟨hs.1.kept hk (by have := Nat.lt_of_lt_of_le b1.lt k2.size; omega), hs.2⟩) (fun s X Y hs hX hk => hs)
    (fun pre x A hj hp => by
      rw [app3]
      refine (ordered_1 x.1 x.2 _ (Wk.sts pre) A hj.1 hj.2).mono ?_
      rintro e A' ⟨k3, rfl, b3⟩
      refine ⟨k3, ?_⟩
      rw [Wk.sts_snoc]
      cases hb : (Wk.st (Wk.sts pre) (x.1, x.2)).2 with
      | true => exact .inr ⟨rfl, rfl⟩
      | false => exact .inl ⟨rfl, b3, rfl⟩) ⟨b1.kept k2 (fun x => x), rfl⟩)
  have HS := Lib.hid (fun w2 (k2 : Kept Nothing (w.alloc (.cells #[.bool false] 4)) w2) => (HS.out w2 k2).mono (R' := fun e w' => e = .returned (.bool (Pt.may l && (Wk.sts (Pt.all l)).2)) ∧ Kept Nothing w w') (by
    rintro e w3 ⟨k3, (⟨hm, rfl, -⟩ | ⟨hm, (⟨rfl, -, hf⟩ | ⟨rfl, pre, hpre, ht⟩)⟩)⟩
    · exact ⟨by rw [hm]; rfl, (k1.trans k2).trans_new k3 (fun i hi (e : i = _) => by omega)⟩
    · exact ⟨by rw [hm, hf]; rfl, (k1.trans k2).trans_new k3 (fun i hi (e : i = _) => by omega)⟩
    · exact ⟨by rw [hm, Wk.bad_prefix hpre ht]; rfl, (k1.trans k2).trans_new k3 (fun i hi (e : i = _) => by omega)⟩))
  have HO : Hid (Wk.ordered l = (Pt.may l && !(Wk.sts (Pt.all l)).2)) := Lib.hid rfl
  clear h hn b1
  cases hm : Pt.may l with
  | false =>
    rw [hm] at HM HO HS
    clear hm
    go_enter Tryd.func14, Tryd.ntmps14
    go_wp2_with (go_at_call 34; refine (HM.out).mono ?_; rintro e w2 ⟨rfl, k2⟩)
    go_ret
    exact ⟨by rw [HO.out]; rfl, k1.trans k2⟩
  | true =>
    rw [hm] at HM HO HS
    clear hm
    go_enter Tryd.func14, Tryd.ntmps14
    go_wp2_with (first
      | (go_at_call 36; refine (HS.out _ K2.out).mono ?_; rintro e w3 ⟨rfl, k3⟩)
      | (go_at_call 34; refine (HM.out).mono ?_; rintro e w2 ⟨rfl, k2⟩; (have K2 := Lib.hid k2); clear k2))
    go_ret
    exact ⟨by rw [HO.out]; rfl, k3⟩
end Go.Proofs.YthjljamngpddmaaDoor
namespace Go.Proofs.YthjljamngpddmaaDoor
open Go.RowKit

def brS (s : Seg) : Seg := (1 + s.1 % 4, s.2.take 40)
/-- What the law makes of a path. -/
def brF (l : List Seg) : List Seg := ((l.take 8).filter (fun s => !s.2.isEmpty)).map brS
theorem brF_nil : brF [] = [] := rfl
theorem brF_lo {l : List Seg} {k : Nat} (hk : k < l.length) (h8 : k < 8) (he : ¬ (l.getD k (0, [])).2 = []) : brF (l.take (k + 1)) = brF (l.take k) ++ [brS (l.getD k (0, []))] := by
  unfold brF
  rw [List.take_take, List.take_take, show min 8 (k + 1) = k + 1 by omega, show min 8 k = k by omega, List.take_succ_eq_append_getElem hk, List.filter_append, List.map_append]
  rw [getD_get hk] at he ⊢
  rw [List.filter_cons_of_pos (by simpa using he)]
  rfl
theorem brF_no {l : List Seg} {k : Nat} (hk : k < l.length) (h : ¬ k < 8 ∨ (l.getD k (0, [])).2 = []) : brF (l.take (k + 1)) = brF (l.take k) := by
  unfold brF
  by_cases h8 : k < 8
  · have he := h.resolve_left (fun x => x h8)
    rw [List.take_take, List.take_take, show min 8 (k + 1) = k + 1 by omega, show min 8 k = k by omega, List.take_succ_eq_append_getElem hk, List.filter_append]
    rw [getD_get hk] at he
    rw [List.filter_cons_of_neg (by simpa using he)]
    simp
  · rw [List.take_take, List.take_take, show min 8 (k + 1) = 8 by omega, show min 8 k = 8 by omega]
theorem brF_len (l : List Seg) : (brF l).length ≤ 8 := by
  unfold brF
  rw [List.length_map]
  exact Nat.le_trans (List.length_filter_le _ _) (by rw [List.length_take]; omega)
theorem brF_num {l : List Seg} {s : Seg} (h : s ∈ brF l) : s.2.length ≤ 40 ∧ s.2 ≠ [] ∧ 1 ≤ s.1.toNat ∧ s.1.toNat ≤ 4 := by
  unfold brF at h
  obtain ⟨t, ht, rfl⟩ := List.mem_map.1 h
  have he := (List.mem_filter.1 ht).2
  refine ⟨by simp [brS]; omega, ?_, ?_, ?_⟩
  · intro e
    have : t.2.take 40 = [] := e
    rw [List.take_eq_nil_iff] at this
    simp at this
    rw [this] at he
    simp at he
  · show 1 ≤ (1 + t.1 % 4).toNat
    have := t.1.toNat_lt
    simp [UInt8.toNat_add, UInt8.toNat_mod]
    omega
  · show (1 + t.1 % 4).toNat ≤ 4
    have := t.1.toNat_lt
    simp [UInt8.toNat_add, UInt8.toNat_mod]
    omega
theorem kd_mod (k : UInt8) : IntKind.u8.wrap (1 + (k.toNat : Int).tmod 4) = ((1 + k % 4 : UInt8).toNat : Int) := by
  have := k.toNat_lt
  have h : ((1 + k % 4 : UInt8).toNat : Int) = 1 + (k.toNat : Int) % 4 := by
    simp [UInt8.toNat_add, UInt8.toNat_mod]
    omega
  rw [h, Int.tmod_eq_emod_of_nonneg (by omega)]
  simp [IntKind.wrap, IntKind.bits, IntKind.signed]
  omega

theorem slice_toA (A : Option Addr) (n c k : Nat) (hk : k ≤ c) (w : World) :
    (Instr.slice 59 (.slice A n c) none (some (.int .i64 (k : Int))) none).run Tryd.prog w = .ok (.slice A k c) w := by
  have hz := Tryd.sizeOf25
  have he : Tryd.prog.elem 59 = 25 := by kernel_rfl
  rw [run_slice_h w 59 A n c (by kernel_rfl) .i64 k (by omega) (by omega), he, hz]
  cases A <;> simp [sliced, Addr.add]

end Go.Proofs.YthjljamngpddmaaDoor
namespace Go.Proofs.YthjljamngpddmaaDoor
open Go.RowKit

def rgm (p : Nat) (b : Value) (w : World) : Nat := 2 * (match w.cell? ⟨p, 0, none⟩ with | some (.string s) => s.size | _ => 0) + (match b with | .bool true => 1 | _ => 0)
end Go.Proofs.YthjljamngpddmaaDoor
namespace Go.Proofs.YthjljamngpddmaaDoor
open Go.RowKit

namespace Pt
theorem segL_suffix (b : List UInt8) : ∀ (f : Nat) (rest : List UInt8) (acc : List Nat) (err : Nat), (segL f b rest acc err).1 <:+ rest
  | 0, rest, acc, err => by unfold segL; exact List.suffix_refl _
  | f + 1, rest, acc, err => by
    unfold segL
    split
    · exact List.suffix_refl _
    · split
      · exact (segL_suffix b f _ _ _).trans ((List.drop_suffix _ _).trans (List.drop_suffix _ _))
      · exact List.drop_suffix _ _
theorem segM_suffix (k : Nat) (s : PS) : (segM k s).1.rest <:+ s.rest := by
  have h := (segL_suffix (betw k) (s.rest.length + 1) (s.rest.drop (opens k).length) [] s.err).trans (List.drop_suffix _ _)
  unfold segM
  simp only
  split
  · exact h
  · refine List.IsSuffix.trans ?_ h
    show Lib.trimPrefix _ _ <:+ _
    unfold Lib.trimPrefix
    split
    · exact List.drop_suffix _ _
    · exact List.suffix_refl _
theorem segM_read (k : Nat) (s : PS) : (segM k s).1.read.length ≤ s.read.length + 1 := by
  unfold segM
  simp only
  split
  · exact Nat.le_succ _
  · simp
theorem gap_len (k m : Nat) : 1 ≤ (gap k m).length := by unfold gap; split <;> simp
theorem gap_open (k : Nat) (r : List UInt8) : Lib.hasPrefix (r.drop (gap k (kindOf (r.drop 1))).length) (opens (kindOf (r.drop 1))) = true := by
  by_cases h : k = 2 ∧ kindOf (r.drop 1) = 2
  · rw [h.2]
    simp [opens, Lib.hasPrefix]
  · have : gap k (kindOf (r.drop 1)) = [32] := if_neg h
    rw [this]
    exact (kind_open (r.drop 1)).1
end Pt
theorem Asc.suffix {l m : List UInt8} (h : Asc l) (hs : m <:+ l) : Asc m := fun b hb => h b (hs.subset hb)

end Go.Proofs.YthjljamngpddmaaDoor
namespace Go.Proofs.YthjljamngpddmaaDoor
open Go.RowKit

end Go.Proofs.YthjljamngpddmaaDoor
namespace Go.Proofs.YthjljamngpddmaaDoor
open Go.RowKit

theorem Pt.may_len {l : List Seg} (h : Pt.may l = true) : l.length ≤ 32 ∧ ∀ s ∈ l, s.2.length ≤ 255 := by
  unfold Pt.may at h
  rw [Bool.and_eq_true, List.all_eq_true] at h
  refine ⟨by simpa using h.2, fun s hs => ?_⟩
  have := h.1 s hs
  unfold Pt.may1 at this
  simp only [Bool.and_eq_true, decide_eq_true_eq] at this
  exact this.2
theorem Pt.not_wide {l : List Seg} (h : Pt.hasW l = false) : ∀ s ∈ l, ∀ n ∈ s.2, n < 65536 := by
  intro s hs n hn
  unfold Pt.hasW at h
  rw [List.any_eq_false] at h
  have := h (s.1, n) (by unfold Pt.all; exact List.mem_flatMap.2 ⟨s, hs, List.mem_map.2 ⟨n, hn, rfl⟩⟩)
  simp at this
  omega

end Go.Proofs.YthjljamngpddmaaDoor
namespace Go.Proofs.YthjljamngpddmaaDoor
open Go.RowKit

theorem wk1 : Pt.parseP [49, 48, 32, 50, 48, 32, 123, 51, 48, 44, 52, 48, 125] = ([(2, [10, 20]), (1, [30, 40])], 0) := by rfl
theorem wk1b : Pt.bytes [(2, [10, 20]), (1, [30, 40])] false = ([2, 2, 0, 10, 0, 20, 1, 2, 0, 30, 0, 40], 0) := by rfl
theorem wk2 : Pt.parseP [40, 54, 53, 48, 48, 49, 32, 54, 53, 48, 48, 50, 41, 32, 49, 48] = ([(3, [65001, 65002]), (2, [10])], 0) := by rfl
theorem wk3 : Pt.parseP [49, 32, 124, 32, 50] = ([(2, [1]), (2, [2])], 0) := by rfl
theorem wk4 : Pt.parseP [91, 55, 93] = ([(4, [7])], 0) := by rfl
theorem wk5 : Pt.parseP [45] = ([], 0) := by rfl

theorem made_by {w : World} {cs : Array Value} {l : List UInt8} {n : Nat} (hn : w.heap.size = n) (hl : cs.toList = bys l) (hm : l.length ≤ maxLen) : By (w.alloc (.cells cs 5)) (.slice (some ⟨n, 0, none⟩) l.length l.length) l := by
  subst hn
  exact (Bs.made (Blk.fresh w 5 cs) hl hm).by
theorem made_blk {w : World} {cs : Array Value} {t : TypeId} {n : Nat} (hn : w.heap.size = n) : Blk (w.alloc (.cells cs t)) n t cs := by
  subst hn
  exact Blk.fresh w t cs

theorem asc_of {l : List UInt8} (h : l.all (fun b => b.toNat < 128) = true) : Asc l := fun b hb => by
  have := List.all_eq_true.1 h b hb
  simpa using this

end Go.Proofs.YthjljamngpddmaaDoor
