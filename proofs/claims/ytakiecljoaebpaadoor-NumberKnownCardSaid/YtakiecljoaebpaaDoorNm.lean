
/-
  The law NumberKnown: two map literals, ranged over.
-/
import Derived.Test.YtakiecljoaebpaaDoorNi
import Derived.Maps.RangeWalk
import Derived.StringKeys
import Derived.Carry
namespace Go.Proofs.YtakiecljoaebpaaDoor
open Go.RowKit Go.Maps

/-- A map all of whose entries are right. -/
def Good (S : Lit → DataW Unit → Prop) (D : DataW Unit) : Prop := IsMap D ∧ ∀ kl, Maps.has D kl = true → ∃ d, (∀ zd, D.atKey kl zd = d) ∧ S kl d
theorem Good.empty (S : Lit → DataW Unit → Prop) : Good S (.map []) := ⟨⟨[], rfl⟩, fun _ h => by cases h⟩
theorem Good.put {S : Lit → DataW Unit → Prop} {D : DataW Unit} (h : Good S D) {k : Lit} {d : DataW Unit} (hk : WideAt.IsKeyLit k) (hs : S k d) : Good S (D.put k d) := by
  refine ⟨h.1.put k d, fun kl hl => ?_⟩
  by_cases e : kl = k
  · subst e
    exact ⟨d, fun zd => atKey_put_same h.1 hk d zd, hs⟩
  · rw [has_put_other e] at hl
    obtain ⟨d', h1, h2⟩ := h.2 kl hl
    exact ⟨d', fun zd => by rw [atKey_put_other e]; exact h1 zd, h2⟩
theorem Good.at {S : Lit → DataW Unit → Prop} {D : DataW Unit} (h : Good S D) {kl : Lit} (hl : Maps.has D kl = true) {d : DataW Unit} (hd : ∀ zd, D.atKey kl zd = d) : S kl d := by
  obtain ⟨d', h1, h2⟩ := h.2 kl hl
  rwa [← hd .nil, h1 .nil]
theorem ranges_kept {P : Program} {k : TypeId} {R : Value → Option (DataW Unit × List MemPlace)} {w w' : World} {b r n : Nat} {D : DataW Unit} {left : Lit → Bool} {cnt : Nat}
    (h : w.ranges P k R b r n D left cnt) (kk : Kept Nothing w w') : w'.ranges P k R b r n D left cnt := by
  obtain ⟨es, clock, since, seen, c0, hb, hF, hn, hD, hr, rest⟩ := h
  exact ⟨es, clock, since, seen, c0, (kk.block _ (Array.getElem?_eq_some_iff.1 hb).1 (fun x => x)).trans hb, hF, hn, hD, (kk.block _ (Array.getElem?_eq_some_iff.1 hr).1 (fun x => x)).trans hr, rest⟩
def S1 : Lit → DataW Unit → Prop := fun kl d => ∃ n : Nat, kl = .int .u32 n ∧ n < 4294967296 ∧ d = .lit (.int .i64 (kind n : Nat))
def S2 : Lit → DataW Unit → Prop := fun kl d => ∃ l : List UInt8, kl = .string l ∧ l.length ≤ 40 ∧ d = .lit (.int .i64 ((parse l).2 : Nat))
theorem s1 (z c : Int) (h0 : 0 ≤ z) (h : z < 4294967296) (hc : c = (kind z.toNat : Nat)) : S1 (.int .u32 z) (.lit (.int .i64 c)) := ⟨z.toNat, by rw [Int.toNat_of_nonneg h0], by omega, by rw [hc]⟩
theorem s2 (l : List UInt8) (c : Int) (h : l.length ≤ 40) (hc : c = ((parse l).2 : Nat)) : S2 (.string l) (.lit (.int .i64 c)) := ⟨l, rfl, h, by rw [hc]⟩
theorem keyedAS : Keyed Tryd.prog 23 := int_keyed Tryd.underlying23
theorem keyedS : Keyed Tryd.prog 9 := string_keyed Tryd.underlying9

theorem dotted_closed (n : Nat) (z : Int) (t : List UInt8) (hz : z = n) (hn : n < 4294967296) (ht : dot n = t) (w : World) (hr : Rdy2 w) :
    Calls Tryd.prog 15 #[.int .u32 z] w fun e w' => e = .returned (.string ⟨t.toArray⟩) ∧ Kept Nothing w w' := by
  subst hz ht; exact dotted_any n hn w hr
theorem text_closed (n : Nat) (z : Int) (t : List UInt8) (hz : z = n) (hn : n < 4294967296) (ht : Lib.decDigits n = t) (w : World) (hr : Rdy2 w) :
    Calls Tryd.prog 13 #[.int .u32 z] w fun e w' => e = .returned (.string ⟨t.toArray⟩) ∧ Kept Nothing w w' := by
  subst hz ht; exact text_any n hn w hr
theorem wide_closed (n : Nat) (z : Int) (b : Bool) (hz : z = n) (hb : wide n = b) (w : World) :
    Calls Tryd.prog 8 #[.int .u32 z] w fun e w' => e = .returned (.bool b) ∧ w = w' := by
  subst hz hb; exact wide_any n w
/-- An entry of a map literal, where the walk stands. -/
theorem upon_insert {P : Program} {o : Oper} {a : Act} {next : Act → World → Prop} {Q : Exit → Act → World → Prop} {w : World} {t k e : TypeId} {b n : Nat} {D d : DataW Unit} {key val : Value} {kl : Lit} {ps : List MemPlace}
    (K : Keyed P k) (ht : P.underlying t = some (.map k e)) (hown : w.ownsMap P k (plainElem P e) b n D) (hn : n < maxLen) (hkey : keyOf P k key = some kl) (hval : plainElem P e val = some (d, ps))
    {S : Lit → DataW Unit → Prop} {w0 : World} (hG : Good S D) (hk : WideAt.IsKeyLit kl) (hS : S kl d) (kk : Kept Nothing w0 w) (hb : w0.heap.size ≤ b)
    (hK : ∀ w' D', w'.ownsMap P k (plainElem P e) b (n + 1) D' → Good S D' → Kept Nothing w0 w' → next (a.put o.dst undef) w') :
    Oper.upon P o a next Q ((Sem.run P (Instr.mapUpdate t (.map (some b)) key val) w).andThen fun _ w' => Result.ok Next.skip w') := by
  obtain ⟨w', hrun, r1, r2⟩ := hown.update K ht hn hkey hval
  rw [hrun]
  exact hK w' _ r1 (hG.put hk hS) (kk.grown r2 (by intro j e hj; injection e with e; omega))
set_option maxRecDepth 100000 in
set_option maxHeartbeats 8000000 in
theorem known_law (w : World) (hr : Rdy2 w) (hs : Spans w) :
    Calls Tryd.prog 7 #[] w fun e w' => e = .returned (.bool true) ∧ Kept Nothing w w' := by
  have HT := Lib.hid tells_any
  have HD1 := Lib.hid (dotted_closed 4294967295 4294967295 [54, 53, 53, 51, 53, 46, 54, 53, 53, 51, 53] rfl (by decide) (by kernel_rfl))
  have HD2 := Lib.hid (dotted_closed 65535 65535 [54, 53, 53, 51, 53] rfl (by decide) (by kernel_rfl))
  have HD3 := Lib.hid (dotted_closed 65536 65536 [49, 46, 48] rfl (by decide) (by kernel_rfl))
  have HX := Lib.hid (text_closed 4294967295 4294967295 [52, 50, 57, 52, 57, 54, 55, 50, 57, 53] rfl (by decide) (by kernel_rfl))
  have HW1 := Lib.hid (wide_closed 65535 65535 false rfl (by decide))
  have HW2 := Lib.hid (wide_closed 65536 65536 true rfl (by decide))
  have hmm := @run_makeMap Tryd.prog
  have G := Good.empty S1
  have hown := World.ownsMap_made (H := Unit) w Tryd.prog 23 (plainElem Tryd.prog 3)
  have k := (Kept.refl Nothing w).alloc (.map #[] 0)
  go_enter Tryd.func7, Tryd.ntmps7
  go_wp2
  iterate 17
    (refine upon_insert keyedAS Tryd.underlying43 hown (by simp [maxLen]) (keyOf_int_mk Tryd.underlying23 (by decide)) (plainElem_int Tryd.underlying3 (by decide)) G (by trivial) (s1 _ _ (by decide) (by decide) (by kernel_rfl)) k (Nat.le_refl _) ?_
     clear hown G k
     intro w2 D2 hown G k
     go_wp2)
  refine upon_insert keyedAS Tryd.underlying43 hown (by simp [maxLen]) (keyOf_int_mk Tryd.underlying23 (by decide)) (plainElem_int Tryd.underlying3 (by decide)) G (by trivial) (s1 _ _ (by decide) (by decide) (by kernel_rfl)) k (Nat.le_refl _) ?_
  clear hown G k
  intro w2 D2 hown G k
  go_wp2_with (at_range; refine wpList_range_own _ rfl _ 43 rfl 23 3 keyedAS Tryd.underlying43 _ w.heap.size _ _ rfl hown ?_; intro w3 hrg hg3 hs3)
  go_frame
  have hr0 := k.size
  replace k := k.grown hg3 (by intro j e; cases e)
  clear hown hg3 hs3
  generalize w2.heap.size = r at hrg hr0 ⊢
  have HK := Lib.hid (fun n (hn : n < 4294967296) => kind_any n hn)
  go_loopw [1] (fun _ wr => ∃ (left : Lit → Bool) (cnt : Nat), wr.ranges Tryd.prog 23 (plainElem Tryd.prog 3) w.heap.size r 18 D2 left cnt ∧ Hid (∀ kl, left kl = true → Maps.has D2 kl = true) ∧ Kept Nothing w wr) (fun _ wr => wr.rangeLeft w.heap.size r)
  case atStart => exact ⟨_, _, hrg, Lib.hid (fun _ h => h), k⟩
  case round =>
    clear hrg k
    obtain ⟨left, cnt, hrg, HL, k⟩ := hrel
    go_wp2_with (at_next; refine wpList_next_ranges_ii _ rfl _ rfl 23 3 .u32 .i64 keyedAS Tryd.underlying23 Tryd.underlying3 w.heap.size r 18 _ _ _ rfl hrg ?_ ?_)
    · intro hc0 hl0
      clear hrg G HL hl0
      have G2 := Good.empty S2
      have hown2 := World.ownsMap_made (H := Unit) wr Tryd.prog 9 (plainElem Tryd.prog 34)
      have k2 := k.alloc (.map #[] 0)
      go_wp2
      iterate 16
        (refine upon_insert keyedS Tryd.underlying44 hown2 (by simp [maxLen]) (WideMaps.keyOf_string_mk Tryd.underlying9 (by decide)) (plainElem_int Tryd.underlying34 (by decide)) G2 (by trivial) (s2 _ _ (by decide) (by kernel_rfl)) k2 k.size ?_
         clear hown2 G2 k2
         intro w6 D6 hown2 G2 k2
         go_wp2)
      refine upon_insert keyedS Tryd.underlying44 hown2 (by simp [maxLen]) (WideMaps.keyOf_string_mk Tryd.underlying9 (by decide)) (plainElem_int Tryd.underlying34 (by decide)) G2 (by trivial) (s2 _ _ (by decide) (by kernel_rfl)) k2 k.size ?_
      clear hown2 G2 k2
      intro w6 D6 hown2 G2 k2
      go_wp2_with (at_range; refine wpList_range_own _ rfl _ 44 rfl 9 34 keyedS Tryd.underlying44 _ wr.heap.size _ _ rfl hown2 ?_; intro w7 hrg7 hg7 hs7)
      go_frame
      have hr2 := k2.size
      have hb2 := k.size
      replace k2 := k2.grown hg7 (by intro j e; cases e)
      clear hown2 hg7 hs7 HK
      generalize w6.heap.size = r2 at hrg7 hr2 ⊢
      generalize wr.heap.size = b2 at hrg7 hb2 ⊢
      have HP := Lib.hid (fun (l : List UInt8) (hl : l.length ≤ 100000) => parse_any l hl)
      go_loopw [3] (fun _ wr => ∃ (left : Lit → Bool) (cnt : Nat), wr.ranges Tryd.prog 9 (plainElem Tryd.prog 34) b2 r2 17 D6 left cnt ∧ Hid (∀ kl, left kl = true → Maps.has D6 kl = true) ∧ Kept Nothing w wr) (fun _ wr => wr.rangeLeft b2 r2)
      case atStart => exact ⟨_, _, hrg7, Lib.hid (fun _ h => h), k2⟩
      case round =>
        clear hrg7 k2 k
        obtain ⟨left, cnt, hrg, HL, k⟩ := hrel
        go_wp2_with (at_next; refine wpList_next_ranges _ rfl _ rfl 9 keyedS (plainElem Tryd.prog 34) Value.string (Value.int .i64) (fun key kl h => by obtain ⟨s, rfl, _⟩ := WideMaps.string_of_keyOf Tryd.underlying9 h; exact ⟨s, rfl⟩) (fun v y hv => by obtain ⟨c, rfl, _⟩ := plainElem_int_inv Tryd.underlying34 hv; exact ⟨c, rfl⟩) b2 r2 17 _ _ _ rfl hrg ?_ ?_)
        · intro hc0 hl0
          clear hrg G2 HL hl0 HP
          go_wp2_with (first
            | (go_at_call 15; (with_reducible refine (HD1.out _ (hr.kept k)).mono ?_); rintro e w8 ⟨rfl, k1⟩; replace k := k.trans k1)
            | (go_at_call 15; (with_reducible refine (HD2.out _ (hr.kept k)).mono ?_); rintro e w8 ⟨rfl, k1⟩; replace k := k.trans k1)
            | (go_at_call 15; (with_reducible refine (HD3.out _ (hr.kept k)).mono ?_); rintro e w8 ⟨rfl, k1⟩; replace k := k.trans k1)
            | (go_at_call 13; (with_reducible refine (HX.out _ (hr.kept k)).mono ?_); rintro e w8 ⟨rfl, k1⟩; replace k := k.trans k1)
            | (go_at_call 8; (with_reducible refine (HW1.out _).mono ?_); rintro e w8 ⟨rfl, rfl⟩)
            | (go_at_call 8; (with_reducible refine (HW2.out _).mono ?_); rintro e w8 ⟨rfl, rfl⟩)
            | (go_at_call 17; (with_reducible refine (HT.out _ (hr.kept k)).mono ?_); rintro e w8 ⟨rfl, k1⟩; replace k := k.trans k1))
          go_ret
          exact ⟨rfl, k⟩
        · intro x c kl y yp w4 cnt4 hkey hlk hv hat hrg4 hlt hg4 hs4 hen
          obtain ⟨s, e0, rfl, _⟩ := WideMaps.string_of_keyOf Tryd.underlying9 hkey
          injection e0 with e0
          subst e0
          obtain ⟨c', e1, ey, _⟩ := plainElem_int_inv Tryd.underlying34 hv
          injection e1 with _ e1
          subst e1
          injection ey with ey _
          subst ey
          obtain ⟨l, e2, hl, e3⟩ := G2.at (HL.out _ hlk) hat
          injection e2 with e2
          injection e3 with e3
          injection e3 with _ e3
          obtain rfl : x = ⟨l.toArray⟩ := by rw [← e2]
          subst e3
          have k4 := k.grown hg4 (by intro j e hj; injection e with e; omega)
          clear hat hkey hv e2
          have HP := Lib.hid (HP.out l (by omega))
          generalize (parse l).1 = pv at HP
          generalize (parse l).2 = pe at HP hen ⊢
          go_wp2_with (go_at_call 18; (with_reducible refine (HP.out _ (hr.kept k4)).mono ?_); rintro e w5 ⟨rfl, k5⟩)
          have hrg5 := ranges_kept hrg4 k5
          go_roundw
          case rel => exact ⟨_, cnt4, hrg5, Lib.hid (fun kl h => HL.out kl (by simp at h; exact h.1)), k4.trans k5⟩
          case measure => rw [hrg5.left_eq, hrg.left_eq]; exact hlt
    · intro x c w4 cnt4 hwx hwc hlx hat hrg4 hlt hg4 hs4 hen
      obtain ⟨n, e1, hn, e2⟩ := G.at (HL.out _ hlx) hat
      injection e1 with _ e1
      injection e2 with e2
      injection e2 with _ e2
      subst e1
      subst e2
      have k4 := k.grown hg4 (by intro j e hj; injection e with e; omega)
      clear hat hwx hwc
      have HK := Lib.hid (HK.out n hn)
      generalize kind n = kv at HK hen ⊢
      go_wp2_with (go_at_call 11; (with_reducible refine (HK.out _ (hs.kept k4)).mono ?_); rintro e w5 ⟨rfl, k5⟩)
      have hrg5 := ranges_kept hrg4 k5
      go_roundw
      case rel => exact ⟨_, cnt4, hrg5, Lib.hid (fun kl h => HL.out kl (by simp at h; exact h.1)), k4.trans k5⟩
      case measure => rw [hrg5.left_eq, hrg.left_eq]; exact hlt
end Go.Proofs.YtakiecljoaebpaaDoor
