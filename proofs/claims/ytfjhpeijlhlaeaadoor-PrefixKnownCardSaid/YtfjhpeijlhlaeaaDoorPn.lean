
/-
  The law PrefixKnown.
-/
import Derived.Test.YtfjhpeijlhlaeaaDoorMq
import Derived.Test.YtfjhpeijlhlaeaaDoorPi
import Derived.Test.YtfjhpeijlhlaeaaDoorPj
import Derived.Test.YtfjhpeijlhlaeaaDoorPt
namespace Go.Proofs.YtfjhpeijlhlaeaaDoor
open Go.RowKit Go.Maps

def T1 : Lit → DataW Unit → Prop := fun kl d => ∃ l : List UInt8, kl = .string l ∧ l.length ≤ 40 ∧ d = .lit (.int .i64 (parseIP l).2)
def T2 : Lit → DataW Unit → Prop := fun kl d => ∃ l : List UInt8, kl = .string l ∧ l.length ≤ 40 ∧ d = .lit (.int .i64 (parse l).2)
theorem tt1 (l : List UInt8) (c : Int) (h : l.length ≤ 40) (hc : c = (parseIP l).2) : T1 (.string l) (.lit (.int .i64 c)) := ⟨l, rfl, h, by rw [hc]⟩
theorem tt2 (l : List UInt8) (c : Int) (h : l.length ≤ 40) (hc : c = (parse l).2) : T2 (.string l) (.lit (.int .i64 c)) := ⟨l, rfl, h, by rw [hc]⟩
theorem form_own {w : World} {base : Nat} {e : TypeId} {size n : Nat} {v : Value} {xs : List Value} (h : w.ownsRow base e size v n xs) : ∃ A c, v = .slice A n c := by
  rcases h.2 with ⟨rfl, rfl⟩ | ⟨g, cap, cur, rfl, _⟩
  · exact ⟨none, 0, rfl⟩
  · exact ⟨_, cap, rfl⟩
/-- The cells of the four that may not be. -/
def bad8 : Array Value := #[.int .u32 0, .int .i64 (-1), .int .u32 0, .int .i64 33, .int .u32 1, .int .i64 31, .int .u32 2147483648, .int .i64 0]
/-- What is told of a prefix that may not be. -/
structure BadE (z b : Int) : Prop where
  bytes : ∀ w n, w.heap.size = n → Calls Tryd.prog 36 #[.slice (some ⟨n, 0, none⟩) 2 2] (w.alloc (.cells #[.int .u32 0, .int .i64 0, .int .u32 z, .int .i64 b] 25)) fun e w' => ∃ bv, e = .returned (.tuple #[bv, .int .i64 1]) ∧ Kept Nothing w w'
  may : ∀ w, Calls Tryd.prog 11 #[.agg #[.int .u32 z, .int .i64 b]] w fun e w' => e = .returned (.bool false) ∧ Kept Nothing w w'
  text : ∀ w, Rdy w → Calls Tryd.prog 13 #[.agg #[.int .u32 z, .int .i64 b]] w fun e w' => e = .returned (.string ⟨#[]⟩) ∧ Kept Nothing w w'
  has : ∀ w, Calls Tryd.prog 18 #[.agg #[.int .u32 z, .int .i64 b], .int .u32 z] w fun e w' => e = .returned (.bool false) ∧ Kept Nothing w w'
  con1 : ∀ w, Calls Tryd.prog 20 #[.agg #[.int .u32 0, .int .i64 0], .agg #[.int .u32 z, .int .i64 b]] w fun e w' => e = .returned (.bool false) ∧ Kept Nothing w w'
  con2 : ∀ w, Calls Tryd.prog 20 #[.agg #[.int .u32 z, .int .i64 b], .agg #[.int .u32 1, .int .i64 32]] w fun e w' => e = .returned (.bool false) ∧ Kept Nothing w w'
theorem pfs_two (w : World) (x : Nat) (z b : Int) (hz : z = x) (hx : x < 4294967296) : Pfs (w.alloc (.cells #[.int .u32 0, .int .i64 0, .int .u32 z, .int .i64 b] 25)) (.slice (some ⟨w.heap.size, 0, none⟩) 2 2) [(0, 0), (x, b)] := by
  subst hz
  have B := Blk.fresh w 25 #[.int .u32 0, .int .i64 0, .int .u32 (x : Int), .int .i64 b]
  refine ⟨_, _, rfl, Nat.le_refl _, by simp [maxLen], fun y hy => ?_, fun _ => ⟨_, _, rfl, fun i hi => ?_⟩⟩
  · simp only [List.mem_cons, List.not_mem_nil, or_false] at hy
    rcases hy with rfl | rfl
    · decide
    · exact hx
  · have hi : i < 2 := hi
    obtain rfl | rfl : i = 0 ∨ i = 1 := by omega
    · exact ⟨B.cell 0, B.cell 1⟩
    · exact ⟨B.cell 2, B.cell 3⟩
theorem bad_of (x : Nat) (z b : Int) (hz : z = x) (hx : x < 4294967296) (h1 : (bytesP [(0, 0), (x, b)]).2 = 1) (h2 : may x b = false) (h3 : text x b = []) (h4 : has x b x = false) (h5 : contains 0 0 x b = false) (h6 : contains x b 1 32 = false) : BadE z b where
  bytes := fun w n hn => by subst hn; exact (bytes_any _ _ (by simp) _ (pfs_two w x z b hz hx)).mono fun e w' ⟨bv, he, _, hk⟩ => ⟨bv, by rw [he, h1], ((Kept.refl Nothing w).alloc _).trans hk⟩
  may := fun w => by subst hz; have := may_any x b hx w; rwa [h2] at this
  text := fun w hr => by subst hz; have := text_any x b hx w hr; rwa [h3] at this
  has := fun w => by subst hz; have := has_any x x b hx w; rwa [h4] at this
  con1 := fun w => by subst hz; have := contains_any 0 x 0 b hx w; rwa [h5] at this
  con2 := fun w => by subst hz; have := contains_any x 1 b 32 (by decide) w; rwa [h6] at this
theorem bad0 : BadE 0 (-1) := bad_of 0 0 (-1) rfl (by decide) (by decide) (by decide) (by decide) (by decide) (by decide) (by decide)
theorem bad1 : BadE 0 33 := bad_of 0 0 33 rfl (by decide) (by decide) (by decide) (by decide) (by decide) (by decide) (by decide)
theorem bad2 : BadE 1 31 := bad_of 1 1 31 rfl (by decide) (by decide) (by decide) (by decide) (by decide) (by decide) (by decide)
theorem bad3 : BadE 2147483648 0 := bad_of 2147483648 2147483648 0 rfl (by decide) (by decide) (by decide) (by decide) (by decide) (by decide) (by decide)
theorem by_lit (w : World) (cs : Array Value) (n : Nat) (l : List UInt8) (h : cs = (bys l).toArray) (hn : l.length = n) (hm : n ≤ maxLen) : By (w.alloc (.cells cs 5)) (.slice (some ⟨w.heap.size, 0, none⟩) n n) l := by
  subst h hn; exact by_new w l hm
theorem rd_c (l : List UInt8) (ps : List (Nat × Nat)) (e : Int) (h : readL l = (ps, e)) (hl : l.length ≤ 100000) (v : Value) (w : World) (hv : By w v l) :
    Calls Tryd.prog 33 #[v] w fun r w' => ∃ rv, r = .returned (.tuple #[rv, .int .i64 e]) ∧ w'.ownsRow w.heap.size 25 2 rv ps.length (pcs ps) ∧ Kept Nothing w w' := by
  have := read_any v l hl w hv
  rwa [h] at this
theorem rd_lit (cs : Array Value) (n : Nat) (l : List UInt8) (ps : List (Nat × Nat)) (e : Int) (hc : cs = (bys l).toArray) (hn : l.length = n) (hm : n ≤ 100000) (h : readL l = (ps, e)) (w : World) :
    Calls Tryd.prog 33 #[.slice (some ⟨w.heap.size, 0, none⟩) n n] (w.alloc (.cells cs 5)) fun r w' => ∃ rv, r = .returned (.tuple #[rv, .int .i64 e]) ∧ (∃ base, w'.ownsRow base 25 2 rv ps.length (pcs ps)) ∧ Kept Nothing w w' :=
  (rd_c l ps e h (by omega) _ _ (by_lit w cs n l hc hn (by simp [maxLen]; omega))).mono fun r w' ⟨rv, he, ho, hk⟩ => ⟨rv, he, ⟨_, ho⟩, ((Kept.refl Nothing w).alloc _).trans hk⟩
theorem bytes_nil (w : World) : Calls Tryd.prog 36 #[.slice none 0 0] w fun r w' => ∃ A c, r = .returned (.tuple #[.slice A 0 c, .int .i64 0]) ∧ Kept Nothing w w' :=
  (bytes_any _ [] (by simp) w ⟨none, 0, rfl, Nat.le_refl _, by simp [maxLen], fun x hx => (by cases hx), fun h => absurd h (by simp)⟩).mono fun r w' ⟨bv, he, ho, hk⟩ => by
    obtain ⟨A, c, rfl⟩ := form_own ho
    exact ⟨A, c, he, hk⟩
theorem bit_c (x : Nat) (z k : Int) (b : Bool) (hz : z = x) (hx : x < 4294967296) (h : bitAt x k = b) (w : World) :
    Calls Tryd.prog 26 #[.int .u32 z, .int .i64 k] w fun e w' => e = .returned (.bool b) ∧ w = w' := by
  subst hz h; exact bit_any x k hx w
set_option maxRecDepth 100000 in
set_option maxHeartbeats 8000000 in
theorem known_law (w : World) (hr : Rdy w) :
    Calls Tryd.prog 9 #[] w fun e w' => e = .returned (.bool true) ∧ Kept Nothing w w' := by
  have HT := Lib.hid tells_any
  have hmm := @run_makeMap Tryd.prog
  have G := Good.empty T1
  have hown := World.ownsMap_made (H := Unit) w Tryd.prog 9 (plainElem Tryd.prog 49)
  have k := (Kept.refl Nothing w).alloc (.map #[] 0)
  go_enter Tryd.func9, Tryd.ntmps9
  go_wp2
  iterate 11
    (refine upon_insert keyedS Tryd.underlying77 hown (by simp [maxLen]) (WideMaps.keyOf_string_mk Tryd.underlying9 (by decide)) (plainElem_int Tryd.underlying49 (by decide)) G (by trivial) (tt1 _ _ (by decide) (by kernel_rfl)) k (Nat.le_refl _) ?_
     clear hown G k
     intro w2 D2 hown G k
     go_wp2)
  refine upon_insert keyedS Tryd.underlying77 hown (by simp [maxLen]) (WideMaps.keyOf_string_mk Tryd.underlying9 (by decide)) (plainElem_int Tryd.underlying49 (by decide)) G (by trivial) (tt1 _ _ (by decide) (by kernel_rfl)) k (Nat.le_refl _) ?_
  clear hown G k
  intro w2 D2 hown G k
  go_wp2_with (at_range; refine wpList_range_own _ rfl _ 77 rfl 9 49 keyedS Tryd.underlying77 _ w.heap.size _ _ rfl hown ?_; intro w3 hrg hg3 hs3)
  go_frame
  have hr0 := k.size
  replace k := k.grown hg3 (by intro j e; cases e)
  clear hown hg3 hs3
  generalize w2.heap.size = r at hrg hr0 ⊢
  have HP := Lib.hid (fun (l : List UInt8) (hl : l.length ≤ 100000) => parseIP_any l hl)
  go_loopw [1] (fun _ wr => ∃ (left : Lit → Bool) (cnt : Nat), wr.ranges Tryd.prog 9 (plainElem Tryd.prog 49) w.heap.size r 12 D2 left cnt ∧ Hid (∀ kl, left kl = true → Maps.has D2 kl = true) ∧ Kept Nothing w wr) (fun _ wr => wr.rangeLeft w.heap.size r)
  case atStart => exact ⟨_, _, hrg, Lib.hid (fun _ h => h), k⟩
  case round =>
    clear hrg k
    obtain ⟨left, cnt, hrg, HL, k⟩ := hrel
    go_wp2_with (at_next; refine wpList_next_ranges _ rfl _ rfl 9 keyedS (plainElem Tryd.prog 49) Value.string (Value.int .i64) (fun key kl h => by obtain ⟨s, rfl, _⟩ := WideMaps.string_of_keyOf Tryd.underlying9 h; exact ⟨s, rfl⟩) (fun v y hv => by obtain ⟨c, rfl, _⟩ := plainElem_int_inv Tryd.underlying49 hv; exact ⟨c, rfl⟩) w.heap.size r 12 _ _ _ rfl hrg ?_ ?_)
    · intro hc0 hl0
      clear hrg G HL hl0 HP
      have G2 := Good.empty T2
      have hown2 := World.ownsMap_made (H := Unit) wr Tryd.prog 9 (plainElem Tryd.prog 49)
      have k2 := k.alloc (.map #[] 0)
      go_wp2
      iterate 11
        (refine upon_insert keyedS Tryd.underlying77 hown2 (by simp [maxLen]) (WideMaps.keyOf_string_mk Tryd.underlying9 (by decide)) (plainElem_int Tryd.underlying49 (by decide)) G2 (by trivial) (tt2 _ _ (by decide) (by kernel_rfl)) k2 k.size ?_
         clear hown2 G2 k2
         intro w6 D6 hown2 G2 k2
         go_wp2)
      refine upon_insert keyedS Tryd.underlying77 hown2 (by simp [maxLen]) (WideMaps.keyOf_string_mk Tryd.underlying9 (by decide)) (plainElem_int Tryd.underlying49 (by decide)) G2 (by trivial) (tt2 _ _ (by decide) (by kernel_rfl)) k2 k.size ?_
      clear hown2 G2 k2
      intro w6 D6 hown2 G2 k2
      go_wp2_with (at_range; refine wpList_range_own _ rfl _ 77 rfl 9 49 keyedS Tryd.underlying77 _ wr.heap.size _ _ rfl hown2 ?_; intro w7 hrg7 hg7 hs7)
      go_frame
      have hr2 := k2.size
      have hb2 := k.size
      replace k2 := k2.grown hg7 (by intro j e; cases e)
      clear hown2 hg7 hs7
      generalize w6.heap.size = r2 at hrg7 hr2 ⊢
      generalize wr.heap.size = b2 at hrg7 hb2 ⊢
      have HP := Lib.hid (fun (l : List UInt8) (hl : l.length ≤ 100000) => parse_any l hl)
      go_loopw [5] (fun _ wr => ∃ (left : Lit → Bool) (cnt : Nat), wr.ranges Tryd.prog 9 (plainElem Tryd.prog 49) b2 r2 12 D6 left cnt ∧ Hid (∀ kl, left kl = true → Maps.has D6 kl = true) ∧ Kept Nothing w wr) (fun _ wr => wr.rangeLeft b2 r2)
      case atStart => exact ⟨_, _, hrg7, Lib.hid (fun _ h => h), k2⟩
      case round =>
        clear hrg7 k2 k
        obtain ⟨left, cnt, hrg, HL, k⟩ := hrel
        go_wp2_with (at_next; refine wpList_next_ranges _ rfl _ rfl 9 keyedS (plainElem Tryd.prog 49) Value.string (Value.int .i64) (fun key kl h => by obtain ⟨s, rfl, _⟩ := WideMaps.string_of_keyOf Tryd.underlying9 h; exact ⟨s, rfl⟩) (fun v y hv => by obtain ⟨c, rfl, _⟩ := plainElem_int_inv Tryd.underlying49 hv; exact ⟨c, rfl⟩) b2 r2 12 _ _ _ rfl hrg ?_ ?_)
        · intro hc0 hl0
          clear hrg G2 HL hl0 HP
          have B0 : Blk (wr.alloc (.cells bad8 25)) wr.heap.size 25 bad8 := Blk.fresh _ _ _
          have k0 := k.alloc (.cells bad8 25)
          go_wp2
          generalize wr.heap.size = g at B0 ⊢
          go_loopw [65] (fun i wx => ∃ j : Nat, j ≤ 4 ∧ i = .int .i64 j ∧ Blk wx g 25 bad8 ∧ Kept Nothing w wx) (fun i _ => 4 - (intOf i).toNat)
          case atStart => exact ⟨0, by omega, rfl, B0, k0⟩
          case round =>
            clear B0 k0
            obtain ⟨j, hj, rfl, B, k⟩ := hrel
            by_cases h4 : j < 4
            · have h4I : (j : Int) < 4 := by omega
              have hz : ∃ z b : Int, BadE z b ∧ wr.cell? ⟨g, j * 2, none⟩ = some (.int .u32 z) ∧ wr.cell? ⟨g, j * 2 + 1, none⟩ = some (.int .i64 b) := by
                obtain rfl | rfl | rfl | rfl : j = 0 ∨ j = 1 ∨ j = 2 ∨ j = 3 := by omega
                · exact ⟨_, _, bad0, B.cell 0, B.cell 1⟩
                · exact ⟨_, _, bad1, B.cell 2, B.cell 3⟩
                · exact ⟨_, _, bad2, B.cell 4, B.cell 5⟩
                · exact ⟨_, _, bad3, B.cell 6, B.cell 7⟩
              obtain ⟨z, b, HE, e0, e1⟩ := hz
              have HE := Lib.hid HE
              have HB := Lib.hid B
              have KR := Lib.hid (fun (o : Obj) => (Kept.refl Nothing wr).alloc o)
              have D := Lib.hid (Blk.fresh wr 25 #[.int .u32 z, .int .i64 b])
              have K := Lib.hid k
              clear B k
              go_wp2_with (first
                | (go_at_call 36; (with_reducible refine (HE.out.bytes _ _ ?hsz).mono ?_); (case hsz => rw [World.size_alloc]); rintro e w3 ⟨bv, rfl, k3⟩; have D3 := D.out.kept k3 (fun x => x); have d0 : w3.cell? ⟨wr.heap.size, 0, none⟩ = some (.int .u32 z) := D3.cell 0; have d1 : w3.cell? ⟨wr.heap.size, 1, none⟩ = some (.int .i64 b) := D3.cell 1; have kk := (KR.out _).trans k3)
                | (go_at_call 11; (with_reducible refine (HE.out.may _).mono ?_); rintro e w4 ⟨rfl, k4⟩; have D4 := D3.kept k4 (fun x => x); have d2 : w4.cell? ⟨wr.heap.size, 0, none⟩ = some (.int .u32 z) := D4.cell 0; have d3 : w4.cell? ⟨wr.heap.size, 1, none⟩ = some (.int .i64 b) := D4.cell 1; replace kk := kk.trans k4)
                | (go_at_call 13; (with_reducible refine (HE.out.text _ (hr.kept (K.out.trans kk))).mono ?_); rintro e w5 ⟨rfl, k5⟩; have D5 := D4.kept k5 (fun x => x); have d4 : w5.cell? ⟨wr.heap.size, 0, none⟩ = some (.int .u32 z) := D5.cell 0; have d5 : w5.cell? ⟨wr.heap.size, 1, none⟩ = some (.int .i64 b) := D5.cell 1; replace kk := kk.trans k5)
                | (go_at_call 18; (with_reducible refine (HE.out.has _).mono ?_); rintro e w6 ⟨rfl, k6⟩; have D6 := D5.kept k6 (fun x => x); have d6 : w6.cell? ⟨wr.heap.size, 0, none⟩ = some (.int .u32 z) := D6.cell 0; have d7 : w6.cell? ⟨wr.heap.size, 1, none⟩ = some (.int .i64 b) := D6.cell 1; replace kk := kk.trans k6)
                | (go_at_call 20; (with_reducible refine (HE.out.con1 _).mono ?_); rintro e w7 ⟨rfl, k7⟩; have D7 := D6.kept k7 (fun x => x); have d8 : w7.cell? ⟨wr.heap.size, 0, none⟩ = some (.int .u32 z) := D7.cell 0; have d9 : w7.cell? ⟨wr.heap.size, 1, none⟩ = some (.int .i64 b) := D7.cell 1; replace kk := kk.trans k7)
                | (go_at_call 20; (with_reducible refine (HE.out.con2 _).mono ?_); rintro e w8 ⟨rfl, k8⟩; replace kk := kk.trans k8))
              go_roundw
              case rel => exact ⟨j + 1, by omega, by go_num, HB.out.kept kk (fun x => x), K.out.trans kk⟩
              case measure => simp [intOf]; omega
            · obtain rfl : j = 4 := by omega
              have R1 := Lib.hid (fun w => rd_c [] [] 0 (by decide) (by decide) _ w (Bs.nil w).by)
              have R2 := Lib.hid (rd_lit #[.int .u8 33] 1 [33] [] 5 rfl rfl (by decide) (by decide))
              have R3 := Lib.hid (rd_lit #[.int .u8 8] 1 [8] [] 4 rfl rfl (by decide) (by decide))
              have R4 := Lib.hid (rd_lit #[.int .u8 0, .int .u8 32, .int .u8 1, .int .u8 2, .int .u8 3] 5 [0, 32, 1, 2, 3] [] 4 rfl rfl (by decide) (by decide))
              have R5 := Lib.hid (rd_lit #[.int .u8 17, .int .u8 1, .int .u8 2, .int .u8 40] 4 [17, 1, 2, 40] [(16908288, 17)] 0 rfl rfl (by decide) (by decide))
              have R6 := Lib.hid (rd_lit #[.int .u8 1, .int .u8 255] 2 [1, 255] [(2147483648, 1)] 0 rfl rfl (by decide) (by decide))
              have HB := Lib.hid bytes_nil
              have Q1 := Lib.hid (bit_c 2147483648 2147483648 0 true rfl (by decide) (by decide))
              have Q2 := Lib.hid (bit_c 1 1 31 true rfl (by decide) (by decide))
              have Q3 := Lib.hid (bit_c 1 1 32 false rfl (by decide) (by decide))
              have Q4 := Lib.hid (bit_c 2147483648 2147483648 (-1) false rfl (by decide) (by decide))
              have he := eq_pfx
              have hg := guard_pfx
              clear B hmm
              go_wp2_with (first
                | (go_at_call 33; (with_reducible refine (R1.out _).mono ?_); rintro e x1 ⟨rv, rfl, ho, k1⟩; obtain ⟨A1, c1, rfl⟩ := form_own ho; clear ho; replace k := k.trans k1)
                | (go_at_call 33; (with_reducible refine (R2.out _).mono ?_); rintro e x1 ⟨rv2, rfl, _, k1⟩; replace k := k.trans k1)
                | (go_at_call 33; (with_reducible refine (R3.out _).mono ?_); rintro e x1 ⟨rv3, rfl, _, k1⟩; replace k := k.trans k1)
                | (go_at_call 33; (with_reducible refine (R4.out _).mono ?_); rintro e x1 ⟨rv4, rfl, _, k1⟩; replace k := k.trans k1)
                | (go_at_call 33; (with_reducible refine (R5.out _).mono ?_); rintro e x1 ⟨rv5, rfl, _, k1⟩; replace k := k.trans k1)
                | (go_at_call 33; (with_reducible refine (R6.out _).mono ?_); rintro e x1 ⟨rv6, rfl, ⟨base, ho⟩, k1⟩; obtain ⟨g6, c6, rfl, hc6, hcell⟩ := own_at ho (by decide); have z0 : x1.cell? ⟨g6, 0, none⟩ = some (.int .u32 2147483648) := hcell 0 (by decide); have z1 : x1.cell? ⟨g6, 1, none⟩ = some (.int .i64 1) := hcell 1 (by decide); clear ho hcell; replace k := k.trans k1)
                | (go_at_call 36; (with_reducible refine (HB.out _).mono ?_); rintro e x1 ⟨A7, c7, rfl, k1⟩; replace k := k.trans k1)
                | (go_at_call 26; (with_reducible refine (Q1.out _).mono ?_); rintro e x1 ⟨rfl, rfl⟩)
                | (go_at_call 26; (with_reducible refine (Q2.out _).mono ?_); rintro e x1 ⟨rfl, rfl⟩)
                | (go_at_call 26; (with_reducible refine (Q3.out _).mono ?_); rintro e x1 ⟨rfl, rfl⟩)
                | (go_at_call 26; (with_reducible refine (Q4.out _).mono ?_); rintro e x1 ⟨rfl, rfl⟩)
                | (go_at_call 28; (with_reducible refine (HT.out _ (hr.kept k)).mono ?_); rintro e x1 ⟨rfl, k1⟩; replace k := k.trans k1))
              go_ret
              exact ⟨rfl, k⟩
        · intro x c kl y yp w4 cnt4 hkey hlk hv hat hrg4 hlt hg4 hs4 hen
          obtain ⟨s, e0, rfl, _⟩ := WideMaps.string_of_keyOf Tryd.underlying9 hkey
          injection e0 with e0
          subst e0
          obtain ⟨c', e1, ey, _⟩ := plainElem_int_inv Tryd.underlying49 hv
          injection e1 with _ e1
          subst e1
          injection ey with ey _
          subst ey
          obtain ⟨l, e2, hl, e3⟩ := G2.at (HL.out _ hlk) hat
          injection e2 with e2
          injection e3 with e3
          injection e3 with _ e3
          obtain rfl : x = ⟨l.toArray⟩ := by rw [← e2]
          subst e3
          have k4 := k.grown hg4 (by intro j e hj; injection e with e; omega)
          clear hat hkey hv e2
          have HP := HP.out l (by omega)
          unfold ptup at HP
          replace HP := Lib.hid HP
          generalize (parse l).1.1 = pv at HP
          generalize (parse l).1.2 = pb at HP
          generalize (parse l).2 = pe at HP hen ⊢
          go_wp2_with (go_at_call 31; (with_reducible refine (HP.out _).mono ?_); rintro e w5 ⟨rfl, k5⟩)
          have k6 := k5.alloc (.cells #[.int .u32 (pv : Nat), .int .i64 (pb : Nat)] 25)
          have hrg5 := ranges_kept hrg4 k6
          go_roundw
          case rel => exact ⟨_, cnt4, hrg5, Lib.hid (fun kl h => HL.out kl (by simp at h; exact h.1)), k4.trans k6⟩
          case measure => rw [hrg5.left_eq, hrg.left_eq]; exact hlt
    · intro x c kl y yp w4 cnt4 hkey hlk hv hat hrg4 hlt hg4 hs4 hen
      obtain ⟨s, e0, rfl, _⟩ := WideMaps.string_of_keyOf Tryd.underlying9 hkey
      injection e0 with e0
      subst e0
      obtain ⟨c', e1, ey, _⟩ := plainElem_int_inv Tryd.underlying49 hv
      injection e1 with _ e1
      subst e1
      injection ey with ey _
      subst ey
      obtain ⟨l, e2, hl, e3⟩ := G.at (HL.out _ hlk) hat
      injection e2 with e2
      injection e3 with e3
      injection e3 with _ e3
      obtain rfl : x = ⟨l.toArray⟩ := by rw [← e2]
      subst e3
      have k4 := k.grown hg4 (by intro j e hj; injection e with e; omega)
      clear hat hkey hv e2
      have HP := Lib.hid (HP.out l (by omega))
      generalize (parseIP l).1 = pv at HP
      generalize (parseIP l).2 = pe at HP hen ⊢
      go_wp2_with (go_at_call 29; (with_reducible refine (HP.out _).mono ?_); rintro e w5 ⟨rfl, k5⟩)
      have hrg5 := ranges_kept hrg4 k5
      go_roundw
      case rel => exact ⟨_, cnt4, hrg5, Lib.hid (fun kl h => HL.out kl (by simp at h; exact h.1)), k4.trans k5⟩
      case measure => rw [hrg5.left_eq, hrg.left_eq]; exact hlt
end Go.Proofs.YtfjhpeijlhlaeaaDoor
