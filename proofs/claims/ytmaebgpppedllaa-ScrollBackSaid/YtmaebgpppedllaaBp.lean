
/-
  Laying nodes.
-/
import Derived.Test.YtmaebgpppedllaaBl
import Derived.Test.YtmaebgpppedllaaWt
namespace Go.Proofs.Ytmaebgpppedllaa
open Go.RowKit

theorem Nds.at {d : Nat} {w : World} {A : Option Addr} {n c : Nat} {l : List Nd} (h : Nds (d + 1) w (.slice A n c) l) (h0 : 0 < n) :
    n = l.length ∧ ∃ b o, A = some ⟨b, o, Option.none⟩ ∧ ∀ i, i < l.length → ∃ pv,
      w.cell? ⟨b, o + i * 3, Option.none⟩ = some (.int .u8 ((l.getD i Nd.none).wide : Int)) ∧ w.cell? ⟨b, o + i * 3 + 1, Option.none⟩ = some (.int .u32 ((l.getD i Nd.none).n : Int)) ∧
      w.cell? ⟨b, o + i * 3 + 2, Option.none⟩ = some pv ∧ (l.getD i Nd.none).wide < 256 ∧ (l.getD i Nd.none).n < 4294967296 ∧ Nds d w pv (l.getD i Nd.none).parts := by
  obtain ⟨A', c', hv, _, hr⟩ := h
  injection hv with h1 h2 h3
  subst h1 h2
  obtain ⟨b, o, hA, hi⟩ := hr h0
  exact ⟨rfl, b, o, hA, hi⟩
theorem Nd.lay_leaf {d : Nat} {s : WS} {x : Nd} (h : x.parts = [] ∨ d = 0) : Nd.lay d s x = s.lay x.bytes := by
  cases d with
  | zero => rfl
  | succ d => unfold Nd.lay; rw [if_pos (h.resolve_right (by omega))]
theorem Nd.lay_block {d : Nat} {s : WS} {x : Nd} (h : x.parts ≠ []) : Nd.lay (d + 1) s x = ((x.parts.take 6).foldl (Nd.lay d) (s.hold (x.span : Int))).fill := by
  unfold Nd.lay; rw [if_neg h]
theorem Nd.fold_take {d k : Nat} {l : List Nd} {s : WS} (h : k < l.length) : (l.take (k + 1)).foldl (Nd.lay d) s = Nd.lay d ((l.take k).foldl (Nd.lay d) s) (l.getD k Nd.none) := by
  rw [List.take_succ_eq_append_getElem h, List.foldl_append, List.getD_eq_getElem?_getD, List.getElem?_eq_getElem h]
  rfl
theorem wrapU16 (n : Int) : IntKind.u16.wrap n = n % 65536 := by simp [IntKind.wrap, IntKind.bits, IntKind.signed]
theorem Nd.bytes_0 {x : Nd} (h : x.wide % 3 = 0) : x.bytes = [UInt8.ofNat (x.n % 256)] := by
  unfold Nd.bytes Nd.value Nd.width
  rw [if_pos h, be_one]
theorem Nd.bytes_1 {x : Nd} (h : x.wide % 3 = 1) : x.bytes = twos [x.n % 65536] := by
  unfold Nd.bytes Nd.value Nd.width
  rw [if_neg (by omega), if_pos h, be_two]
  simp [twos]
theorem Nd.bytes_2 {x : Nd} (h : x.wide % 3 = 2) (hn : x.n < 4294967296) : x.bytes = fours [x.n] := by
  unfold Nd.bytes Nd.value Nd.width
  rw [if_neg (by omega), if_neg (by omega), be_four, Nat.mod_eq_of_lt (by omega)]
theorem NewW.call_blk {W w : World} {p : Nat} {s s' : WS} {f : FuncId} {args : Array Value} {g : Nat} {t : TypeId} {cs : Array Value} (h : NewW W w p s) (hb : Blk w g t cs) (ht : t ≠ 45 ∧ t ≠ 5 ∧ t ≠ 68)
    (hc : ∀ F, Wr w F p s → Calls Try.prog f args w fun r w' => ∃ F', r = .returned (.pointer (some ⟨p, 0, Option.none⟩)) ∧ Wr w' F' p s' ∧ Kept F w w' ∧ Sub w F' F) :
    Calls Try.prog f args w fun r w' => r = .returned (.pointer (some ⟨p, 0, Option.none⟩)) ∧ NewW W w' p s' ∧ Blk w' g t cs := by
  obtain ⟨F, h1, h2, h3⟩ := h
  refine (hc F h1).mono fun e w' ⟨F', he, hw, hk, hs⟩ => ⟨he, ⟨F', hw, h2.trans hs h3.size, h3.news hk h2⟩, hb.kept hk (fun x => ?_)⟩
  obtain ⟨cs', t', hh, hk'⟩ := h1.kinds x
  unfold Blk at hb
  rw [hb] at hh
  injection hh with hh
  injection hh with _ h5
  subst h5
  rcases hk' with e | e | e
  · exact ht.1 e
  · exact ht.2.1 e
  · exact ht.2.2 e
theorem blk3 {w : World} {p : Nat} {t : TypeId} {a b c : Value} (h : Blk w p t #[a, b, c]) : w.cell? ⟨p, 0, Option.none⟩ = some a ∧ w.cell? ⟨p, 1, Option.none⟩ = some b ∧ w.cell? ⟨p, 2, Option.none⟩ = some c := ⟨h.cell 0, h.cell 1, h.cell 2⟩
theorem most_le {d : Nat} (hd : d ≤ 3) : most d ≤ 1000 := by
  have : d = 0 ∨ d = 1 ∨ d = 2 ∨ d = 3 := by omega
  rcases this with rfl | rfl | rfl | rfl <;> decide
theorem fold_room {d k : Nat} {l : List Nd} {s : WS} (hk : k < 6) (h1 : s.l.length + 6 * most d ≤ 1000000000) (h2 : s.hs.length + 6 * most d ≤ 1000000000) :
    ((l.take k).foldl (Nd.lay d) s).l.length + most d ≤ 1000000000 ∧ ((l.take k).foldl (Nd.lay d) s).hs.length + most d ≤ 1000000000 := by
  have h := fold_grows (Nd.grows d) (l.take k) s
  have h3 : (l.take k).length * most d ≤ 5 * most d := Nat.mul_le_mul_right _ (by rw [List.length_take]; omega)
  unfold Grows at h
  omega
/-- What laying nodes so deep does. -/
def Lays3 (W : World) (d : Nat) : Prop := ∀ (w : World) (v : Value) (p : Nat) (l : List Nd) (s : WS), Nds (d + 1) W v l → NewW W w p s → s.l.length + 6 * most d ≤ 1000000000 → s.hs.length + 6 * most d ≤ 1000000000 →
  Calls Try.prog 6 #[.pointer (some ⟨p, 0, none⟩), v, .int .i64 (d : Int)] w fun e w' => e = .returned (.tuple #[]) ∧ NewW W w' p ((l.take 6).foldl (Nd.lay d) s)
set_option maxRecDepth 20000 in
set_option maxHeartbeats 4000000 in
theorem nd_lay_step (W : World) (d : Nat) (hd : d ≤ 3) (rec : ∀ d', d = d' + 1 → Lays3 W d') : Lays3 W d := by
  intro w v p l s hn hw hb1 hb2
  have HN := Lib.hid hn
  have HREC := Lib.hid rec
  have H0 := Lib.hid hw
  obtain ⟨A, c, rfl, hm⟩ := hn.form
  unfold maxLen at hm
  clear hn rec hw
  go_enter Try.func6, Try.ntmps6
  go_wp2
  go_loopw [10] (fun i wr => ∃ k : Nat, i = .int .i64 (k : Int) ∧ k ≤ l.length ∧ k ≤ 6 ∧ NewW W wr p ((l.take k).foldl (Nd.lay d) s)) (fun i _ => l.length - (intOf i).toNat)
  case atStart => exact ⟨0, rfl, Nat.zero_le _, Nat.zero_le _, H0.out⟩
  case round =>
    obtain ⟨k, rfl, hk, hk6, hnw⟩ := hrel
    have HNW := Lib.hid hnw
    clear hnw
    by_cases hlt : k < l.length
    · obtain ⟨_, b, o, rfl, hcell⟩ := HN.out.at (by omega)
      obtain ⟨pv, c0, c1, c2, hwi, hnn, hpv⟩ := hcell k hlt
      have kk : Kept Nothing W wr := by obtain ⟨_, _, _, h⟩ := HNW.out; exact h
      have e0 := kk.cell_some c0 (fun x => x)
      have e1 := kk.cell_some c1 (fun x => x)
      have e2 := kk.cell_some c2 (fun x => x)
      have HFT := Lib.hid (Nd.fold_take (d := d) (s := s) hlt)
      generalize l.getD k Nd.none = x at *
      obtain ⟨A2, cc2, rfl, hm2⟩ := hpv.form
      have HPV := Lib.hid hpv
      clear hcell c0 c1 c2 hpv kk
      have hmost := most_ge d
      by_cases h6 : k = 6
      · subst h6
        go_wp2
        go_end0
        exact ⟨rfl, HNW.out.old ((Kept.refl _ _).alloc _)⟩
      · have h6i : ((k : Int) == 6) = false := by simp; omega
        obtain ⟨hr1, hr2⟩ := fold_room (l := l) (show k < 6 by omega) hb1 hb2
        have HA := Lib.hid (HNW.out.old ((Kept.refl Nothing wr).alloc (.cells #[.int .u8 (x.wide : Int), .int .u32 (x.n : Int), .slice A2 x.parts.length cc2] 61)))
        generalize (l.take k).foldl (Nd.lay d) s = S at *
        by_cases hleaf : x.parts = [] ∨ d = 0
        · have HFT2 := Lib.hid (HFT.out.trans (Nd.lay_leaf hleaf))
          clear HFT HPV HREC
          rcases hleaf with hA | hB
          · have hpl : ¬ ((0 : Int) < (x.parts.length : Int)) := by rw [hA]; simp
            have h3 : x.wide % 3 = 0 ∨ x.wide % 3 = 1 ∨ x.wide % 3 = 2 := by omega
            clear hA
            generalize x.parts.length = np at *
            rcases h3 with h3 | h3 | h3
            · have hw0 : ((x.wide : Int) % 3 == 0) = true := by simp; omega
              have HBY := Lib.hid (HFT2.out.trans (congrArg S.lay (Nd.bytes_0 h3)))
              have HB : Hid (Bs ((wr.alloc (.cells #[.int .u8 (x.wide : Int), .int .u32 (x.n : Int), .slice A2 np cc2] 61)).alloc (.cells #[.int .u8 ((x.n : Int) % 256)] 5)) (.slice (some ⟨wr.heap.size + 1, 0, Option.none⟩) 1 1) [UInt8.ofNat (x.n % 256)]) := by
                have := Bs.made (l := [UInt8.ofNat (x.n % 256)]) (Blk.fresh (wr.alloc (.cells #[.int .u8 (x.wide : Int), .int .u32 (x.n : Int), .slice A2 np cc2] 61)) 5 #[.int .u8 ((x.n : Int) % 256)]) (by show [_] = [_]; rw [by8_of (m := x.n % 256) (by omega)]) (by simp [maxLen])
                rw [World.size_alloc] at this
                exact Lib.hid this
              have HC := Lib.hid (HA.out.old ((Kept.refl Nothing _).alloc (.cells #[.int .u8 ((x.n : Int) % 256)] 5)))
              clear HFT2 h3
              go_wp2_with fail
              refine (HC.out.call (fun F h => wr_byte p F _ _ _ _ h HB.out.by (by simp only [List.length_cons, List.length_nil]; omega))).mono ?_
              rintro e w2 ⟨rfl, ht2⟩
              have T2 := Lib.hid ht2
              clear ht2
              go_wp2
              go_roundw
              case rel => exact ⟨k + 1, by go_num, by omega, by omega, by rw [HBY.out]; exact T2.out⟩
              case measure => simp [intOf]; omega
            · have hw0 : ((x.wide : Int) % 3 == 0) = false := by simp; omega
              have hw1 : ((x.wide : Int) % 3 == 1) = true := by simp; omega
              have HBY := Lib.hid (HFT2.out.trans (congrArg S.lay (Nd.bytes_1 h3)))
              have HB : Hid (Us ((wr.alloc (.cells #[.int .u8 (x.wide : Int), .int .u32 (x.n : Int), .slice A2 np cc2] 61)).alloc (.cells #[.int .u16 (IntKind.u16.wrap (x.n : Int))] 24)) 24 .u16 (.slice (some ⟨wr.heap.size + 1, 0, Option.none⟩) 1 1) [x.n % 65536]) := by
                have := Us.made (l := [x.n % 65536]) (k := .u16) (Blk.fresh (wr.alloc (.cells #[.int .u8 (x.wide : Int), .int .u32 (x.n : Int), .slice A2 np cc2] 61)) 24 #[.int .u16 (IntKind.u16.wrap (x.n : Int))]) (by show [_] = [_]; exact congrArg (fun y => [Value.int .u16 y]) (by rw [wrapU16]; omega)) (by simp [maxLen])
                rw [World.size_alloc] at this
                exact Lib.hid this
              have HC := Lib.hid (HA.out.old ((Kept.refl Nothing _).alloc (.cells #[.int .u16 (IntKind.u16.wrap (x.n : Int))] 24)))
              clear HFT2 h3
              go_wp2_with fail
              refine (HC.out.call (fun F h => wr_two p F _ _ [x.n % 65536] _ h HB.out (by intro y hy; rw [List.mem_singleton] at hy; omega) (by simp only [List.length_cons, List.length_nil]; omega))).mono ?_
              rintro e w2 ⟨rfl, ht2⟩
              have T2 := Lib.hid ht2
              clear ht2
              go_wp2
              go_roundw
              case rel => exact ⟨k + 1, by go_num, by omega, by omega, by rw [HBY.out]; exact T2.out⟩
              case measure => simp [intOf]; omega
            · have hw0 : ((x.wide : Int) % 3 == 0) = false := by simp; omega
              have hw1 : ((x.wide : Int) % 3 == 1) = false := by simp; omega
              have HBY := Lib.hid (HFT2.out.trans (congrArg S.lay (Nd.bytes_2 h3 hnn)))
              have HB : Hid (Us ((wr.alloc (.cells #[.int .u8 (x.wide : Int), .int .u32 (x.n : Int), .slice A2 np cc2] 61)).alloc (.cells #[.int .u32 (x.n : Int)] 53)) 53 .u32 (.slice (some ⟨wr.heap.size + 1, 0, Option.none⟩) 1 1) [x.n]) := by
                have := Us.made (l := [x.n]) (k := .u32) (Blk.fresh (wr.alloc (.cells #[.int .u8 (x.wide : Int), .int .u32 (x.n : Int), .slice A2 np cc2] 61)) 53 #[.int .u32 (x.n : Int)]) rfl (by simp [maxLen])
                rw [World.size_alloc] at this
                exact Lib.hid this
              have HC := Lib.hid (HA.out.old ((Kept.refl Nothing _).alloc (.cells #[.int .u32 (x.n : Int)] 53)))
              clear HFT2 h3
              go_wp2_with fail
              refine (HC.out.call (fun F h => wr_four p F _ _ [x.n] _ h HB.out (by intro y hy; rw [List.mem_singleton] at hy; omega) (by simp only [List.length_cons, List.length_nil]; omega))).mono ?_
              rintro e w2 ⟨rfl, ht2⟩
              have T2 := Lib.hid ht2
              clear ht2
              go_wp2
              go_roundw
              case rel => exact ⟨k + 1, by go_num, by omega, by omega, by rw [HBY.out]; exact T2.out⟩
              case measure => simp [intOf]; omega
          · have hdp : ¬ ((0 : Int) < (d : Int)) := by omega
            clear hB
            have h3 : x.wide % 3 = 0 ∨ x.wide % 3 = 1 ∨ x.wide % 3 = 2 := by omega
            generalize x.parts.length = np at *
            by_cases hpl : (0 : Int) < (np : Int)
            · rcases h3 with h3 | h3 | h3
              · have hw0 : ((x.wide : Int) % 3 == 0) = true := by simp; omega
                have HBY := Lib.hid (HFT2.out.trans (congrArg S.lay (Nd.bytes_0 h3)))
                have HB : Hid (Bs ((wr.alloc (.cells #[.int .u8 (x.wide : Int), .int .u32 (x.n : Int), .slice A2 np cc2] 61)).alloc (.cells #[.int .u8 ((x.n : Int) % 256)] 5)) (.slice (some ⟨wr.heap.size + 1, 0, Option.none⟩) 1 1) [UInt8.ofNat (x.n % 256)]) := by
                  have := Bs.made (l := [UInt8.ofNat (x.n % 256)]) (Blk.fresh (wr.alloc (.cells #[.int .u8 (x.wide : Int), .int .u32 (x.n : Int), .slice A2 np cc2] 61)) 5 #[.int .u8 ((x.n : Int) % 256)]) (by show [_] = [_]; rw [by8_of (m := x.n % 256) (by omega)]) (by simp [maxLen])
                  rw [World.size_alloc] at this
                  exact Lib.hid this
                have HC := Lib.hid (HA.out.old ((Kept.refl Nothing _).alloc (.cells #[.int .u8 ((x.n : Int) % 256)] 5)))
                clear HFT2 h3
                go_wp2_with fail
                refine (HC.out.call (fun F h => wr_byte p F _ _ _ _ h HB.out.by (by simp only [List.length_cons, List.length_nil]; omega))).mono ?_
                rintro e w2 ⟨rfl, ht2⟩
                have T2 := Lib.hid ht2
                clear ht2
                go_wp2
                go_roundw
                case rel => exact ⟨k + 1, by go_num, by omega, by omega, by rw [HBY.out]; exact T2.out⟩
                case measure => simp [intOf]; omega
              · have hw0 : ((x.wide : Int) % 3 == 0) = false := by simp; omega
                have hw1 : ((x.wide : Int) % 3 == 1) = true := by simp; omega
                have HBY := Lib.hid (HFT2.out.trans (congrArg S.lay (Nd.bytes_1 h3)))
                have HB : Hid (Us ((wr.alloc (.cells #[.int .u8 (x.wide : Int), .int .u32 (x.n : Int), .slice A2 np cc2] 61)).alloc (.cells #[.int .u16 (IntKind.u16.wrap (x.n : Int))] 24)) 24 .u16 (.slice (some ⟨wr.heap.size + 1, 0, Option.none⟩) 1 1) [x.n % 65536]) := by
                  have := Us.made (l := [x.n % 65536]) (k := .u16) (Blk.fresh (wr.alloc (.cells #[.int .u8 (x.wide : Int), .int .u32 (x.n : Int), .slice A2 np cc2] 61)) 24 #[.int .u16 (IntKind.u16.wrap (x.n : Int))]) (by show [_] = [_]; exact congrArg (fun y => [Value.int .u16 y]) (by rw [wrapU16]; omega)) (by simp [maxLen])
                  rw [World.size_alloc] at this
                  exact Lib.hid this
                have HC := Lib.hid (HA.out.old ((Kept.refl Nothing _).alloc (.cells #[.int .u16 (IntKind.u16.wrap (x.n : Int))] 24)))
                clear HFT2 h3
                go_wp2_with fail
                refine (HC.out.call (fun F h => wr_two p F _ _ [x.n % 65536] _ h HB.out (by intro y hy; rw [List.mem_singleton] at hy; omega) (by simp only [List.length_cons, List.length_nil]; omega))).mono ?_
                rintro e w2 ⟨rfl, ht2⟩
                have T2 := Lib.hid ht2
                clear ht2
                go_wp2
                go_roundw
                case rel => exact ⟨k + 1, by go_num, by omega, by omega, by rw [HBY.out]; exact T2.out⟩
                case measure => simp [intOf]; omega
              · have hw0 : ((x.wide : Int) % 3 == 0) = false := by simp; omega
                have hw1 : ((x.wide : Int) % 3 == 1) = false := by simp; omega
                have HBY := Lib.hid (HFT2.out.trans (congrArg S.lay (Nd.bytes_2 h3 hnn)))
                have HB : Hid (Us ((wr.alloc (.cells #[.int .u8 (x.wide : Int), .int .u32 (x.n : Int), .slice A2 np cc2] 61)).alloc (.cells #[.int .u32 (x.n : Int)] 53)) 53 .u32 (.slice (some ⟨wr.heap.size + 1, 0, Option.none⟩) 1 1) [x.n]) := by
                  have := Us.made (l := [x.n]) (k := .u32) (Blk.fresh (wr.alloc (.cells #[.int .u8 (x.wide : Int), .int .u32 (x.n : Int), .slice A2 np cc2] 61)) 53 #[.int .u32 (x.n : Int)]) rfl (by simp [maxLen])
                  rw [World.size_alloc] at this
                  exact Lib.hid this
                have HC := Lib.hid (HA.out.old ((Kept.refl Nothing _).alloc (.cells #[.int .u32 (x.n : Int)] 53)))
                clear HFT2 h3
                go_wp2_with fail
                refine (HC.out.call (fun F h => wr_four p F _ _ [x.n] _ h HB.out (by intro y hy; rw [List.mem_singleton] at hy; omega) (by simp only [List.length_cons, List.length_nil]; omega))).mono ?_
                rintro e w2 ⟨rfl, ht2⟩
                have T2 := Lib.hid ht2
                clear ht2
                go_wp2
                go_roundw
                case rel => exact ⟨k + 1, by go_num, by omega, by omega, by rw [HBY.out]; exact T2.out⟩
                case measure => simp [intOf]; omega
            · rcases h3 with h3 | h3 | h3
              · have hw0 : ((x.wide : Int) % 3 == 0) = true := by simp; omega
                have HBY := Lib.hid (HFT2.out.trans (congrArg S.lay (Nd.bytes_0 h3)))
                have HB : Hid (Bs ((wr.alloc (.cells #[.int .u8 (x.wide : Int), .int .u32 (x.n : Int), .slice A2 np cc2] 61)).alloc (.cells #[.int .u8 ((x.n : Int) % 256)] 5)) (.slice (some ⟨wr.heap.size + 1, 0, Option.none⟩) 1 1) [UInt8.ofNat (x.n % 256)]) := by
                  have := Bs.made (l := [UInt8.ofNat (x.n % 256)]) (Blk.fresh (wr.alloc (.cells #[.int .u8 (x.wide : Int), .int .u32 (x.n : Int), .slice A2 np cc2] 61)) 5 #[.int .u8 ((x.n : Int) % 256)]) (by show [_] = [_]; rw [by8_of (m := x.n % 256) (by omega)]) (by simp [maxLen])
                  rw [World.size_alloc] at this
                  exact Lib.hid this
                have HC := Lib.hid (HA.out.old ((Kept.refl Nothing _).alloc (.cells #[.int .u8 ((x.n : Int) % 256)] 5)))
                clear HFT2 h3
                go_wp2_with fail
                refine (HC.out.call (fun F h => wr_byte p F _ _ _ _ h HB.out.by (by simp only [List.length_cons, List.length_nil]; omega))).mono ?_
                rintro e w2 ⟨rfl, ht2⟩
                have T2 := Lib.hid ht2
                clear ht2
                go_wp2
                go_roundw
                case rel => exact ⟨k + 1, by go_num, by omega, by omega, by rw [HBY.out]; exact T2.out⟩
                case measure => simp [intOf]; omega
              · have hw0 : ((x.wide : Int) % 3 == 0) = false := by simp; omega
                have hw1 : ((x.wide : Int) % 3 == 1) = true := by simp; omega
                have HBY := Lib.hid (HFT2.out.trans (congrArg S.lay (Nd.bytes_1 h3)))
                have HB : Hid (Us ((wr.alloc (.cells #[.int .u8 (x.wide : Int), .int .u32 (x.n : Int), .slice A2 np cc2] 61)).alloc (.cells #[.int .u16 (IntKind.u16.wrap (x.n : Int))] 24)) 24 .u16 (.slice (some ⟨wr.heap.size + 1, 0, Option.none⟩) 1 1) [x.n % 65536]) := by
                  have := Us.made (l := [x.n % 65536]) (k := .u16) (Blk.fresh (wr.alloc (.cells #[.int .u8 (x.wide : Int), .int .u32 (x.n : Int), .slice A2 np cc2] 61)) 24 #[.int .u16 (IntKind.u16.wrap (x.n : Int))]) (by show [_] = [_]; exact congrArg (fun y => [Value.int .u16 y]) (by rw [wrapU16]; omega)) (by simp [maxLen])
                  rw [World.size_alloc] at this
                  exact Lib.hid this
                have HC := Lib.hid (HA.out.old ((Kept.refl Nothing _).alloc (.cells #[.int .u16 (IntKind.u16.wrap (x.n : Int))] 24)))
                clear HFT2 h3
                go_wp2_with fail
                refine (HC.out.call (fun F h => wr_two p F _ _ [x.n % 65536] _ h HB.out (by intro y hy; rw [List.mem_singleton] at hy; omega) (by simp only [List.length_cons, List.length_nil]; omega))).mono ?_
                rintro e w2 ⟨rfl, ht2⟩
                have T2 := Lib.hid ht2
                clear ht2
                go_wp2
                go_roundw
                case rel => exact ⟨k + 1, by go_num, by omega, by omega, by rw [HBY.out]; exact T2.out⟩
                case measure => simp [intOf]; omega
              · have hw0 : ((x.wide : Int) % 3 == 0) = false := by simp; omega
                have hw1 : ((x.wide : Int) % 3 == 1) = false := by simp; omega
                have HBY := Lib.hid (HFT2.out.trans (congrArg S.lay (Nd.bytes_2 h3 hnn)))
                have HB : Hid (Us ((wr.alloc (.cells #[.int .u8 (x.wide : Int), .int .u32 (x.n : Int), .slice A2 np cc2] 61)).alloc (.cells #[.int .u32 (x.n : Int)] 53)) 53 .u32 (.slice (some ⟨wr.heap.size + 1, 0, Option.none⟩) 1 1) [x.n]) := by
                  have := Us.made (l := [x.n]) (k := .u32) (Blk.fresh (wr.alloc (.cells #[.int .u8 (x.wide : Int), .int .u32 (x.n : Int), .slice A2 np cc2] 61)) 53 #[.int .u32 (x.n : Int)]) rfl (by simp [maxLen])
                  rw [World.size_alloc] at this
                  exact Lib.hid this
                have HC := Lib.hid (HA.out.old ((Kept.refl Nothing _).alloc (.cells #[.int .u32 (x.n : Int)] 53)))
                clear HFT2 h3
                go_wp2_with fail
                refine (HC.out.call (fun F h => wr_four p F _ _ [x.n] _ h HB.out (by intro y hy; rw [List.mem_singleton] at hy; omega) (by simp only [List.length_cons, List.length_nil]; omega))).mono ?_
                rintro e w2 ⟨rfl, ht2⟩
                have T2 := Lib.hid ht2
                clear ht2
                go_wp2
                go_roundw
                case rel => exact ⟨k + 1, by go_num, by omega, by omega, by rw [HBY.out]; exact T2.out⟩
                case measure => simp [intOf]; omega
        · have hp0 : x.parts ≠ [] := fun h => hleaf (.inl h)
          obtain ⟨d', hdd⟩ : ∃ d', d = d' + 1 := ⟨d - 1, by omega⟩
          have HFT2 : Hid ((l.take (k + 1)).foldl (Nd.lay d) s = ((x.parts.take 6).foldl (Nd.lay d') (S.hold (x.span : Int))).fill) := Lib.hid (by rw [HFT.out]; subst hdd; exact Nd.lay_block hp0)
          have hpl : (0 : Int) < (x.parts.length : Int) := by have := List.length_pos_iff.2 hp0; omega
          have hdp : (0 : Int) < (d : Int) := by omega
          have hsub : (d : Int) - 1 = (d' : Int) := by omega
          have hspan : (1 : Int) + (x.wide : Int) % 2 = (x.span : Int) := by unfold Nd.span; omega
          have hspo := x.span_or
          have hmd : most d = 2 + 6 * most d' := by subst hdd; rfl
          have HR := Lib.hid (HREC.out d' hdd)
          have HP2 : Hid (Nds (d' + 1) W (.slice A2 x.parts.length cc2) x.parts) := Lib.hid (by rw [← hdd]; exact HPV.out)
          have HB := Lib.hid (Blk.fresh wr 61 #[.int .u8 (x.wide : Int), .int .u32 (x.n : Int), .slice A2 x.parts.length cc2])
          have hh1 := WS.hold_len S (x.span : Int)
          clear HFT HREC HPV hleaf hdd
          go_wp2_with fail
          refine (HA.out.call_blk HB.out (by decide) (fun F h => wr_hold p F S (x.span : Int) _ h (by omega) (by omega))).mono ?_
          rintro e w2 ⟨rfl, ht2, hb2⟩
          obtain ⟨g0, g1, g2⟩ := blk3 hb2
          have T2 := Lib.hid ht2
          clear ht2 hb2
          go_wp2_with fail
          refine (HR.out w2 _ p x.parts (S.hold (x.span : Int)) HP2.out T2.out (by omega) (by omega)).mono ?_
          rintro e w3 ⟨rfl, ht3⟩
          have T3 := Lib.hid ht3
          clear ht3
          go_wp2_with fail
          refine (T3.out.call (fun F h => wr_fill p F _ _ h)).mono ?_
          rintro e w4 ⟨rfl, ht4⟩
          have T4 := Lib.hid ht4
          clear ht4
          go_wp2
          go_roundw
          case rel => exact ⟨k + 1, by go_num, by omega, by omega, by rw [HFT2.out]; exact T4.out⟩
          case measure => simp [intOf]; omega
    · have hl6 : l.take 6 = l.take k := by rw [List.take_of_length_le (by omega), List.take_of_length_le (by omega)]
      have HE := Lib.hid hl6
      clear hl6
      go_wp2
      go_end0
      exact ⟨rfl, by rw [HE.out]; exact HNW.out⟩
theorem nd_lay (W : World) : ∀ d, d ≤ 3 → Lays3 W d
  | 0, h => nd_lay_step W 0 h (fun d' e => by omega)
  | d + 1, h => nd_lay_step W (d + 1) h (fun d' e => by
    obtain rfl : d = d' := by omega
    exact nd_lay W d (by omega))
end Go.Proofs.Ytmaebgpppedllaa
