
/-
  Reading nodes.
-/
import Derived.Test.YtmaebgpppedllaaBp
import Derived.Deep.RegionHeld3
namespace Go.Proofs.Ytmaebgpppedllaa
open Go.RowKit

theorem wrapU8 (n : Int) : IntKind.u8.wrap n = n % 256 := by simp [IntKind.wrap, IntKind.bits, IntKind.signed]
/-- A reader that is new, from W's end on. -/
def NewR (W w : World) (p : Nat) (s : RS) : Prop := Rd w p s ∧ W.heap.size ≤ p ∧ Kept Nothing W w
theorem NewR.old {W w w' : World} {p : Nat} {s : RS} (h : NewR W w p s) (k : Kept Nothing w w') : NewR W w' p s :=
  ⟨h.1.kept k (NoRd.nothing w), h.2.1, h.2.2.trans k⟩
theorem NewR.call {W w : World} {p : Nat} {s s' : RS} {f : FuncId} {args : Array Value} {e0 : Ending} (h : NewR W w p s)
    (hc : Rd w p s → Calls Try.prog f args w fun r w' => r = e0 ∧ Rd w' p s' ∧ Kept (Only p) w w') :
    Calls Try.prog f args w fun r w' => r = e0 ∧ NewR W w' p s' :=
  (hc h.1).mono fun e w' ⟨he, hr, hk⟩ => ⟨he, hr, h.2.1, h.2.2.trans_new hk (fun i hi x => by have := h.2.1; unfold Only at x; omega)⟩
theorem NewR.call_blk {W w : World} {p : Nat} {s s' : RS} {f : FuncId} {args : Array Value} {e0 : Ending} {g : Nat} {t : TypeId} {cs : Array Value} (h : NewR W w p s) (hb : Blk w g t cs) (ht : t ≠ 42)
    (hc : Rd w p s → Calls Try.prog f args w fun r w' => r = e0 ∧ Rd w' p s' ∧ Kept (Only p) w w') :
    Calls Try.prog f args w fun r w' => r = e0 ∧ NewR W w' p s' ∧ Blk w' g t cs :=
  (hc h.1).mono fun e w' ⟨he, hr, hk⟩ => ⟨he, ⟨hr, h.2.1, h.2.2.trans_new hk (fun i hi x => by have := h.2.1; unfold Only at x; omega)⟩, hb.kept hk (fun x => by
    obtain rfl : g = p := x
    obtain ⟨bs, inn, hb', _⟩ := h.1
    unfold Blk at hb hb'
    rw [hb] at hb'
    injection hb' with hb'
    injection hb' with _ h5
    exact ht h5)⟩
namespace Nd
theorem read_leaf {d : Nat} {s : RS} {x : Nd} (h : x.parts = [] ∨ d = 0) : Nd.read d s x = x.tells s := by
  cases d with
  | zero => rfl
  | succ d => unfold Nd.read; rw [if_pos (h.resolve_right (by omega))]
theorem rows_hit {f : RS → Nd → Bool × RS} {s : RS} {x : Nd} {l : List Nd} (h : (f s x).1 = true) : rows f s (x :: l) = rows f (f s x).2 l := by
  rw [rows, h]; simp
theorem rows_miss {f : RS → Nd → Bool × RS} {s : RS} {x : Nd} {l : List Nd} (h : (f s x).1 = false) : rows f s (x :: l) = (false, (f s x).2) := by
  unfold rows; rw [if_pos h]
theorem drop_take {l : List Nd} {k : Nat} (h : k < l.length) (h6 : k < 6) : (l.take 6).drop k = l.getD k Nd.none :: (l.take 6).drop (k + 1) := by
  rw [List.drop_eq_getElem_cons (by rw [List.length_take]; omega)]
  simp [List.getD_eq_getElem?_getD, List.getElem?_eq_getElem h]
end Nd
theorem RS.fits_es (s : RS) (n : Int) : (s.fits n).es = s.es := by unfold RS.fits RS.fail; split; split <;> rfl; rfl
theorem RS.pass_es (s : RS) (n : Int) : (s.pass n).es = s.es := by unfold RS.pass; split; rfl; exact s.fits_es n
theorem RS.opened_es (s : RS) (n : Int) : (s.opened n).es.length ≤ s.es.length + 1 := by unfold RS.opened; split; simp; rw [s.fits_es]; omega
theorem RS.close_es {s : RS} (he : s.e = 0) (hl : s.left = 0) : s.close.es.length ≤ s.es.length - 1 := by
  unfold RS.close RS.skip
  rw [if_neg (by rintro ⟨_, h⟩; omega)]
  split
  · next h => unfold RS.fail; rw [if_pos he]; simp [h]
  · simp only [List.length_tail]; omega
namespace Nd
theorem tells_0 {x : Nd} {s : RS} (h : x.wide % 3 = 0) : x.tells s = (decide (RS.num (s.got 1) = x.n % 256), s.pass 1) := by
  unfold Nd.tells Nd.value Nd.width; rw [if_pos h]; rfl
theorem tells_1 {x : Nd} {s : RS} (h : x.wide % 3 = 1) : x.tells s = (decide (RS.num (s.got 2) = x.n % 65536), s.pass 2) := by
  unfold Nd.tells Nd.value Nd.width; rw [if_neg (by omega), if_pos h]; rfl
theorem tells_2 {x : Nd} {s : RS} (h : x.wide % 3 = 2) (hn : x.n < 4294967296) : x.tells s = (decide (RS.num (s.got 4) = x.n), s.pass 4) := by
  unfold Nd.tells Nd.value Nd.width; rw [if_neg (by omega), if_neg (by omega), Nat.mod_eq_of_lt (by omega)]; rfl
theorem rows_es {f : RS → Nd → Bool × RS} (hf : ∀ s x, (f s x).1 = true → (f s x).2.es.length ≤ s.es.length) : ∀ (l : List Nd) (s : RS), (rows f s l).1 = true → (rows f s l).2.es.length ≤ s.es.length ∧ (rows f s l).2.e = 0
  | [], s, h => by
    unfold rows at h ⊢
    exact ⟨Nat.le_refl _, of_decide_eq_true h⟩
  | x :: l, s, h => by
    cases hx : (f s x).1 with
    | false => rw [rows_miss hx] at h; cases h
    | true =>
      rw [rows_hit hx] at h ⊢
      have h1 := hf s x hx
      have h2 := rows_es hf l _ h
      exact ⟨by omega, h2.2⟩
theorem read_es : ∀ (d : Nat) (s : RS) (x : Nd), (Nd.read d s x).1 = true → (Nd.read d s x).2.es.length ≤ s.es.length
  | 0, s, x, _ => by show (s.pass (x.width : Int)).es.length ≤ _; rw [RS.pass_es]; omega
  | d + 1, s, x, h => by
    unfold Nd.read at h ⊢
    by_cases hp : x.parts = []
    · rw [if_pos hp]; show (s.pass (x.width : Int)).es.length ≤ _; rw [RS.pass_es]; omega
    · rw [if_neg hp] at h ⊢
      by_cases hc : (rows (read d) ((s.pass (x.span : Int)).opened (RS.num (s.got (x.span : Int)) : Int)) (x.parts.take 6)).1 = false ∨ (rows (read d) ((s.pass (x.span : Int)).opened (RS.num (s.got (x.span : Int)) : Int)) (x.parts.take 6)).2.left ≠ 0
      · rw [if_pos hc] at h; cases h
      · rw [if_neg hc]
        have h1 : (rows (read d) ((s.pass (x.span : Int)).opened (RS.num (s.got (x.span : Int)) : Int)) (x.parts.take 6)).1 = true := by
          cases hb : (rows (read d) ((s.pass (x.span : Int)).opened (RS.num (s.got (x.span : Int)) : Int)) (x.parts.take 6)).1 with
          | true => rfl
          | false => exact absurd (.inl hb) hc
        have h2 := rows_es (read_es d) _ _ h1
        have h3 := RS.opened_es (s.pass (x.span : Int)) (RS.num (s.got (x.span : Int)) : Int)
        rw [RS.pass_es] at h3
        have h4 := RS.close_es h2.2 (by
          by_cases hl : (rows (read d) ((s.pass (x.span : Int)).opened (RS.num (s.got (x.span : Int)) : Int)) (x.parts.take 6)).2.left = 0
          · exact hl
          · exact absurd (.inr hl) hc)
        show _ ≤ _
        simp only
        omega
/-- A block that is read. -/
theorem read_block {d : Nat} {s : RS} {x : Nd} (h : x.parts ≠ []) {Y : Bool × RS} (hY : rows (read d) ((s.pass (x.span : Int)).opened (RS.num (s.got (x.span : Int)) : Int)) (x.parts.take 6) = Y) :
    Nd.read (d + 1) s x = if Y.1 = false ∨ Y.2.left ≠ 0 then (false, Y.2) else (true, Y.2.close) := by
  subst hY
  unfold Nd.read
  rw [if_neg h]
end Nd
/-- What reading nodes so deep does. -/
def Reads3 (W : World) (d : Nat) : Prop := ∀ (w : World) (v : Value) (p : Nat) (l : List Nd) (s : RS), Nds (d + 1) W v l → NewR W w p s → s.es.length + d ≤ 1000 →
  Calls Try.prog 12 #[.pointer (some ⟨p, 0, none⟩), v, .int .i64 (d : Int)] w fun e w' => e = .returned (.bool (Nd.rows (Nd.read d) s (l.take 6)).1) ∧ NewR W w' p (Nd.rows (Nd.read d) s (l.take 6)).2

set_option maxRecDepth 20000 in
set_option maxHeartbeats 8000000 in
theorem nd_read_step (W : World) (d : Nat) (hd : d ≤ 3) (rec : ∀ d', d = d' + 1 → Reads3 W d') : Reads3 W d := by
  intro w v p l s hn hw hb1
  have HN := Lib.hid hn
  have HREC := Lib.hid rec
  have H0 := Lib.hid hw
  obtain ⟨A, c, rfl, hm⟩ := hn.form
  unfold maxLen at hm
  have HS : Hid (Nd.rows (Nd.read d) s (l.take 6) = Nd.rows (Nd.read d) s ((l.take 6).drop 0)) := Lib.hid rfl
  generalize Nd.rows (Nd.read d) s (l.take 6) = R at *
  clear hn rec hw
  go_enter Try.func12, Try.ntmps12
  go_wp2
  go_loopw [12] (fun i wr => ∃ (k : Nat) (s' : RS), i = .int .i64 (k : Int) ∧ k ≤ l.length ∧ k ≤ 6 ∧ NewR W wr p s' ∧ Hid (R = Nd.rows (Nd.read d) s' ((l.take 6).drop k)) ∧ s'.es.length ≤ s.es.length) (fun i _ => l.length - (intOf i).toNat)
  case atStart => exact ⟨0, s, rfl, Nat.zero_le _, Nat.zero_le _, H0.out, HS, Nat.le_refl _⟩
  case round =>
    obtain ⟨k, s', rfl, hk, hk6, hnw, HR, hes⟩ := hrel
    have HNW := Lib.hid hnw
    clear hnw HS
    by_cases hlt : k < l.length
    · obtain ⟨_, b, o, rfl, hcell⟩ := HN.out.at (by omega)
      obtain ⟨pv, c0, c1, c2, hwi, hnn, hpv⟩ := hcell k hlt
      have kk : Kept Nothing W wr := HNW.out.2.2
      have e0 := kk.cell_some c0 (fun x => x)
      have e1 := kk.cell_some c1 (fun x => x)
      have e2 := kk.cell_some c2 (fun x => x)
      have HD := Lib.hid (fun h6 => Nd.drop_take hlt h6)
      generalize l.getD k Nd.none = x at *
      obtain ⟨A2, cc2, rfl, hm2⟩ := hpv.form
      have HPV := Lib.hid hpv
      clear hcell c0 c1 c2 hpv kk
      by_cases h6 : k = 6
      · subst h6
        have hR := HR.out
        rw [List.drop_eq_nil_of_le (by rw [List.length_take]; omega)] at hR
        have hR1 : R = (decide (s'.e = 0), s') := hR
        have HA := Lib.hid (HNW.out.old ((Kept.refl Nothing wr).alloc (.cells #[.int .u8 (x.wide : Int), .int .u32 (x.n : Int), .slice A2 x.parts.length cc2] 61)))
        subst hR1
        clear HR hR HD HPV
        go_wp2_with fail
        refine (rd_err p s' _ HA.out.1).mono ?_
        rintro e w2 ⟨rfl, rfl⟩
        go_wp2
        go_ret
        exact ⟨ret_bool rfl, HA.out⟩
      · have h6i : ((k : Int) == 6) = false := by simp; omega
        have hR := HR.out
        rw [HD.out (by omega)] at hR
        have HR2 := Lib.hid hR
        have HA := Lib.hid (HNW.out.old ((Kept.refl Nothing wr).alloc (.cells #[.int .u8 (x.wide : Int), .int .u32 (x.n : Int), .slice A2 x.parts.length cc2] 61)))
        have HB := Lib.hid (Blk.fresh wr 61 #[.int .u8 (x.wide : Int), .int .u32 (x.n : Int), .slice A2 x.parts.length cc2])
        clear HR hR HD
        by_cases hleaf : x.parts = [] ∨ d = 0
        · have HLF := Lib.hid (Nd.read_leaf (s := s') hleaf)
          clear HPV HREC
          rcases hleaf with hA | hB
          · have hpl : ¬ ((0 : Int) < (x.parts.length : Int)) := by rw [hA]; simp
            have h3 : x.wide % 3 = 0 ∨ x.wide % 3 = 1 ∨ x.wide % 3 = 2 := by omega
            clear hA
            generalize x.parts.length = np at *
            rcases h3 with h3 | h3 | h3
            · have hw0 : ((x.wide : Int) % 3 == 0) = true := by simp; omega
              have HT := Lib.hid (HLF.out.trans (Nd.tells_0 h3))
              have HES := Lib.hid (RS.pass_es s' 1)
              have HM := Lib.hid (fun (h : ¬ RS.num (s'.got 1) = x.n % 256) => HR2.out.trans ((Nd.rows_miss (by rw [HT.out]; exact decide_eq_false h)).trans (by rw [HT.out])))
              have HH := Lib.hid (fun (h : RS.num (s'.got 1) = x.n % 256) => HR2.out.trans ((Nd.rows_hit (by rw [HT.out]; exact decide_eq_true h)).trans (by rw [HT.out])))
              have HRD : Hid (∀ w1, NewR W w1 p s' → ∀ cs, Blk w1 wr.heap.size 61 cs → Calls Try.prog 25 #[.pointer (some ⟨p, 0, none⟩)] w1 fun e w' => e = .returned (.int .u8 (RS.num (s'.got 1) : Int)) ∧ NewR W w' p (s'.pass 1) ∧ Blk w' wr.heap.size 61 cs) := Lib.hid (fun w1 ha cs hb => ha.call_blk hb (by decide) (fun h => rd_byte p s' _ h))
              clear HLF HT HR2
              generalize RS.num (s'.got 1) = y at *
              generalize s'.pass 1 = s2 at *
              by_cases hy : y = x.n % 256
              · have hne : ((y : Int) != IntKind.u8.wrap (x.n : Int)) = false := by rw [wrapU8]; simp; omega
                have HRR := Lib.hid (HH.out hy)
                clear HM HH hy
                go_wp2_with fail
                generalize wr.alloc (.cells #[.int .u8 (x.wide : Int), .int .u32 (x.n : Int), .slice A2 np cc2] 61) = w1 at *
                generalize wr.heap.size = g at *
                have HC := Lib.hid (HRD.out _ (HA.out.old (Kept.refl Nothing w1).drew) _ HB.out.drew)
                have hs0 : w1.drew.cell? ⟨g, 1, none⟩ = some (.int .u32 (x.n : Int)) := (blk3 HB.out.drew).2.1
                go_region_held3 (fun w' => w'.cell? ⟨g, 1, none⟩ = some (.int .u32 (x.n : Int))) (first | exact hs0 | exact hs2) (first
                  | (go_at_call 25; refine (HC.out).mono ?_; rintro e w2 ⟨rfl, hr2, hb2⟩; (have hs2 := (blk3 hb2).2.1); (have R2 := Lib.hid hr2); clear hr2 hb2))
                go_wp2
                go_roundw
                case rel => exact ⟨k + 1, s2, by go_num, by omega, by omega, R2.out, HRR, by rw [HES.out]; exact hes⟩
                case measure => simp [intOf]; omega
              · have hne : ((y : Int) != IntKind.u8.wrap (x.n : Int)) = true := by rw [wrapU8]; simp; omega
                have HRR := Lib.hid (HM.out hy)
                clear HM HH hy
                go_wp2_with fail
                generalize wr.alloc (.cells #[.int .u8 (x.wide : Int), .int .u32 (x.n : Int), .slice A2 np cc2] 61) = w1 at *
                generalize wr.heap.size = g at *
                have HC := Lib.hid (HRD.out _ (HA.out.old (Kept.refl Nothing w1).drew) _ HB.out.drew)
                have hs0 : w1.drew.cell? ⟨g, 1, none⟩ = some (.int .u32 (x.n : Int)) := (blk3 HB.out.drew).2.1
                go_region_held3 (fun w' => w'.cell? ⟨g, 1, none⟩ = some (.int .u32 (x.n : Int))) (first | exact hs0 | exact hs2) (first
                  | (go_at_call 25; refine (HC.out).mono ?_; rintro e w2 ⟨rfl, hr2, hb2⟩; (have hs2 := (blk3 hb2).2.1); (have R2 := Lib.hid hr2); clear hr2 hb2))
                go_wp2
                have hRR := HRR.out
                subst hRR
                go_ret
                exact ⟨rfl, R2.out⟩
            · have hw0 : ((x.wide : Int) % 3 == 0) = false := by simp; omega
              have hw1 : ((x.wide : Int) % 3 == 1) = true := by simp; omega
              have HT := Lib.hid (HLF.out.trans (Nd.tells_1 h3))
              have HES := Lib.hid (RS.pass_es s' 2)
              have HM := Lib.hid (fun (h : ¬ RS.num (s'.got 2) = x.n % 65536) => HR2.out.trans ((Nd.rows_miss (by rw [HT.out]; exact decide_eq_false h)).trans (by rw [HT.out])))
              have HH := Lib.hid (fun (h : RS.num (s'.got 2) = x.n % 65536) => HR2.out.trans ((Nd.rows_hit (by rw [HT.out]; exact decide_eq_true h)).trans (by rw [HT.out])))
              have HRD : Hid (∀ w1, NewR W w1 p s' → ∀ cs, Blk w1 wr.heap.size 61 cs → Calls Try.prog 38 #[.pointer (some ⟨p, 0, none⟩)] w1 fun e w' => e = .returned (.int .u16 (RS.num (s'.got 2) : Int)) ∧ NewR W w' p (s'.pass 2) ∧ Blk w' wr.heap.size 61 cs) := Lib.hid (fun w1 ha cs hb => ha.call_blk hb (by decide) (fun h => rd_two p s' _ h))
              clear HLF HT HR2
              generalize RS.num (s'.got 2) = y at *
              generalize s'.pass 2 = s2 at *
              by_cases hy : y = x.n % 65536
              · have hne : ((y : Int) != IntKind.u16.wrap (x.n : Int)) = false := by rw [wrapU16]; simp; omega
                have HRR := Lib.hid (HH.out hy)
                clear HM HH hy
                go_wp2_with fail
                generalize wr.alloc (.cells #[.int .u8 (x.wide : Int), .int .u32 (x.n : Int), .slice A2 np cc2] 61) = w1 at *
                generalize wr.heap.size = g at *
                have HC := Lib.hid (HRD.out _ (HA.out.old (Kept.refl Nothing w1).drew) _ HB.out.drew)
                have hs0 : w1.drew.cell? ⟨g, 1, none⟩ = some (.int .u32 (x.n : Int)) := (blk3 HB.out.drew).2.1
                go_region_held3 (fun w' => w'.cell? ⟨g, 1, none⟩ = some (.int .u32 (x.n : Int))) (first | exact hs0 | exact hs2) (first
                  | (go_at_call 38; refine (HC.out).mono ?_; rintro e w2 ⟨rfl, hr2, hb2⟩; (have hs2 := (blk3 hb2).2.1); (have R2 := Lib.hid hr2); clear hr2 hb2))
                go_wp2
                go_roundw
                case rel => exact ⟨k + 1, s2, by go_num, by omega, by omega, R2.out, HRR, by rw [HES.out]; exact hes⟩
                case measure => simp [intOf]; omega
              · have hne : ((y : Int) != IntKind.u16.wrap (x.n : Int)) = true := by rw [wrapU16]; simp; omega
                have HRR := Lib.hid (HM.out hy)
                clear HM HH hy
                go_wp2_with fail
                generalize wr.alloc (.cells #[.int .u8 (x.wide : Int), .int .u32 (x.n : Int), .slice A2 np cc2] 61) = w1 at *
                generalize wr.heap.size = g at *
                have HC := Lib.hid (HRD.out _ (HA.out.old (Kept.refl Nothing w1).drew) _ HB.out.drew)
                have hs0 : w1.drew.cell? ⟨g, 1, none⟩ = some (.int .u32 (x.n : Int)) := (blk3 HB.out.drew).2.1
                go_region_held3 (fun w' => w'.cell? ⟨g, 1, none⟩ = some (.int .u32 (x.n : Int))) (first | exact hs0 | exact hs2) (first
                  | (go_at_call 38; refine (HC.out).mono ?_; rintro e w2 ⟨rfl, hr2, hb2⟩; (have hs2 := (blk3 hb2).2.1); (have R2 := Lib.hid hr2); clear hr2 hb2))
                go_wp2
                have hRR := HRR.out
                subst hRR
                go_ret
                exact ⟨rfl, R2.out⟩
            · have hw0 : ((x.wide : Int) % 3 == 0) = false := by simp; omega
              have hw1 : ((x.wide : Int) % 3 == 1) = false := by simp; omega
              have HT := Lib.hid (HLF.out.trans (Nd.tells_2 h3 hnn))
              have HES := Lib.hid (RS.pass_es s' 4)
              have HM := Lib.hid (fun (h : ¬ RS.num (s'.got 4) = x.n) => HR2.out.trans ((Nd.rows_miss (by rw [HT.out]; exact decide_eq_false h)).trans (by rw [HT.out])))
              have HH := Lib.hid (fun (h : RS.num (s'.got 4) = x.n) => HR2.out.trans ((Nd.rows_hit (by rw [HT.out]; exact decide_eq_true h)).trans (by rw [HT.out])))
              have HRD : Hid (∀ w1, NewR W w1 p s' → ∀ cs, Blk w1 wr.heap.size 61 cs → Calls Try.prog 26 #[.pointer (some ⟨p, 0, none⟩)] w1 fun e w' => e = .returned (.int .u32 (RS.num (s'.got 4) : Int)) ∧ NewR W w' p (s'.pass 4) ∧ Blk w' wr.heap.size 61 cs) := Lib.hid (fun w1 ha cs hb => ha.call_blk hb (by decide) (fun h => rd_four p s' _ h))
              clear HLF HT HR2
              generalize RS.num (s'.got 4) = y at *
              generalize s'.pass 4 = s2 at *
              by_cases hy : y = x.n
              · have hne : ((y : Int) != (x.n : Int)) = false := by simp; omega
                have HRR := Lib.hid (HH.out hy)
                clear HM HH hy
                go_wp2_with fail
                generalize wr.alloc (.cells #[.int .u8 (x.wide : Int), .int .u32 (x.n : Int), .slice A2 np cc2] 61) = w1 at *
                generalize wr.heap.size = g at *
                have HC := Lib.hid (HRD.out _ (HA.out.old (Kept.refl Nothing w1).drew) _ HB.out.drew)
                have hs0 : w1.drew.cell? ⟨g, 1, none⟩ = some (.int .u32 (x.n : Int)) := (blk3 HB.out.drew).2.1
                go_region_held3 (fun w' => w'.cell? ⟨g, 1, none⟩ = some (.int .u32 (x.n : Int))) (first | exact hs0 | exact hs2) (first
                  | (go_at_call 26; refine (HC.out).mono ?_; rintro e w2 ⟨rfl, hr2, hb2⟩; (have hs2 := (blk3 hb2).2.1); (have R2 := Lib.hid hr2); clear hr2 hb2))
                go_wp2
                go_roundw
                case rel => exact ⟨k + 1, s2, by go_num, by omega, by omega, R2.out, HRR, by rw [HES.out]; exact hes⟩
                case measure => simp [intOf]; omega
              · have hne : ((y : Int) != (x.n : Int)) = true := by simp; omega
                have HRR := Lib.hid (HM.out hy)
                clear HM HH hy
                go_wp2_with fail
                generalize wr.alloc (.cells #[.int .u8 (x.wide : Int), .int .u32 (x.n : Int), .slice A2 np cc2] 61) = w1 at *
                generalize wr.heap.size = g at *
                have HC := Lib.hid (HRD.out _ (HA.out.old (Kept.refl Nothing w1).drew) _ HB.out.drew)
                have hs0 : w1.drew.cell? ⟨g, 1, none⟩ = some (.int .u32 (x.n : Int)) := (blk3 HB.out.drew).2.1
                go_region_held3 (fun w' => w'.cell? ⟨g, 1, none⟩ = some (.int .u32 (x.n : Int))) (first | exact hs0 | exact hs2) (first
                  | (go_at_call 26; refine (HC.out).mono ?_; rintro e w2 ⟨rfl, hr2, hb2⟩; (have hs2 := (blk3 hb2).2.1); (have R2 := Lib.hid hr2); clear hr2 hb2))
                go_wp2
                have hRR := HRR.out
                subst hRR
                go_ret
                exact ⟨rfl, R2.out⟩
          · have hdp : ¬ ((0 : Int) < (d : Int)) := by omega
            clear hB
            have h3 : x.wide % 3 = 0 ∨ x.wide % 3 = 1 ∨ x.wide % 3 = 2 := by omega
            generalize x.parts.length = np at *
            by_cases hpl : (0 : Int) < (np : Int)
            · rcases h3 with h3 | h3 | h3
              · have hw0 : ((x.wide : Int) % 3 == 0) = true := by simp; omega
                have HT := Lib.hid (HLF.out.trans (Nd.tells_0 h3))
                have HES := Lib.hid (RS.pass_es s' 1)
                have HM := Lib.hid (fun (h : ¬ RS.num (s'.got 1) = x.n % 256) => HR2.out.trans ((Nd.rows_miss (by rw [HT.out]; exact decide_eq_false h)).trans (by rw [HT.out])))
                have HH := Lib.hid (fun (h : RS.num (s'.got 1) = x.n % 256) => HR2.out.trans ((Nd.rows_hit (by rw [HT.out]; exact decide_eq_true h)).trans (by rw [HT.out])))
                have HRD : Hid (∀ w1, NewR W w1 p s' → ∀ cs, Blk w1 wr.heap.size 61 cs → Calls Try.prog 25 #[.pointer (some ⟨p, 0, none⟩)] w1 fun e w' => e = .returned (.int .u8 (RS.num (s'.got 1) : Int)) ∧ NewR W w' p (s'.pass 1) ∧ Blk w' wr.heap.size 61 cs) := Lib.hid (fun w1 ha cs hb => ha.call_blk hb (by decide) (fun h => rd_byte p s' _ h))
                clear HLF HT HR2
                generalize RS.num (s'.got 1) = y at *
                generalize s'.pass 1 = s2 at *
                by_cases hy : y = x.n % 256
                · have hne : ((y : Int) != IntKind.u8.wrap (x.n : Int)) = false := by rw [wrapU8]; simp; omega
                  have HRR := Lib.hid (HH.out hy)
                  clear HM HH hy
                  go_wp2_with fail
                  generalize wr.alloc (.cells #[.int .u8 (x.wide : Int), .int .u32 (x.n : Int), .slice A2 np cc2] 61) = w1 at *
                  generalize wr.heap.size = g at *
                  have HC := Lib.hid (HRD.out _ (HA.out.old (Kept.refl Nothing w1).drew) _ HB.out.drew)
                  have hs0 : w1.drew.cell? ⟨g, 1, none⟩ = some (.int .u32 (x.n : Int)) := (blk3 HB.out.drew).2.1
                  go_region_held3 (fun w' => w'.cell? ⟨g, 1, none⟩ = some (.int .u32 (x.n : Int))) (first | exact hs0 | exact hs2) (first
                    | (go_at_call 25; refine (HC.out).mono ?_; rintro e w2 ⟨rfl, hr2, hb2⟩; (have hs2 := (blk3 hb2).2.1); (have R2 := Lib.hid hr2); clear hr2 hb2))
                  go_wp2
                  go_roundw
                  case rel => exact ⟨k + 1, s2, by go_num, by omega, by omega, R2.out, HRR, by rw [HES.out]; exact hes⟩
                  case measure => simp [intOf]; omega
                · have hne : ((y : Int) != IntKind.u8.wrap (x.n : Int)) = true := by rw [wrapU8]; simp; omega
                  have HRR := Lib.hid (HM.out hy)
                  clear HM HH hy
                  go_wp2_with fail
                  generalize wr.alloc (.cells #[.int .u8 (x.wide : Int), .int .u32 (x.n : Int), .slice A2 np cc2] 61) = w1 at *
                  generalize wr.heap.size = g at *
                  have HC := Lib.hid (HRD.out _ (HA.out.old (Kept.refl Nothing w1).drew) _ HB.out.drew)
                  have hs0 : w1.drew.cell? ⟨g, 1, none⟩ = some (.int .u32 (x.n : Int)) := (blk3 HB.out.drew).2.1
                  go_region_held3 (fun w' => w'.cell? ⟨g, 1, none⟩ = some (.int .u32 (x.n : Int))) (first | exact hs0 | exact hs2) (first
                    | (go_at_call 25; refine (HC.out).mono ?_; rintro e w2 ⟨rfl, hr2, hb2⟩; (have hs2 := (blk3 hb2).2.1); (have R2 := Lib.hid hr2); clear hr2 hb2))
                  go_wp2
                  have hRR := HRR.out
                  subst hRR
                  go_ret
                  exact ⟨rfl, R2.out⟩
              · have hw0 : ((x.wide : Int) % 3 == 0) = false := by simp; omega
                have hw1 : ((x.wide : Int) % 3 == 1) = true := by simp; omega
                have HT := Lib.hid (HLF.out.trans (Nd.tells_1 h3))
                have HES := Lib.hid (RS.pass_es s' 2)
                have HM := Lib.hid (fun (h : ¬ RS.num (s'.got 2) = x.n % 65536) => HR2.out.trans ((Nd.rows_miss (by rw [HT.out]; exact decide_eq_false h)).trans (by rw [HT.out])))
                have HH := Lib.hid (fun (h : RS.num (s'.got 2) = x.n % 65536) => HR2.out.trans ((Nd.rows_hit (by rw [HT.out]; exact decide_eq_true h)).trans (by rw [HT.out])))
                have HRD : Hid (∀ w1, NewR W w1 p s' → ∀ cs, Blk w1 wr.heap.size 61 cs → Calls Try.prog 38 #[.pointer (some ⟨p, 0, none⟩)] w1 fun e w' => e = .returned (.int .u16 (RS.num (s'.got 2) : Int)) ∧ NewR W w' p (s'.pass 2) ∧ Blk w' wr.heap.size 61 cs) := Lib.hid (fun w1 ha cs hb => ha.call_blk hb (by decide) (fun h => rd_two p s' _ h))
                clear HLF HT HR2
                generalize RS.num (s'.got 2) = y at *
                generalize s'.pass 2 = s2 at *
                by_cases hy : y = x.n % 65536
                · have hne : ((y : Int) != IntKind.u16.wrap (x.n : Int)) = false := by rw [wrapU16]; simp; omega
                  have HRR := Lib.hid (HH.out hy)
                  clear HM HH hy
                  go_wp2_with fail
                  generalize wr.alloc (.cells #[.int .u8 (x.wide : Int), .int .u32 (x.n : Int), .slice A2 np cc2] 61) = w1 at *
                  generalize wr.heap.size = g at *
                  have HC := Lib.hid (HRD.out _ (HA.out.old (Kept.refl Nothing w1).drew) _ HB.out.drew)
                  have hs0 : w1.drew.cell? ⟨g, 1, none⟩ = some (.int .u32 (x.n : Int)) := (blk3 HB.out.drew).2.1
                  go_region_held3 (fun w' => w'.cell? ⟨g, 1, none⟩ = some (.int .u32 (x.n : Int))) (first | exact hs0 | exact hs2) (first
                    | (go_at_call 38; refine (HC.out).mono ?_; rintro e w2 ⟨rfl, hr2, hb2⟩; (have hs2 := (blk3 hb2).2.1); (have R2 := Lib.hid hr2); clear hr2 hb2))
                  go_wp2
                  go_roundw
                  case rel => exact ⟨k + 1, s2, by go_num, by omega, by omega, R2.out, HRR, by rw [HES.out]; exact hes⟩
                  case measure => simp [intOf]; omega
                · have hne : ((y : Int) != IntKind.u16.wrap (x.n : Int)) = true := by rw [wrapU16]; simp; omega
                  have HRR := Lib.hid (HM.out hy)
                  clear HM HH hy
                  go_wp2_with fail
                  generalize wr.alloc (.cells #[.int .u8 (x.wide : Int), .int .u32 (x.n : Int), .slice A2 np cc2] 61) = w1 at *
                  generalize wr.heap.size = g at *
                  have HC := Lib.hid (HRD.out _ (HA.out.old (Kept.refl Nothing w1).drew) _ HB.out.drew)
                  have hs0 : w1.drew.cell? ⟨g, 1, none⟩ = some (.int .u32 (x.n : Int)) := (blk3 HB.out.drew).2.1
                  go_region_held3 (fun w' => w'.cell? ⟨g, 1, none⟩ = some (.int .u32 (x.n : Int))) (first | exact hs0 | exact hs2) (first
                    | (go_at_call 38; refine (HC.out).mono ?_; rintro e w2 ⟨rfl, hr2, hb2⟩; (have hs2 := (blk3 hb2).2.1); (have R2 := Lib.hid hr2); clear hr2 hb2))
                  go_wp2
                  have hRR := HRR.out
                  subst hRR
                  go_ret
                  exact ⟨rfl, R2.out⟩
              · have hw0 : ((x.wide : Int) % 3 == 0) = false := by simp; omega
                have hw1 : ((x.wide : Int) % 3 == 1) = false := by simp; omega
                have HT := Lib.hid (HLF.out.trans (Nd.tells_2 h3 hnn))
                have HES := Lib.hid (RS.pass_es s' 4)
                have HM := Lib.hid (fun (h : ¬ RS.num (s'.got 4) = x.n) => HR2.out.trans ((Nd.rows_miss (by rw [HT.out]; exact decide_eq_false h)).trans (by rw [HT.out])))
                have HH := Lib.hid (fun (h : RS.num (s'.got 4) = x.n) => HR2.out.trans ((Nd.rows_hit (by rw [HT.out]; exact decide_eq_true h)).trans (by rw [HT.out])))
                have HRD : Hid (∀ w1, NewR W w1 p s' → ∀ cs, Blk w1 wr.heap.size 61 cs → Calls Try.prog 26 #[.pointer (some ⟨p, 0, none⟩)] w1 fun e w' => e = .returned (.int .u32 (RS.num (s'.got 4) : Int)) ∧ NewR W w' p (s'.pass 4) ∧ Blk w' wr.heap.size 61 cs) := Lib.hid (fun w1 ha cs hb => ha.call_blk hb (by decide) (fun h => rd_four p s' _ h))
                clear HLF HT HR2
                generalize RS.num (s'.got 4) = y at *
                generalize s'.pass 4 = s2 at *
                by_cases hy : y = x.n
                · have hne : ((y : Int) != (x.n : Int)) = false := by simp; omega
                  have HRR := Lib.hid (HH.out hy)
                  clear HM HH hy
                  go_wp2_with fail
                  generalize wr.alloc (.cells #[.int .u8 (x.wide : Int), .int .u32 (x.n : Int), .slice A2 np cc2] 61) = w1 at *
                  generalize wr.heap.size = g at *
                  have HC := Lib.hid (HRD.out _ (HA.out.old (Kept.refl Nothing w1).drew) _ HB.out.drew)
                  have hs0 : w1.drew.cell? ⟨g, 1, none⟩ = some (.int .u32 (x.n : Int)) := (blk3 HB.out.drew).2.1
                  go_region_held3 (fun w' => w'.cell? ⟨g, 1, none⟩ = some (.int .u32 (x.n : Int))) (first | exact hs0 | exact hs2) (first
                    | (go_at_call 26; refine (HC.out).mono ?_; rintro e w2 ⟨rfl, hr2, hb2⟩; (have hs2 := (blk3 hb2).2.1); (have R2 := Lib.hid hr2); clear hr2 hb2))
                  go_wp2
                  go_roundw
                  case rel => exact ⟨k + 1, s2, by go_num, by omega, by omega, R2.out, HRR, by rw [HES.out]; exact hes⟩
                  case measure => simp [intOf]; omega
                · have hne : ((y : Int) != (x.n : Int)) = true := by simp; omega
                  have HRR := Lib.hid (HM.out hy)
                  clear HM HH hy
                  go_wp2_with fail
                  generalize wr.alloc (.cells #[.int .u8 (x.wide : Int), .int .u32 (x.n : Int), .slice A2 np cc2] 61) = w1 at *
                  generalize wr.heap.size = g at *
                  have HC := Lib.hid (HRD.out _ (HA.out.old (Kept.refl Nothing w1).drew) _ HB.out.drew)
                  have hs0 : w1.drew.cell? ⟨g, 1, none⟩ = some (.int .u32 (x.n : Int)) := (blk3 HB.out.drew).2.1
                  go_region_held3 (fun w' => w'.cell? ⟨g, 1, none⟩ = some (.int .u32 (x.n : Int))) (first | exact hs0 | exact hs2) (first
                    | (go_at_call 26; refine (HC.out).mono ?_; rintro e w2 ⟨rfl, hr2, hb2⟩; (have hs2 := (blk3 hb2).2.1); (have R2 := Lib.hid hr2); clear hr2 hb2))
                  go_wp2
                  have hRR := HRR.out
                  subst hRR
                  go_ret
                  exact ⟨rfl, R2.out⟩
            · rcases h3 with h3 | h3 | h3
              · have hw0 : ((x.wide : Int) % 3 == 0) = true := by simp; omega
                have HT := Lib.hid (HLF.out.trans (Nd.tells_0 h3))
                have HES := Lib.hid (RS.pass_es s' 1)
                have HM := Lib.hid (fun (h : ¬ RS.num (s'.got 1) = x.n % 256) => HR2.out.trans ((Nd.rows_miss (by rw [HT.out]; exact decide_eq_false h)).trans (by rw [HT.out])))
                have HH := Lib.hid (fun (h : RS.num (s'.got 1) = x.n % 256) => HR2.out.trans ((Nd.rows_hit (by rw [HT.out]; exact decide_eq_true h)).trans (by rw [HT.out])))
                have HRD : Hid (∀ w1, NewR W w1 p s' → ∀ cs, Blk w1 wr.heap.size 61 cs → Calls Try.prog 25 #[.pointer (some ⟨p, 0, none⟩)] w1 fun e w' => e = .returned (.int .u8 (RS.num (s'.got 1) : Int)) ∧ NewR W w' p (s'.pass 1) ∧ Blk w' wr.heap.size 61 cs) := Lib.hid (fun w1 ha cs hb => ha.call_blk hb (by decide) (fun h => rd_byte p s' _ h))
                clear HLF HT HR2
                generalize RS.num (s'.got 1) = y at *
                generalize s'.pass 1 = s2 at *
                by_cases hy : y = x.n % 256
                · have hne : ((y : Int) != IntKind.u8.wrap (x.n : Int)) = false := by rw [wrapU8]; simp; omega
                  have HRR := Lib.hid (HH.out hy)
                  clear HM HH hy
                  go_wp2_with fail
                  generalize wr.alloc (.cells #[.int .u8 (x.wide : Int), .int .u32 (x.n : Int), .slice A2 np cc2] 61) = w1 at *
                  generalize wr.heap.size = g at *
                  have HC := Lib.hid (HRD.out _ (HA.out.old (Kept.refl Nothing w1).drew) _ HB.out.drew)
                  have hs0 : w1.drew.cell? ⟨g, 1, none⟩ = some (.int .u32 (x.n : Int)) := (blk3 HB.out.drew).2.1
                  go_region_held3 (fun w' => w'.cell? ⟨g, 1, none⟩ = some (.int .u32 (x.n : Int))) (first | exact hs0 | exact hs2) (first
                    | (go_at_call 25; refine (HC.out).mono ?_; rintro e w2 ⟨rfl, hr2, hb2⟩; (have hs2 := (blk3 hb2).2.1); (have R2 := Lib.hid hr2); clear hr2 hb2))
                  go_wp2
                  go_roundw
                  case rel => exact ⟨k + 1, s2, by go_num, by omega, by omega, R2.out, HRR, by rw [HES.out]; exact hes⟩
                  case measure => simp [intOf]; omega
                · have hne : ((y : Int) != IntKind.u8.wrap (x.n : Int)) = true := by rw [wrapU8]; simp; omega
                  have HRR := Lib.hid (HM.out hy)
                  clear HM HH hy
                  go_wp2_with fail
                  generalize wr.alloc (.cells #[.int .u8 (x.wide : Int), .int .u32 (x.n : Int), .slice A2 np cc2] 61) = w1 at *
                  generalize wr.heap.size = g at *
                  have HC := Lib.hid (HRD.out _ (HA.out.old (Kept.refl Nothing w1).drew) _ HB.out.drew)
                  have hs0 : w1.drew.cell? ⟨g, 1, none⟩ = some (.int .u32 (x.n : Int)) := (blk3 HB.out.drew).2.1
                  go_region_held3 (fun w' => w'.cell? ⟨g, 1, none⟩ = some (.int .u32 (x.n : Int))) (first | exact hs0 | exact hs2) (first
                    | (go_at_call 25; refine (HC.out).mono ?_; rintro e w2 ⟨rfl, hr2, hb2⟩; (have hs2 := (blk3 hb2).2.1); (have R2 := Lib.hid hr2); clear hr2 hb2))
                  go_wp2
                  have hRR := HRR.out
                  subst hRR
                  go_ret
                  exact ⟨rfl, R2.out⟩
              · have hw0 : ((x.wide : Int) % 3 == 0) = false := by simp; omega
                have hw1 : ((x.wide : Int) % 3 == 1) = true := by simp; omega
                have HT := Lib.hid (HLF.out.trans (Nd.tells_1 h3))
                have HES := Lib.hid (RS.pass_es s' 2)
                have HM := Lib.hid (fun (h : ¬ RS.num (s'.got 2) = x.n % 65536) => HR2.out.trans ((Nd.rows_miss (by rw [HT.out]; exact decide_eq_false h)).trans (by rw [HT.out])))
                have HH := Lib.hid (fun (h : RS.num (s'.got 2) = x.n % 65536) => HR2.out.trans ((Nd.rows_hit (by rw [HT.out]; exact decide_eq_true h)).trans (by rw [HT.out])))
                have HRD : Hid (∀ w1, NewR W w1 p s' → ∀ cs, Blk w1 wr.heap.size 61 cs → Calls Try.prog 38 #[.pointer (some ⟨p, 0, none⟩)] w1 fun e w' => e = .returned (.int .u16 (RS.num (s'.got 2) : Int)) ∧ NewR W w' p (s'.pass 2) ∧ Blk w' wr.heap.size 61 cs) := Lib.hid (fun w1 ha cs hb => ha.call_blk hb (by decide) (fun h => rd_two p s' _ h))
                clear HLF HT HR2
                generalize RS.num (s'.got 2) = y at *
                generalize s'.pass 2 = s2 at *
                by_cases hy : y = x.n % 65536
                · have hne : ((y : Int) != IntKind.u16.wrap (x.n : Int)) = false := by rw [wrapU16]; simp; omega
                  have HRR := Lib.hid (HH.out hy)
                  clear HM HH hy
                  go_wp2_with fail
                  generalize wr.alloc (.cells #[.int .u8 (x.wide : Int), .int .u32 (x.n : Int), .slice A2 np cc2] 61) = w1 at *
                  generalize wr.heap.size = g at *
                  have HC := Lib.hid (HRD.out _ (HA.out.old (Kept.refl Nothing w1).drew) _ HB.out.drew)
                  have hs0 : w1.drew.cell? ⟨g, 1, none⟩ = some (.int .u32 (x.n : Int)) := (blk3 HB.out.drew).2.1
                  go_region_held3 (fun w' => w'.cell? ⟨g, 1, none⟩ = some (.int .u32 (x.n : Int))) (first | exact hs0 | exact hs2) (first
                    | (go_at_call 38; refine (HC.out).mono ?_; rintro e w2 ⟨rfl, hr2, hb2⟩; (have hs2 := (blk3 hb2).2.1); (have R2 := Lib.hid hr2); clear hr2 hb2))
                  go_wp2
                  go_roundw
                  case rel => exact ⟨k + 1, s2, by go_num, by omega, by omega, R2.out, HRR, by rw [HES.out]; exact hes⟩
                  case measure => simp [intOf]; omega
                · have hne : ((y : Int) != IntKind.u16.wrap (x.n : Int)) = true := by rw [wrapU16]; simp; omega
                  have HRR := Lib.hid (HM.out hy)
                  clear HM HH hy
                  go_wp2_with fail
                  generalize wr.alloc (.cells #[.int .u8 (x.wide : Int), .int .u32 (x.n : Int), .slice A2 np cc2] 61) = w1 at *
                  generalize wr.heap.size = g at *
                  have HC := Lib.hid (HRD.out _ (HA.out.old (Kept.refl Nothing w1).drew) _ HB.out.drew)
                  have hs0 : w1.drew.cell? ⟨g, 1, none⟩ = some (.int .u32 (x.n : Int)) := (blk3 HB.out.drew).2.1
                  go_region_held3 (fun w' => w'.cell? ⟨g, 1, none⟩ = some (.int .u32 (x.n : Int))) (first | exact hs0 | exact hs2) (first
                    | (go_at_call 38; refine (HC.out).mono ?_; rintro e w2 ⟨rfl, hr2, hb2⟩; (have hs2 := (blk3 hb2).2.1); (have R2 := Lib.hid hr2); clear hr2 hb2))
                  go_wp2
                  have hRR := HRR.out
                  subst hRR
                  go_ret
                  exact ⟨rfl, R2.out⟩
              · have hw0 : ((x.wide : Int) % 3 == 0) = false := by simp; omega
                have hw1 : ((x.wide : Int) % 3 == 1) = false := by simp; omega
                have HT := Lib.hid (HLF.out.trans (Nd.tells_2 h3 hnn))
                have HES := Lib.hid (RS.pass_es s' 4)
                have HM := Lib.hid (fun (h : ¬ RS.num (s'.got 4) = x.n) => HR2.out.trans ((Nd.rows_miss (by rw [HT.out]; exact decide_eq_false h)).trans (by rw [HT.out])))
                have HH := Lib.hid (fun (h : RS.num (s'.got 4) = x.n) => HR2.out.trans ((Nd.rows_hit (by rw [HT.out]; exact decide_eq_true h)).trans (by rw [HT.out])))
                have HRD : Hid (∀ w1, NewR W w1 p s' → ∀ cs, Blk w1 wr.heap.size 61 cs → Calls Try.prog 26 #[.pointer (some ⟨p, 0, none⟩)] w1 fun e w' => e = .returned (.int .u32 (RS.num (s'.got 4) : Int)) ∧ NewR W w' p (s'.pass 4) ∧ Blk w' wr.heap.size 61 cs) := Lib.hid (fun w1 ha cs hb => ha.call_blk hb (by decide) (fun h => rd_four p s' _ h))
                clear HLF HT HR2
                generalize RS.num (s'.got 4) = y at *
                generalize s'.pass 4 = s2 at *
                by_cases hy : y = x.n
                · have hne : ((y : Int) != (x.n : Int)) = false := by simp; omega
                  have HRR := Lib.hid (HH.out hy)
                  clear HM HH hy
                  go_wp2_with fail
                  generalize wr.alloc (.cells #[.int .u8 (x.wide : Int), .int .u32 (x.n : Int), .slice A2 np cc2] 61) = w1 at *
                  generalize wr.heap.size = g at *
                  have HC := Lib.hid (HRD.out _ (HA.out.old (Kept.refl Nothing w1).drew) _ HB.out.drew)
                  have hs0 : w1.drew.cell? ⟨g, 1, none⟩ = some (.int .u32 (x.n : Int)) := (blk3 HB.out.drew).2.1
                  go_region_held3 (fun w' => w'.cell? ⟨g, 1, none⟩ = some (.int .u32 (x.n : Int))) (first | exact hs0 | exact hs2) (first
                    | (go_at_call 26; refine (HC.out).mono ?_; rintro e w2 ⟨rfl, hr2, hb2⟩; (have hs2 := (blk3 hb2).2.1); (have R2 := Lib.hid hr2); clear hr2 hb2))
                  go_wp2
                  go_roundw
                  case rel => exact ⟨k + 1, s2, by go_num, by omega, by omega, R2.out, HRR, by rw [HES.out]; exact hes⟩
                  case measure => simp [intOf]; omega
                · have hne : ((y : Int) != (x.n : Int)) = true := by simp; omega
                  have HRR := Lib.hid (HM.out hy)
                  clear HM HH hy
                  go_wp2_with fail
                  generalize wr.alloc (.cells #[.int .u8 (x.wide : Int), .int .u32 (x.n : Int), .slice A2 np cc2] 61) = w1 at *
                  generalize wr.heap.size = g at *
                  have HC := Lib.hid (HRD.out _ (HA.out.old (Kept.refl Nothing w1).drew) _ HB.out.drew)
                  have hs0 : w1.drew.cell? ⟨g, 1, none⟩ = some (.int .u32 (x.n : Int)) := (blk3 HB.out.drew).2.1
                  go_region_held3 (fun w' => w'.cell? ⟨g, 1, none⟩ = some (.int .u32 (x.n : Int))) (first | exact hs0 | exact hs2) (first
                    | (go_at_call 26; refine (HC.out).mono ?_; rintro e w2 ⟨rfl, hr2, hb2⟩; (have hs2 := (blk3 hb2).2.1); (have R2 := Lib.hid hr2); clear hr2 hb2))
                  go_wp2
                  have hRR := HRR.out
                  subst hRR
                  go_ret
                  exact ⟨rfl, R2.out⟩
        · have hp0 : x.parts ≠ [] := fun h => hleaf (.inl h)
          obtain ⟨d', hdd⟩ : ∃ d', d = d' + 1 := ⟨d - 1, by omega⟩
          have HBK : Hid (∀ Y, Nd.rows (Nd.read d') ((s'.pass (x.span : Int)).opened (RS.num (s'.got (x.span : Int)) : Int)) (x.parts.take 6) = Y → Nd.read d s' x = if Y.1 = false ∨ Y.2.left ≠ 0 then (false, Y.2) else (true, Y.2.close)) := Lib.hid (fun Y h => by subst hdd; exact Nd.read_block hp0 h)
          have hpl : (0 : Int) < (x.parts.length : Int) := by have := List.length_pos_iff.2 hp0; omega
          have hdp : (0 : Int) < (d : Int) := by omega
          have hsub : (d : Int) - 1 = (d' : Int) := by omega
          have HREC2 := Lib.hid (HREC.out d' hdd)
          have HP2 : Hid (Nds (d' + 1) W (.slice A2 x.parts.length cc2) x.parts) := Lib.hid (by rw [← hdd]; exact HPV.out)
          have hesd : s'.es.length + d' + 1 ≤ 1000 := by omega
          have HESA : Hid (∀ Y : Bool × RS, Nd.read d s' x = Y → Y.1 = true → Y.2.es.length ≤ s'.es.length) := Lib.hid (fun Y h h1 => by subst h; exact Nd.read_es d s' x h1)
          have HRW := HR2
          clear HREC HPV hleaf hdd HR2
          have h2 : x.wide % 2 = 0 ∨ x.wide % 2 = 1 := by omega
          rcases h2 with h2 | h2
          · have hw0 : ((x.wide : Int) % 2 == 0) = true := by simp; omega
            have hsp : (x.span : Int) = 1 := by unfold Nd.span; omega
            rw [hsp] at HBK
            have HPE := Lib.hid (RS.pass_es s' 1)
            go_wp2_with fail
            refine (HA.out.call_blk HB.out (by decide) (fun h => rd_byte p s' _ h)).mono ?_
            rintro e w2 ⟨rfl, hr2, hb2⟩
            have R2 := Lib.hid hr2
            have B2 := Lib.hid hb2
            clear hr2 hb2 HA HB
            have hyb : RS.num (s'.got 1) < 256 := Nat.lt_of_lt_of_le (RS.num_lt _) (Nat.pow_le_pow_right (by decide) (show (s'.got 1).length ≤ 1 from RS.got_len (n := 1)))
            generalize RS.num (s'.got 1) = y at *
            generalize s'.pass 1 = s2 at *
            go_wp2_with fail
            refine (R2.out.call_blk B2.out (by decide) (fun h => rd_open p s2 (y : Int) _ h (by rw [HPE.out]; omega))).mono ?_
            rintro e w3 ⟨rfl, hr3, hb3⟩
            have R3 := Lib.hid hr3
            obtain ⟨g0, g1, g2⟩ := blk3 hb3
            have HOE := Lib.hid (RS.opened_es s2 (y : Int))
            clear hr3 hb3 R2 B2
            generalize s2.opened (y : Int) = s3 at *
            generalize hY : Nd.rows (Nd.read d') s3 (x.parts.take 6) = Y at *
            have HRE := Lib.hid (HREC2.out w3 _ p x.parts s3 HP2.out R3.out (by have := HOE.out; rw [HPE.out] at this; omega))
            rw [hY] at HRE
            have HB2 := Lib.hid (HBK.out Y rfl)
            clear HBK HREC2 HP2 hY HOE
            obtain ⟨Y1, Y2⟩ := Y
            simp only at HRE HB2
            cases Y1 with
            | false =>
              have HRR : Hid (R = (false, Y2)) := Lib.hid (HRW.out.trans ((Nd.rows_miss (by rw [HB2.out, if_pos (.inl rfl)])).trans (by rw [HB2.out, if_pos (.inl rfl)])))
              clear HB2 HRW HESA
              go_wp2_with fail
              refine HRE.out.mono ?_
              rintro e w4 ⟨rfl, hr4⟩
              have R4 := Lib.hid hr4
              clear hr4
              go_wp2
              have hRR := HRR.out
              subst hRR
              go_ret
              exact ⟨rfl, R4.out⟩
            | true =>
              by_cases hl : Y2.left = 0
              · have hcond : ¬ ((true : Bool) = false ∨ Y2.left ≠ 0) := by rintro (h | h); cases h; exact h hl
                have HB3 : Hid (Nd.read d s' x = (true, Y2.close)) := Lib.hid (HB2.out.trans (if_neg hcond))
                have HRR := Lib.hid (HRW.out.trans ((Nd.rows_hit (by rw [HB3.out])).trans (by rw [HB3.out])))
                have hes2 := HESA.out _ HB3.out rfl
                clear HB2 HRW HESA HB3 hcond
                go_wp2_with fail
                refine HRE.out.mono ?_
                rintro e w4 ⟨rfl, hr4⟩
                have R4 := Lib.hid hr4
                clear hr4
                have HLE := Lib.hid (rd_left p Y2 w4 R4.out.1)
                rw [hl] at HLE
                go_wp2_with (go_at_call 27; refine HLE.out.mono ?_; rintro e w5 ⟨rfl, m5, rfl⟩)
                go_wp2_with fail
                refine ((R4.out.old ((Kept.refl Nothing _).drewN m5)).call (fun h => rd_close p Y2 _ h)).mono ?_
                rintro e w6 ⟨rfl, hr6⟩
                have R6 := Lib.hid hr6
                clear hr6
                go_wp2
                go_roundw
                case rel => exact ⟨k + 1, Y2.close, by go_num, by omega, by omega, R6.out, HRR, Nat.le_trans hes2 hes⟩
                case measure => simp [intOf]; omega
              · have HB3 : Hid (Nd.read d s' x = (false, Y2)) := Lib.hid (HB2.out.trans (if_pos (.inr hl)))
                have HRR : Hid (R = (false, Y2)) := Lib.hid (HRW.out.trans ((Nd.rows_miss (by rw [HB3.out])).trans (by rw [HB3.out])))
                have hli : ((Y2.left : Int) != 0) = true := by simp; omega
                clear HB2 HRW HESA HB3
                go_wp2_with fail
                refine HRE.out.mono ?_
                rintro e w4 ⟨rfl, hr4⟩
                have R4 := Lib.hid hr4
                clear hr4
                have HLE := Lib.hid (rd_left p Y2 w4 R4.out.1)
                go_wp2_with (go_at_call 27; refine HLE.out.mono ?_; rintro e w5 ⟨rfl, m5, rfl⟩)
                have hRR := HRR.out
                subst hRR
                go_ret
                exact ⟨rfl, R4.out.old ((Kept.refl Nothing _).drewN m5)⟩
          · have hw0 : ((x.wide : Int) % 2 == 0) = false := by simp; omega
            have hsp : (x.span : Int) = 2 := by unfold Nd.span; omega
            rw [hsp] at HBK
            have HPE := Lib.hid (RS.pass_es s' 2)
            go_wp2_with fail
            refine (HA.out.call_blk HB.out (by decide) (fun h => rd_two p s' _ h)).mono ?_
            rintro e w2 ⟨rfl, hr2, hb2⟩
            have R2 := Lib.hid hr2
            have B2 := Lib.hid hb2
            clear hr2 hb2 HA HB
            have hyb : RS.num (s'.got 2) < 65536 := Nat.lt_of_lt_of_le (RS.num_lt _) (Nat.pow_le_pow_right (by decide) (show (s'.got 2).length ≤ 2 from RS.got_len (n := 2)))
            generalize RS.num (s'.got 2) = y at *
            generalize s'.pass 2 = s2 at *
            go_wp2_with fail
            refine (R2.out.call_blk B2.out (by decide) (fun h => rd_open p s2 (y : Int) _ h (by rw [HPE.out]; omega))).mono ?_
            rintro e w3 ⟨rfl, hr3, hb3⟩
            have R3 := Lib.hid hr3
            obtain ⟨g0, g1, g2⟩ := blk3 hb3
            have HOE := Lib.hid (RS.opened_es s2 (y : Int))
            clear hr3 hb3 R2 B2
            generalize s2.opened (y : Int) = s3 at *
            generalize hY : Nd.rows (Nd.read d') s3 (x.parts.take 6) = Y at *
            have HRE := Lib.hid (HREC2.out w3 _ p x.parts s3 HP2.out R3.out (by have := HOE.out; rw [HPE.out] at this; omega))
            rw [hY] at HRE
            have HB2 := Lib.hid (HBK.out Y rfl)
            clear HBK HREC2 HP2 hY HOE
            obtain ⟨Y1, Y2⟩ := Y
            simp only at HRE HB2
            cases Y1 with
            | false =>
              have HRR : Hid (R = (false, Y2)) := Lib.hid (HRW.out.trans ((Nd.rows_miss (by rw [HB2.out, if_pos (.inl rfl)])).trans (by rw [HB2.out, if_pos (.inl rfl)])))
              clear HB2 HRW HESA
              go_wp2_with fail
              refine HRE.out.mono ?_
              rintro e w4 ⟨rfl, hr4⟩
              have R4 := Lib.hid hr4
              clear hr4
              go_wp2
              have hRR := HRR.out
              subst hRR
              go_ret
              exact ⟨rfl, R4.out⟩
            | true =>
              by_cases hl : Y2.left = 0
              · have hcond : ¬ ((true : Bool) = false ∨ Y2.left ≠ 0) := by rintro (h | h); cases h; exact h hl
                have HB3 : Hid (Nd.read d s' x = (true, Y2.close)) := Lib.hid (HB2.out.trans (if_neg hcond))
                have HRR := Lib.hid (HRW.out.trans ((Nd.rows_hit (by rw [HB3.out])).trans (by rw [HB3.out])))
                have hes2 := HESA.out _ HB3.out rfl
                clear HB2 HRW HESA HB3 hcond
                go_wp2_with fail
                refine HRE.out.mono ?_
                rintro e w4 ⟨rfl, hr4⟩
                have R4 := Lib.hid hr4
                clear hr4
                have HLE := Lib.hid (rd_left p Y2 w4 R4.out.1)
                rw [hl] at HLE
                go_wp2_with (go_at_call 27; refine HLE.out.mono ?_; rintro e w5 ⟨rfl, m5, rfl⟩)
                go_wp2_with fail
                refine ((R4.out.old ((Kept.refl Nothing _).drewN m5)).call (fun h => rd_close p Y2 _ h)).mono ?_
                rintro e w6 ⟨rfl, hr6⟩
                have R6 := Lib.hid hr6
                clear hr6
                go_wp2
                go_roundw
                case rel => exact ⟨k + 1, Y2.close, by go_num, by omega, by omega, R6.out, HRR, Nat.le_trans hes2 hes⟩
                case measure => simp [intOf]; omega
              · have HB3 : Hid (Nd.read d s' x = (false, Y2)) := Lib.hid (HB2.out.trans (if_pos (.inr hl)))
                have HRR : Hid (R = (false, Y2)) := Lib.hid (HRW.out.trans ((Nd.rows_miss (by rw [HB3.out])).trans (by rw [HB3.out])))
                have hli : ((Y2.left : Int) != 0) = true := by simp; omega
                clear HB2 HRW HESA HB3
                go_wp2_with fail
                refine HRE.out.mono ?_
                rintro e w4 ⟨rfl, hr4⟩
                have R4 := Lib.hid hr4
                clear hr4
                have HLE := Lib.hid (rd_left p Y2 w4 R4.out.1)
                go_wp2_with (go_at_call 27; refine HLE.out.mono ?_; rintro e w5 ⟨rfl, m5, rfl⟩)
                have hRR := HRR.out
                subst hRR
                go_ret
                exact ⟨rfl, R4.out.old ((Kept.refl Nothing _).drewN m5)⟩
    · have hR := HR.out
      rw [List.drop_eq_nil_of_le (by rw [List.length_take]; omega)] at hR
      have hR1 : R = (decide (s'.e = 0), s') := hR
      subst hR1
      clear HR hR
      go_wp2_with fail
      refine (rd_err p s' _ HNW.out.1).mono ?_
      rintro e w2 ⟨rfl, rfl⟩
      go_wp2
      go_ret
      exact ⟨ret_bool rfl, HNW.out⟩
theorem nd_read (W : World) : ∀ d, d ≤ 3 → Reads3 W d
  | 0, h => nd_read_step W 0 h (fun d' e => by omega)
  | d + 1, h => nd_read_step W (d + 1) h (fun d' e => by
    obtain rfl : d = d' := by omega
    exact nd_read W d (by omega))
end Go.Proofs.Ytmaebgpppedllaa
