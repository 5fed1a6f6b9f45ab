
/-
  The document's Bytes of paths.
-/
import Derived.Test.YtdeblmolgmadiaaGreatDoorZb
import Derived.Test.YtdeblmolgmadiaaGreatDoorZd
import Derived.Test.YtdeblmolgmadiaaGreatDoorJi
namespace Go.Proofs.YtdeblmolgmadiaaGreatDoor
open Go.RowKit
attribute [local go_sem] Oper.semAt_some

theorem Pt.nums4 (n : Nat) : Pt.nums true [n] = [UInt8.ofNat (n / 16777216), UInt8.ofNat (n / 65536 % 256)] ++ [UInt8.ofNat (n / 256 % 256), UInt8.ofNat (n % 256)] := by
  unfold Pt.nums
  simp only [if_true, fours, twos, two, List.flatMap_cons, List.flatMap_nil, List.append_nil, List.cons_append, List.nil_append]
  have e (a b : Nat) (h : a % 256 = b % 256) : UInt8.ofNat a = UInt8.ofNat b := UInt8.toNat_inj.1 (by simpa using h)
  rw [e (n / 65536 / 256) (n / 16777216) (by omega), e (n / 65536) (n / 65536 % 256) (by omega), e (n % 65536 / 256) (n / 256 % 256) (by omega), e (n % 65536) (n % 256) (by omega)]
theorem Pt.nums2 (n : Nat) : Pt.nums false [n] = [UInt8.ofNat (n / 256 % 256), UInt8.ofNat (n % 256)] := by
  unfold Pt.nums
  simp only [Bool.false_eq_true, if_false, twos, two, List.flatMap_cons, List.flatMap_nil, List.append_nil]
  have e (a b : Nat) (h : a % 256 = b % 256) : UInt8.ofNat a = UInt8.ofNat b := UInt8.toNat_inj.1 (by simpa using h)
  rw [e (n / 256) (n / 256 % 256) (by omega), e n (n % 256) (by omega)]
theorem Pt.hasW_at {l : List Seg} {k j : Nat} (hk : k < l.length) (hj : j < (l.getD k (0, [])).2.length) (h : 65535 < (l.getD k (0, [])).2.getD j 0) : Pt.hasW l = true := by
  unfold Pt.hasW
  rw [List.any_eq_true]
  refine ⟨((l.getD k (0, [])).1, (l.getD k (0, [])).2.getD j 0), ?_, by simpa using h⟩
  unfold Pt.all
  refine List.mem_flatMap.2 ⟨l.getD k (0, []), by rw [getD_get hk]; exact List.getElem_mem _, List.mem_map.2 ⟨_, ?_, rfl⟩⟩
  rw [getD_get hj]
  exact List.getElem_mem _
theorem Pt.not_hasW {l : List Seg} (h : ∀ s ∈ l, ∀ n ∈ s.2, ¬ 65535 < n) : Pt.hasW l = false := by
  unfold Pt.hasW
  rw [List.any_eq_false]
  intro x hx
  unfold Pt.all at hx
  obtain ⟨s, hs, hx⟩ := List.mem_flatMap.1 hx
  obtain ⟨n, hn, rfl⟩ := List.mem_map.1 hx
  simpa using h s hs n hn
theorem own_weakL {w : World} {base n m size : Nat} {e : TypeId} {v : Value} {xs ys : List Value} (h : w.ownsRow base e size v n xs) (e1 : n = m) (e2 : xs = ys) : w.ownsRow base e size v m ys := e1 ▸ e2 ▸ h
/-- A row of bytes of the call's own. -/
structure RBs (w : World) (F : List UInt8) (q : Value) (n : Nat) (u : World) : Prop where
  len : n = F.length
  own : u.ownsRow w.heap.size 5 1 q n (bys F)
  kept : Kept Nothing w u
theorem RBs.app {w u u1 w7 : World} {F G : List UInt8} {q v' : Value} {n m : Nat} {xs : List Value} (h : RBs w F q n u) (k : Kept Nothing u u1) (hg : u1.grownBy w7 q.ownBlock) (ho : w7.ownsRow w.heap.size 5 1 v' (n + m) (bys F ++ xs)) (hx : xs = bys G) (hm : G.length = m) : RBs w (F ++ G) v' (n + m) w7 := by
  subst hx
  exact ⟨by rw [List.length_append, hm, h.len], by rw [bys_append]; exact ho, (h.kept.trans k).own_grown (ow_kept h.own k (fun _ _ x => x)) (Nat.le_refl _) hg⟩
theorem RBs.to {w u : World} {F G : List UInt8} {q : Value} {n : Nat} (h : RBs w F q n u) (e : F = G) : RBs w G q n u := e ▸ h
set_option maxRecDepth 20000 in
set_option maxHeartbeats 2000000 in
theorem rf_bytes (v : Value) (l : List Seg) (wide : Bool) (w : World) (h : Rfs w v l) (hl : l.length ≤ 1000000) :
    Calls Tryz.prog 14 #[v, .bool wide] w fun e w' => ∃ u, e = .returned (.tuple #[u, .int .i64 ((Pt.bytes l wide).2 : Int)]) ∧ w'.ownsRow w.heap.size 5 1 u (Pt.bytes l wide).1.length (bys (Pt.bytes l wide).1) ∧ Kept Nothing w w' := by
  obtain ⟨A, c, rfl, hc, hm⟩ := h.form
  have HM := Lib.hid (rf_may _ l w h (by omega))
  obtain ⟨i0, hi, hz0, hz1, hz2⟩ := info_parts u8_info
  have HV := Lib.hid h
  clear h
  cases hmay : Pt.may l with
  | false =>
    have HB : Hid (Pt.bytes l wide = ([], 1)) := Lib.hid (by unfold Pt.bytes; rw [if_pos hmay])
    rw [hmay] at HM
    clear hmay HV
    rw [HB.out]
    go_enter Tryz.func14, Tryz.ntmps14
    go_wp2_with (go_at_call 17; refine (HM.out).mono ?_; rintro e w1 ⟨rfl, k1⟩)
    go_ret2
    exact ⟨_, rfl, World.ownsRow_nil _ _ _ _, k1⟩
  | true =>
    obtain ⟨hl32, hn255⟩ := Pt.may_len hmay
    have HBE : Hid (wide = false → Pt.hasW l = true → Pt.bytes l wide = ([], 24)) := Lib.hid (fun e e2 => by unfold Pt.bytes; rw [if_neg (by rw [hmay]; simp), if_pos (by rw [e, e2]; rfl)])
    have HBF : Hid ((wide = true ∨ Pt.hasW l = false) → Pt.bytes l wide = (Pt.form wide l, 0)) := Lib.hid (fun e => by
      unfold Pt.bytes
      rw [if_neg (by rw [hmay]; simp), if_neg]
      rcases e with e | e <;> simp [e])
    have HKD : Hid (∀ s ∈ l, 1 ≤ s.1.toNat ∧ s.1.toNat ≤ 4) := Lib.hid (fun s hs => by
      unfold Pt.may at hmay
      rw [Bool.and_eq_true, List.all_eq_true] at hmay
      have := hmay.1 s hs
      unfold Pt.may1 at this
      simp only [Bool.and_eq_true, decide_eq_true_eq] at this
      exact ⟨this.1.1.1, this.1.1.2⟩)
    rw [hmay] at HM
    have HN := Lib.hid hn255
    clear hmay hn255
    go_enter Tryz.func14, Tryz.ntmps14
    go_wp2_with (go_at_call 17; refine (HM.out).mono ?_; rintro e w1 ⟨rfl, k1⟩)
    have K1 := Lib.hid k1
    clear k1
    go_loopw [6, 7] (fun q i wr => ∃ (k : Nat) (n : Nat), i = .int .i64 (k : Int) ∧ k ≤ l.length ∧ n ≤ 1300 * k ∧ Hid (RBs w (Pt.form wide (l.take k)) q n wr) ∧ Hid (wide = false → ∀ s ∈ l.take k, ∀ m ∈ s.2, ¬ 65535 < m)) (fun _ i _ => l.length - (intOf i).toNat)
    case atStart => exact ⟨0, 0, rfl, Nat.zero_le _, Nat.le_refl _, Lib.hid ⟨by rw [List.take_zero]; rfl, by rw [List.take_zero, Pt.form_nil]; exact World.ownsRow_nil _ _ _ _, K1.out⟩, Lib.hid (fun _ s hs => by rw [List.take_zero] at hs; cases hs)⟩
    case round =>
      obtain ⟨k, n, rfl, hk, hnb, HP, NW⟩ := hrel
      by_cases hlt : k < l.length
      · obtain ⟨b, o, Au, cu, rfl, p0w, p1w, hpw⟩ := HV.out.at2 hlt
        have hkk : Kept Nothing w wr := HP.out.kept
        have p0 := hkk.cell_some p0w (fun x => x)
        have p1 := hkk.cell_some p1w (fun x => x)
        have KK := Lib.hid hkk
        have i1 : (0 : Int) ≤ (k : Int) := by omega
        have i2 : (k : Int) < (l.length : Int) := by omega
        have hmem : l.getD k (0, []) ∈ l := by rw [getD_get hlt]; exact List.getElem_mem _
        have hsn := HN.out _ hmem
        obtain ⟨hk1, hk4⟩ := HKD.out _ hmem
        have ET : Hid (l.take (k + 1) = l.take k ++ [l.getD k (0, [])]) := Lib.hid (by rw [List.take_succ_eq_append_getElem hlt, getD_get hlt])
        have HWA := Lib.hid (fun j (hj : j < (l.getD k (0, [])).2.length) h => @Pt.hasW_at l k j hlt hj h)
        have HAS := Lib.hid hpw
        generalize hsg : l.getD k (0, []) = sg at *
        obtain ⟨sk, sn⟩ := sg
        clear hsg hmem
        simp only at p0 p1 p0w p1w hsn hk1 hk4
        replace HAS : Hid (As w (.slice Au sn.length cu) sn) := HAS
        replace HWA : Hid (∀ j, j < sn.length → 65535 < sn.getD j 0 → Pt.hasW l = true) := HWA
        have P0W : Hid (∀ u, Kept Nothing w u → u.cell? ⟨b, o + k * 2, none⟩ = some (.int .i64 (sk.toNat : Int)) ∧ u.cell? ⟨b, o + k * 2 + 1, none⟩ = some (.slice Au sn.length cu)) := Lib.hid (fun u hu => ⟨hu.cell_some p0w (fun x => x), hu.cell_some p1w (fun x => x)⟩)
        clear p0w p1w hpw hkk
        have hq := HP.out.own
        have OQ := Lib.hid hq
        obtain ⟨Aq, cq, rfl, _, _⟩ := ow_form hq
        clear hq
        have hw1 : IntKind.u8.wrap (sk.toNat : Int) = (sk.toNat : Int) := by simp [IntKind.wrap, IntKind.bits, IntKind.signed]; omega
        have hw2 : IntKind.u8.wrap (sn.length : Int) = (sn.length : Int) := by simp [IntKind.wrap, IntKind.bits, IntKind.signed]; omega
        have HL1 : Hid (n + 2 ≤ maxLen ∧ (n + 2) * 1 ≤ 140737488355328) := Lib.hid (by unfold maxLen; omega)
        have HKZ := Lib.hid KK.out.size
        have HX2 : Hid ([.int .u8 (sk.toNat : Int), .int .u8 (sn.length : Int)] = bys [sk, UInt8.ofNat sn.length]) := Lib.hid (by
          show _ = [by8 sk, by8 (UInt8.ofNat sn.length)]
          have : (UInt8.ofNat sn.length).toNat = sn.length := by simp; omega
          unfold by8
          rw [this])
        have HBL := Lib.hid (P0W.out _ KK.out)
        go_wp2_with fail
        go_region_held3 (fun w' => w'.cell? ⟨b, o + k * 2, none⟩ = some (.int .i64 (sk.toNat : Int)) ∧ w'.cell? ⟨b, o + k * 2 + 1, none⟩ = some (.slice Au sn.length cu)) (first | exact HBL.out | exact P0W.out _ (KK.out.drew.alloc _) | exact P0W.out _ (KK.out.alloc _) | exact P0W.out _ R7.out.kept) (first
          | (refine step_app _ (by rfl) _ _ 28 (by rfl) w.heap.size 5 i0 _ 1 1 Tryz.underlying28 hi hz0 hz1 hz2 rfl (by decide) (.slice Aq n cq) n (bys (Pt.form wide (l.take k))) (by rfl) (ow_kept OQ.out ((Kept.refl Nothing wr).drew.alloc _) (fun _ _ x => x)) (some ⟨wr.heap.size, 0, none⟩) 2 2 [.int .u8 (sk.toNat : Int), .int .u8 (sn.length : Int)] (by rfl) (src_new wr.drew _ #[.int .u8 (sk.toNat : Int), .int .u8 (sn.length : Int)] 1 2 rfl (by simp [Value.oneCell'])) HL1.out.1 HL1.out.2 (Nat.le_trans HKZ.out ((Kept.refl Nothing wr).drew.alloc _).size) ?_; intro v7 w7 ho7 hg7 hat7; (have R7 := Lib.hid (HP.out.app ((Kept.refl Nothing wr).drew.alloc _) hg7 ho7 HX2.out rfl)); clear ho7 hg7 hat7))
        all_goals
          go_wp2_with fail
          go_loopw [6, 8] (fun q i wq => ∃ (j m : Nat), i = .int .i64 (j : Int) ∧ j ≤ sn.length ∧ m ≤ 1300 * k + 2 + 4 * j ∧ Hid (RBs w (Pt.form wide (l.take k) ++ [sk, UInt8.ofNat sn.length] ++ Pt.nums wide (sn.take j)) q m wq) ∧ Hid (wide = false → ∀ m ∈ sn.take j, ¬ 65535 < m)) (fun _ i _ => sn.length - (intOf i).toNat)
          case atStart => exact ⟨0, n + 2, rfl, Nat.zero_le _, by omega, Lib.hid (by rw [List.take_zero, Pt.nums_nil, List.append_nil]; exact R7.out), Lib.hid (fun _ m hm => by rw [List.take_zero] at hm; cases hm)⟩
          case round =>
            obtain ⟨j, m, rfl, hjl, hmb, RJ, NJ⟩ := hrel
            obtain ⟨q0, q1⟩ := P0W.out _ RJ.out.kept
            clear p0 p1
            by_cases hjt : j < sn.length
            · obtain ⟨b3, o3, rfl, hc3⟩ := (HAS.out.old RJ.out.kept).at (by omega)
              have x0 := hc3 j hjt
              have j1 : (0 : Int) ≤ (j : Int) := by omega
              have j2 : (j : Int) < (sn.length : Int) := by omega
              have hx : sn.getD j 0 < 4294967296 := HAS.out.1 _ (by rw [getD_get hjt]; exact List.getElem_mem _)
              have EJ : Hid (sn.take (j + 1) = sn.take j ++ [sn.getD j 0]) := Lib.hid (by rw [List.take_succ_eq_append_getElem hjt, getD_get hjt])
              have HWJ := Lib.hid (HWA.out j hjt)
              clear hc3
              generalize sn.getD j 0 = xn at *
              obtain ⟨Ar, cr, rfl, _, _⟩ := ow_form RJ.out.own
              have ON := Lib.hid RJ.out.own
              have HRZ := Lib.hid RJ.out.kept.size
              have hb2 : IntKind.u8.wrap ((xn : Int) / 256 % 256) = ((UInt8.ofNat (xn / 256 % 256)).toNat : Int) := by simp [IntKind.wrap, IntKind.bits, IntKind.signed]
              have hb3 : IntKind.u8.wrap ((xn : Int) % 256) = ((UInt8.ofNat (xn % 256)).toNat : Int) := by simp [IntKind.wrap, IntKind.bits, IntKind.signed]
              have hb0 : IntKind.u8.wrap ((xn : Int) / 16777216) = ((UInt8.ofNat (xn / 16777216)).toNat : Int) := by simp [IntKind.wrap, IntKind.bits, IntKind.signed]
              have hb1 : IntKind.u8.wrap ((xn : Int) / 65536 % 256) = ((UInt8.ofNat (xn / 65536 % 256)).toNat : Int) := by simp [IntKind.wrap, IntKind.bits, IntKind.signed]
              have N4 := Lib.hid (Pt.nums4 xn)
              have N2 := Lib.hid (Pt.nums2 xn)
              have HL2 : Hid (m + 2 ≤ maxLen ∧ (m + 2) * 1 ≤ 140737488355328 ∧ m + 2 + 2 ≤ maxLen ∧ (m + 2 + 2) * 1 ≤ 140737488355328) := Lib.hid (by unfold maxLen; omega)
              generalize UInt8.ofNat (xn / 256 % 256) = y2 at *
              generalize UInt8.ofNat (xn % 256) = y3 at *
              generalize UInt8.ofNat (xn / 16777216) = y0 at *
              generalize UInt8.ofNat (xn / 65536 % 256) = y1 at *
              cases wide with
              | true =>
                have HON := Lib.hid HRZ.out
                go_wp2_with (first
                  | (at_builtin; refine wpList_app _ rfl _ _ 28 rfl w.heap.size 5 i0 _ 1 1 Tryz.underlying28 hi hz0 hz1 hz2 rfl (by decide) (.slice A8 (m + 2) c8) (m + 2) (bys (Pt.form true (l.take k) ++ [sk, UInt8.ofNat sn.length] ++ Pt.nums true (sn.take j) ++ [y0, y1])) rfl (ow_kept R8.out.own ((Kept.refl Nothing _).alloc _) (fun _ _ x => x)) (some ⟨w8.heap.size, 0, none⟩) 2 2 [.int .u8 (y2.toNat : Int), .int .u8 (y3.toNat : Int)] rfl (src_new w8 _ #[.int .u8 (y2.toNat : Int), .int .u8 (y3.toNat : Int)] 1 2 rfl (by simp [Value.oneCell'])) HL2.out.2.2.1 HL2.out.2.2.2 (by have := R8.out.kept.size; simp; omega) ?_; intro v9 w9 ho9 hg9 _; (have R9 := Lib.hid (R8.out.app ((Kept.refl Nothing w8).alloc _) hg9 ho9 (G := [y2, y3]) rfl rfl)); clear ho9 hg9)
                  | (at_builtin; refine wpList_app _ rfl _ _ 28 rfl w.heap.size 5 i0 _ 1 1 Tryz.underlying28 hi hz0 hz1 hz2 rfl (by decide) (.slice Ar m cr) m (bys (Pt.form true (l.take k) ++ [sk, UInt8.ofNat sn.length] ++ Pt.nums true (sn.take j))) rfl (ow_kept ON.out ((Kept.refl Nothing _).alloc _) (fun _ _ x => x)) (some ⟨wr.heap.size, 0, none⟩) 2 2 [.int .u8 (y0.toNat : Int), .int .u8 (y1.toNat : Int)] rfl (src_new wr _ #[.int .u8 (y0.toNat : Int), .int .u8 (y1.toNat : Int)] 1 2 rfl (by simp [Value.oneCell'])) HL2.out.1 HL2.out.2.1 (by have := HRZ.out; simp; omega) ?_; intro v8 w8 ho8 hg8 _; (have R8 := Lib.hid (RJ.out.app ((Kept.refl Nothing wr).alloc _) hg8 ho8 (G := [y0, y1]) rfl rfl)); (obtain ⟨A8, c8, rfl, _, _⟩ := ow_form ho8); clear ho8 hg8))
                go_roundw
                case rel =>
                  refine ⟨j + 1, m + 2 + 2, by go_num, by omega, by omega, Lib.hid (R9.out.to ?_), Lib.hid (fun e => by cases e)⟩
                  rw [EJ.out, Pt.nums_snoc, N4.out]; simp only [List.append_assoc]
                case measure => simp [intOf]; omega
              | false =>
                by_cases hbig : 65535 < xn
                · have hbi : (65535 : Int) < (xn : Int) := by omega
                  have HB := Lib.hid (HBE.out rfl (HWJ.out hbig))
                  have KW := Lib.hid RJ.out.kept
                  clear HP RJ ON R7 HBE HBF HWJ
                  go_wp2
                  go_ret2
                  rw [HB.out]
                  exact ⟨_, rfl, World.ownsRow_nil _ _ _ _, KW.out⟩
                · have hbi : ¬ (65535 : Int) < (xn : Int) := by omega
                  have HNB := Lib.hid hbig
                  clear hbig
                  go_wp2_with (at_builtin; refine wpList_app _ rfl _ _ 28 rfl w.heap.size 5 i0 _ 1 1 Tryz.underlying28 hi hz0 hz1 hz2 rfl (by decide) (.slice Ar m cr) m (bys (Pt.form false (l.take k) ++ [sk, UInt8.ofNat sn.length] ++ Pt.nums false (sn.take j))) rfl (ow_kept ON.out ((Kept.refl Nothing _).alloc _) (fun _ _ x => x)) (some ⟨wr.heap.size, 0, none⟩) 2 2 [.int .u8 (y2.toNat : Int), .int .u8 (y3.toNat : Int)] rfl (src_new wr _ #[.int .u8 (y2.toNat : Int), .int .u8 (y3.toNat : Int)] 1 2 rfl (by simp [Value.oneCell'])) HL2.out.1 HL2.out.2.1 (by have := HRZ.out; simp; omega) ?_; intro v8 w8 ho8 hg8 _; (have R8 := Lib.hid (RJ.out.app ((Kept.refl Nothing wr).alloc _) hg8 ho8 (G := [y2, y3]) rfl rfl)); clear ho8 hg8)
                  go_roundw
                  case rel =>
                    refine ⟨j + 1, m + 2, by go_num, by omega, by omega, Lib.hid (R8.out.to ?_), Lib.hid (fun _ x hx => ?_)⟩
                    · rw [EJ.out, Pt.nums_snoc, N2.out, List.append_assoc]
                    · rw [EJ.out] at hx
                      rcases List.mem_append.1 hx with h | h
                      · exact NJ.out rfl x h
                      · obtain rfl := List.mem_singleton.1 h
                        exact HNB.out
                  case measure => simp [intOf]; omega
            · obtain rfl : j = sn.length := by omega
              rw [List.take_of_length_le (Nat.le_refl _)] at RJ NJ
              go_wp2
              go_roundw
              case rel =>
                refine ⟨k + 1, m, by go_num, by omega, by omega, Lib.hid (RJ.out.to ?_), Lib.hid (fun e s hs => ?_)⟩
                · rw [ET.out, Pt.form_snoc, List.append_assoc]; rfl
                · rw [ET.out] at hs
                  rcases List.mem_append.1 hs with h | h
                  · exact NW.out e s h
                  · obtain rfl := List.mem_singleton.1 h
                    exact NJ.out e
              case measure => simp [intOf]; omega
      · obtain rfl : k = l.length := by omega
        rw [List.take_of_length_le (Nat.le_refl _)] at HP NW
        have HB := Lib.hid (HBF.out (by
          cases wide with
          | true => exact .inl rfl
          | false => exact .inr (Pt.not_hasW (NW.out rfl))))
        have ON := Lib.hid HP.out
        clear HBE HBF HP
        go_wp2
        go_ret2
        rw [HB.out]
        exact ⟨_, rfl, own_weakL ON.out.own ON.out.len rfl, ON.out.kept⟩
end Go.Proofs.YtdeblmolgmadiaaGreatDoor
