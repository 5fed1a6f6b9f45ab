
/-
  The document's texts: of numbers, of paths.
-/
import Derived.Test.YtdeblmolgmadiaaGreatDoorZe
import Derived.Test.YtdeblmolgmadiaaGreatDoorKc
namespace Go.Proofs.YtdeblmolgmadiaaGreatDoor
open Go.RowKit
attribute [local go_sem] Oper.semAt_some

theorem by_new (w : World) (l : List UInt8) (hm : l.length ≤ maxLen) : By (w.alloc (.cells (bys l).toArray 5)) (.slice (some ⟨w.heap.size, 0, none⟩) l.length l.length) l :=
  ⟨_, _, rfl, Nat.le_refl _, hm, by
    have := src_new w 5 (bys l).toArray 1 l.length (by simp [length_bys]) (fun u hu => by
      unfold bys at hu
      obtain ⟨b, _, rfl⟩ := List.mem_map.1 hu
      rfl)
    exact this⟩
theorem conv_str {w : World} {v : Value} {l : List UInt8} (h : By w v l) : (convert 28 9 v).run Tryz.prog w = .ok (.string ⟨l.toArray⟩) w := by
  obtain ⟨A, c, rfl, _, _⟩ := h.form
  have hs := h.src
  rw [run_convert_bytes_string w _ _ 5 A l.length c Tryz.underlying28 Tryz.underlying5 Tryz.underlying9]
  cases A with
  | none =>
    obtain rfl : l = [] := List.eq_nil_of_length_eq_zero (hs.2.1 rfl)
    rfl
  | some a =>
    have hl := run_loadCells_list (P := Tryz.prog) w a (bys l) (fun j u hu => hs.2.2.1 a rfl j u hu)
    rw [length_bys] at hl
    rw [run_bytesToString w a l.length c (l.map fun b => (b.toNat : Int)) (by rw [hl]; simp [bys, by8, Function.comp_def]), foldl_push_byteCells]
    simp
set_option maxHeartbeats 1000000 in
theorem rtext_any (n : Nat) (hn : n < 4294967296) (w : World) :
    Calls Tryz.prog 56 #[.int .u32 (n : Int)] w fun e w' => e = .returned (.string ⟨(Lib.decDigits n).toArray⟩) ∧ Kept Nothing w w' := by
  go_enter Tryz.func56, Tryz.ntmps56
  go_wp2
  go_loopw [0, 3] (fun v s wr => ∃ (m : Nat) (t : List UInt8), m < 4294967296 ∧ v = .int .u32 m ∧ s = .string ⟨t.toArray⟩ ∧ Hid (Lib.decDigits m ++ t = Lib.decDigits n) ∧ t.length ≤ 10 ∧ Kept Nothing w wr) (fun v _ _ => (intOf v).toNat)
  case atStart => exact ⟨n, [], hn, rfl, rfl, Lib.hid (by simp), by simp, Kept.refl _ w⟩
  case round =>
    obtain ⟨m, t, hm, rfl, rfl, HD, ht, hkw⟩ := hrel
    have hc : (UInt8.ofNat (48 + m % 10)).toNat = 48 + m % 10 := dg_nat _ (by omega)
    have hy := conv_str (by_new wr [UInt8.ofNat (48 + m % 10)] (by simp [maxLen]))
    have e1 : (bys [UInt8.ofNat (48 + m % 10)]).toArray = #[.int .u8 (48 + (m : Int) % 10)] := by
      have : bys [UInt8.ofNat (48 + m % 10)] = [.int .u8 (48 + (m : Int) % 10)] := by
        unfold bys by8
        rw [List.map_cons, List.map_nil, hc]
        congr 2
      rw [this]
    rw [e1] at hy
    have hadd := add_run [UInt8.ofNat (48 + m % 10)] t (by simp) (by omega)
    have kk := hkw.alloc (.cells #[.int .u8 (48 + (m : Int) % 10)] 5)
    have HL := Lib.hid (dec_len32 n hn)
    simp only [List.length_cons, List.length_nil] at hy
    generalize UInt8.ofNat (48 + m % 10) = c0 at hy hadd hc
    clear e1
    by_cases h10 : m < 10
    · have HR := Lib.hid (show c0 :: t = Lib.decDigits n by
        have e2 : c0 = UInt8.ofNat (48 + m) := by
          rw [← UInt8.toNat_inj, hc, dg_nat _ (by omega)]; omega
        have := HD.out
        rw [dec_small h10] at this
        rw [e2]
        exact this)
      have hz : ((m : Int) / 10 == 0) = true := by simp; omega
      have hz2 : (m : Int) / 10 = 0 := by omega
      clear hc
      go_wp2
      go_ret
      exact ⟨by rw [← HR.out]; rfl, kk⟩
    · have HR := Lib.hid (show Lib.decDigits (m / 10) ++ c0 :: t = Lib.decDigits n by
        have e2 : c0 = UInt8.ofNat (48 + m % 10) := by
          rw [← UInt8.toNat_inj, hc, dg_nat _ (by omega)]
        have := HD.out
        rw [dec_step h10] at this
        rw [e2]
        simpa using this)
      have hz : ((m : Int) / 10 == 0) = false := by simp; omega
      have hlt : t.length + 1 ≤ 10 := by
        have h1 := congrArg List.length HR.out
        have h2 := HL.out
        have h3 := List.length_pos_iff.2 (dec_ne (m / 10))
        simp at h1
        omega
      clear hc
      go_wp2
      go_roundw
      case rel => exact ⟨m / 10, c0 :: t, by omega, by go_num, rfl, HR, by simpa using hlt, kk⟩
      case measure => simp [intOf]; omega

theorem join_at (b : List UInt8) (l : List Nat) (j : Nat) (hj : j < l.length) : Lib.join ((l.take (j + 1)).map Lib.decDigits) b = Lib.join ((l.take j).map Lib.decDigits) b ++ (if 0 < j then b else []) ++ Lib.decDigits (l.getD j 0) := by
  have hlen : (l.take j).length = j := by rw [List.length_take]; omega
  rw [List.take_succ_eq_append_getElem hj, List.map_append, getD_get hj]
  cases h : l.take j with
  | nil =>
    rw [h, List.length_nil] at hlen
    subst hlen
    simp [Lib.join_nil, Lib.join_one]
  | cons x r =>
    rw [h, List.length_cons] at hlen
    rw [if_pos (by omega), List.map_cons, List.cons_append, Lib.join_cons, Lib.join_cons, List.map_cons, List.map_nil]
    have := Lib.joinTail_take_succ b (r.map Lib.decDigits ++ [Lib.decDigits l[j]]) (r.map Lib.decDigits).length (Lib.decDigits l[j]) (by simp)
    rw [List.take_of_length_le (by simp), List.take_append_of_le_length (Nat.le_refl _), List.take_of_length_le (Nat.le_refl _)] at this
    rw [this]
    simp
theorem Pt.tx_len2 (l : List Seg) (hf : Pt.fits l) (hn : ∀ s ∈ l, s.2.length ≤ 255) : ∀ k, k ≤ l.length → (Pt.tx l k).length ≤ 2810 * k := by
  intro k
  induction k with
  | zero => intro _; simp [Pt.tx]
  | succ k ih =>
    intro hk
    have h1 := ih (by omega)
    have hm : l.getD k (0, []) ∈ l := by rw [getD_get (by omega)]; exact List.getElem_mem _
    have h2 := Pt.segT_len _ (hf _ hm)
    have h3 := hn _ hm
    have h4 : (Pt.ahead l k).length ≤ 3 := by unfold Pt.ahead Pt.gap; split <;> (try split) <;> simp
    show (Pt.tx l k ++ (Pt.ahead l k ++ Pt.segT (l.getD k (0, [])))).length ≤ _
    simp only [List.length_append]
    omega
theorem Rfs.fits {w : World} {v : Value} {l : List Seg} (h : Rfs w v l) : Pt.fits l := by
  obtain ⟨A, c, _, _, _, hr⟩ := h
  intro s hs n hn
  obtain ⟨i, hi, rfl⟩ := List.getElem_of_mem hs
  obtain ⟨b, o, _, hc⟩ := hr (by omega)
  obtain ⟨_, u, _, hu⟩ := hc i hi
  exact hu.1 n hn
def tabO : Array Value := #[.string ⟨#[]⟩, .string ⟨#[123]⟩, .string ⟨#[]⟩, .string ⟨#[40]⟩, .string ⟨#[91]⟩]
def tabE : Array Value := #[.string ⟨#[]⟩, .string ⟨#[125]⟩, .string ⟨#[]⟩, .string ⟨#[41]⟩, .string ⟨#[93]⟩]
def tabB : Array Value := #[.string ⟨#[]⟩, .string ⟨#[44]⟩, .string ⟨#[32]⟩, .string ⟨#[32]⟩, .string ⟨#[44]⟩]
theorem tab_at (k : Nat) (h1 : 1 ≤ k) (h4 : k ≤ 4) : tabO[k]? = some (.string ⟨(Pt.opens k).toArray⟩) ∧ tabE[k]? = some (.string ⟨(Pt.ends k).toArray⟩) ∧ tabB[k]? = some (.string ⟨(Pt.betw k).toArray⟩) := by
  obtain rfl | rfl | rfl | rfl : k = 1 ∨ k = 2 ∨ k = 3 ∨ k = 4 := by omega
  all_goals exact ⟨rfl, rfl, rfl⟩
set_option maxRecDepth 20000 in
set_option maxHeartbeats 2000000 in
theorem rf_text (v : Value) (l : List Seg) (w : World) (h : Rfs w v l) (hl : l.length ≤ 1000000) :
    Calls Tryz.prog 24 #[v] w fun e w' => e = .returned (.string ⟨(Pt.text l).toArray⟩) ∧ Kept Nothing w w' := by
  obtain ⟨A, c, rfl, hc, hm⟩ := h.form
  have HM := Lib.hid (rf_may _ l w h (by omega))
  have HV := Lib.hid h
  have HT : Hid (Pt.text l = if Pt.may l then (if l = [] then [45] else Pt.tx l l.length) else []) := Lib.hid rfl
  clear h
  cases hmay : Pt.may l with
  | false =>
    rw [hmay] at HM HT
    clear hmay HV
    go_enter Tryz.func24, Tryz.ntmps24
    go_wp2_with (go_at_call 17; refine (HM.out).mono ?_; rintro e w1 ⟨rfl, k1⟩)
    go_ret
    exact ⟨by rw [HT.out]; rfl, k1⟩
  | true =>
    obtain ⟨hl32, hn255⟩ := Pt.may_len hmay
    have HKD : Hid (∀ s ∈ l, 1 ≤ s.1.toNat ∧ s.1.toNat ≤ 4) := Lib.hid (fun s hs => by
      unfold Pt.may at hmay
      rw [Bool.and_eq_true, List.all_eq_true] at hmay
      have := hmay.1 s hs
      unfold Pt.may1 at this
      simp only [Bool.and_eq_true, decide_eq_true_eq] at this
      exact ⟨this.1.1.1, this.1.1.2⟩)
    rw [hmay, if_pos rfl] at HT
    rw [hmay] at HM
    have HN := Lib.hid hn255
    have HTL := Lib.hid (Pt.tx_len2 l HV.out.fits hn255)
    clear hmay hn255
    by_cases h0 : l = []
    · rw [if_pos h0] at HT
      have hz : ((l.length : Int) == 0) = true := by rw [h0]; rfl
      have hz2 : (l.length : Int) = 0 := by rw [h0]; rfl
      clear HV HKD HTL h0
      go_enter Tryz.func24, Tryz.ntmps24
      go_wp2_with (go_at_call 17; refine (HM.out).mono ?_; rintro e w1 ⟨rfl, k1⟩)
      go_ret
      exact ⟨by rw [HT.out]; rfl, k1⟩
    · rw [if_neg h0] at HT
      have hpos : 0 < l.length := List.length_pos_iff.2 h0
      have hnz : ((l.length : Int) == 0) = false := by simp; omega
      have hnz2 : ¬ (l.length : Int) = 0 := by omega
      clear h0
      go_enter Tryz.func24, Tryz.ntmps24
      go_upto_region 8 with (go_at_call 17; refine (HM.out).mono ?_; rintro e w1 ⟨rfl, k1⟩)
      have K3 := Lib.hid (((k1.alloc (.cells #[.string ⟨#[]⟩, .string ⟨#[123]⟩, .string ⟨#[]⟩, .string ⟨#[40]⟩, .string ⟨#[91]⟩] 9)).alloc (.cells #[.string ⟨#[]⟩, .string ⟨#[125]⟩, .string ⟨#[]⟩, .string ⟨#[41]⟩, .string ⟨#[93]⟩] 9)).alloc (.cells #[.string ⟨#[]⟩, .string ⟨#[44]⟩, .string ⟨#[32]⟩, .string ⟨#[32]⟩, .string ⟨#[44]⟩] 9))
      have T1 := (((Blk.fresh w1 9 tabO).alloc (.cells tabE 9)).alloc (.cells tabB 9))
      have T2 := ((Blk.fresh (w1.alloc (.cells tabO 9)) 9 tabE).alloc (.cells tabB 9))
      have T3 := (Blk.fresh ((w1.alloc (.cells tabO 9)).alloc (.cells tabE 9)) 9 tabB)
      rw [World.size_alloc] at T2
      rw [World.size_alloc, World.size_alloc] at T3
      have TT : Hid (∀ u, Kept Nothing (((w1.alloc (.cells #[.string ⟨#[]⟩, .string ⟨#[123]⟩, .string ⟨#[]⟩, .string ⟨#[40]⟩, .string ⟨#[91]⟩] 9)).alloc (.cells #[.string ⟨#[]⟩, .string ⟨#[125]⟩, .string ⟨#[]⟩, .string ⟨#[41]⟩, .string ⟨#[93]⟩] 9)).alloc (.cells #[.string ⟨#[]⟩, .string ⟨#[44]⟩, .string ⟨#[32]⟩, .string ⟨#[32]⟩, .string ⟨#[44]⟩] 9)) u → ∀ i, 1 ≤ i → i ≤ 4 → u.cell? ⟨w1.heap.size, i, none⟩ = some (.string ⟨(Pt.opens i).toArray⟩) ∧ u.cell? ⟨w1.heap.size + 1, i, none⟩ = some (.string ⟨(Pt.ends i).toArray⟩) ∧ u.cell? ⟨w1.heap.size + 1 + 1, i, none⟩ = some (.string ⟨(Pt.betw i).toArray⟩)) := Lib.hid (fun u hu i h1 h4 => by
        have ht := tab_at i h1 h4
        exact ⟨by rw [(T1.kept hu (fun x => x)).cell]; exact ht.1, by rw [(T2.kept hu (fun x => x)).cell]; exact ht.2.1, by rw [(T3.kept hu (fun x => x)).cell]; exact ht.2.2⟩)
      clear T1 T2 T3 k1
      generalize (((w1.alloc (.cells #[.string ⟨#[]⟩, .string ⟨#[123]⟩, .string ⟨#[]⟩, .string ⟨#[40]⟩, .string ⟨#[91]⟩] 9)).alloc (.cells #[.string ⟨#[]⟩, .string ⟨#[125]⟩, .string ⟨#[]⟩, .string ⟨#[41]⟩, .string ⟨#[93]⟩] 9)).alloc (.cells #[.string ⟨#[]⟩, .string ⟨#[44]⟩, .string ⟨#[32]⟩, .string ⟨#[32]⟩, .string ⟨#[44]⟩] 9)) = W3 at K3 TT ⊢
      go_wp2_with fail
      go_loopw [6, 7] (fun q i wr => ∃ k : Nat, i = .int .i64 (k : Int) ∧ k ≤ l.length ∧ q = .string ⟨(Pt.tx l k).toArray⟩ ∧ Hid (Kept Nothing W3 wr)) (fun _ i _ => l.length - (intOf i).toNat)
      case atStart => exact ⟨0, rfl, Nat.zero_le _, rfl, Lib.hid (Kept.refl _ _)⟩
      case round =>
        obtain ⟨k, rfl, hk, rfl, KK⟩ := hrel
        obtain ⟨u0, hu0⟩ : ∃ u0, u0 = wr := ⟨_, rfl⟩
        subst hu0
        by_cases hlt : k < l.length
        · obtain ⟨b, o, Au, cu, rfl, p0w, p1w, hpw⟩ := HV.out.at2 hlt
          have i1 : (0 : Int) ≤ (k : Int) := by omega
          have i2 : (k : Int) < (l.length : Int) := by omega
          have hmem : l.getD k (0, []) ∈ l := by rw [getD_get hlt]; exact List.getElem_mem _
          have hsn := HN.out _ hmem
          obtain ⟨hk1, hk4⟩ := HKD.out _ hmem
          have p0 := (K3.out.trans KK.out).cell_some p0w (fun x => x)
          have P1 : Hid (∀ u, Kept Nothing W3 u → u.cell? ⟨b, o + k * 2 + 1, none⟩ = some (.slice Au (l.getD k (0, [])).2.length cu)) := Lib.hid (fun u hu => (K3.out.trans hu).cell_some p1w (fun x => x))
          have PM : Hid (0 < k → u0.cell? ⟨b, o + (k - 1) * 2, none⟩ = some (.int .i64 ((l.getD (k - 1) (0, [])).1.toNat : Int))) := Lib.hid (fun hk0 => by
            obtain ⟨b', o', _, _, e, h1, _⟩ := HV.out.at2 (i := k - 1) (by omega)
            injection e with e
            injection e with e1 e2
            subst e1 e2
            exact (K3.out.trans KK.out).cell_some h1 (fun x => x))
          have HAH : Hid (Pt.ahead l k = if k = 0 then [] else Pt.gap (l.getD (k - 1) (0, [])).1.toNat (l.getD k (0, [])).1.toNat) := Lib.hid rfl
          have HTX : Hid (Pt.tx l (k + 1) = Pt.tx l k ++ (Pt.ahead l k ++ (Pt.opens (l.getD k (0, [])).1.toNat ++ Lib.join ((l.getD k (0, [])).2.map Lib.decDigits) (Pt.betw (l.getD k (0, [])).1.toNat) ++ Pt.ends (l.getD k (0, [])).1.toNat))) := Lib.hid rfl
          have htl := HTL.out k hk
          have hahl : (Pt.ahead l k).length ≤ 3 := by unfold Pt.ahead Pt.gap; split <;> (try split) <;> simp
          have HAS := Lib.hid hpw
          clear p0w p1w hpw hmem
          generalize hsg : l.getD k (0, []) = sg at *
          obtain ⟨sk, sn⟩ := sg
          clear hsg
          simp only at p0 hsn hk1 hk4
          replace HAS : Hid (As w (.slice Au sn.length cu) sn) := HAS
          replace P1 : Hid (∀ u, Kept Nothing W3 u → u.cell? ⟨b, o + k * 2 + 1, none⟩ = some (.slice Au sn.length cu)) := P1
          replace HTX : Hid (Pt.tx l (k + 1) = Pt.tx l k ++ (Pt.ahead l k ++ (Pt.opens sk.toNat ++ Lib.join (sn.map Lib.decDigits) (Pt.betw sk.toNat) ++ Pt.ends sk.toNat))) := HTX
          replace HAH : Hid (Pt.ahead l k = if k = 0 then [] else Pt.gap (l.getD (k - 1) (0, [])).1.toNat sk.toNat) := HAH
          have HLEN := Lib.hid (fun j (hj : j ≤ sn.length) => Nat.le_trans (Pt.join_len sk.toNat (sn.take j) (fun n hn => HAS.out.1 n (List.mem_of_mem_take hn))) (by rw [List.length_take]; omega : 11 * (sn.take j).length ≤ 11 * j))
          have hol := Pt.opens_len sk.toNat
          have hbl := Pt.betw_len sk.toNat
          have hel := Pt.ends_len sk.toNat
          have a1 := add_run (Pt.tx l k) [32] (by omega) (by simp)
          have a2 := add_run (Pt.tx l k ++ [32]) [124, 32] (by simp; omega) (by simp)
          generalize (l.getD (k - 1) (0, [])).1.toNat = pk at *
          have hcase : (k = 0 ∧ Pt.ahead l k = []) ∨ (0 < k ∧ sk.toNat = 2 ∧ pk = 2 ∧ Pt.ahead l k = [32, 124, 32]) ∨ (0 < k ∧ sk.toNat = 2 ∧ pk ≠ 2 ∧ Pt.ahead l k = [32]) ∨ (0 < k ∧ sk.toNat ≠ 2 ∧ Pt.ahead l k = [32]) := by
            rw [HAH.out]
            by_cases h0 : k = 0
            · exact .inl ⟨h0, by rw [if_pos h0]⟩
            · rw [if_neg h0]
              unfold Pt.gap
              by_cases h2 : sk.toNat = 2
              · by_cases h3 : pk = 2
                · exact .inr (.inl ⟨by omega, h2, h3, if_pos ⟨h3, h2⟩⟩)
                · exact .inr (.inr (.inl ⟨by omega, h2, h3, if_neg (fun x => h3 x.1)⟩))
              · exact .inr (.inr (.inr ⟨by omega, h2, if_neg (fun x => h2 x.2)⟩))
          rcases hcase with ⟨hk0, he⟩ | ⟨hk0, h2, h3, he⟩ | ⟨hk0, h2, h3, he⟩ | ⟨hk0, h2, he⟩
          case' inl =>
            have i3 : ¬ (0 : Int) < (k : Int) := by omega
            clear hk0
            obtain ⟨T, hX⟩ : ∃ T, T = Pt.tx l k := ⟨_, rfl⟩
            have HXT := Lib.hid hX
            have HE : Hid (Pt.tx l (k + 1) = T ++ (Pt.opens sk.toNat ++ Lib.join (sn.map Lib.decDigits) (Pt.betw sk.toNat) ++ Pt.ends sk.toNat)) := Lib.hid (by rw [HTX.out, he, hX]; simp)
            have hT : T.length ≤ 2810 * k + 3 := by rw [hX]; omega
            have hoc := (TT.out _ KK.out sk.toNat hk1 hk4).1
            have hsk0 : (0 : Int) ≤ (sk.toNat : Int) := by omega
            have hsk5 : (sk.toNat : Int) < 5 := by omega
            have a3 := add_run (Pt.tx l k) (Pt.opens sk.toNat) (by first | omega | (simp only [List.length_append, List.length_cons, List.length_nil]; omega)) (by omega)
            clear HTX HAH he htl hahl hX
            go_wp2_with fail
            clear hoc a3 a1 a2
          case' inr.inl =>
            have j2 : ((sk.toNat : Int) == 2) = true := by simp; omega
            have j3 : ((pk : Int) == 2) = true := by simp; omega
            have i3 : (0 : Int) < (k : Int) := by omega
            have i4 : (0 : Int) ≤ (k : Int) - 1 := by omega
            have i5 : (k : Int) - 1 < (l.length : Int) := by omega
            have e0 : IntKind.i64.wrap ((k : Int) - 1) = (k : Int) - 1 := by rw [IntKind.wrap_i64]; omega
            have pm := PM.out (by omega)
            have e1 : ((k : Int) - 1).toNat = k - 1 := by omega
            have i3d : decide ((0 : Int) < (k : Int)) = true := decide_eq_true i3
            clear h2 h3
            obtain ⟨T, hX⟩ : ∃ T, T = Pt.tx l k ++ [32] ++ [124, 32] := ⟨_, rfl⟩
            have HXT := Lib.hid hX
            have HE : Hid (Pt.tx l (k + 1) = T ++ (Pt.opens sk.toNat ++ Lib.join (sn.map Lib.decDigits) (Pt.betw sk.toNat) ++ Pt.ends sk.toNat)) := Lib.hid (by rw [HTX.out, he, hX]; simp)
            have hT : T.length ≤ 2810 * k + 3 := by rw [hX]; simp only [List.length_append, List.length_cons, List.length_nil]; omega
            have hoc := (TT.out _ KK.out sk.toNat hk1 hk4).1
            have hsk0 : (0 : Int) ≤ (sk.toNat : Int) := by omega
            have hsk5 : (sk.toNat : Int) < 5 := by omega
            have a3 := add_run (Pt.tx l k ++ [32, 124, 32]) (Pt.opens sk.toNat) (by first | omega | (simp only [List.length_append, List.length_cons, List.length_nil]; omega)) (by omega)
            clear HTX HAH he htl hahl hX
            go_wp2_with fail
            clear hoc a3 a1 a2
          case' inr.inr.inl =>
            have j2 : ((sk.toNat : Int) == 2) = true := by simp; omega
            have j3 : ((pk : Int) == 2) = false := by simp; omega
            have i3 : (0 : Int) < (k : Int) := by omega
            have i4 : (0 : Int) ≤ (k : Int) - 1 := by omega
            have i5 : (k : Int) - 1 < (l.length : Int) := by omega
            have e0 : IntKind.i64.wrap ((k : Int) - 1) = (k : Int) - 1 := by rw [IntKind.wrap_i64]; omega
            have pm := PM.out (by omega)
            have e1 : ((k : Int) - 1).toNat = k - 1 := by omega
            have i3d : decide ((0 : Int) < (k : Int)) = true := decide_eq_true i3
            clear h2 h3
            obtain ⟨T, hX⟩ : ∃ T, T = Pt.tx l k ++ [32] := ⟨_, rfl⟩
            have HXT := Lib.hid hX
            have HE : Hid (Pt.tx l (k + 1) = T ++ (Pt.opens sk.toNat ++ Lib.join (sn.map Lib.decDigits) (Pt.betw sk.toNat) ++ Pt.ends sk.toNat)) := Lib.hid (by rw [HTX.out, he, hX]; simp)
            have hT : T.length ≤ 2810 * k + 3 := by rw [hX]; simp only [List.length_append, List.length_cons, List.length_nil]; omega
            have hoc := (TT.out _ KK.out sk.toNat hk1 hk4).1
            have hsk0 : (0 : Int) ≤ (sk.toNat : Int) := by omega
            have hsk5 : (sk.toNat : Int) < 5 := by omega
            have a3 := add_run (Pt.tx l k ++ [32]) (Pt.opens sk.toNat) (by first | omega | (simp only [List.length_append, List.length_cons, List.length_nil]; omega)) (by omega)
            clear HTX HAH he htl hahl hX
            go_wp2_with fail
            clear hoc a3 a1 a2
          case' inr.inr.inr =>
            have j2 : ((sk.toNat : Int) == 2) = false := by simp; omega
            have i3 : (0 : Int) < (k : Int) := by omega
            have i4 : (0 : Int) ≤ (k : Int) - 1 := by omega
            have i5 : (k : Int) - 1 < (l.length : Int) := by omega
            have e0 : IntKind.i64.wrap ((k : Int) - 1) = (k : Int) - 1 := by rw [IntKind.wrap_i64]; omega
            have pm := PM.out (by omega)
            have e1 : ((k : Int) - 1).toNat = k - 1 := by omega
            have i3d : decide ((0 : Int) < (k : Int)) = true := decide_eq_true i3
            clear h2
            obtain ⟨T, hX⟩ : ∃ T, T = Pt.tx l k ++ [32] := ⟨_, rfl⟩
            have HXT := Lib.hid hX
            have HE : Hid (Pt.tx l (k + 1) = T ++ (Pt.opens sk.toNat ++ Lib.join (sn.map Lib.decDigits) (Pt.betw sk.toNat) ++ Pt.ends sk.toNat)) := Lib.hid (by rw [HTX.out, he, hX]; simp)
            have hT : T.length ≤ 2810 * k + 3 := by rw [hX]; simp only [List.length_append, List.length_cons, List.length_nil]; omega
            have hoc := (TT.out _ KK.out sk.toNat hk1 hk4).1
            have hsk0 : (0 : Int) ≤ (sk.toNat : Int) := by omega
            have hsk5 : (sk.toNat : Int) < 5 := by omega
            have a3 := add_run (Pt.tx l k ++ [32]) (Pt.opens sk.toNat) (by first | omega | (simp only [List.length_append, List.length_cons, List.length_nil]; omega)) (by omega)
            clear HTX HAH he htl hahl hX
            go_wp2_with fail
            clear hoc a3 a1 a2
          all_goals
            go_loopw [6, 9] (fun q i wr => ∃ j : Nat, i = .int .i64 (j : Int) ∧ j ≤ sn.length ∧ q = .string ⟨(T ++ (Pt.opens sk.toNat ++ Lib.join ((sn.take j).map Lib.decDigits) (Pt.betw sk.toNat))).toArray⟩ ∧ Hid (Kept Nothing W3 wr)) (fun _ i _ => sn.length - (intOf i).toNat)
            case atStart => exact ⟨0, rfl, Nat.zero_le _, by rw [List.take_zero, List.map_nil, Lib.join_nil, List.append_nil, HXT.out]; try simp, KK⟩
            case round =>
              obtain ⟨j, rfl, hjl, rfl, KJ⟩ := hrel
              have q1 := P1.out _ KJ.out
              obtain ⟨-, hec, hbc⟩ := TT.out _ KJ.out sk.toNat hk1 hk4
              have hll := HLEN.out j hjl
              by_cases hjt : j < sn.length
              · obtain ⟨b3, o3, rfl, hc3⟩ := (HAS.out.old (K3.out.trans KJ.out)).at (by omega)
                have x0 := hc3 j hjt
                have j1 : (0 : Int) ≤ (j : Int) := by omega
                have j2 : (j : Int) < (sn.length : Int) := by omega
                have hx : sn.getD j 0 < 4294967296 := HAS.out.1 _ (by rw [getD_get hjt]; exact List.getElem_mem _)
                have EJ := Lib.hid (join_at (Pt.betw sk.toNat) sn j hjt)
                have HTX2 := Lib.hid (fun u (_ : Kept Nothing W3 u) => rtext_any (sn.getD j 0) hx u)
                have hdl := dec_len32 _ hx
                clear hc3
                generalize Lib.decDigits (sn.getD j 0) = dg at *
                generalize sn.getD j 0 = xn at *
                generalize Lib.join ((sn.take j).map Lib.decDigits) (Pt.betw sk.toNat) = jn at *
                by_cases hj0 : j = 0
                · have i3 : ¬ (0 : Int) < (j : Int) := by omega
                  have EE : Hid (Lib.join ((sn.take (j + 1)).map Lib.decDigits) (Pt.betw sk.toNat) = jn ++ dg) := Lib.hid (by rw [EJ.out, if_neg (by omega), List.append_nil])
                  have a4 := add_run (T ++ (Pt.opens sk.toNat ++ jn)) dg (by simp only [List.length_append]; omega) (by omega)
                  clear EJ hj0
                  go_wp2_with (go_at_call 56; refine (HTX2.out _ KJ.out).mono ?_; rintro e w5 ⟨rfl, k5⟩)
                  go_roundw
                  case rel => exact ⟨j + 1, by go_num, by omega, by rw [EE.out]; try simp only [List.append_assoc], Lib.hid (KJ.out.trans k5)⟩
                  case measure => simp [intOf]; omega
                · have i3 : (0 : Int) < (j : Int) := by omega
                  have EE : Hid (Lib.join ((sn.take (j + 1)).map Lib.decDigits) (Pt.betw sk.toNat) = jn ++ Pt.betw sk.toNat ++ dg) := Lib.hid (by rw [EJ.out, if_pos (by omega)])
                  have a5 := add_run (T ++ (Pt.opens sk.toNat ++ jn)) (Pt.betw sk.toNat) (by simp only [List.length_append]; omega) (by omega)
                  have a4 := add_run (T ++ (Pt.opens sk.toNat ++ (jn ++ Pt.betw sk.toNat))) dg (by simp only [List.length_append]; omega) (by omega)
                  clear EJ hj0
                  go_wp2_with (go_at_call 56; refine (HTX2.out _ KJ.out).mono ?_; rintro e w5 ⟨rfl, k5⟩)
                  go_roundw
                  case rel => exact ⟨j + 1, by go_num, by omega, by rw [EE.out]; try simp only [List.append_assoc], Lib.hid (KJ.out.trans k5)⟩
                  case measure => simp [intOf]; omega
              · obtain rfl : j = sn.length := by omega
                rw [List.take_of_length_le (Nat.le_refl _)] at hll ⊢
                have a4 := add_run (T ++ (Pt.opens sk.toNat ++ Lib.join (sn.map Lib.decDigits) (Pt.betw sk.toNat))) (Pt.ends sk.toNat) (by simp only [List.length_append]; omega) (by omega)
                go_wp2_with fail
                go_roundw
                case rel => exact ⟨k + 1, by go_num, by omega, by rw [HE.out]; simp only [List.append_assoc], KJ⟩
                case measure => simp [intOf]; omega
        · obtain rfl : k = l.length := by omega
          go_wp2
          go_ret
          exact ⟨by rw [HT.out]; rfl, K3.out.trans KK.out⟩
end Go.Proofs.YtdeblmolgmadiaaGreatDoor
