
/-
  notice: a fault's text told (Text), and read (Parse).
-/
import Derived.Test.YtdhbfhjlholnlaaGreatDoorMa
import Derived.Test.YtdhbfhjlholnlaaGreatDoorNb
import Derived.Test.YtdhbfhjlholnlaaGreatDoorOw
import Derived.Laws.Rows
import Derived.Deep.RegionHeldLaw
import Derived.Laws.ResultCell
import Derived.Deep.DeepCutAuto
import Derived.Deep.CutBlock
namespace Go.Proofs.YtdhbfhjlholnlaaGreatDoor
open Go.RowKit Go.Sort

theorem digits_any (s : ByteArray) (hs : s.size ≤ 100000) (w : World) (hr : Rdy2 w) :
    Calls Tryz.prog 9 #[.string s] w fun e w' => e = .returned (.tuple #[.int .u64 ((num s.data.toList).getD 0 : Nat), .bool (num s.data.toList).isSome]) ∧ Kept Nothing w w' := by
  by_cases h10 : 10 < s.size
  · have hN := Lib.hid (num_short s (.inr h10))
    have hi : (10 : Int) < (s.size : Int) := by omega
    go_enter Tryz.func9, Tryz.ntmps9
    go_wp2
    go_ret2
    exact ⟨by rw [hN.out]; rfl, Kept.refl _ _⟩
  have hle : (s.size : Int) ≤ 10 := by omega
  have hparts : (∃ h : 1 < s.size, s[0].toNat = 48) ∨ s.size ≤ 1 ∨ (∃ h : 1 < s.size, s[0].toNat ≠ 48) := by
    by_cases h1 : 1 < s.size
    · by_cases h : s[0].toNat = 48
      · exact .inl ⟨h1, h⟩
      · exact .inr (.inr ⟨h1, h⟩)
    · exact .inr (.inl (by omega))
  rcases hparts with ⟨h1, hc⟩ | hparts
  · have hN := Lib.hid (num_nought s h1 hc)
    have hi : (1 : Int) < (s.size : Int) := by omega
    have hpos : 0 < s.size := by omega
    have hz : ((s[0].toNat : Int) == 48) = true := by simp [hc]
    clear hc
    go_enter Tryz.func9, Tryz.ntmps9
    go_wp2
    go_ret2
    exact ⟨by rw [hN.out]; rfl, Kept.refl _ _⟩
  have hP := pub_num s.data.toList (by simpa using (by omega : s.size ≤ 10)) (fun ⟨h1, h2⟩ => by
    have h1 : 1 < s.size := by simpa using h1
    rcases hparts with h | ⟨_, h⟩
    · omega
    · have h3 : s.data.toList.getD 0 0 = s[0] := by rw [List.getD_eq_getElem?_getD, List.getElem?_eq_getElem (by simpa using (by omega : 0 < s.size))]; rfl
      rw [h3] at h2
      exact h (by rw [h2]; rfl))
  have HC : Hid (Calls Tryz.prog 15 #[.string s, .int .i64 10, .int .i64 64] w fun e w' => (∃ u : Value, e = .returned (.tuple #[.int .u64 ((num s.data.toList).getD 0 : Nat), u]) ∧ ((num s.data.toList).isSome = true ∧ u = .nilIface ∨ (num s.data.toList).isSome = false ∧ ∃ p, u = .iface 108 p)) ∧ Kept Nothing w w') := by
    obtain ⟨hr1, tp, p, hr2⟩ := hr
    cases hn : num s.data.toList with
    | some v =>
      rw [hn] at hP
      exact Lib.hid ((Tryz.strconv_ParseUint_10_at64_ok s (by omega) v hP w).mono fun e w' ⟨he, hw⟩ => ⟨⟨_, he, .inl ⟨rfl, rfl⟩⟩, pu_kept hw⟩)
    | none =>
      rw [hn] at hP
      exact Lib.hid ((Tryz.strconv_ParseUint_10_at64_syntax s (by omega) hP _ w hr2 (.inr ⟨_, _, rfl⟩)).mono fun e w' ⟨N, he, _, _, hb⟩ => ⟨⟨_, he, .inr ⟨rfl, _, rfl⟩⟩, grows hb⟩)
  clear hP hr
  generalize (num s.data.toList).isSome = ok at HC ⊢
  generalize (num s.data.toList).getD 0 = v at HC ⊢
  rcases hparts with h1 | ⟨h1, hc⟩
  · have hi : (s.size : Int) ≤ 1 := by omega
    go_enter Tryz.func9, Tryz.ntmps9
    go_wp2_with (go_at_call 15; refine (HC.out).mono ?_; rintro e w1 ⟨⟨u, rfl, hu⟩, hk⟩)
    rcases hu with ⟨rfl, rfl⟩ | ⟨rfl, p, rfl⟩
    all_goals
      go_quiet (fail)
      go_wp2
      go_ret2
      exact ⟨rfl, hk.drewN _⟩
  · have hi : (1 : Int) < (s.size : Int) := by omega
    have hpos : 0 < s.size := by omega
    have hz : ((s[0].toNat : Int) == 48) = false := by simp; omega
    clear hc
    go_enter Tryz.func9, Tryz.ntmps9
    go_wp2_with (go_at_call 15; refine (HC.out).mono ?_; rintro e w1 ⟨⟨u, rfl, hu⟩, hk⟩)
    rcases hu with ⟨rfl, rfl⟩ | ⟨rfl, p, rfl⟩
    all_goals
      go_quiet (fail)
      go_wp2
      go_ret2
      exact ⟨rfl, hk.drewN _⟩

/-- The table of names. -/
def nmc : Array Value := #[.string ⟨(Nt.name 0).toArray⟩, .string ⟨(Nt.name 1).toArray⟩, .string ⟨(Nt.name 2).toArray⟩, .string ⟨(Nt.name 3).toArray⟩, .string ⟨(Nt.name 4).toArray⟩, .string ⟨(Nt.name 5).toArray⟩]
def Nms (w : World) : Prop := ∃ t fr, w.heap[0]? = some (.cells nmc t fr)
theorem Nms.kept {w w' : World} (h : Nms w) (k : Kept Nothing w w') : Nms w' := by
  obtain ⟨t, fr, h⟩ := h
  exact ⟨t, fr, (k.block _ (Array.getElem?_eq_some_iff.1 h).1 (fun x => x)).trans h⟩
theorem Nms.cell {w : World} (h : Nms w) (i : Nat) : w.cell? ⟨0, i, none⟩ = nmc[i]? := by
  obtain ⟨t, fr, h⟩ := h
  exact cell_of_row w _ i _ t fr h
theorem code_len (c : Nat) (hc : c < 256) : (Nt.codeText c).length ≤ 20 := by
  unfold Nt.codeText
  split
  · unfold Nt.name
    split <;> decide
  · have := dec_len32 c (by omega)
    omega
theorem codeText_any (c : Nat) (hc : c < 256) (w : World) (hr : Rdy2 w) (hn : Nms w) :
    Calls Tryz.prog 10 #[.int .u8 (c : Int)] w fun e w' => e = .returned (.string ⟨(Nt.codeText c).toArray⟩) ∧ Kept Nothing w w' := by
  by_cases h : 1 ≤ c ∧ c ≤ 6
  · have c0 : w.cell? ⟨0, 0, none⟩ = _ := hn.cell 0
    have c1 : w.cell? ⟨0, 1, none⟩ = _ := hn.cell 1
    have c2 : w.cell? ⟨0, 2, none⟩ = _ := hn.cell 2
    have c3 : w.cell? ⟨0, 3, none⟩ = _ := hn.cell 3
    have c4 : w.cell? ⟨0, 4, none⟩ = _ := hn.cell 4
    have c5 : w.cell? ⟨0, 5, none⟩ = _ := hn.cell 5
    simp [nmc] at c0 c1 c2 c3 c4 c5
    clear hr hn
    obtain rfl | rfl | rfl | rfl | rfl | rfl : c = 1 ∨ c = 2 ∨ c = 3 ∨ c = 4 ∨ c = 5 ∨ c = 6 := by omega
    all_goals
      clear hc h
      go_enter Tryz.func10, Tryz.ntmps10
      go_wp2
      go_ret
      exact ⟨rfl, Kept.refl _ _⟩
  · have hS := Lib.hid (show Nt.codeText c = Lib.decDigits c from if_neg h)
    have hI := Lib.hid (itoa_any c (by omega) w hr.1)
    have hw : (c : Int) < 1 ∨ 1 ≤ (c : Int) ∧ 6 < (c : Int) := by omega
    clear h hn hr
    rcases hw with hw | ⟨hw, hw2⟩
    all_goals
      go_enter Tryz.func10, Tryz.ntmps10
      go_wp2_with (go_at_call 11; refine (hI.out).mono ?_; rintro e w1 ⟨rfl, hk⟩)
      go_ret
      exact ⟨by rw [hS.out]; rfl, hk⟩
set_option maxRecDepth 100000 in
theorem ntext_any (c s : Nat) (hc : c < 256) (hs : s < 256) (w : World) (hr : Rdy2 w) (hn : Nms w) :
    Calls Tryz.prog 5 #[.agg #[.int .u8 (c : Int), .int .u8 (s : Int)]] w fun e w' => e = .returned (.string ⟨(Nt.text c s).toArray⟩) ∧ Kept Nothing w w' := by
  have hS := Lib.hid (show Nt.text c s = Nt.codeText c ++ 47 :: Lib.decDigits s from rfl)
  have HC := Lib.hid (fun u (k : Kept Nothing w u) => codeText_any c hc u (hr.kept k) (hn.kept k))
  have HI := Lib.hid (fun u (k : Kept Nothing w u) => itoa_any s (by omega) u (hr.1.kept k))
  have hws : IntKind.i64.wrap (s : Int) = (s : Int) := by rw [IntKind.wrap_i64]; omega
  have hl := code_len c hc
  have hl2 := dec_len32 s (by omega)
  have s1 := fun u => add_run (Nt.codeText c) [47] (by omega) (by simp) u
  have s2 := fun u => add_run (Nt.codeText c ++ [47]) (Lib.decDigits s) (by simp; omega) (by omega) u
  have B0 : ∀ u, Kept Nothing (w.alloc (.cells #[.int .u8 (c : Int), .int .u8 (s : Int)] 23)) u → u.cell? ⟨w.heap.size, 0, none⟩ = some (.int .u8 (c : Int)) ∧ u.cell? ⟨w.heap.size, 1, none⟩ = some (.int .u8 (s : Int)) := fun u k =>
    ⟨((Blk.fresh w 23 #[.int .u8 (c : Int), .int .u8 (s : Int)]).kept k (fun x => x)).cell 0, ((Blk.fresh w 23 #[.int .u8 (c : Int), .int .u8 (s : Int)]).kept k (fun x => x)).cell 1⟩
  have K0 := Lib.hid ((Kept.refl Nothing w).alloc (.cells #[.int .u8 (c : Int), .int .u8 (s : Int)] 23))
  have HB := Lib.hid B0
  clear hr hn hl hl2 B0
  go_enter Tryz.func5, Tryz.ntmps5
  go_wp2
  go_region_held_law (fun u => u.cell? ⟨w.heap.size, 0, none⟩ = some (.int .u8 (c : Int)) ∧ u.cell? ⟨w.heap.size, 1, none⟩ = some (.int .u8 (s : Int))) (first | exact HB.out _ (K2.out) | exact HB.out _ (K1.out) | exact HB.out _ (by exact (Kept.refl _ _).drew))
    (first
      | (go_simp; go_at_call 10; refine (HC.out _ (by exact K0.out.drew)).mono ?_; rintro e w1 ⟨rfl, hk1⟩; (have K1 := Lib.hid (((Kept.refl Nothing _).drew).trans hk1)); clear hk1)
      | (go_simp; go_at_call 11; refine (HI.out _ (by exact K0.out.trans K1.out)).mono ?_; rintro e w2 ⟨rfl, hk2⟩; (have K2 := Lib.hid (K1.out.trans hk2)); clear hk2))
  all_goals
    go_wp2
    go_ret
    exact ⟨by rw [hS.out, show Nt.codeText c ++ 47 :: Lib.decDigits s = Nt.codeText c ++ [47] ++ Lib.decDigits s by simp]; rfl, K0.out.trans K2.out⟩

set_option maxRecDepth 100000 in
set_option maxHeartbeats 2000000 in
theorem pcode_any (l : List UInt8) (hl : l.length ≤ 100000) (w : World) (hr : Rdy2 w) (hn : Nms w) :
    Calls Tryz.prog 8 #[.string ⟨l.toArray⟩] w fun e w' => e = .returned (.tuple #[.int .u64 ((Nt.pcode l).getD 0 : Nat), .bool (Nt.pcode l).isSome]) ∧ Kept Nothing w w' := by
  have HD := Lib.hid (fun u (k : Kept Nothing w u) => digits_any ⟨l.toArray⟩ (by show l.toArray.size ≤ _; simpa using hl) u (hr.kept k))
  have HP : Hid (Nt.pcode l = Nt.codeFrom l 6 0) := Lib.hid rfl
  generalize Nt.pcode l = R at HP ⊢
  obtain ⟨tt, fr, hg⟩ := hn
  go_enter Tryz.func8, Tryz.ntmps8
  go_wp2_with (refine wpList_load_row rfl 69 _ rfl 0 rfl tt _ fr _ hg Tryz.underlying69 rfl (by kernel_rfl) ?_)
  clear hg hr
  go_loopw [7] (fun i wr => ∃ k : Nat, k ≤ 6 ∧ i = .int .i64 (k : Int) ∧ Hid (R = Nt.codeFrom l (6 - k) k) ∧ Hid (Kept Nothing w wr)) (fun i _ => 6 - (intOf i).toNat)
  case atStart => exact ⟨0, by omega, rfl, HP, Lib.hid (Kept.refl _ w)⟩
  case round =>
    clear HP
    obtain ⟨k, hk, rfl, HF, hkw⟩ := hrel
    by_cases h6 : k < 6
    · have hi : (k : Int) < 6 := by omega
      have hx : ∀ u, (Instr.index 69 (.agg nmc) (.int .i64 (k : Int))).run Tryz.prog u = .ok (.string ⟨(Nt.name k).toArray⟩) u := by
        intro u
        obtain rfl | rfl | rfl | rfl | rfl | rfl : k = 0 ∨ k = 1 ∨ k = 2 ∨ k = 3 ∨ k = 4 ∨ k = 5 := by omega
        all_goals rfl
      have HF2 : Hid (R = if l = Nt.name k then some (k + 1) else Nt.codeFrom l (6 - (k + 1)) (k + 1)) := Lib.hid (by
        rw [HF.out, show 6 - k = (6 - (k + 1)) + 1 by omega]
        rfl)
      clear HF
      generalize Nt.name k = m at hx HF2
      by_cases he : l = m
      · subst he
        rw [if_pos rfl] at HF2
        have hR := HF2.out
        subst hR
        have hw1 : IntKind.u64.wrap (k : Int) = (k : Int) := by rw [show IntKind.u64.wrap (k : Int) = (k : Int) % 18446744073709551616 by simp [IntKind.wrap, IntKind.bits, IntKind.signed]]; omega
        have hbe : (l == l) = true := beq_self_eq_true l
        go_wp2
        go_ret2
        exact ⟨rfl, hkw.out⟩
      · rw [if_neg he] at HF2
        have hbe : (l == m) = false := by simpa using he
        clear he
        go_wp2
        go_roundw
        case rel => exact ⟨k + 1, by omega, by go_num, HF2, hkw⟩
        case measure => simp [intOf]; omega
    · obtain rfl : k = 6 := by omega
      have hR : R = num l := HF.out
      subst hR
      have HD2 := Lib.hid (HD.out _ hkw.out)
      clear HD
      go_wp2_with (go_at_call 9; refine (HD2.out).mono ?_; rintro e w1 ⟨rfl, hk1⟩)
      go_ret2
      exact ⟨rfl, hkw.out.trans hk1⟩

set_option maxRecDepth 100000 in
theorem nparse_any (l : List UInt8) (hl : l.length ≤ 100000) (w : World) (hr : Rdy2 w) (hn : Nms w) :
    Calls Tryz.prog 4 #[.string ⟨l.toArray⟩] w fun e w' => e = .returned (.tuple #[.agg #[.int .u8 ((Nt.parse l).1 : Int), .int .u8 ((Nt.parse l).2.1 : Int)], .int .i64 ((Nt.parse l).2.2 : Int)]) ∧ Kept Nothing w w' := by
  have ⟨hl1, hl2⟩ := cut_len 47 l
  have HC := Lib.hid (fun u => cut_any 47 l hl u)
  have HP := Lib.hid (fun u (k : Kept Nothing w u) => pcode_any (cutAt 47 l).1 (by omega) u (hr.kept k) (hn.kept k))
  have HD := Lib.hid (fun u (k : Kept Nothing w u) => digits_any ⟨(cutAt 47 l).2.toArray⟩ (by show (cutAt 47 l).2.toArray.size ≤ _; simp; omega) u (hr.kept k))
  have HR : Hid (Nt.parse l = match Nt.pcode (cutAt 47 l).1, num (cutAt 47 l).2 with
    | some a, some b => if 255 < a ∨ 255 < b then (0, 0, 24) else (a, b, 0)
    | _, _ => (0, 0, 5)) := Lib.hid rfl
  simp only [] at HD
  generalize Nt.parse l = R at HR ⊢
  generalize cutB 47 l = cb at HC
  generalize cutAt 47 l = P at *
  obtain ⟨x, y⟩ := P
  simp only at HP HD HR HC
  generalize Nt.pcode x = a at HP HR
  generalize num y = b at HD HR
  have K0 := Lib.hid ((Kept.refl Nothing w).alloc (.cells #[.int .u8 0, .int .u8 0] 23))
  have Z0 := Lib.hid (Blk.fresh w 23 #[.int .u8 0, .int .u8 0])
  clear hl hl1 hl2 hr hn
  go_enter Tryz.func4, Tryz.ntmps4
  go_upto_region 4 with (first
    | (go_at_call 7; refine (HC.out _).mono ?_; rintro e w1 ⟨rfl, hk1⟩; (have K1 := Lib.hid (K0.out.trans hk1)); (have Z1 := Lib.hid (Z0.out.kept hk1 (fun x => x))); clear hk1)
    | (go_at_call 8; refine (HP.out _ (by exact K1.out)).mono ?_; rintro e w2 ⟨rfl, hk2⟩; (have K2 := Lib.hid (K1.out.trans hk2)); (have Z2 := Lib.hid (Z1.out.kept hk2 (fun x => x))); clear hk2)
    | (go_at_call 9; refine (HD.out _ (by exact K2.out)).mono ?_; rintro e w3 ⟨rfl, hk3⟩; (have K3 := Lib.hid (K2.out.trans hk3)); (have Z3 := Lib.hid (Z2.out.kept hk3 (fun x => x))); clear hk3))
  clear HC HP HD K0 K1 K2 Z0 Z1 Z2
  have fin : ∀ (x y e : Nat), Hid (∀ (tm : Array Value), tm.getD 2 undef = .pointer (some ⟨w.heap.size, 0, none⟩) → tm.getD 3 undef = .int .i64 (e : Int) → (results Tryz.f4 tm).run Tryz.prog (w3.setRow w.heap.size #[.int .u8 (x : Int), .int .u8 (y : Int)]) = .ok (.tuple #[.agg #[.int .u8 (x : Int), .int .u8 (y : Int)], .int .i64 (e : Int)]) (w3.setRow w.heap.size #[.int .u8 (x : Int), .int .u8 (y : Int)])) := fun x y e => Lib.hid (fun tm h2 h3 => by
    have hB : Blk (w3.setRow w.heap.size #[.int .u8 (x : Int), .int .u8 (y : Int)]) w.heap.size 23 #[.int .u8 (x : Int), .int .u8 (y : Int)] := setRow_heap w3 _ _ _ _ _ Z3.out
    have hL := run_loadVar_row (P := Tryz.prog) (w3.setRow w.heap.size #[.int .u8 (x : Int), .int .u8 (y : Int)]) w.heap.size 23 23 _ (0, 0) _ hB Tryz.underlying23 rfl (by kernel_rfl)
    rw [results_cell_tmp rfl, h2, h3]
    simp only [asAddr, Sem.run_pure, Result.andThen_ok, hL])
  have KF : ∀ (cs : Array Value), Kept Nothing w (w3.setRow w.heap.size cs) := fun cs => K3.out.trans_new (Kept.setRow _ _) (fun i hi (e : i = w.heap.size) => by omega)
  have HF := Lib.hid KF
  clear KF
  have b1 : Tryz.prog.info? 23 = Tryz.prog.info? 23 := rfl
  clear b1
  cases a with
  | none =>
    obtain rfl := HR.out
    go_wp2_with (refine wpList_store_row rfl 23 _ _ rfl w.heap.size #[.int .u8 0, .int .u8 0] rfl rfl 23 _ Z3.out (by kernel_rfl) rfl (by kernel_rfl) ?_)
    refine bodyPost_ret ((fin 0 0 5).out _ rfl rfl) rfl ⟨rfl, HF.out _⟩
  | some a =>
    cases b with
    | none =>
      obtain rfl := HR.out
      go_wp2_with (refine wpList_store_row rfl 23 _ _ rfl w.heap.size #[.int .u8 0, .int .u8 0] rfl rfl 23 _ Z3.out (by kernel_rfl) rfl (by kernel_rfl) ?_)
      refine bodyPost_ret ((fin 0 0 5).out _ rfl rfl) rfl ⟨rfl, HF.out _⟩
    | some b =>
      simp only [Option.getD_some, Option.isSome_some]
      have hR := HR.out
      simp only at hR
      by_cases h : 255 < a ∨ 255 < b
      · rw [if_pos h] at hR
        subst hR
        have hw : (255 : Int) < (a : Int) ∨ (a : Int) ≤ 255 ∧ (255 : Int) < (b : Int) := by omega
        clear h
        rcases hw with hw | ⟨hw, hw2⟩
        · go_wp2_with (refine wpList_store_row rfl 23 _ _ rfl w.heap.size #[.int .u8 0, .int .u8 0] rfl rfl 23 _ Z3.out (by kernel_rfl) rfl (by kernel_rfl) ?_)
          refine bodyPost_ret ((fin 0 0 24).out _ rfl rfl) rfl ⟨rfl, HF.out _⟩
        · go_wp2_with (refine wpList_store_row rfl 23 _ _ rfl w.heap.size #[.int .u8 0, .int .u8 0] rfl rfl 23 _ Z3.out (by kernel_rfl) rfl (by kernel_rfl) ?_)
          refine bodyPost_ret ((fin 0 0 24).out _ rfl rfl) rfl ⟨rfl, HF.out _⟩
      · rw [if_neg h] at hR
        subst hR
        have hw : (a : Int) ≤ 255 := by omega
        have hw2 : (b : Int) ≤ 255 := by omega
        have hwa : IntKind.u8.wrap (a : Int) = (a : Int) := by rw [show IntKind.u8.wrap (a : Int) = (a : Int) % 256 by simp [IntKind.wrap, IntKind.bits, IntKind.signed]]; omega
        have hwb : IntKind.u8.wrap (b : Int) = (b : Int) := by rw [show IntKind.u8.wrap (b : Int) = (b : Int) % 256 by simp [IntKind.wrap, IntKind.bits, IntKind.signed]]; omega
        clear h
        go_wp2_with (refine wpList_store_row rfl 23 _ _ rfl w.heap.size #[.int .u8 (a : Int), .int .u8 (b : Int)] rfl rfl 23 _ Z3.out (by kernel_rfl) rfl (by kernel_rfl) ?_)
        refine bodyPost_ret ((fin a b 0).out _ rfl rfl) rfl ⟨rfl, HF.out _⟩
end Go.Proofs.YtdhbfhjlholnlaaGreatDoor
