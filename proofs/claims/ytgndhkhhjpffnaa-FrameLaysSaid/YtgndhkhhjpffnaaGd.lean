
/-
  What a message's form is, as the document has it: Bytes where it lays.
-/
import Derived.Test.YtgndhkhhjpffnaaGc
namespace Go.Proofs.Ytgndhkhhjpffnaa
open Go.RowKit

/-- The bytes l are gathered in a row that is new since W. -/
def Gat (W : World) (l : List UInt8) (v : Value) (w : World) : Prop := w.ownsRow W.heap.size 5 1 v l.length (bys l) ∧ Kept Nothing W w
theorem Gat.grown {W w u w2 : World} {l l' : List UInt8} {v v' : Value} (h : Gat W l v w) (ku : Kept Nothing w u) (ho : w2.ownsRow W.heap.size 5 1 v' l'.length (bys l')) (hg : u.grownBy w2 v.ownBlock) : Gat W l' v' w2 := by
  refine ⟨ho, h.2.newly (F := fun k => v.ownBlock = some k) (Kept.grown (ku.mono (fun _ x => x.elim)) hg (fun k hk _ => hk)) (fun i hi => ?_)⟩
  exact (h.1.lt i hi).1

set_option maxRecDepth 100000 in
set_option maxHeartbeats 1600000 in
theorem r3_bytes_ok (m : Msg) (bv : Value) (W : World) (h : By W bv m.2) (hb : m.2.length ≤ 5000) (he : (Fr.bytes m).2 = 0) :
    Calls Try.prog 20 #[.agg #[.int .u8 (m.1.toNat : Int), bv]] W fun r w' => ∃ v', r = .returned (.tuple #[v', .int .i64 0]) ∧ Bs w' v' (Fr.bytes m).1 ∧ Kept Nothing W w' := by
  obtain ⟨hf, hl, hB⟩ := Fr.bytes_ok he
  rw [hB]
  have ht := Fr.fits_kind hf
  obtain ⟨A, c, rfl, hc, hm⟩ := h.form
  have KA := Lib.hid (fun o => (Kept.refl Nothing W).alloc o)
  have e19 : ((19 + m.2.length : Nat) : Int) = 19 + (m.2.length : Int) := by omega
  have HW := Lib.hid (fun w => r3_wrong m.1.toNat (19 + m.2.length) ht w)
  rw [e19, hf] at HW
  have g1 : ¬ ((m.1.toNat : Int) < 1) := by omega
  have g2 : ¬ ((m.1.toNat : Int) > 5) := by omega
  have g3 : ¬ ((19 + (m.2.length : Int)) > 4096) := by omega
  have HY := Lib.hid h
  obtain ⟨i1, hi, hz0, hz1, hz2⟩ := info_parts u8_info
  clear hB h e19 he ht hf
  go_enter Try.func20, Try.ntmps20
  go_wp2_with fail
  refine (HW.out _).mono ?_
  rintro e w' ⟨rfl, rfl⟩
  have HX := Lib.hid (Blk.fresh W _ #[.int .u8 (m.1.toNat : Int), .slice A m.2.length c] : Blk (W.alloc (.cells #[.int .u8 (m.1.toNat : Int), .slice A m.2.length c] 49)) _ _ _)
  have KW := Lib.hid (KA.out (.cells #[.int .u8 (m.1.toNat : Int), .slice A m.2.length c] 49))
  generalize hW1 : W.alloc (.cells #[.int .u8 (m.1.toNat : Int), .slice A m.2.length c] 49) = W1 at *
  go_wp2_with fail
  go_loopw [5, 6] (fun o i wr => ∃ j : Nat, i = .int .i64 (j : Int) ∧ j ≤ 16 ∧ Gat W1 (List.replicate j 255) o wr) (fun _ i _ => 16 - (intOf i).toNat)
  case atStart => exact ⟨0, rfl, by omega, World.ownsRow_nil _ _ _ _, Kept.refl _ _⟩
  case round =>
    obtain ⟨j, rfl, hj, hg⟩ := hrel
    have HG := Lib.hid hg
    by_cases hlt : j < 16
    · have hlI : (j : Int) < 16 := by omega
      have HN : Hid (j + 1 = (List.replicate (j + 1) (255 : UInt8)).length) := List.length_replicate.symm
      have HO := Lib.hid hg.1
      clear hg
      have HLn : Hid ((List.replicate j (255 : UInt8)).length + 1 ≤ maxLen ∧ ((List.replicate j (255 : UInt8)).length + 1) * 1 ≤ 140737488355328 ∧ W1.heap.size ≤ (wr.alloc (.cells #[.int .u8 255] 5)).heap.size) := ⟨by rw [List.length_replicate]; unfold maxLen; omega, by rw [List.length_replicate]; omega, by rw [World.size_alloc]; have := HG.out.2.size; omega⟩
      have HE : Hid (bys (List.replicate j 255) ++ [.int .u8 255] = bys (List.replicate (j + 1) 255)) := by show _ = _; rw [List.replicate_succ', bys_append]; rfl
      go_wp2_with (at_builtin; refine wpList_app _ rfl _ _ 25 rfl W1.heap.size 5 i1 (.int .u8 0) 1 1 Try.underlying25 hi hz0 hz1 hz2 rfl (by decide) u5 (List.replicate j (255 : UInt8)).length (bys (List.replicate j 255)) rfl (own_kept HO.out ((Kept.refl Nothing wr).alloc _) (fun _ _ x => x)) (some ⟨wr.heap.size, 0, none⟩) 1 1 [.int .u8 255] rfl (cells_src (cs := #[.int .u8 255]) (Blk.fresh wr 5 #[.int .u8 255]) rfl (by simp [Value.oneCell'])) HLn.out.1 HLn.out.2.1 HLn.out.2.2 ?_; intro v' w2 hown hgr _; (have HO2 := Lib.hid hown); (have HG2 := Lib.hid hgr); clear hown hgr)
      go_round
      case rel => exact ⟨j + 1, by go_num, by omega, HG.out.grown ((Kept.refl Nothing wr).alloc _) (by have h2 := HO2.out; rw [HE.out, List.length_replicate] at h2; rw [List.length_replicate]; exact h2) HG2.out⟩
      case measure => simp [intOf]; omega
    · obtain rfl : j = 16 := by omega
      have c0 : wr.cell? ⟨W.heap.size, 0, none⟩ = some (.int .u8 (m.1.toNat : Int)) := ((HX.out.kept hg.2 (fun y => y))).cell 0
      have c1 : ∀ u, Kept Nothing W1 u → u.cell? ⟨W.heap.size, 1, none⟩ = some (.slice A m.2.length c) := fun u ku => (HX.out.kept ku (fun y => y)).cell 1
      have C1 := Lib.hid c1
      have HO := Lib.hid hg.1
      have HB3 : Hid (bys [UInt8.ofNat ((19 + m.2.length) / 256), UInt8.ofNat (19 + m.2.length), m.1] = [.int .u8 ((19 + (m.2.length : Int)) / 256), .int .u8 ((19 + (m.2.length : Int)) % 256), .int .u8 (m.1.toNat : Int)]) := by
        show _ = _
        have q1 : (((UInt8.ofNat ((19 + m.2.length) / 256)).toNat : Nat) : Int) = (19 + (m.2.length : Int)) / 256 := by rw [UInt8.toNat_ofNat']; omega
        have q2 : (((UInt8.ofNat (19 + m.2.length)).toNat : Nat) : Int) = (19 + (m.2.length : Int)) % 256 := by rw [UInt8.toNat_ofNat']; omega
        unfold bys by8
        rw [List.map_cons, List.map_cons, List.map_cons, List.map_nil, q1, q2]
      have HO16 : Hid (wr.ownsRow W1.heap.size 5 1 u5 16 (bys (List.replicate 16 255))) := by
        have := HO.out
        rw [List.length_replicate] at this
        exact this
      have tok : True := trivial
      clear hg c1
      go_wp2_with (first
        | (at_builtin; have _t := tok; refine wpList_app _ rfl _ _ 25 rfl W1.heap.size 5 i1 (.int .u8 0) 1 1 Try.underlying25 hi hz0 hz1 hz2 rfl (by decide) u5 16 (bys (List.replicate 16 255)) rfl (own_kept HO16.out ((Kept.refl Nothing wr).alloc _) (fun _ _ x => x)) (some ⟨wr.heap.size, 0, none⟩) 3 3 [.int .u8 ((19 + (m.2.length : Int)) / 256), .int .u8 ((19 + (m.2.length : Int)) % 256), .int .u8 (m.1.toNat : Int)] rfl (cells_src (cs := #[.int .u8 ((19 + (m.2.length : Int)) / 256), .int .u8 ((19 + (m.2.length : Int)) % 256), .int .u8 (m.1.toNat : Int)]) (Blk.fresh wr 5 _) rfl (by simp [Value.oneCell'])) (by simp [maxLen]) (by omega) (by rw [World.size_alloc]; have := HG.out.2.size; omega) ?_; intro v1 w2 hown hgr _; (have G2 : Hid (Gat W1 (List.replicate 16 255 ++ [UInt8.ofNat ((19 + m.2.length) / 256), UInt8.ofNat (19 + m.2.length), m.1]) v1 w2) := HG.out.grown ((Kept.refl Nothing wr).alloc _) (by rw [bys_append, HB3.out]; exact hown) hgr); (have cc1 := C1.out _ G2.out.2); clear tok hown hgr)
        | (at_builtin; refine wpList_app _ rfl _ _ 25 rfl W1.heap.size 5 i1 (.int .u8 0) 1 1 Try.underlying25 hi hz0 hz1 hz2 rfl (by decide) v1 _ _ rfl G2.out.1 A m.2.length c (bys m.2) rfl ((HY.out.old (KW.out.trans G2.out.2)).src) (by simp [maxLen]; omega) (by simp; omega) G2.out.2.size ?_; intro v2 w3 hown hgr _; (have G3 : Hid (Gat W1 ((List.replicate 16 255 ++ [UInt8.ofNat ((19 + m.2.length) / 256), UInt8.ofNat (19 + m.2.length), m.1]) ++ m.2) v2 w3) := G2.out.grown (Kept.refl Nothing w2) (by rw [bys_append, List.length_append]; exact hown) hgr); clear hown hgr))
      go_ret2
      have e3 : (List.replicate 16 255 ++ [UInt8.ofNat ((19 + m.2.length) / 256), UInt8.ofNat (19 + m.2.length), m.1]) ++ m.2 = List.replicate 16 255 ++ ([UInt8.ofNat ((19 + m.2.length) / 256), UInt8.ofNat (19 + m.2.length)] ++ (m.1 :: m.2)) := by simp
      have G3 := G3.out
      rw [e3] at G3
      exact ⟨_, rfl, Bs.of_own G3.1, KW.out.trans G3.2⟩
end Go.Proofs.Ytgndhkhhjpffnaa
