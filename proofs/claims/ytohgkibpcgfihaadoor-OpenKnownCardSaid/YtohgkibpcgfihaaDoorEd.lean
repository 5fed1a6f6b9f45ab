
/-
  The chapter's rows (tells of the laws of chapter 6).
-/
import Derived.Test.YtohgkibpcgfihaaDoorEc
import Derived.Test.YtohgkibpcgfihaaDoorDd
namespace Go.Proofs.YtohgkibpcgfihaaDoor
open Go.RowKit

theorem ours_num (n : Nat) (h : n < 4294967296) : Cp.number (oursL n) = (n, true) := by
  have := RS.num_be4 n h []
  rwa [List.append_nil] at this
theorem tell1 : Opn.get [3, 0, 1, 0, 90, 10, 0, 0, 1, 0] = Opn.bad 1 := by unfold Opn.get; rw [if_neg (by decide), if_pos (by decide)]
theorem tell2 : Opn.sub ⟨4, 23456, 90, 1, []⟩ 23456 0 false = 2 := by decide

set_option maxRecDepth 20000 in
set_option maxHeartbeats 2000000 in
theorem op_tells (w : World) (hr : RdC w) :
    Calls Tryd.prog 13 #[] w fun e w' => e = .returned (.bool true) ∧ Kept Nothing w w' := by
  have C1 := op_ours 70000 90 167772161 (by decide) w hr
  rw [show shortN 70000 = 23456 by decide] at C1
  have C1' : Calls Tryd.prog 21 #[.int .u32 70000, .int .u16 90, .int .u32 167772161] w fun e w' => ∃ rv, e = .returned (.agg #[.int .u8 4, .int .u16 23456, .int .u16 90, .int .u32 167772161, rv]) ∧ CpsO (fun k => k < w.heap.size) w' rv (oursL 70000) ∧ Kept Nothing w w' := C1
  have H1 := Lib.hid C1'
  have HR := Lib.hid hr
  clear C1 C1' hr
  go_enter Tryd.func13, Tryd.ntmps13
  go_wp2_with fail
  refine H1.out.mono ?_
  rintro e w1 ⟨rv, rfl, hc, hk⟩
  have hc' := hc.cps
  obtain ⟨A1, c1, rfl, _, _⟩ := hc'.form
  have K1 := Lib.hid (hk.alloc (.cells #[.int .u8 4, .int .u16 23456, .int .u16 90, .int .u32 167772161, .slice A1 (oursL 70000).length c1] 28))
  have P1 := Lib.hid (hc'.old ((Kept.refl Nothing w1).alloc (.cells #[.int .u8 4, .int .u16 23456, .int .u16 90, .int .u32 167772161, .slice A1 (oursL 70000).length c1] 28)))
  have F1 := Lib.hid (Blk.fresh w1 28 #[.int .u8 4, .int .u16 23456, .int .u16 90, .int .u32 167772161, .slice A1 (oursL 70000).length c1])
  clear hc hk hc' H1
  have C2 := op_number 4 90 167772161 23456 (by decide) _ _ _ P1.out (by decide)
  rw [ours_num 70000 (by decide), show Opn.own 23456 (70000, true) = (70000, true) by decide] at C2
  have C2' : Calls Tryd.prog 17 #[.agg #[.int .u8 4, .int .u16 23456, .int .u16 90, .int .u32 167772161, .slice A1 (oursL 70000).length c1]] (w1.alloc (.cells #[.int .u8 4, .int .u16 23456, .int .u16 90, .int .u32 167772161, .slice A1 (oursL 70000).length c1] 28)) fun e w' => e = .returned (.tuple #[.int .u32 70000, .bool true]) ∧ Kept Nothing (w1.alloc (.cells #[.int .u8 4, .int .u16 23456, .int .u16 90, .int .u32 167772161, .slice A1 (oursL 70000).length c1] 28)) w' := C2
  have H2 := Lib.hid C2'
  clear C2 C2'
  rw [show (oursL 70000).length = 3 from rfl] at *
  go_wp2_with fail
  refine H2.out.mono ?_
  rintro e w2 ⟨rfl, hk⟩
  have K2 := Lib.hid (K1.out.trans hk)
  have F2 := Lib.hid (F1.out.kept hk (fun x => x))
  clear hk K1 F1 H2 P1
  have C3 := op_get _ [3, 0, 1, 0, 90, 10, 0, 0, 1, 0] _ (Bs.made (l := [3, 0, 1, 0, 90, 10, 0, 0, 1, 0]) (Blk.fresh w2 5 #[.int .u8 3, .int .u8 0, .int .u8 1, .int .u8 0, .int .u8 90, .int .u8 10, .int .u8 0, .int .u8 0, .int .u8 1, .int .u8 0]) rfl (by simp [maxLen])).by (by decide)
  rw [tell1] at C3
  have C3' : Calls Tryd.prog 9 #[(.slice (some ⟨w2.heap.size, 0, none⟩) 10 10)] (w2.alloc (.cells #[.int .u8 3, .int .u8 0, .int .u8 1, .int .u8 0, .int .u8 90, .int .u8 10, .int .u8 0, .int .u8 0, .int .u8 1, .int .u8 0] 5)) fun e w' => ∃ rv d, e = .returned (.tuple #[.agg #[.int .u8 0, .int .u16 0, .int .u16 0, .int .u32 0, rv], .agg #[.int .u8 2, .int .u8 1], d]) ∧ Cps w' rv [] ∧ Bs w' d [0, 4] ∧ Kept Nothing (w2.alloc (.cells #[.int .u8 3, .int .u8 0, .int .u8 1, .int .u8 0, .int .u8 90, .int .u8 10, .int .u8 0, .int .u8 0, .int .u8 1, .int .u8 0] 5)) w' := C3
  have K2' := Lib.hid (K2.out.alloc (.cells #[.int .u8 3, .int .u8 0, .int .u8 1, .int .u8 0, .int .u8 90, .int .u8 10, .int .u8 0, .int .u8 0, .int .u8 1, .int .u8 0] 5))
  have F2' := Lib.hid (F2.out.alloc (.cells #[.int .u8 3, .int .u8 0, .int .u8 1, .int .u8 0, .int .u8 90, .int .u8 10, .int .u8 0, .int .u8 0, .int .u8 1, .int .u8 0] 5))
  have H3 := Lib.hid C3'
  clear C3 C3' K2 F2
  go_wp2_with fail
  refine H3.out.mono ?_
  rintro e w3 ⟨rv3, d3, rfl, hc, hb, hk⟩
  obtain ⟨A3, c3, rfl, _, _⟩ := hc.form
  obtain ⟨A4, c4, rfl, _, _⟩ := hb.form
  have K3 := Lib.hid (((K2'.out.trans hk).alloc (.cells #[.int .u8 0, .int .u16 0, .int .u16 0, .int .u32 0, .slice A3 0 c3] 28)).alloc (.cells #[.int .u8 2, .int .u8 1] 30))
  have F3 := Lib.hid (((F2'.out.kept hk (fun x => x)).alloc (.cells #[.int .u8 0, .int .u16 0, .int .u16 0, .int .u32 0, .slice A3 0 c3] 28)).alloc (.cells #[.int .u8 2, .int .u8 1] 30))
  have B3 := Lib.hid (hb.by.old (((Kept.refl Nothing w3).alloc (.cells #[.int .u8 0, .int .u16 0, .int .u16 0, .int .u32 0, .slice A3 0 c3] 28)).alloc (.cells #[.int .u8 2, .int .u8 1] 30)))
  have G3 := Lib.hid (Blk.fresh (w3.alloc (.cells #[.int .u8 0, .int .u16 0, .int .u16 0, .int .u32 0, .slice A3 0 c3] 28)) 30 #[.int .u8 2, .int .u8 1])
  rw [show (w3.alloc (.cells #[.int .u8 0, .int .u16 0, .int .u16 0, .int .u32 0, .slice A3 0 c3] 28)).heap.size = w3.heap.size + 1 by simp] at G3
  clear hc hb hk K2' F2' H3
  have C4 := op_check ⟨4, 23456, 90, 1, []⟩ ⟨by decide, by decide, by decide, by decide⟩ (.slice none 0 0) 23456 0 false ((w3.alloc (.cells #[.int .u8 0, .int .u16 0, .int .u16 0, .int .u32 0, .slice A3 0 c3] 28)).alloc (.cells #[.int .u8 2, .int .u8 1] 30)) (HR.out.kept K3.out) (Cps.nil _) (by decide)
  rw [tell2] at C4
  have C4' : Calls Tryd.prog 19 #[.agg #[.int .u8 4, .int .u16 23456, .int .u16 90, .int .u32 1, .slice none 0 0], .agg #[.int .u32 23456, .int .u32 0, .bool false]] ((w3.alloc (.cells #[.int .u8 0, .int .u16 0, .int .u16 0, .int .u32 0, .slice A3 0 c3] 28)).alloc (.cells #[.int .u8 2, .int .u8 1] 30)) fun e w' => ∃ d, e = .returned (.tuple #[.agg #[.int .u8 2, .int .u8 2], d]) ∧ By w' d [] ∧ Kept Nothing ((w3.alloc (.cells #[.int .u8 0, .int .u16 0, .int .u16 0, .int .u32 0, .slice A3 0 c3] 28)).alloc (.cells #[.int .u8 2, .int .u8 1] 30)) w' := C4
  have H4 := Lib.hid C4'
  clear C4 C4'
  go_wp2_with fail
  refine H4.out.mono ?_
  rintro e w4 ⟨d4, rfl, hb, hk⟩
  obtain ⟨A5, c5, rfl, _, _⟩ := hb.form
  have K4 := Lib.hid ((K3.out.trans hk).alloc (.cells #[.int .u8 2, .int .u8 2] 30))
  have f4 := F3.out.kept hk (fun x => x)
  have g4 := G3.out.kept hk (fun x => x)
  have hl1 := f4.lt
  have hl2 := g4.lt
  obtain ⟨⟨-, a1, -⟩, -⟩ := full5 f4
  obtain ⟨⟨d0, d1⟩, -⟩ := full2 g4
  have hcv2 : (convert 22 9 (.slice A4 2 c4)).run Tryd.prog (w4.alloc (.cells #[.int .u8 2, .int .u8 2] 30)) = .ok (.string ⟨#[0, 4]⟩) (w4.alloc (.cells #[.int .u8 2, .int .u8 2] 30)) := run_conv ((B3.out.old hk).old ((Kept.refl Nothing w4).alloc (.cells #[.int .u8 2, .int .u8 2] 30)))
  clear hb hk K3 F3 G3 H4 B3 f4 g4
  go_wp2
  go_ret
  exact ⟨rfl, K4.out⟩
end Go.Proofs.YtohgkibpcgfihaaDoor
