
/-
  The law's Like: two OPENs that are the same are told the same.
-/
import Derived.Test.YtohgkibpcgfihaaDoorEg
import Derived.Test.YtohgkibpcgfihaaDoorWd
import Derived.BigQuiet
namespace Go.Proofs.YtohgkibpcgfihaaDoor
open Go.RowKit

set_option maxRecDepth 20000 in
set_option maxHeartbeats 4000000 in
theorem law_like (o : Opn) (v1 v2 : Value) (w : World) (h1 : Cps w v1 o.caps) (h2 : Cps w v2 o.caps) (hl : o.caps.length ≤ 1000000) :
    Calls Tryd.prog 11 #[.agg #[.int .i64 (o.ver : Int), .int .i64 (o.asn : Int), .int .i64 (o.hold : Int), .int .u32 (o.id : Int), v1], .agg #[.int .i64 (o.ver : Int), .int .i64 (o.asn : Int), .int .i64 (o.hold : Int), .int .u32 (o.id : Int), v2]] w fun e w' => e = .returned (.bool true) ∧ Kept Nothing w w' := by
  obtain ⟨A1, c1, rfl, hc1, hm1⟩ := h1.form
  obtain ⟨A2, c2, rfl, hc2, hm2⟩ := h2.form
  have kk := ((Kept.refl Nothing w).alloc (.cells #[.int .i64 (o.ver : Int), .int .i64 (o.asn : Int), .int .i64 (o.hold : Int), .int .u32 (o.id : Int), .slice A1 o.caps.length c1] 35)).alloc (.cells #[.int .i64 (o.ver : Int), .int .i64 (o.asn : Int), .int .i64 (o.hold : Int), .int .u32 (o.id : Int), .slice A2 o.caps.length c2] 35)
  have K0 := Lib.hid kk
  have H1 := Lib.hid (h1.old kk)
  have H2 := Lib.hid (h2.old kk)
  have B1 := Lib.hid ((Blk.fresh w 35 #[.int .i64 (o.ver : Int), .int .i64 (o.asn : Int), .int .i64 (o.hold : Int), .int .u32 (o.id : Int), .slice A1 o.caps.length c1]).alloc (.cells #[.int .i64 (o.ver : Int), .int .i64 (o.asn : Int), .int .i64 (o.hold : Int), .int .u32 (o.id : Int), .slice A2 o.caps.length c2] 35))
  have B2 := Blk.fresh (w.alloc (.cells #[.int .i64 (o.ver : Int), .int .i64 (o.asn : Int), .int .i64 (o.hold : Int), .int .u32 (o.id : Int), .slice A1 o.caps.length c1] 35)) 35 #[.int .i64 (o.ver : Int), .int .i64 (o.asn : Int), .int .i64 (o.hold : Int), .int .u32 (o.id : Int), .slice A2 o.caps.length c2]
  rw [World.size_alloc] at B2
  have B2 := Lib.hid B2
  clear h1 h2 kk
  go_enter Tryd.func11, Tryd.ntmps11
  go_wp2
  generalize ((w.alloc (.cells #[.int .i64 (o.ver : Int), .int .i64 (o.asn : Int), .int .i64 (o.hold : Int), .int .u32 (o.id : Int), .slice A1 o.caps.length c1] 35)).alloc (.cells #[.int .i64 (o.ver : Int), .int .i64 (o.asn : Int), .int .i64 (o.hold : Int), .int .u32 (o.id : Int), .slice A2 o.caps.length c2] 35)) = w2 at *
  go_loopw [5] (fun i wr => ∃ k : Nat, i = .int .i64 k ∧ k ≤ o.caps.length ∧ Kept Nothing w2 wr) (fun i _ => o.caps.length - (intOf i).toNat)
  case atStart => exact ⟨0, rfl, by omega, Kept.refl _ w2⟩
  case round =>
    obtain ⟨k, rfl, hk, hkw⟩ := hrel
    have KK := Lib.hid hkw
    have hb1 := B1.out.kept hkw (fun x => x)
    have hb2 := B2.out.kept hkw (fun x => x)
    obtain ⟨⟨a0, a1, a2, a3, a4⟩, -⟩ := full5 hb1
    obtain ⟨⟨d0, d1, d2, d3, d4⟩, -⟩ := full5 hb2
    have l1 := hb1.lt
    have l2 := hb2.lt
    clear hb1 hb2
    by_cases hlt : k < o.caps.length
    · obtain ⟨b1, o1, rfl, hcell1⟩ := H1.out.at (by omega)
      obtain ⟨b2, o2, rfl, hcell2⟩ := H2.out.at (by omega)
      obtain ⟨q0, u1, q1, qb1⟩ := hcell1 k hlt
      obtain ⟨r0, u2, r1, rb1⟩ := hcell2 k hlt
      have e0 := hkw.cell_some q0 (fun x => x)
      have e1 := hkw.cell_some q1 (fun x => x)
      have f0 := hkw.cell_some r0 (fun x => x)
      have f1 := hkw.cell_some r1 (fun x => x)
      obtain ⟨A3, c3, rfl, _, _⟩ := qb1.form
      obtain ⟨A4, c4, rfl, _, _⟩ := rb1.form
      have g1 := fun m => run_conv ((qb1.old hkw).old ((Kept.refl Nothing wr).drewN m))
      have g2 := fun m => run_conv ((rb1.old hkw).old ((Kept.refl Nothing wr).drewN m))
      have g10 := run_conv (qb1.old hkw)
      have g20 := run_conv (rb1.old hkw)
      unfold by8 at e0 f0
      generalize hP : o.caps[k] = P at *
      obtain ⟨kd, val⟩ := P
      simp only at e0 e1 f0 f1 g1 g2 g10 g20
      clear hcell1 hcell2 q0 q1 r0 r1 qb1 rb1 hkw hP
      go_wp2_with fail
      go_quiet (fail)
      go_wp2
      go_roundw
      case rel => exact ⟨k + 1, by go_num, by omega, KK.out.drewN _⟩
      case measure => simp [intOf]; omega
    · go_wp2
      go_ret
      exact ⟨rfl, K0.out.trans KK.out⟩
end Go.Proofs.YtohgkibpcgfihaaDoor
