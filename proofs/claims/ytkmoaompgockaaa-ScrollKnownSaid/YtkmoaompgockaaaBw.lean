
/-
  The last region of the law ScrollKnown: 78 operations in the text's order.
-/
import Derived.Test.YtkmoaompgockaaaBv
import Derived.Test.YtkmoaompgockaaaIx
namespace Go.Proofs.Ytkmoaompgockaaa
open Go.RowKit

/-- A region of a code, by its number. -/
def findR (id : Nat) : Code → Option Code
  | .region i o d => match Nat.beq i id with
    | true => some (.region i o d)
    | false => none
  | .seq a b => match findR id a with
    | some c => some c
    | none => findR id b
  | .cond _ a b => match findR id a with
    | some c => some c
    | none => findR id b
  | .block _ b => findR id b
  | .loop b => findR id b
  | .scope b => findR id b
  | .rangeFunc _ _ _ b => findR id b
  | _ => none

def kl (b6 o6 c6 : Nat) (v30 : Value) : List (Option Value) := [some (.int .i64 4), some (.bool true), some (.bool true), some (.int .i64 4), some (.bool true), some (.bool true), some (.bool true), some (.int .i64 4), some (.bool true), some (.bool true), some (.bool true), some (.int .i64 26), some (.bool true), some (.bool true), some (.bool true), some (.int .i64 26), some (.bool true), some (.bool true), some (.bool true), some (.int .i64 4), some (.bool true), some (.bool true), some (.bool true), some (.int .i64 0), some (.bool true), some (.bool true), some (.bool true), some (.int .i64 23), some (.bool true), some (.bool true), some (.bool true), some (.int .i64 1), some (.bool true), some (.bool true), some (.bool true), some (.int .i64 26), some (.bool true), some (.bool true), some (.bool true), some (.int .i64 26), some (.bool true), some (.bool true), some (.bool true), some (.int .i64 3), some (.bool true), some (.bool true), some (.bool true), some (.int .i64 0), some (.bool true), some (.bool true), some (.bool true), some (.slice (some ⟨b6, o6, none⟩) 256 c6), some (.int .i64 256), some (.bool true), some (.bool true), some (.bool true), some (.slice (some ⟨b6, o6, none⟩) 256 c6), some (.pointer (some ⟨b6, o6, none⟩)), some (.int .u8 255), some (.bool true), some (.bool true), some (.bool true), some (.int .i64 0), some (.bool true), some (.bool true), some (.bool true), some (v30), none, some (.bool true), some (.bool true), some (.bool true), some (.int .i64 3), some (.bool true), some (.bool true), some (.bool true), some (.bool true), some (.bool true), some (.bool true)]
def ks : Nat → Value → World → Prop
  | 67, v, w => By w v [0, 7, 4, 1, 2, 3, 4, 0, 5]
  | _, _, _ => True
theorem ks_stab (k : Nat) (v : Value) (w w' : World) (kk : Kept Nothing w w') (h : ks k v w) : ks k v w' := by
  unfold ks at h ⊢
  split at h
  all_goals first
    | exact h.old kk
    | trivial

theorem kl_guards (b6 o6 c6 : Nat) (v30 : Value) : ∀ x ∈ ([(2, true), (6, true), (10, true), (14, true), (18, true), (22, true), (26, true), (30, true), (34, true), (38, true), (42, true), (46, true), (50, true), (55, true), (61, true), (65, true), (70, true), (74, true)] : List (Nat × Bool)), (kl b6 o6 c6 v30)[x.1]? = some (some (.bool x.2)) := by
  repeat (first | refine List.forall_mem_cons.2 ⟨by rfl, ?_⟩ | exact List.forall_mem_nil _)

set_option maxRecDepth 20000 in
set_option maxHeartbeats 16000000 in
theorem kn_tail (b6 o6 c6 : Nat) (v30 : Value) (wc : World) (X6 : Hid (wc.cell? ⟨b6, o6, none⟩ = some (.int .u8 255))) (HV : Hid (Bs wc v30 [0, 7, 4, 1, 2, 3, 4, 0, 5])) (C : Code) (hC : (Try.f3.body).bind (findR 29) = some C)
    (AA : Act) (hsz : AA.tmps.size = 269) (hdf : AA.defers = []) (f10 : AA.tmps.getD 10 undef = .int .i64 4) (f11 : AA.tmps.getD 11 undef = .int .i64 4) (f12 : AA.tmps.getD 12 undef = .int .i64 4) (f13 : AA.tmps.getD 13 undef = .int .i64 26) (f14 : AA.tmps.getD 14 undef = .int .i64 26) (f15 : AA.tmps.getD 15 undef = .int .i64 4) (f16 : AA.tmps.getD 16 undef = .int .i64 0) (f17 : AA.tmps.getD 17 undef = .int .i64 23) (f19 : AA.tmps.getD 19 undef = .int .i64 1) (f21 : AA.tmps.getD 21 undef = .int .i64 26) (f23 : AA.tmps.getD 23 undef = .int .i64 26) (f25 : AA.tmps.getD 25 undef = .int .i64 3) (f26 : AA.tmps.getD 26 undef = .slice (some ⟨b6, o6, none⟩) 256 c6) (f27 : AA.tmps.getD 27 undef = .int .i64 0) (f28 : AA.tmps.getD 28 undef = v30) (f29 : AA.tmps.getD 29 undef = .int .i64 0) (f31 : AA.tmps.getD 31 undef = .int .i64 3) {Q : Exit → Act → World → Prop}
    (hQ : ∀ (A : Act) (u : World), Kept Nothing wc u → A.tmps.getD 0 undef = .bool true → A.defers = [] → Q .normal A u) : C.wp Try.prog Q AA wc := by
  have h2 := Option.some.inj hC
  rw [← h2]
  clear h2 hC
  try simp only [List.append_eq, List.cons_append, List.nil_append]
  refine wp_region_seq1 (a0 := AA) wc (Facts (kl b6 o6 c6 v30) ks) 77 0 (by rfl) (by decide +kernel) (by intro d hd; rw [hsz]; simp [dsts] at hd ⊢; omega) (by kernel_rfl) (by kernel_rfl) (Facts.guards (E := [(2, true), (6, true), (10, true), (14, true), (18, true), (22, true), (26, true), (30, true), (34, true), (38, true), (42, true), (46, true), (50, true), (55, true), (61, true), (65, true), (70, true), (74, true)]) (by kernel_rfl) ?_) (Facts.stab ks_stab) (Kept.refl Nothing wc) ?_ ?_
  · exact kl_guards b6 o6 c6 v30
  · refine OweAll.cons ?_ ?_
    · intro u a hk hf hfar
      have v10 : a.tmps.getD 10 undef = .int .i64 4 := (hfar 10 (by decide)).trans f10
      have w10 := v10
      rw [Array.getD_eq_getD_getElem?] at w10
      clear hf hfar
      go_simp
      exact ⟨_, rfl, Kept.refl _ _, rfl⟩
    refine OweAll.cons ?_ ?_
    · intro u a hk hf hfar
      have v192 : a.tmps.getD 192 undef = .int .i64 4 := hf 0 _ 192 rfl rfl ⟨⟨0, .data⟩, Array.mem_of_getElem? (i := 0) rfl, rfl, rfl⟩
      have w192 := v192
      rw [Array.getD_eq_getD_getElem?] at w192
      clear hf hfar
      go_simp
      exact ⟨_, rfl, Kept.refl _ _, rfl⟩
    refine OweAll.cons ?_ ?_
    · intro u a hk hf hfar
      have v193 : a.tmps.getD 193 undef = .bool true := hf 1 _ 193 rfl rfl ⟨⟨1, .data⟩, Array.mem_of_getElem? (i := 0) rfl, rfl, rfl⟩
      have w193 := v193
      rw [Array.getD_eq_getD_getElem?] at w193
      clear hf hfar
      go_simp
      exact ⟨_, rfl, Kept.refl _ _, rfl⟩
    refine OweAll.cons ?_ ?_
    · intro u a hk hf hfar
      have v11 : a.tmps.getD 11 undef = .int .i64 4 := (hfar 11 (by decide)).trans f11
      have w11 := v11
      rw [Array.getD_eq_getD_getElem?] at w11
      clear hf hfar
      go_simp
      exact ⟨_, rfl, Kept.refl _ _, rfl⟩
    refine OweAll.cons ?_ ?_
    · intro u a hk hf hfar
      have v195 : a.tmps.getD 195 undef = .int .i64 4 := hf 3 _ 195 rfl rfl ⟨⟨3, .data⟩, Array.mem_of_getElem? (i := 0) rfl, rfl, rfl⟩
      have w195 := v195
      rw [Array.getD_eq_getD_getElem?] at w195
      clear hf hfar
      go_simp
      exact ⟨_, rfl, Kept.refl _ _, rfl⟩
    refine OweAll.cons ?_ ?_
    · intro u a hk hf hfar
      have v194 : a.tmps.getD 194 undef = .bool true := hf 2 _ 194 rfl rfl ⟨⟨2, .data⟩, Array.mem_of_getElem? (i := 0) rfl, rfl, rfl⟩
      have w194 := v194
      rw [Array.getD_eq_getD_getElem?] at w194
      have v196 : a.tmps.getD 196 undef = .bool true := hf 4 _ 196 rfl rfl ⟨⟨4, .data⟩, Array.mem_of_getElem? (i := 1) rfl, rfl, rfl⟩
      have w196 := v196
      rw [Array.getD_eq_getD_getElem?] at w196
      clear hf hfar
      go_simp
      exact ⟨_, rfl, Kept.refl _ _, rfl⟩
    refine OweAll.cons ?_ ?_
    · intro u a hk hf hfar
      have v197 : a.tmps.getD 197 undef = .bool true := hf 5 _ 197 rfl rfl ⟨⟨5, .data⟩, Array.mem_of_getElem? (i := 0) rfl, rfl, rfl⟩
      have w197 := v197
      rw [Array.getD_eq_getD_getElem?] at w197
      clear hf hfar
      go_simp
      exact ⟨_, rfl, Kept.refl _ _, rfl⟩
    refine OweAll.cons ?_ ?_
    · intro u a hk hf hfar
      have v12 : a.tmps.getD 12 undef = .int .i64 4 := (hfar 12 (by decide)).trans f12
      have w12 := v12
      rw [Array.getD_eq_getD_getElem?] at w12
      clear hf hfar
      go_simp
      exact ⟨_, rfl, Kept.refl _ _, rfl⟩
    refine OweAll.cons ?_ ?_
    · intro u a hk hf hfar
      have v199 : a.tmps.getD 199 undef = .int .i64 4 := hf 7 _ 199 rfl rfl ⟨⟨7, .data⟩, Array.mem_of_getElem? (i := 0) rfl, rfl, rfl⟩
      have w199 := v199
      rw [Array.getD_eq_getD_getElem?] at w199
      clear hf hfar
      go_simp
      exact ⟨_, rfl, Kept.refl _ _, rfl⟩
    refine OweAll.cons ?_ ?_
    · intro u a hk hf hfar
      have v198 : a.tmps.getD 198 undef = .bool true := hf 6 _ 198 rfl rfl ⟨⟨6, .data⟩, Array.mem_of_getElem? (i := 0) rfl, rfl, rfl⟩
      have w198 := v198
      rw [Array.getD_eq_getD_getElem?] at w198
      have v200 : a.tmps.getD 200 undef = .bool true := hf 8 _ 200 rfl rfl ⟨⟨8, .data⟩, Array.mem_of_getElem? (i := 1) rfl, rfl, rfl⟩
      have w200 := v200
      rw [Array.getD_eq_getD_getElem?] at w200
      clear hf hfar
      go_simp
      exact ⟨_, rfl, Kept.refl _ _, rfl⟩
    refine OweAll.cons ?_ ?_
    · intro u a hk hf hfar
      have v201 : a.tmps.getD 201 undef = .bool true := hf 9 _ 201 rfl rfl ⟨⟨9, .data⟩, Array.mem_of_getElem? (i := 0) rfl, rfl, rfl⟩
      have w201 := v201
      rw [Array.getD_eq_getD_getElem?] at w201
      clear hf hfar
      go_simp
      exact ⟨_, rfl, Kept.refl _ _, rfl⟩
    refine OweAll.cons ?_ ?_
    · intro u a hk hf hfar
      have v13 : a.tmps.getD 13 undef = .int .i64 26 := (hfar 13 (by decide)).trans f13
      have w13 := v13
      rw [Array.getD_eq_getD_getElem?] at w13
      clear hf hfar
      go_simp
      exact ⟨_, rfl, Kept.refl _ _, rfl⟩
    refine OweAll.cons ?_ ?_
    · intro u a hk hf hfar
      have v203 : a.tmps.getD 203 undef = .int .i64 26 := hf 11 _ 203 rfl rfl ⟨⟨11, .data⟩, Array.mem_of_getElem? (i := 0) rfl, rfl, rfl⟩
      have w203 := v203
      rw [Array.getD_eq_getD_getElem?] at w203
      clear hf hfar
      go_simp
      exact ⟨_, rfl, Kept.refl _ _, rfl⟩
    refine OweAll.cons ?_ ?_
    · intro u a hk hf hfar
      have v202 : a.tmps.getD 202 undef = .bool true := hf 10 _ 202 rfl rfl ⟨⟨10, .data⟩, Array.mem_of_getElem? (i := 0) rfl, rfl, rfl⟩
      have w202 := v202
      rw [Array.getD_eq_getD_getElem?] at w202
      have v204 : a.tmps.getD 204 undef = .bool true := hf 12 _ 204 rfl rfl ⟨⟨12, .data⟩, Array.mem_of_getElem? (i := 1) rfl, rfl, rfl⟩
      have w204 := v204
      rw [Array.getD_eq_getD_getElem?] at w204
      clear hf hfar
      go_simp
      exact ⟨_, rfl, Kept.refl _ _, rfl⟩
    refine OweAll.cons ?_ ?_
    · intro u a hk hf hfar
      have v205 : a.tmps.getD 205 undef = .bool true := hf 13 _ 205 rfl rfl ⟨⟨13, .data⟩, Array.mem_of_getElem? (i := 0) rfl, rfl, rfl⟩
      have w205 := v205
      rw [Array.getD_eq_getD_getElem?] at w205
      clear hf hfar
      go_simp
      exact ⟨_, rfl, Kept.refl _ _, rfl⟩
    refine OweAll.cons ?_ ?_
    · intro u a hk hf hfar
      have v14 : a.tmps.getD 14 undef = .int .i64 26 := (hfar 14 (by decide)).trans f14
      have w14 := v14
      rw [Array.getD_eq_getD_getElem?] at w14
      clear hf hfar
      go_simp
      exact ⟨_, rfl, Kept.refl _ _, rfl⟩
    refine OweAll.cons ?_ ?_
    · intro u a hk hf hfar
      have v207 : a.tmps.getD 207 undef = .int .i64 26 := hf 15 _ 207 rfl rfl ⟨⟨15, .data⟩, Array.mem_of_getElem? (i := 0) rfl, rfl, rfl⟩
      have w207 := v207
      rw [Array.getD_eq_getD_getElem?] at w207
      clear hf hfar
      go_simp
      exact ⟨_, rfl, Kept.refl _ _, rfl⟩
    refine OweAll.cons ?_ ?_
    · intro u a hk hf hfar
      have v206 : a.tmps.getD 206 undef = .bool true := hf 14 _ 206 rfl rfl ⟨⟨14, .data⟩, Array.mem_of_getElem? (i := 0) rfl, rfl, rfl⟩
      have w206 := v206
      rw [Array.getD_eq_getD_getElem?] at w206
      have v208 : a.tmps.getD 208 undef = .bool true := hf 16 _ 208 rfl rfl ⟨⟨16, .data⟩, Array.mem_of_getElem? (i := 1) rfl, rfl, rfl⟩
      have w208 := v208
      rw [Array.getD_eq_getD_getElem?] at w208
      clear hf hfar
      go_simp
      exact ⟨_, rfl, Kept.refl _ _, rfl⟩
    refine OweAll.cons ?_ ?_
    · intro u a hk hf hfar
      have v209 : a.tmps.getD 209 undef = .bool true := hf 17 _ 209 rfl rfl ⟨⟨17, .data⟩, Array.mem_of_getElem? (i := 0) rfl, rfl, rfl⟩
      have w209 := v209
      rw [Array.getD_eq_getD_getElem?] at w209
      clear hf hfar
      go_simp
      exact ⟨_, rfl, Kept.refl _ _, rfl⟩
    refine OweAll.cons ?_ ?_
    · intro u a hk hf hfar
      have v15 : a.tmps.getD 15 undef = .int .i64 4 := (hfar 15 (by decide)).trans f15
      have w15 := v15
      rw [Array.getD_eq_getD_getElem?] at w15
      clear hf hfar
      go_simp
      exact ⟨_, rfl, Kept.refl _ _, rfl⟩
    refine OweAll.cons ?_ ?_
    · intro u a hk hf hfar
      have v211 : a.tmps.getD 211 undef = .int .i64 4 := hf 19 _ 211 rfl rfl ⟨⟨19, .data⟩, Array.mem_of_getElem? (i := 0) rfl, rfl, rfl⟩
      have w211 := v211
      rw [Array.getD_eq_getD_getElem?] at w211
      clear hf hfar
      go_simp
      exact ⟨_, rfl, Kept.refl _ _, rfl⟩
    refine OweAll.cons ?_ ?_
    · intro u a hk hf hfar
      have v210 : a.tmps.getD 210 undef = .bool true := hf 18 _ 210 rfl rfl ⟨⟨18, .data⟩, Array.mem_of_getElem? (i := 0) rfl, rfl, rfl⟩
      have w210 := v210
      rw [Array.getD_eq_getD_getElem?] at w210
      have v212 : a.tmps.getD 212 undef = .bool true := hf 20 _ 212 rfl rfl ⟨⟨20, .data⟩, Array.mem_of_getElem? (i := 1) rfl, rfl, rfl⟩
      have w212 := v212
      rw [Array.getD_eq_getD_getElem?] at w212
      clear hf hfar
      go_simp
      exact ⟨_, rfl, Kept.refl _ _, rfl⟩
    refine OweAll.cons ?_ ?_
    · intro u a hk hf hfar
      have v213 : a.tmps.getD 213 undef = .bool true := hf 21 _ 213 rfl rfl ⟨⟨21, .data⟩, Array.mem_of_getElem? (i := 0) rfl, rfl, rfl⟩
      have w213 := v213
      rw [Array.getD_eq_getD_getElem?] at w213
      clear hf hfar
      go_simp
      exact ⟨_, rfl, Kept.refl _ _, rfl⟩
    refine OweAll.cons ?_ ?_
    · intro u a hk hf hfar
      have v16 : a.tmps.getD 16 undef = .int .i64 0 := (hfar 16 (by decide)).trans f16
      have w16 := v16
      rw [Array.getD_eq_getD_getElem?] at w16
      clear hf hfar
      go_simp
      exact ⟨_, rfl, Kept.refl _ _, rfl⟩
    refine OweAll.cons ?_ ?_
    · intro u a hk hf hfar
      have v215 : a.tmps.getD 215 undef = .int .i64 0 := hf 23 _ 215 rfl rfl ⟨⟨23, .data⟩, Array.mem_of_getElem? (i := 0) rfl, rfl, rfl⟩
      have w215 := v215
      rw [Array.getD_eq_getD_getElem?] at w215
      clear hf hfar
      go_simp
      exact ⟨_, rfl, Kept.refl _ _, rfl⟩
    refine OweAll.cons ?_ ?_
    · intro u a hk hf hfar
      have v214 : a.tmps.getD 214 undef = .bool true := hf 22 _ 214 rfl rfl ⟨⟨22, .data⟩, Array.mem_of_getElem? (i := 0) rfl, rfl, rfl⟩
      have w214 := v214
      rw [Array.getD_eq_getD_getElem?] at w214
      have v216 : a.tmps.getD 216 undef = .bool true := hf 24 _ 216 rfl rfl ⟨⟨24, .data⟩, Array.mem_of_getElem? (i := 1) rfl, rfl, rfl⟩
      have w216 := v216
      rw [Array.getD_eq_getD_getElem?] at w216
      clear hf hfar
      go_simp
      exact ⟨_, rfl, Kept.refl _ _, rfl⟩
    refine OweAll.cons ?_ ?_
    · intro u a hk hf hfar
      have v217 : a.tmps.getD 217 undef = .bool true := hf 25 _ 217 rfl rfl ⟨⟨25, .data⟩, Array.mem_of_getElem? (i := 0) rfl, rfl, rfl⟩
      have w217 := v217
      rw [Array.getD_eq_getD_getElem?] at w217
      clear hf hfar
      go_simp
      exact ⟨_, rfl, Kept.refl _ _, rfl⟩
    refine OweAll.cons ?_ ?_
    · intro u a hk hf hfar
      have v17 : a.tmps.getD 17 undef = .int .i64 23 := (hfar 17 (by decide)).trans f17
      have w17 := v17
      rw [Array.getD_eq_getD_getElem?] at w17
      clear hf hfar
      go_simp
      exact ⟨_, rfl, Kept.refl _ _, rfl⟩
    refine OweAll.cons ?_ ?_
    · intro u a hk hf hfar
      have v219 : a.tmps.getD 219 undef = .int .i64 23 := hf 27 _ 219 rfl rfl ⟨⟨27, .data⟩, Array.mem_of_getElem? (i := 0) rfl, rfl, rfl⟩
      have w219 := v219
      rw [Array.getD_eq_getD_getElem?] at w219
      clear hf hfar
      go_simp
      exact ⟨_, rfl, Kept.refl _ _, rfl⟩
    refine OweAll.cons ?_ ?_
    · intro u a hk hf hfar
      have v218 : a.tmps.getD 218 undef = .bool true := hf 26 _ 218 rfl rfl ⟨⟨26, .data⟩, Array.mem_of_getElem? (i := 0) rfl, rfl, rfl⟩
      have w218 := v218
      rw [Array.getD_eq_getD_getElem?] at w218
      have v220 : a.tmps.getD 220 undef = .bool true := hf 28 _ 220 rfl rfl ⟨⟨28, .data⟩, Array.mem_of_getElem? (i := 1) rfl, rfl, rfl⟩
      have w220 := v220
      rw [Array.getD_eq_getD_getElem?] at w220
      clear hf hfar
      go_simp
      exact ⟨_, rfl, Kept.refl _ _, rfl⟩
    refine OweAll.cons ?_ ?_
    · intro u a hk hf hfar
      have v221 : a.tmps.getD 221 undef = .bool true := hf 29 _ 221 rfl rfl ⟨⟨29, .data⟩, Array.mem_of_getElem? (i := 0) rfl, rfl, rfl⟩
      have w221 := v221
      rw [Array.getD_eq_getD_getElem?] at w221
      clear hf hfar
      go_simp
      exact ⟨_, rfl, Kept.refl _ _, rfl⟩
    refine OweAll.cons ?_ ?_
    · intro u a hk hf hfar
      have v19 : a.tmps.getD 19 undef = .int .i64 1 := (hfar 19 (by decide)).trans f19
      have w19 := v19
      rw [Array.getD_eq_getD_getElem?] at w19
      clear hf hfar
      go_simp
      exact ⟨_, rfl, Kept.refl _ _, rfl⟩
    refine OweAll.cons ?_ ?_
    · intro u a hk hf hfar
      have v223 : a.tmps.getD 223 undef = .int .i64 1 := hf 31 _ 223 rfl rfl ⟨⟨31, .data⟩, Array.mem_of_getElem? (i := 0) rfl, rfl, rfl⟩
      have w223 := v223
      rw [Array.getD_eq_getD_getElem?] at w223
      clear hf hfar
      go_simp
      exact ⟨_, rfl, Kept.refl _ _, rfl⟩
    refine OweAll.cons ?_ ?_
    · intro u a hk hf hfar
      have v222 : a.tmps.getD 222 undef = .bool true := hf 30 _ 222 rfl rfl ⟨⟨30, .data⟩, Array.mem_of_getElem? (i := 0) rfl, rfl, rfl⟩
      have w222 := v222
      rw [Array.getD_eq_getD_getElem?] at w222
      have v224 : a.tmps.getD 224 undef = .bool true := hf 32 _ 224 rfl rfl ⟨⟨32, .data⟩, Array.mem_of_getElem? (i := 1) rfl, rfl, rfl⟩
      have w224 := v224
      rw [Array.getD_eq_getD_getElem?] at w224
      clear hf hfar
      go_simp
      exact ⟨_, rfl, Kept.refl _ _, rfl⟩
    refine OweAll.cons ?_ ?_
    · intro u a hk hf hfar
      have v225 : a.tmps.getD 225 undef = .bool true := hf 33 _ 225 rfl rfl ⟨⟨33, .data⟩, Array.mem_of_getElem? (i := 0) rfl, rfl, rfl⟩
      have w225 := v225
      rw [Array.getD_eq_getD_getElem?] at w225
      clear hf hfar
      go_simp
      exact ⟨_, rfl, Kept.refl _ _, rfl⟩
    refine OweAll.cons ?_ ?_
    · intro u a hk hf hfar
      have v21 : a.tmps.getD 21 undef = .int .i64 26 := (hfar 21 (by decide)).trans f21
      have w21 := v21
      rw [Array.getD_eq_getD_getElem?] at w21
      clear hf hfar
      go_simp
      exact ⟨_, rfl, Kept.refl _ _, rfl⟩
    refine OweAll.cons ?_ ?_
    · intro u a hk hf hfar
      have v227 : a.tmps.getD 227 undef = .int .i64 26 := hf 35 _ 227 rfl rfl ⟨⟨35, .data⟩, Array.mem_of_getElem? (i := 0) rfl, rfl, rfl⟩
      have w227 := v227
      rw [Array.getD_eq_getD_getElem?] at w227
      clear hf hfar
      go_simp
      exact ⟨_, rfl, Kept.refl _ _, rfl⟩
    refine OweAll.cons ?_ ?_
    · intro u a hk hf hfar
      have v226 : a.tmps.getD 226 undef = .bool true := hf 34 _ 226 rfl rfl ⟨⟨34, .data⟩, Array.mem_of_getElem? (i := 0) rfl, rfl, rfl⟩
      have w226 := v226
      rw [Array.getD_eq_getD_getElem?] at w226
      have v228 : a.tmps.getD 228 undef = .bool true := hf 36 _ 228 rfl rfl ⟨⟨36, .data⟩, Array.mem_of_getElem? (i := 1) rfl, rfl, rfl⟩
      have w228 := v228
      rw [Array.getD_eq_getD_getElem?] at w228
      clear hf hfar
      go_simp
      exact ⟨_, rfl, Kept.refl _ _, rfl⟩
    refine OweAll.cons ?_ ?_
    · intro u a hk hf hfar
      have v229 : a.tmps.getD 229 undef = .bool true := hf 37 _ 229 rfl rfl ⟨⟨37, .data⟩, Array.mem_of_getElem? (i := 0) rfl, rfl, rfl⟩
      have w229 := v229
      rw [Array.getD_eq_getD_getElem?] at w229
      clear hf hfar
      go_simp
      exact ⟨_, rfl, Kept.refl _ _, rfl⟩
    refine OweAll.cons ?_ ?_
    · intro u a hk hf hfar
      have v23 : a.tmps.getD 23 undef = .int .i64 26 := (hfar 23 (by decide)).trans f23
      have w23 := v23
      rw [Array.getD_eq_getD_getElem?] at w23
      clear hf hfar
      go_simp
      exact ⟨_, rfl, Kept.refl _ _, rfl⟩
    refine OweAll.cons ?_ ?_
    · intro u a hk hf hfar
      have v231 : a.tmps.getD 231 undef = .int .i64 26 := hf 39 _ 231 rfl rfl ⟨⟨39, .data⟩, Array.mem_of_getElem? (i := 0) rfl, rfl, rfl⟩
      have w231 := v231
      rw [Array.getD_eq_getD_getElem?] at w231
      clear hf hfar
      go_simp
      exact ⟨_, rfl, Kept.refl _ _, rfl⟩
    refine OweAll.cons ?_ ?_
    · intro u a hk hf hfar
      have v230 : a.tmps.getD 230 undef = .bool true := hf 38 _ 230 rfl rfl ⟨⟨38, .data⟩, Array.mem_of_getElem? (i := 0) rfl, rfl, rfl⟩
      have w230 := v230
      rw [Array.getD_eq_getD_getElem?] at w230
      have v232 : a.tmps.getD 232 undef = .bool true := hf 40 _ 232 rfl rfl ⟨⟨40, .data⟩, Array.mem_of_getElem? (i := 1) rfl, rfl, rfl⟩
      have w232 := v232
      rw [Array.getD_eq_getD_getElem?] at w232
      clear hf hfar
      go_simp
      exact ⟨_, rfl, Kept.refl _ _, rfl⟩
    refine OweAll.cons ?_ ?_
    · intro u a hk hf hfar
      have v233 : a.tmps.getD 233 undef = .bool true := hf 41 _ 233 rfl rfl ⟨⟨41, .data⟩, Array.mem_of_getElem? (i := 0) rfl, rfl, rfl⟩
      have w233 := v233
      rw [Array.getD_eq_getD_getElem?] at w233
      clear hf hfar
      go_simp
      exact ⟨_, rfl, Kept.refl _ _, rfl⟩
    refine OweAll.cons ?_ ?_
    · intro u a hk hf hfar
      have v25 : a.tmps.getD 25 undef = .int .i64 3 := (hfar 25 (by decide)).trans f25
      have w25 := v25
      rw [Array.getD_eq_getD_getElem?] at w25
      clear hf hfar
      go_simp
      exact ⟨_, rfl, Kept.refl _ _, rfl⟩
    refine OweAll.cons ?_ ?_
    · intro u a hk hf hfar
      have v235 : a.tmps.getD 235 undef = .int .i64 3 := hf 43 _ 235 rfl rfl ⟨⟨43, .data⟩, Array.mem_of_getElem? (i := 0) rfl, rfl, rfl⟩
      have w235 := v235
      rw [Array.getD_eq_getD_getElem?] at w235
      clear hf hfar
      go_simp
      exact ⟨_, rfl, Kept.refl _ _, rfl⟩
    refine OweAll.cons ?_ ?_
    · intro u a hk hf hfar
      have v234 : a.tmps.getD 234 undef = .bool true := hf 42 _ 234 rfl rfl ⟨⟨42, .data⟩, Array.mem_of_getElem? (i := 0) rfl, rfl, rfl⟩
      have w234 := v234
      rw [Array.getD_eq_getD_getElem?] at w234
      have v236 : a.tmps.getD 236 undef = .bool true := hf 44 _ 236 rfl rfl ⟨⟨44, .data⟩, Array.mem_of_getElem? (i := 1) rfl, rfl, rfl⟩
      have w236 := v236
      rw [Array.getD_eq_getD_getElem?] at w236
      clear hf hfar
      go_simp
      exact ⟨_, rfl, Kept.refl _ _, rfl⟩
    refine OweAll.cons ?_ ?_
    · intro u a hk hf hfar
      have v237 : a.tmps.getD 237 undef = .bool true := hf 45 _ 237 rfl rfl ⟨⟨45, .data⟩, Array.mem_of_getElem? (i := 0) rfl, rfl, rfl⟩
      have w237 := v237
      rw [Array.getD_eq_getD_getElem?] at w237
      clear hf hfar
      go_simp
      exact ⟨_, rfl, Kept.refl _ _, rfl⟩
    refine OweAll.cons ?_ ?_
    · intro u a hk hf hfar
      have v27 : a.tmps.getD 27 undef = .int .i64 0 := (hfar 27 (by decide)).trans f27
      have w27 := v27
      rw [Array.getD_eq_getD_getElem?] at w27
      clear hf hfar
      go_simp
      exact ⟨_, rfl, Kept.refl _ _, rfl⟩
    refine OweAll.cons ?_ ?_
    · intro u a hk hf hfar
      have v239 : a.tmps.getD 239 undef = .int .i64 0 := hf 47 _ 239 rfl rfl ⟨⟨47, .data⟩, Array.mem_of_getElem? (i := 0) rfl, rfl, rfl⟩
      have w239 := v239
      rw [Array.getD_eq_getD_getElem?] at w239
      clear hf hfar
      go_simp
      exact ⟨_, rfl, Kept.refl _ _, rfl⟩
    refine OweAll.cons ?_ ?_
    · intro u a hk hf hfar
      have v238 : a.tmps.getD 238 undef = .bool true := hf 46 _ 238 rfl rfl ⟨⟨46, .data⟩, Array.mem_of_getElem? (i := 0) rfl, rfl, rfl⟩
      have w238 := v238
      rw [Array.getD_eq_getD_getElem?] at w238
      have v240 : a.tmps.getD 240 undef = .bool true := hf 48 _ 240 rfl rfl ⟨⟨48, .data⟩, Array.mem_of_getElem? (i := 1) rfl, rfl, rfl⟩
      have w240 := v240
      rw [Array.getD_eq_getD_getElem?] at w240
      clear hf hfar
      go_simp
      exact ⟨_, rfl, Kept.refl _ _, rfl⟩
    refine OweAll.cons ?_ ?_
    · intro u a hk hf hfar
      have v241 : a.tmps.getD 241 undef = .bool true := hf 49 _ 241 rfl rfl ⟨⟨49, .data⟩, Array.mem_of_getElem? (i := 0) rfl, rfl, rfl⟩
      have w241 := v241
      rw [Array.getD_eq_getD_getElem?] at w241
      clear hf hfar
      go_simp
      exact ⟨_, rfl, Kept.refl _ _, rfl⟩
    refine OweAll.cons ?_ ?_
    · intro u a hk hf hfar
      have v26 : a.tmps.getD 26 undef = .slice (some ⟨b6, o6, none⟩) 256 c6 := (hfar 26 (by decide)).trans f26
      have w26 := v26
      rw [Array.getD_eq_getD_getElem?] at w26
      clear hf hfar
      go_simp
      exact ⟨_, rfl, Kept.refl _ _, rfl⟩
    refine OweAll.cons ?_ ?_
    · intro u a hk hf hfar
      have v243 : a.tmps.getD 243 undef = .slice (some ⟨b6, o6, none⟩) 256 c6 := hf 51 _ 243 rfl rfl ⟨⟨51, .data⟩, Array.mem_of_getElem? (i := 0) rfl, rfl, rfl⟩
      have w243 := v243
      rw [Array.getD_eq_getD_getElem?] at w243
      clear hf hfar
      go_simp
      exact ⟨_, rfl, Kept.refl _ _, rfl⟩
    refine OweAll.cons ?_ ?_
    · intro u a hk hf hfar
      have v244 : a.tmps.getD 244 undef = .int .i64 256 := hf 52 _ 244 rfl rfl ⟨⟨52, .data⟩, Array.mem_of_getElem? (i := 0) rfl, rfl, rfl⟩
      have w244 := v244
      rw [Array.getD_eq_getD_getElem?] at w244
      clear hf hfar
      go_simp
      exact ⟨_, rfl, Kept.refl _ _, rfl⟩
    refine OweAll.cons ?_ ?_
    · intro u a hk hf hfar
      have v242 : a.tmps.getD 242 undef = .bool true := hf 50 _ 242 rfl rfl ⟨⟨50, .data⟩, Array.mem_of_getElem? (i := 0) rfl, rfl, rfl⟩
      have w242 := v242
      rw [Array.getD_eq_getD_getElem?] at w242
      have v245 : a.tmps.getD 245 undef = .bool true := hf 53 _ 245 rfl rfl ⟨⟨53, .data⟩, Array.mem_of_getElem? (i := 1) rfl, rfl, rfl⟩
      have w245 := v245
      rw [Array.getD_eq_getD_getElem?] at w245
      clear hf hfar
      go_simp
      exact ⟨_, rfl, Kept.refl _ _, rfl⟩
    refine OweAll.cons ?_ ?_
    · intro u a hk hf hfar
      have v246 : a.tmps.getD 246 undef = .bool true := hf 54 _ 246 rfl rfl ⟨⟨54, .data⟩, Array.mem_of_getElem? (i := 0) rfl, rfl, rfl⟩
      have w246 := v246
      rw [Array.getD_eq_getD_getElem?] at w246
      clear hf hfar
      go_simp
      exact ⟨_, rfl, Kept.refl _ _, rfl⟩
    refine OweAll.cons ?_ ?_
    · intro u a hk hf hfar
      have v26 : a.tmps.getD 26 undef = .slice (some ⟨b6, o6, none⟩) 256 c6 := (hfar 26 (by decide)).trans f26
      have w26 := v26
      rw [Array.getD_eq_getD_getElem?] at w26
      clear hf hfar
      go_simp
      exact ⟨_, rfl, Kept.refl _ _, rfl⟩
    refine OweAll.cons ?_ ?_
    · intro u a hk hf hfar
      have v248 : a.tmps.getD 248 undef = .slice (some ⟨b6, o6, none⟩) 256 c6 := hf 56 _ 248 rfl rfl ⟨⟨56, .data⟩, Array.mem_of_getElem? (i := 0) rfl, rfl, rfl⟩
      have w248 := v248
      rw [Array.getD_eq_getD_getElem?] at w248
      clear hf hfar
      go_simp
      exact ⟨_, rfl, Kept.refl _ _, rfl⟩
    refine OweAll.cons ?_ ?_
    · intro u a hk hf hfar
      have v249 : a.tmps.getD 249 undef = .pointer (some ⟨b6, o6, none⟩) := hf 57 _ 249 rfl rfl ⟨⟨57, .data⟩, Array.mem_of_getElem? (i := 0) rfl, rfl, rfl⟩
      have w249 := v249
      rw [Array.getD_eq_getD_getElem?] at w249
      have c0 := hk.cell_some X6.out (fun x => x)
      clear hf hfar
      go_simp
      exact ⟨_, rfl, Kept.refl _ _, rfl⟩
    refine OweAll.cons ?_ ?_
    · intro u a hk hf hfar
      have v250 : a.tmps.getD 250 undef = .int .u8 255 := hf 58 _ 250 rfl rfl ⟨⟨58, .data⟩, Array.mem_of_getElem? (i := 0) rfl, rfl, rfl⟩
      have w250 := v250
      rw [Array.getD_eq_getD_getElem?] at w250
      clear hf hfar
      go_simp
      exact ⟨_, rfl, Kept.refl _ _, rfl⟩
    refine OweAll.cons ?_ ?_
    · intro u a hk hf hfar
      have v247 : a.tmps.getD 247 undef = .bool true := hf 55 _ 247 rfl rfl ⟨⟨55, .data⟩, Array.mem_of_getElem? (i := 0) rfl, rfl, rfl⟩
      have w247 := v247
      rw [Array.getD_eq_getD_getElem?] at w247
      have v251 : a.tmps.getD 251 undef = .bool true := hf 59 _ 251 rfl rfl ⟨⟨59, .data⟩, Array.mem_of_getElem? (i := 1) rfl, rfl, rfl⟩
      have w251 := v251
      rw [Array.getD_eq_getD_getElem?] at w251
      clear hf hfar
      go_simp
      exact ⟨_, rfl, Kept.refl _ _, rfl⟩
    refine OweAll.cons ?_ ?_
    · intro u a hk hf hfar
      have v252 : a.tmps.getD 252 undef = .bool true := hf 60 _ 252 rfl rfl ⟨⟨60, .data⟩, Array.mem_of_getElem? (i := 0) rfl, rfl, rfl⟩
      have w252 := v252
      rw [Array.getD_eq_getD_getElem?] at w252
      clear hf hfar
      go_simp
      exact ⟨_, rfl, Kept.refl _ _, rfl⟩
    refine OweAll.cons ?_ ?_
    · intro u a hk hf hfar
      have v29 : a.tmps.getD 29 undef = .int .i64 0 := (hfar 29 (by decide)).trans f29
      have w29 := v29
      rw [Array.getD_eq_getD_getElem?] at w29
      clear hf hfar
      go_simp
      exact ⟨_, rfl, Kept.refl _ _, rfl⟩
    refine OweAll.cons ?_ ?_
    · intro u a hk hf hfar
      have v254 : a.tmps.getD 254 undef = .int .i64 0 := hf 62 _ 254 rfl rfl ⟨⟨62, .data⟩, Array.mem_of_getElem? (i := 0) rfl, rfl, rfl⟩
      have w254 := v254
      rw [Array.getD_eq_getD_getElem?] at w254
      clear hf hfar
      go_simp
      exact ⟨_, rfl, Kept.refl _ _, rfl⟩
    refine OweAll.cons ?_ ?_
    · intro u a hk hf hfar
      have v253 : a.tmps.getD 253 undef = .bool true := hf 61 _ 253 rfl rfl ⟨⟨61, .data⟩, Array.mem_of_getElem? (i := 0) rfl, rfl, rfl⟩
      have w253 := v253
      rw [Array.getD_eq_getD_getElem?] at w253
      have v255 : a.tmps.getD 255 undef = .bool true := hf 63 _ 255 rfl rfl ⟨⟨63, .data⟩, Array.mem_of_getElem? (i := 1) rfl, rfl, rfl⟩
      have w255 := v255
      rw [Array.getD_eq_getD_getElem?] at w255
      clear hf hfar
      go_simp
      exact ⟨_, rfl, Kept.refl _ _, rfl⟩
    refine OweAll.cons ?_ ?_
    · intro u a hk hf hfar
      have v256 : a.tmps.getD 256 undef = .bool true := hf 64 _ 256 rfl rfl ⟨⟨64, .data⟩, Array.mem_of_getElem? (i := 0) rfl, rfl, rfl⟩
      have w256 := v256
      rw [Array.getD_eq_getD_getElem?] at w256
      clear hf hfar
      go_simp
      exact ⟨_, rfl, Kept.refl _ _, rfl⟩
    refine OweAll.cons ?_ ?_
    · intro u a hk hf hfar
      have v28 : a.tmps.getD 28 undef = v30 := (hfar 28 (by decide)).trans f28
      have w28 := v28
      rw [Array.getD_eq_getD_getElem?] at w28
      clear hf hfar
      go_simp
      exact ⟨_, rfl, Kept.refl _ _, rfl⟩
    refine OweAll.cons ?_ ?_
    · intro u a hk hf hfar
      clear hf hfar
      go_simp
      exact ⟨_, rfl, (Kept.refl _ _).alloc _, (Bs.made (l := [0, 7, 4, 1, 2, 3, 4, 0, 5]) (Blk.fresh u 5 #[.int .u8 0, .int .u8 7, .int .u8 4, .int .u8 1, .int .u8 2, .int .u8 3, .int .u8 4, .int .u8 0, .int .u8 5]) rfl (by simp [maxLen])).by⟩
    refine OweAll.cons ?_ ?_
    · intro u a hk hf hfar
      have v258 : a.tmps.getD 258 undef = v30 := hf 66 _ 258 rfl rfl ⟨⟨66, .data⟩, Array.mem_of_getElem? (i := 0) rfl, rfl, rfl⟩
      have w258 := v258
      rw [Array.getD_eq_getD_getElem?] at w258
      have z259 : By u (a.tmps.getD 259 undef) [0, 7, 4, 1, 2, 3, 4, 0, 5] := hf 67 _ 259 rfl rfl ⟨⟨67, .data⟩, Array.mem_of_getElem? (i := 1) rfl, rfl, rfl⟩
      generalize hx259 : a.tmps.getD 259 undef = x259 at z259
      have v259 : a.tmps.getD 259 undef = x259 := hx259
      have w259 := v259
      rw [Array.getD_eq_getD_getElem?] at w259
      clear hf hfar
      go_simp
      refine (by_equal _ _ [0, 7, 4, 1, 2, 3, 4, 0, 5] [0, 7, 4, 1, 2, 3, 4, 0, 5] _ (HV.out.kept hk (NoBytes.nothing _)).by z259).mono ?_
      rintro e u' ⟨rfl, rfl⟩
      exact ⟨_, rfl, Kept.refl _ _, rfl⟩
    refine OweAll.cons ?_ ?_
    · intro u a hk hf hfar
      have v257 : a.tmps.getD 257 undef = .bool true := hf 65 _ 257 rfl rfl ⟨⟨65, .data⟩, Array.mem_of_getElem? (i := 0) rfl, rfl, rfl⟩
      have w257 := v257
      rw [Array.getD_eq_getD_getElem?] at w257
      have v260 : a.tmps.getD 260 undef = .bool true := hf 68 _ 260 rfl rfl ⟨⟨68, .data⟩, Array.mem_of_getElem? (i := 1) rfl, rfl, rfl⟩
      have w260 := v260
      rw [Array.getD_eq_getD_getElem?] at w260
      clear hf hfar
      go_simp
      exact ⟨_, rfl, Kept.refl _ _, rfl⟩
    refine OweAll.cons ?_ ?_
    · intro u a hk hf hfar
      have v261 : a.tmps.getD 261 undef = .bool true := hf 69 _ 261 rfl rfl ⟨⟨69, .data⟩, Array.mem_of_getElem? (i := 0) rfl, rfl, rfl⟩
      have w261 := v261
      rw [Array.getD_eq_getD_getElem?] at w261
      clear hf hfar
      go_simp
      exact ⟨_, rfl, Kept.refl _ _, rfl⟩
    refine OweAll.cons ?_ ?_
    · intro u a hk hf hfar
      have v31 : a.tmps.getD 31 undef = .int .i64 3 := (hfar 31 (by decide)).trans f31
      have w31 := v31
      rw [Array.getD_eq_getD_getElem?] at w31
      clear hf hfar
      go_simp
      exact ⟨_, rfl, Kept.refl _ _, rfl⟩
    refine OweAll.cons ?_ ?_
    · intro u a hk hf hfar
      have v263 : a.tmps.getD 263 undef = .int .i64 3 := hf 71 _ 263 rfl rfl ⟨⟨71, .data⟩, Array.mem_of_getElem? (i := 0) rfl, rfl, rfl⟩
      have w263 := v263
      rw [Array.getD_eq_getD_getElem?] at w263
      clear hf hfar
      go_simp
      exact ⟨_, rfl, Kept.refl _ _, rfl⟩
    refine OweAll.cons ?_ ?_
    · intro u a hk hf hfar
      have v262 : a.tmps.getD 262 undef = .bool true := hf 70 _ 262 rfl rfl ⟨⟨70, .data⟩, Array.mem_of_getElem? (i := 0) rfl, rfl, rfl⟩
      have w262 := v262
      rw [Array.getD_eq_getD_getElem?] at w262
      have v264 : a.tmps.getD 264 undef = .bool true := hf 72 _ 264 rfl rfl ⟨⟨72, .data⟩, Array.mem_of_getElem? (i := 1) rfl, rfl, rfl⟩
      have w264 := v264
      rw [Array.getD_eq_getD_getElem?] at w264
      clear hf hfar
      go_simp
      exact ⟨_, rfl, Kept.refl _ _, rfl⟩
    refine OweAll.cons ?_ ?_
    · intro u a hk hf hfar
      have v265 : a.tmps.getD 265 undef = .bool true := hf 73 _ 265 rfl rfl ⟨⟨73, .data⟩, Array.mem_of_getElem? (i := 0) rfl, rfl, rfl⟩
      have w265 := v265
      rw [Array.getD_eq_getD_getElem?] at w265
      clear hf hfar
      go_simp
      exact ⟨_, rfl, Kept.refl _ _, rfl⟩
    refine OweAll.cons ?_ ?_
    · intro u a hk hf hfar
      clear hf hfar
      go_simp
      refine (wakes_any _).mono ?_
      rintro e u' ⟨rfl, hk'⟩
      exact ⟨_, rfl, hk', rfl⟩
    refine OweAll.cons ?_ ?_
    · intro u a hk hf hfar
      have v266 : a.tmps.getD 266 undef = .bool true := hf 74 _ 266 rfl rfl ⟨⟨74, .data⟩, Array.mem_of_getElem? (i := 0) rfl, rfl, rfl⟩
      have w266 := v266
      rw [Array.getD_eq_getD_getElem?] at w266
      have v267 : a.tmps.getD 267 undef = .bool true := hf 75 _ 267 rfl rfl ⟨⟨75, .data⟩, Array.mem_of_getElem? (i := 1) rfl, rfl, rfl⟩
      have w267 := v267
      rw [Array.getD_eq_getD_getElem?] at w267
      clear hf hfar
      go_simp
      exact ⟨_, rfl, Kept.refl _ _, rfl⟩
    refine OweAll.cons ?_ ?_
    · intro u a hk hf hfar
      have v268 : a.tmps.getD 268 undef = .bool true := hf 76 _ 268 rfl rfl ⟨⟨76, .data⟩, Array.mem_of_getElem? (i := 0) rfl, rfl, rfl⟩
      have w268 := v268
      rw [Array.getD_eq_getD_getElem?] at w268
      clear hf hfar
      go_simp
      exact ⟨_, rfl, Kept.refl _ _, rfl⟩
    exact OweAll.nil
  · intro A u hku hA hdef
    exact hQ A u hku hA (hdef.trans hdf)
end Go.Proofs.Ytkmoaompgockaaa
