
/-
  For the law FrameKnown: intakes that New did not make; what a head is answered, what a message's form is answered.
-/
import Derived.Test.YtkfhnkikddmccaaGf
import Derived.Test.YtkfhnkikddmccaaFw
import Derived.Test.YtkfhnkikddmccaaGd
namespace Go.Proofs.Ytkfhnkikddmccaa
open Go.RowKit

def FeedNo (w : World) (a : Act) (u : World) : Prop := a.defers = [] ∧ a.tmps.size = 70 ∧ a.tmps.getD 5 undef = .slice none 0 0 ∧ Kept Nothing w u
set_option maxRecDepth 20000 in
set_option maxHeartbeats 1000000 in
/-- An intake that gathers nothing tells nothing. -/
theorem fed_none (pv v : Value) (w : World) (hg : ∀ u, Kept Nothing w u → Calls Try.prog 23 #[pv] u fun r u' => r = .returned (.bool false) ∧ u = u') :
    Calls Try.prog 10 #[pv, v] w fun r w' => r = .returned (.slice none 0 0) ∧ Kept Nothing w w' := by
  have HG := Lib.hid hg
  have KA := Lib.hid ((Kept.refl Nothing w).alloc (.cells #[.bool false, .int .i64 0, .int .u8 0] 56))
  clear hg
  go_enter Try.func10, Try.ntmps10
  go_wp2_with fail
  refine wp_scope_labels (fun l a u => l = 0 ∧ FeedNo w a u) (fun _ _ _ => 0) ?_ ?_
  · go_wp2_with fail
    refine (HG.out _ KA.out).mono ?_
    rintro e w' ⟨rfl, rfl⟩
    go_wp2_with fail
    go_step3
    exact ⟨⟨rfl, rfl, rfl, rfl, KA.out⟩, trivial⟩
  · rintro lb a w1 ⟨rfl, hdf, hsz, s5, hK⟩
    refine ⟨_, rfl, ?_⟩
    obtain ⟨⟨tl⟩, df⟩ := a
    obtain rfl : df = [] := hdf
    obtain ⟨x0, x1, x2, x3, x4, x5, x6, x7, x8, x9, x10, x11, x12, x13, x14, x15, x16, x17, x18, x19, x20, x21, x22, x23, x24, x25, x26, x27, x28, x29, x30, x31, x32, x33, x34, x35, x36, x37, x38, x39, x40, x41, x42, x43, x44, x45, x46, x47, x48, x49, x50, x51, x52, x53, x54, x55, x56, x57, x58, x59, x60, x61, x62, x63, x64, x65, x66, x67, x68, x69, rfl⟩ := list70 tl (by simpa using hsz)
    obtain rfl : x5 = _ := s5
    clear hsz
    have HK := Lib.hid hK
    clear hK
    go_wp2
    simp only [jumps]
    go_ret
    exact ⟨rfl, HK.out⟩
theorem nil_gathers (w : World) : Calls Try.prog 23 #[.pointer none] w fun r w' => r = .returned (.bool false) ∧ w = w' := by
  go_enter Try.func23, Try.ntmps23
  go_wp2
  go_ret
  exact ⟨rfl, rfl⟩
abbrev zeroI : Array Value := #[.bool false, .slice none 0 0, .int .u8 0, .int .u8 0, .slice none 0 0]
theorem zero_gathers (p : Nat) (w : World) (h : Blk w p 50 zeroI) : Calls Try.prog 23 #[.pointer (some ⟨p, 0, none⟩)] w fun r w' => r = .returned (.bool false) ∧ w = w' := by
  have c0 : w.cell? ⟨p, 0, none⟩ = some (.bool false) := h.cell 0
  clear h
  go_enter Try.func23, Try.ntmps23
  go_wp2
  go_ret
  exact ⟨rfl, rfl⟩
theorem nil_feed (v : Value) (w : World) : Calls Try.prog 10 #[.pointer none, v] w fun r w' => r = .returned (.slice none 0 0) ∧ Kept Nothing w w' :=
  fed_none _ v w (fun u _ => nil_gathers u)
theorem zero_feed (p : Nat) (v : Value) (w : World) (h : Blk w p 50 zeroI) : Calls Try.prog 10 #[.pointer (some ⟨p, 0, none⟩), v] w fun r w' => r = .returned (.slice none 0 0) ∧ Kept Nothing w w' :=
  fed_none _ v w (fun u k => zero_gathers p u (h.kept k (fun x => x)))
theorem nil_waits (w : World) : Calls Try.prog 8 #[.pointer none] w fun r w' => r = .returned (.int .i64 0) ∧ w = w' := by
  go_enter Try.func8, Try.ntmps8
  go_wp2
  go_ret
  exact ⟨rfl, rfl⟩
theorem zero_waits (p : Nat) (w : World) (h : Blk w p 50 zeroI) : Calls Try.prog 8 #[.pointer (some ⟨p, 0, none⟩)] w fun r w' => r = .returned (.int .i64 0) ∧ w = w' := by
  have c1 : w.cell? ⟨p, 1, none⟩ = some (.slice none 0 0) := h.cell 1
  clear h
  go_enter Try.func8, Try.ntmps8
  go_wp2
  go_ret
  exact ⟨rfl, rfl⟩
theorem nil_copy (w : World) : Calls Try.prog 7 #[.pointer none] w fun r w' => r = .returned (.pointer none) ∧ w = w' := by
  go_enter Try.func7, Try.ntmps7
  go_wp2
  go_ret
  exact ⟨rfl, rfl⟩
theorem zero_copy (p : Nat) (w : World) (h : Blk w p 50 zeroI) : Calls Try.prog 7 #[.pointer (some ⟨p, 0, none⟩)] w fun r w' => r = .returned (.pointer none) ∧ w = w' := by
  have c0 : w.cell? ⟨p, 0, none⟩ = some (.bool false) := h.cell 0
  clear h
  go_enter Try.func7, Try.ntmps7
  go_wp2
  go_ret
  exact ⟨rfl, rfl⟩
theorem nil_fault (w : World) : Calls Try.prog 12 #[.pointer none] w fun r w' => r = .returned (.tuple #[.agg #[.int .u8 0, .int .u8 0], .slice none 0 0]) ∧ Kept Nothing w w' := by
  go_enter Try.func12, Try.ntmps12
  go_wp2
  exact bodyPost_ret (v := .tuple #[.agg #[.int .u8 0, .int .u8 0], .slice none 0 0]) (by simp [results, Try.results12, go_sem]) rfl ⟨rfl, (Kept.refl _ w).alloc _⟩

/-- A head of marks, a length, a type. -/
def hd (a b t : Nat) : List UInt8 := List.replicate 16 255 ++ [UInt8.ofNat a, UInt8.ofNat b, UInt8.ofNat t]
theorem by3 (a b t : Nat) (ha : a < 256) (hb : b < 256) (ht : t < 256) (w : World) : By (w.alloc (.cells #[.int .u8 (a : Int), .int .u8 (b : Int), .int .u8 (t : Int)] 5)) (.slice (some ⟨w.heap.size, 0, none⟩) 3 3) [UInt8.ofNat a, UInt8.ofNat b, UInt8.ofNat t] :=
  (Bs.made (l := [UInt8.ofNat a, UInt8.ofNat b, UInt8.ofNat t]) (Blk.fresh w 5 #[.int .u8 (a : Int), .int .u8 (b : Int), .int .u8 (t : Int)]) (by show [_, _, _] = [by8 _, by8 _, by8 _]; rw [byNat a ha, byNat b hb, byNat t ht]) (by simp [maxLen])).by
set_option maxHeartbeats 1000000 in
theorem kn_code (n t : Nat) (hn : n < 65536) (ht : t < 256) (s : Nat) (h : (Fr.run (hd (n / 256) (n % 256) t)).2.s = s) (w : World) :
    Calls Try.prog 20 #[.int .i64 (n : Int), .int .u8 (t : Int)] w fun e w' => e = .returned (.agg #[.int .u8 (codeOf s), .int .u8 (s : Int)]) ∧ Kept Nothing w w' := by
  have H := Lib.hid h
  clear h
  go_enter Try.func20, Try.ntmps20
  go_wp2_with fail
  refine (in_new2 _).mono ?_
  rintro e w1 ⟨p, F1, rfl, hi1, hk1, hr1⟩
  have I1 := Lib.hid hi1
  have K1 := Lib.hid (((Kept.refl Nothing w).alloc _).trans hk1)
  go_wp2_with fail
  have hb3 : By (w1.alloc (.cells #[.int .u8 ((n : Int) / 256), .int .u8 ((n : Int) % 256), .int .u8 (t : Int)] 5)) (.slice (some ⟨w1.heap.size, 0, none⟩) 3 3) [UInt8.ofNat (n / 256), UInt8.ofNat (n % 256), UInt8.ofNat t] := by
    have := by3 (n / 256) (n % 256) t (by omega) (by omega) ht w1
    simpa using this
  have ON : Calls Try.prog 19 #[.int .i64 16, .slice (some ⟨w1.heap.size, 0, none⟩) 3 3] (w1.alloc (.cells #[.int .u8 ((n : Int) / 256), .int .u8 ((n : Int) % 256), .int .u8 (t : Int)] 5)) (OnesPost (w1.alloc (.cells #[.int .u8 ((n : Int) / 256), .int .u8 ((n : Int) % 256), .int .u8 (t : Int)] 5)) (hd (n / 256) (n % 256) t)) :=
    ones_some 16 _ _ _ (by decide) (by decide) hb3 (by simp) (by simp)
  refine ON.mono ?_
  rintro e w2 ⟨v2, rfl, hb2, hn2, hk2⟩
  have k12 := ((Kept.refl Nothing w1).alloc (.cells #[.int .u8 ((n : Int) / 256), .int .u8 ((n : Int) % 256), .int .u8 (t : Int)] 5)).trans hk2
  have hoff : Off F1 v2 := fun a n' c e _ x => by
    have h1 := hn2 a n' c e
    have h2 := hi1.lt x
    rw [World.size_alloc] at h1
    omega
  have hlen : (hd (n / 256) (n % 256) t).length = 19 := rfl
  go_wp2_with fail
  refine (in_feed p F1 Nothing Fr.IS.new v2 (hd (n / 256) (n % 256) t) w2 (hi1.old k12) hb2.by hoff (by rw [hlen]; decide)).mono ?_
  rintro e w3 ⟨v3, rfl, F3, hm3, hi3, hk3, hs3⟩
  rw [Fr.feed_new] at hi3
  have hH := H.out
  generalize (Fr.run (hd (n / 256) (n % 256) t)).2 = st at hi3 hH
  subst hH
  have I3 := Lib.hid hi3
  have K13 := Lib.hid ((K1.out.trans k12).newly hk3 (fun i hi => by have := hr1 i hi; rw [World.size_alloc] at this; omega))
  have FB := Lib.hid (((Blk.fresh w 35 #[.int .u8 0, .int .u8 0]).kept (hk1.trans k12) (fun x => x)).kept hk3 (fun x => by have := hr1 _ x; rw [World.size_alloc] at this; omega))
  clear H hm3 hi3 hk3 hs3 hoff hb2 hn2 hk2 k12 hb3 ON hi1 hk1 hr1 I1 K1
  go_wp2_with fail
  refine (in_fault p F3 _ _ w3 I3.out).mono ?_
  rintro e w4 ⟨v4, rfl, hb4, hn4, hk4⟩
  have F4 := FB.out.kept hk4 (fun x => x)
  have K4 := Lib.hid (K13.out.trans hk4)
  clear hb4 hn4 hk4 FB I3 K13
  have F5 := F4.alloc (.cells #[.int .u8 (codeOf st.s), .int .u8 (st.s : Int)] 35)
  have g0 : (w4.alloc (.cells #[.int .u8 (codeOf st.s), .int .u8 (st.s : Int)] 35)).cell? ⟨w.heap.size, 0, none⟩ = some (.int .u8 0) := F5.cell 0
  have g1 : (w4.alloc (.cells #[.int .u8 (codeOf st.s), .int .u8 (st.s : Int)] 35)).cell? ⟨w.heap.size, 1, none⟩ = some (.int .u8 0) := F5.cell 1
  have g0' : (w4.alloc (.cells #[.int .u8 (codeOf st.s), .int .u8 (st.s : Int)] 35)).frozen? ⟨w.heap.size, 0, none⟩ = false := F5.free 0
  have g1' : (w4.alloc (.cells #[.int .u8 (codeOf st.s), .int .u8 (st.s : Int)] 35)).frozen? ⟨w.heap.size, 1, none⟩ = false := F5.free 1
  have e0 : ((w4.alloc (.cells #[.int .u8 (codeOf st.s), .int .u8 (st.s : Int)] 35)).setCell ⟨w.heap.size, 0, none⟩ (.int .u8 (codeOf st.s))).cell? ⟨w.heap.size, 0, none⟩ = some (.int .u8 (codeOf st.s)) := (F5.put 0 _).cell 0
  have e1 : (((w4.alloc (.cells #[.int .u8 (codeOf st.s), .int .u8 (st.s : Int)] 35)).setCell ⟨w.heap.size, 0, none⟩ (.int .u8 (codeOf st.s))).setCell ⟨w.heap.size, 1, none⟩ (.int .u8 (st.s : Int))).cell? ⟨w.heap.size, 1, none⟩ = some (.int .u8 (st.s : Int)) := ((F5.put 0 _).put 1 _).cell 1
  clear F4 F5
  go_wp2
  exact bodyPost_ret (v := .agg #[.int .u8 (codeOf st.s), .int .u8 (st.s : Int)]) (by simp [results, Try.results20, go_sem, e0, e1]) rfl ⟨rfl, ((K4.out.alloc _).setCell (p := ⟨w.heap.size, 0, none⟩) (fun h => absurd h (Nat.lt_irrefl _)) _).setCell (p := ⟨w.heap.size, 1, none⟩) (fun h => absurd h (Nat.lt_irrefl _)) _⟩

/-- Zeros that make lays. -/
def zcf (n : Nat) : Array Value := madeCells #[.int .u8 0] n
theorem make_zf (n : Nat) (h : n ≤ 5000) : ∀ w : World, (Instr.makeSlice 25 (.int .i64 (n : Int)) (.int .i64 (n : Int))).run Try.prog w = .ok (.slice (some ⟨w.heap.size, 0, none⟩) n n) (w.alloc (.cells (zcf n) 5)) := by
  intro w
  obtain ⟨i, hi, h1, h2, h3⟩ : ∃ i, Try.prog.info? 5 = some i ∧ i.zero = some (.int .u8 0) ∧ i.size = 1 ∧ i.bytes = 1 := ⟨_, rfl, by kernel_rfl, by kernel_rfl, by kernel_rfl⟩
  have := run_make (P := Try.prog) w 25 5 i (.int .u8 0) Try.underlying25 hi h1 .i64 .i64 (n : Int) (n : Int) (by omega) (by omega) (by rw [h3]; omega) (by omega)
  rw [h2, Nat.mul_one, Int.toNat_natCast] at this
  exact this
theorem zsf_by (n : Nat) (hn : n ≤ 5000) (w : World) : By (w.alloc (.cells (zcf n) 5)) (.slice (some ⟨w.heap.size, 0, none⟩) n n) (List.replicate n 0) := by
  have := Bs.made (l := List.replicate n (0 : UInt8)) (Blk.fresh w 5 (zcf n)) (by unfold zcf; rw [toList_madeCells_one]; simp [bys]; exact .inr rfl) (by rw [List.length_replicate]; unfold maxLen; omega)
  rw [List.length_replicate] at this
  exact this.by
set_option maxHeartbeats 1000000 in
theorem kn_lay (t : UInt8) (n : Nat) (hn : n ≤ 5000) (x : Int) (h : (Fr.bytes (t, List.replicate n 0)).2 = x) (w : World) :
    Calls Try.prog 21 #[.int .u8 (t.toNat : Int), .int .i64 (n : Int)] w fun e w' => e = .returned (.int .i64 x) ∧ Kept Nothing w w' := by
  have H := Lib.hid h
  have mk := make_zf n hn
  have MB := Lib.hid (msg_bytes (t, List.replicate n 0) (.slice (some ⟨w.heap.size, 0, none⟩) n n) _ (zsf_by n hn w) (by simp only [List.length_replicate]; omega))
  clear h
  go_enter Try.func21, Try.ntmps21
  go_wp2_with fail
  refine MB.out.mono ?_
  rintro e w2 ⟨v2, rfl, hb2, hk2⟩
  rw [H.out]
  go_wp2
  go_ret
  exact ⟨rfl, ((Kept.refl Nothing w).alloc _).trans hk2⟩
end Go.Proofs.Ytkfhnkikddmccaa
