
/-
  The law FrameLays.
-/
import Derived.Test.YtgndhkhhjpffnaaLaw
import Derived.Test.YtgndhkhhjpffnaaGd
import Derived.Test.YtgndhkhhjpffnaaFw
namespace Go.Proofs.Ytgndhkhhjpffnaa
open Go.RowKit

theorem r3_bytes (m : Msg) (bv : Value) (W : World) (h : By W bv m.2) (hb : m.2.length ≤ 5000) :
    Calls Try.prog 20 #[.agg #[.int .u8 (m.1.toNat : Int), bv]] W fun r w' => ∃ v', r = .returned (.tuple #[v', .int .i64 (Fr.bytes m).2]) ∧ Bs w' v' (Fr.bytes m).1 ∧ Kept Nothing W w' := by
  by_cases he : (Fr.bytes m).2 = 0
  · have := r3_bytes_ok m bv W h hb he
    rw [← he] at this
    exact this
  · exact r3_bytes_err m bv W h hb he
set_option maxRecDepth 100000 in
set_option maxHeartbeats 1600000 in
theorem lays_in (t : UInt8) (l b : List UInt8) (A : Option Addr) (c n : Nat) (W : World) (hb : By W (.slice A n c) b) (hn : b.length = n) (h5 : n ≤ 5000)
    (hs : (l.length : Int) ≤ 5000 ∧ (l.length : Int) ≤ (c : Int) ∧ n = l.length ∨ (5000 : Int) < (l.length : Int) ∧ (5000 : Int) ≤ (c : Int) ∧ n = 5000) :
    Calls Try.prog 4 #[.agg #[.int .u8 (t.toNat : Int), .slice A l.length c]] W fun e w' => e = .returned (.bool true) ∧ Kept Nothing W w' := by
  have HM := Lib.hid (fun w (k : Kept Nothing W w) => msg_bytes (t, b) (.slice A n c) w (hb.old k) (by show b.length ≤ _; omega))
  have HR := Lib.hid (fun w (k : Kept Nothing W w) => r3_bytes (t, b) (.slice A n c) w (hb.old k) (by show b.length ≤ _; omega))
  have KA := Lib.hid (fun o => (Kept.refl Nothing W).alloc o)
  have HB := Lib.hid (Blk.fresh W 43 #[.int .u8 (t.toNat : Int), .slice A n c])
  have HT := Lib.hid wakes3
  have HE := Lib.hid by_equal
  generalize (Fr.bytes (t, b)).1 = o at HM HR
  generalize (Fr.bytes (t, b)).2 = e at HM HR
  have HM' : Hid (∀ w, Kept Nothing W w → Calls Try.prog 19 #[.agg #[.int .u8 (t.toNat : Int), .slice A n c]] w fun r w' => ∃ v', r = .returned (.tuple #[v', .int .i64 e]) ∧ Bs w' v' o ∧ Kept Nothing w w') := HM
  have HR' : Hid (∀ w, Kept Nothing W w → Calls Try.prog 20 #[.agg #[.int .u8 (t.toNat : Int), .slice A n c]] w fun r w' => ∃ v', r = .returned (.tuple #[v', .int .i64 e]) ∧ Bs w' v' o ∧ Kept Nothing w w') := HR
  clear HM HR hb
  generalize (t.toNat : Int) = ti at *
  rcases hs with ⟨h6, h7, rfl⟩ | ⟨h6, h7, rfl⟩
  all_goals
    go_enter Try.func4, Try.ntmps4
    go_wp2_with (first
      | (go_at_call 19; refine (HM'.out _ (KA.out _)).mono ?_; rintro e1 w1 ⟨v1, rfl, b1, k1⟩; have B1 := HB.out.kept k1 (fun x => x); have c0 : w1.cell? ⟨W.heap.size, 0, none⟩ = some (.int .u8 ti) := B1.cell 0; (first | have c1 : w1.cell? ⟨W.heap.size, 1, none⟩ = some (.slice A l.length c) := B1.cell 1 | have c1 : w1.cell? ⟨W.heap.size, 1, none⟩ = some (.slice A 5000 c) := B1.cell 1); replace k1 := (KA.out _).trans k1)
      | (go_at_call 20; refine (HR'.out _ k1).mono ?_; rintro e2 w2 ⟨v2, rfl, b2, k2⟩)
      | (go_at_call 17; refine (HE.out _ _ _ _ _ (b1.kept k2 (NoBytes.nothing _)).by b2.by).mono ?_; rintro e3 w3 ⟨rfl, rfl⟩)
      | (go_at_call 18; refine (HT.out _).mono ?_; rintro e4 w4 ⟨rfl, k4⟩))
    go_ret
    exact ⟨rfl, (k1.trans k2).trans k4⟩
theorem lays_law (t : UInt8) (bv : Value) (l : List UInt8) (W : World) (h : By W bv l) :
    Calls Try.prog 4 #[.agg #[.int .u8 (t.toNat : Int), bv]] W fun e w' => e = .returned (.bool true) ∧ Kept Nothing W w' := by
  obtain ⟨A, c, rfl, hc, hm⟩ := h.form
  by_cases h5 : l.length ≤ 5000
  · exact lays_in t l l A c l.length W h rfl h5 (.inl ⟨by omega, by omega, rfl⟩)
  · exact lays_in t l (l.take 5000) A c 5000 W (h.pre (by omega)) (by rw [List.length_take]; omega) (by omega) (.inr ⟨by omega, by omega, rfl⟩)
end Go.Proofs.Ytgndhkhhjpffnaa
