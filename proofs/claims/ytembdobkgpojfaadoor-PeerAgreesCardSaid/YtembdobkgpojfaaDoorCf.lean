
/-
  The law's own words of chapter 5: same, of, few.
-/
import Derived.Test.YtembdobkgpojfaaDoorCe
import Derived.Test.YtembdobkgpojfaaDoorWd
namespace Go.Proofs.YtembdobkgpojfaaDoor
open Go.RowKit

theorem equal_by {w : World} {a b : Value} {l m : List UInt8} (ha : By w a l) (hb : By w b m) (n : Nat) :
    Calls Tryd.prog 21 #[a, b] (w.drewN n) fun e w'' => e = .returned (.bool (l == m)) ∧ ∃ k, w'' = w.drewN k :=
  (by_equal a b l m _ (ha.old ((Kept.refl Nothing w).drewN n)) (hb.old ((Kept.refl Nothing w).drewN n))).mono fun _ _ ⟨h1, h2⟩ => ⟨h1, n, h2.symm⟩

theorem slice_to (A : Option Addr) (n c k : Nat) (hk : k ≤ c) (w : World) :
    (Instr.slice 29 (.slice A n c) none (some (.int .i64 (k : Int))) none).run Tryd.prog w = .ok (.slice A k c) w := by
  have hz := Tryd.sizeOf5
  have he : Tryd.prog.elem 29 = 5 := by kernel_rfl
  rw [run_slice_h w 29 A n c (by kernel_rfl) .i64 k (by omega) (by omega), he, hz]
  cases A <;> simp [sliced, Addr.add]

def cutC (c : Cp) : Cp := (c.1, c.2.take 260)
def fewL (l : List Cp) : List Cp := (l.take 20).map cutC
end Go.Proofs.YtembdobkgpojfaaDoor
