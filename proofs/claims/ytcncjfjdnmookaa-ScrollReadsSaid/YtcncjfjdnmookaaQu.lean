/-
  The readers' calls that only read, as quiet calls.
-/
import Derived.Test.YtcncjfjdnmookaaRj
import Derived.Test.YtcncjfjdnmookaaHq
namespace Go.Proofs.Ytcncjfjdnmookaa
open Go.RowKit

theorem qq_at {w : World} {p : Nat} {s : RS} (h : Rd w p s) (m : Nat) : Calls Try.prog 14 #[.pointer (some ⟨p, 0, none⟩)] (w.drewN m) fun e w'' => e = .returned (.int .i64 (s.k : Int)) ∧ ∃ m, w'' = w.drewN m :=
  (rd_at p s _ (h.drewN m)).mono fun _ _ ⟨h1, h2⟩ => ⟨h1, m, h2.symm⟩
theorem qq_err {w : World} {p : Nat} {s : RS} (h : Rd w p s) (m : Nat) : Calls Try.prog 15 #[.pointer (some ⟨p, 0, none⟩)] (w.drewN m) fun e w'' => e = .returned (.int .i64 s.e) ∧ ∃ m, w'' = w.drewN m :=
  (rd_err p s _ (h.drewN m)).mono fun _ _ ⟨h1, h2⟩ => ⟨h1, m, h2.symm⟩
theorem qq_deep {w : World} {p : Nat} {s : RS} (h : Rd w p s) (m : Nat) : Calls Try.prog 13 #[.pointer (some ⟨p, 0, none⟩)] (w.drewN m) fun e w'' => e = .returned (.int .i64 (s.es.length : Int)) ∧ ∃ m, w'' = w.drewN m :=
  (rd_deep p s _ (h.drewN m)).mono fun _ _ ⟨h1, h2⟩ => ⟨h1, m, h2.symm⟩
theorem qq_left {w : World} {p : Nat} {s : RS} (h : Rd w p s) (m : Nat) : Calls Try.prog 11 #[.pointer (some ⟨p, 0, none⟩)] (w.drewN m) fun e w'' => e = .returned (.int .i64 (s.left : Int)) ∧ ∃ m, w'' = w.drewN m :=
  (rd_left p s _ (h.drewN m)).mono fun _ _ ⟨h1, j, h2⟩ => ⟨h1, m + j, by rw [h2, World.drewN_drewN]⟩
theorem qf_left {w : World} {base q : Nat} {F : Nat → Prop} {s : RS} (h : Rf w base F q s) (m : Nat) : Calls Try.prog 12 #[.pointer (some ⟨q, 0, none⟩)] (w.drewN m) fun e w'' => e = .returned (.int .i64 (s.left : Int)) ∧ ∃ m, w'' = w.drewN m :=
  (rf_left q base F s _ (h.drewN m)).mono fun _ _ ⟨h1, j, h2⟩ => ⟨h1, m + j, by rw [h2, World.drewN_drewN]⟩
end Go.Proofs.Ytcncjfjdnmookaa
