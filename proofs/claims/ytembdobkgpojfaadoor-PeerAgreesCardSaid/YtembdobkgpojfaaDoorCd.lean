
/-
  What the document's Read of chapter 5 does.
-/
import Derived.Test.YtembdobkgpojfaaDoorCc
namespace Go.Proofs.YtembdobkgpojfaaDoor
open Go.RowKit

theorem slice_mid (A : Option Addr) (n c : Nat) (lo hi : Int) (i m : Nat) (hlo : lo = (i : Int)) (hhi : hi = (i : Int) + (m : Int)) (hj : i + m ≤ c) (w : World) :
    (Instr.slice 29 (.slice A n c) (some (.int .i64 lo)) (some (.int .i64 hi)) none).run Tryd.prog w = .ok (.slice (if c = i then A else A.map (·.add i)) m (c - i)) w := by
  subst hlo hhi
  have hz := Tryd.sizeOf5
  have he : Tryd.prog.elem 29 = 5 := by kernel_rfl
  rw [run_slice_lh w 29 A n c (by kernel_rfl) .i64 .i64 (i : Int) ((i : Int) + (m : Int)) (by omega) (by omega) (by omega), he, hz]
  simp [sliced]
  omega
theorem By.at {w : World} {A : Option Addr} {n c : Nat} {l : List UInt8} (h : By w (.slice A n c) l) (h0 : 0 < n) : ∃ b o, A = some ⟨b, o, none⟩ ∧ ∀ i, i < n → w.cell? ⟨b, o + i, none⟩ = some (by8 (l.getD i 0)) := by
  obtain ⟨A', c', hv, _, _, hr⟩ := h
  injection hv with h1 h2 h3
  subst h1 h2
  obtain ⟨s1, s2, s3, s4⟩ := hr
  cases A with
  | none => have := s2 rfl; omega
  | some a =>
    have h00 := s3 a rfl 0 _ (getD_bys l 0 h0)
    obtain ⟨b, o, sp⟩ := a
    have hsp : sp = none := by simpa [Addr.add] using World.cell?_spot h00
    subst hsp
    exact ⟨b, o, rfl, fun i hi => by have := s3 _ rfl i _ (getD_bys l i hi); rwa [add_none] at this⟩
theorem rcap_info : (Tryd.prog.info? 63).map (fun i => (i.zero, i.size, i.bytes)) = some (some (.agg #[.int .u8 0, .slice none 0 0]), 2, 32) := by kernel_rfl

/-- What lies in memory between two steps of the document's Read. -/
structure RMid (w0 w : World) (a : Nat) (acc : List Cp) (lv : Value) (wr : World) : Prop where
  own : ∃ xs, wr.ownsRow w.heap.size 63 2 lv acc.length xs ∧ Cells (By w0) xs acc
  kept : Kept Nothing w wr
  less : acc.length ≤ a

end Go.Proofs.YtembdobkgpojfaaDoor
