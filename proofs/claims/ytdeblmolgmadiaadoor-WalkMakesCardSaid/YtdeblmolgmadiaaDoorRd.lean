
/-
  What the calls of package scroll's reader do, each in whatever memory: by walks over their text.
-/
import Derived.Test.YtdeblmolgmadiaaDoorRs
namespace Go.Proofs.YtdeblmolgmadiaaDoor
open Go.RowKit

theorem cells5 {w : World} {p : Nat} {t : TypeId} {a b c d e : Value} (h : Blk w p t #[a, b, c, d, e]) :
    (w.cell? ⟨p, 0, none⟩ = some a ∧ w.cell? ⟨p, 1, none⟩ = some b ∧ w.cell? ⟨p, 2, none⟩ = some c ∧ w.cell? ⟨p, 3, none⟩ = some d ∧ w.cell? ⟨p, 4, none⟩ = some e) ∧
    (w.frozen? ⟨p, 2, none⟩ = false ∧ w.frozen? ⟨p, 3, none⟩ = false ∧ w.frozen? ⟨p, 4, none⟩ = false) :=
  ⟨⟨h.cell 0, h.cell 1, h.cell 2, h.cell 3, h.cell 4⟩, h.free 2, h.free 3, h.free 4⟩
theorem cells3 {w : World} {p : Nat} {t : TypeId} {a b c : Value} (h : Blk w p t #[a, b, c]) :
    w.cell? ⟨p, 0, none⟩ = some a ∧ w.cell? ⟨p, 1, none⟩ = some b ∧ w.cell? ⟨p, 2, none⟩ = some c :=
  ⟨h.cell 0, h.cell 1, h.cell 2⟩

end Go.Proofs.YtdeblmolgmadiaaDoor
