
/-
  What the calls of the document's own writer (package consulateref01) do: Lay.
-/
import Derived.Test.YtmaebgpppedllaaVs
import Derived.Deep.RegionLaw
import Derived.Deep.DeepCutAuto
import Derived.Deep.CutBlock
import Derived.Handy
namespace Go.Proofs.Ytmaebgpppedllaa
open Go.RowKit

theorem be_take (n wide i : Nat) (h : i < wide) : (be n wide).take (i + 1) = (be n wide).take i ++ [UInt8.ofNat (n / 256 ^ (wide - 1 - i))] := by
  rw [List.take_succ_eq_append_getElem (by simp [be, h])]
  simp [be]
theorem length_be (n wide : Nat) : (be n wide).length = wide := by simp [be]


end Go.Proofs.Ytmaebgpppedllaa
