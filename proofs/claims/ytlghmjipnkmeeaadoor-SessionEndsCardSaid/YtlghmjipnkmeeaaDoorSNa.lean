
/-
  The law SessionEnds: the five ends together (printed by wip/gen_sna.py).
-/
import Derived.Test.YtlghmjipnkmeeaaDoorSNe0
import Derived.Test.YtlghmjipnkmeeaaDoorSNe1
import Derived.Test.YtlghmjipnkmeeaaDoorSNe2
import Derived.Test.YtlghmjipnkmeeaaDoorSNe3
import Derived.Test.YtlghmjipnkmeeaaDoorSNe4
namespace Go.Proofs.YtlghmjipnkmeeaaDoor
open Go.RowKit

theorem ends_law (v : Value) (l : List EvB) (x c s : Nat) (_ : x < 256) (W : World) (hR : RdS W) (hl : Evs W v l) :
    Calls Tryd.prog 6 #[v, .int .u8 x, .agg #[.int .u8 c, .int .u8 s]] W fun e w' => e = .returned (.bool true) ∧ Kept Nothing W w' := by
  have h5 : x % 5 = 0 ∨ x % 5 = 1 ∨ x % 5 = 2 ∨ x % 5 = 3 ∨ x % 5 = 4 := by omega
  rcases h5 with h | h | h | h | h
  · exact ends_law0 v l x c s h W hR hl
  · exact ends_law1 v l x c s h W hR hl
  · exact ends_law2 v l x c s h W hR hl
  · exact ends_law3 v l x c s h W hR hl
  · exact ends_law4 v l x c s h W hR hl
end Go.Proofs.YtlghmjipnkmeeaaDoor
