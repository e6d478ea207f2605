/- What is a complex number, and what lies within 64, in the program's ways to ask. Condition: none. -/
import Derived.Test.YtfpedldomoifcaaDoorSide
namespace Go.Proofs.YtfpedldomoifcaaDoor
open Go Go.RowKit

/-- 64 finite complex numbers -/
def Cells (zs : Array Value) : Prop := zs.size = 64 ∧ ∀ k, k < 64 → ∃ x y, fin x = true ∧ fin y = true ∧ zs[k]? = some (.complex .f32 x y)

/-- within -64 and 64 -/
def within (k : Int) : Bool := decide (-64 ≤ k) && decide (k ≤ 64)

end Go.Proofs.YtfpedldomoifcaaDoor
