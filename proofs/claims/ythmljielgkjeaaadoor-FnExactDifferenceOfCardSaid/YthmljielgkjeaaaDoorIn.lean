/- What is a complex number, and what lies within 64, in the program's ways to ask. Condition: none. -/
import Derived.Test.YthmljielgkjeaaaDoorSide
namespace Go.Proofs.YthmljielgkjeaaaDoor
open Go Go.RowKit

/-- 64 finite complex numbers -/
def Cells (zs : Array Value) : Prop := zs.size = 64 ∧ ∀ k, k < 64 → ∃ x y, fin x = true ∧ fin y = true ∧ zs[k]? = some (.complex .f32 x y)

theorem size35 : (Tryd.prog.info? 36).map (·.size) = some 64 := by kernel_rfl
theorem info37 : (Tryd.prog.info? 38).map (fun i => (i.zero, i.size)) = some (some (.agg (pic 0 (Array.replicate 64 (.complex .f32 0 0)))), 65) := by kernel_rfl

/-- within -64 and 64 -/
def within (k : Int) : Bool := decide (-64 ≤ k) && decide (k ≤ 64)

end Go.Proofs.YthmljielgkjeaaaDoor
