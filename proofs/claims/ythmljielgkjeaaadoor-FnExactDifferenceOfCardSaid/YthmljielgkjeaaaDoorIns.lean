/- The model's way to ask whether a number lies within two. Condition: none. -/
import Derived.Test.YthmljielgkjeaaaDoorPlane
namespace Go.Proofs.YthmljielgkjeaaaDoor
open Go Go.RowKit

def inside (k a b : Int) : Bool := decide (a ≤ k) && decide (k ≤ b)

end Go.Proofs.YthmljielgkjeaaaDoor
