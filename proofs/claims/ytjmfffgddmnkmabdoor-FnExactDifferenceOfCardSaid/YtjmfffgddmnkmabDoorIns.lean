/- The model's way to ask whether a number lies within two. Condition: none. -/
import Derived.Test.YtjmfffgddmnkmabDoorPlane
namespace Go.Proofs.YtjmfffgddmnkmabDoor
open Go Go.RowKit

def inside (k a b : Int) : Bool := decide (a ≤ k) && decide (k ≤ b)

end Go.Proofs.YtjmfffgddmnkmabDoor
