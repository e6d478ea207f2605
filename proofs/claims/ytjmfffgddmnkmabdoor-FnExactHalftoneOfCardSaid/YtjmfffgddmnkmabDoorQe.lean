/- Absolute values of float32's, and sums so far: numbers of no negative sign. Condition: none. -/
import Derived.Test.YtjmfffgddmnkmabDoorQh
namespace Go.Proofs.YtjmfffgddmnkmabDoor
open Go Go.RowKit
open Ieee

/-- the absolute value -/
def magF (x : Nat) : Nat := x % 2147483648
/-- a sum so far: a number of no negative sign -/
def Good (o : Nat) : Prop := fin o = true ∧ o < 2147483648
theorem good_zero : Good 0 := ⟨by decide, by omega⟩
end Go.Proofs.YtjmfffgddmnkmabDoor
