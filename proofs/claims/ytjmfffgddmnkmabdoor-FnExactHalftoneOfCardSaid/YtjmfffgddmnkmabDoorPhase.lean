/- The phases of the program and of the model, called with any integer, are the table's entry at its remainder by 64. Condition: none. -/
import Derived.Test.YtjmfffgddmnkmabDoorM13
import Derived.Test.YtjmfffgddmnkmabDoorM14
import Derived.Test.YtjmfffgddmnkmabDoorM15
namespace Go.Proofs.YtjmfffgddmnkmabDoor
open Go
theorem toNat64 (k : Int) : ((k % 64).toNat : Int) = k % 64 ∧ (k % 64).toNat < 64 := by omega

end Go.Proofs.YtjmfffgddmnkmabDoor
