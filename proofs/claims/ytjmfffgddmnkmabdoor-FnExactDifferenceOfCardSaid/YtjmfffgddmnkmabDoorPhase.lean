/- The phases of the program and of the model, called with any integer, are the table's entry at its remainder by 64. Condition: none. -/
import Derived.Test.YtjmfffgddmnkmabDoorSpecT0
import Derived.Test.YtjmfffgddmnkmabDoorImplT0
import Derived.Test.YtjmfffgddmnkmabDoorSpecT1
import Derived.Test.YtjmfffgddmnkmabDoorImplT1
import Derived.Test.YtjmfffgddmnkmabDoorSpecT2
import Derived.Test.YtjmfffgddmnkmabDoorImplT2
import Derived.Test.YtjmfffgddmnkmabDoorSpecT3
import Derived.Test.YtjmfffgddmnkmabDoorImplT3
namespace Go.Proofs.YtjmfffgddmnkmabDoor
open Go
theorem toNat64 (k : Int) : ((k % 64).toNat : Int) = k % 64 ∧ (k % 64).toNat < 64 := by omega

end Go.Proofs.YtjmfffgddmnkmabDoor
