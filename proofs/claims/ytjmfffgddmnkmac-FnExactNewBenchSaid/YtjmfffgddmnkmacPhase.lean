/- The phases of the program and of the model, called with any integer, are the table's entry at its remainder by 64. Condition: none. -/
import Derived.Test.YtjmfffgddmnkmacSpecT0
import Derived.Test.YtjmfffgddmnkmacImplT0
import Derived.Test.YtjmfffgddmnkmacSpecT1
import Derived.Test.YtjmfffgddmnkmacImplT1
import Derived.Test.YtjmfffgddmnkmacSpecT2
import Derived.Test.YtjmfffgddmnkmacImplT2
import Derived.Test.YtjmfffgddmnkmacSpecT3
import Derived.Test.YtjmfffgddmnkmacImplT3
namespace Go.Proofs.Ytjmfffgddmnkmac
open Go
theorem toNat64 (k : Int) : ((k % 64).toNat : Int) = k % 64 ∧ (k % 64).toNat < 64 := by omega

end Go.Proofs.Ytjmfffgddmnkmac
