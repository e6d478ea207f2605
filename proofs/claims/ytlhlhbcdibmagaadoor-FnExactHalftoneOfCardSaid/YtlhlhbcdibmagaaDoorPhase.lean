/- The phases of the program and of the model, called with any integer, are the table's entry at its remainder by 64. Condition: none. -/
import Derived.Test.YtlhlhbcdibmagaaDoorSpecT0
import Derived.Test.YtlhlhbcdibmagaaDoorImplT0
import Derived.Test.YtlhlhbcdibmagaaDoorSpecT1
import Derived.Test.YtlhlhbcdibmagaaDoorImplT1
import Derived.Test.YtlhlhbcdibmagaaDoorSpecT2
import Derived.Test.YtlhlhbcdibmagaaDoorImplT2
import Derived.Test.YtlhlhbcdibmagaaDoorSpecT3
import Derived.Test.YtlhlhbcdibmagaaDoorImplT3
namespace Go.Proofs.YtlhlhbcdibmagaaDoor
open Go
theorem toNat64 (k : Int) : ((k % 64).toNat : Int) = k % 64 ∧ (k % 64).toNat < 64 := by omega

end Go.Proofs.YtlhlhbcdibmagaaDoor
