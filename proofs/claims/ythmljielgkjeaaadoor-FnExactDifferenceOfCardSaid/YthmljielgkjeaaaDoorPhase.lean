/- The phases of the program and of the model, called with any integer, are the table's entry at its remainder by 64. Condition: none. -/
import Derived.Test.YthmljielgkjeaaaDoorSpecT0
import Derived.Test.YthmljielgkjeaaaDoorImplT0
import Derived.Test.YthmljielgkjeaaaDoorSpecT1
import Derived.Test.YthmljielgkjeaaaDoorImplT1
import Derived.Test.YthmljielgkjeaaaDoorSpecT2
import Derived.Test.YthmljielgkjeaaaDoorImplT2
import Derived.Test.YthmljielgkjeaaaDoorSpecT3
import Derived.Test.YthmljielgkjeaaaDoorImplT3
namespace Go.Proofs.YthmljielgkjeaaaDoor
open Go
theorem toNat64 (k : Int) : ((k % 64).toNat : Int) = k % 64 ∧ (k % 64).toNat < 64 := by omega

end Go.Proofs.YthmljielgkjeaaaDoor
