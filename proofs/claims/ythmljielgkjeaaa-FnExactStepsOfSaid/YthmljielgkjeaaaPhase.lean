/- The phases of the program and of the model, called with any integer, are the table's entry at its remainder by 64. Condition: none. -/
import Derived.Test.YthmljielgkjeaaaSpecT0
import Derived.Test.YthmljielgkjeaaaImplT0
import Derived.Test.YthmljielgkjeaaaSpecT1
import Derived.Test.YthmljielgkjeaaaImplT1
import Derived.Test.YthmljielgkjeaaaSpecT2
import Derived.Test.YthmljielgkjeaaaImplT2
import Derived.Test.YthmljielgkjeaaaSpecT3
import Derived.Test.YthmljielgkjeaaaImplT3
namespace Go.Proofs.Ythmljielgkjeaaa
open Go
theorem toNat64 (k : Int) : ((k % 64).toNat : Int) = k % 64 ∧ (k % 64).toNat < 64 := by omega

end Go.Proofs.Ythmljielgkjeaaa
