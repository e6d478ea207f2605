/- The phases of the program and of the model, called with any integer, are the table's entry at its remainder by 64. Condition: none. -/
import Derived.Test.YtfpedldomoifcaaDoorSpecT0
import Derived.Test.YtfpedldomoifcaaDoorImplT0
import Derived.Test.YtfpedldomoifcaaDoorSpecT1
import Derived.Test.YtfpedldomoifcaaDoorImplT1
import Derived.Test.YtfpedldomoifcaaDoorSpecT2
import Derived.Test.YtfpedldomoifcaaDoorImplT2
import Derived.Test.YtfpedldomoifcaaDoorSpecT3
import Derived.Test.YtfpedldomoifcaaDoorImplT3
namespace Go.Proofs.YtfpedldomoifcaaDoor
open Go
theorem toNat64 (k : Int) : ((k % 64).toNat : Int) = k % 64 ∧ (k % 64).toNat < 64 := by omega

end Go.Proofs.YtfpedldomoifcaaDoor
