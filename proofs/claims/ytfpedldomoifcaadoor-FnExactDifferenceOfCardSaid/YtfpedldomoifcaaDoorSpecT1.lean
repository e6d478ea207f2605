/- The model's phase behind the remainder: the entries 16 to 31 of the table. Condition: none. -/
import Derived.Test.YtfpedldomoifcaaDoorSpec
namespace Go.Proofs.YtfpedldomoifcaaDoor
open Go
end Go.Proofs.YtfpedldomoifcaaDoor
