/- The model's phase behind the remainder: the entries 0 to 15 of the table. Condition: none. -/
import Derived.Test.YtfpedldomoifcaaDoorSpec
namespace Go.Proofs.YtfpedldomoifcaaDoor
open Go
end Go.Proofs.YtfpedldomoifcaaDoor
