/- The program's phase behind the remainder: the entries 48 to 63 of the table. Condition: none. -/
import Derived.Test.YtfpedldomoifcaaDoorRem
namespace Go.Proofs.YtfpedldomoifcaaDoor
open Go
end Go.Proofs.YtfpedldomoifcaaDoor
