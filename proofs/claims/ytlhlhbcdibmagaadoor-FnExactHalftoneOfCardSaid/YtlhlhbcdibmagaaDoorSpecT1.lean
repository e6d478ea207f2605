/- The model's phase behind the remainder: the entries 16 to 31 of the table. Condition: none. -/
import Derived.Test.YtlhlhbcdibmagaaDoorM20
namespace Go.Proofs.YtlhlhbcdibmagaaDoor
open Go
end Go.Proofs.YtlhlhbcdibmagaaDoor
