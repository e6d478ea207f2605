/- The program's phase behind the remainder: the entries 32 to 47 of the table. Condition: none. -/
import Derived.Test.YtlhlhbcdibmagaaDoorM20
namespace Go.Proofs.YtlhlhbcdibmagaaDoor
open Go
end Go.Proofs.YtlhlhbcdibmagaaDoor
