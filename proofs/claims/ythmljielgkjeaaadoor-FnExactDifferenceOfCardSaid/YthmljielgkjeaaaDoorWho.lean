/- Whether a complex number is one, in both ways to ask. Condition: none. -/
import Derived.Test.YthmljielgkjeaaaDoorIn
namespace Go.Proofs.YthmljielgkjeaaaDoor
open Go Go.RowKit

end Go.Proofs.YthmljielgkjeaaaDoor
