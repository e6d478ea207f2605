/- Whether a complex number is one, in both ways to ask. Condition: none. -/
import Derived.Test.YtjmfffgddmnkmabDoorIn
namespace Go.Proofs.YtjmfffgddmnkmabDoor
open Go Go.RowKit

end Go.Proofs.YtjmfffgddmnkmabDoor
