/- What is known of the phases, and spec.PhaseOf. Condition: none. -/
import Derived.Test.YtjmfffgddmnkmabDoorPhase
namespace Go.Proofs.YtjmfffgddmnkmabDoor
open Go

end Go.Proofs.YtjmfffgddmnkmabDoor
