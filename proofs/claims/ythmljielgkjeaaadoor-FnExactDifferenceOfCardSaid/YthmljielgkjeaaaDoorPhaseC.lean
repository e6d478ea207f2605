/- What is known of the phases, and spec.PhaseOf. Condition: none. -/
import Derived.Test.YthmljielgkjeaaaDoorPhase
namespace Go.Proofs.YthmljielgkjeaaaDoor
open Go

end Go.Proofs.YthmljielgkjeaaaDoor
