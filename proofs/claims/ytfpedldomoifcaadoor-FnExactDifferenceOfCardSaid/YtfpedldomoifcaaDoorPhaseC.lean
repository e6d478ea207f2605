/- What is known of the phases, and spec.PhaseOf. Condition: none. -/
import Derived.Test.YtfpedldomoifcaaDoorPhase
namespace Go.Proofs.YtfpedldomoifcaaDoor
open Go

end Go.Proofs.YtfpedldomoifcaaDoor
