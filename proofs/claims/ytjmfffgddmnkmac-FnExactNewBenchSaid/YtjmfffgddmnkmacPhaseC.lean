/- What is known of the phases, and spec.PhaseOf. Condition: none. -/
import Derived.Test.YtjmfffgddmnkmacPhase
namespace Go.Proofs.Ytjmfffgddmnkmac
open Go

end Go.Proofs.Ytjmfffgddmnkmac
