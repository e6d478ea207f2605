/- What is known of the phases, and spec.PhaseOf. Condition: none. -/
import Derived.Test.YthmljielgkjeaaaPhase
namespace Go.Proofs.Ythmljielgkjeaaa
open Go

end Go.Proofs.Ythmljielgkjeaaa
