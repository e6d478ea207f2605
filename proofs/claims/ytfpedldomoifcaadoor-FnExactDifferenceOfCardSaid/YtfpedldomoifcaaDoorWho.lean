/- Whether a complex number is one, in both ways to ask. Condition: none. -/
import Derived.Test.YtfpedldomoifcaaDoorIn
namespace Go.Proofs.YtfpedldomoifcaaDoor
open Go Go.RowKit

end Go.Proofs.YtfpedldomoifcaaDoor
