/- Plain facts on waves by a rule: they are waves; what their cells are. Condition: none. -/
import Derived.Test.YtjmfffgddmnkmabM18
import Derived.Test.YtjmfffgddmnkmabM12
import Derived.Test.YtjmfffgddmnkmabM14
namespace Go.Proofs.Ytjmfffgddmnkmab
open Go Go.RowKit

end Go.Proofs.Ytjmfffgddmnkmab
