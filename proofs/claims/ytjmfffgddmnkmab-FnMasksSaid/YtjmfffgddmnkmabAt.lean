/- The program's cell of a wave in a row and a column. Condition: 64 complex numbers. -/
import Derived.Test.YtjmfffgddmnkmabM18
import Derived.Test.YtjmfffgddmnkmabM14
import Derived.Deep.QuietTactic
import Derived.BigQuiet
namespace Go.Proofs.Ytjmfffgddmnkmab
open Go Go.RowKit

end Go.Proofs.Ytjmfffgddmnkmab
