/- The program's types of pictures. Condition: none. -/
import Derived.Test.YtjnbbhallihpaaaMid
namespace Go.Proofs.Ytjnbbhallihpaaa
open Go Go.RowKit

end Go.Proofs.Ytjnbbhallihpaaa
