/- The model's phase behind the remainder: the entries 16 to 31 of the table. Condition: none. -/
import Derived.Test.YtjmfffgddmnkmacSpec
namespace Go.Proofs.Ytjmfffgddmnkmac
open Go
end Go.Proofs.Ytjmfffgddmnkmac
