/- The model's phase behind the remainder: the entries 32 to 47 of the table. Condition: none. -/
import Derived.Test.YtjmfffgddmnkmabDoorSpec
namespace Go.Proofs.YtjmfffgddmnkmabDoor
open Go
end Go.Proofs.YtjmfffgddmnkmabDoor
