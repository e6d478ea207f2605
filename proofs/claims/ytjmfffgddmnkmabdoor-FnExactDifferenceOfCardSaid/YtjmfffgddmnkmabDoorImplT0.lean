/- The program's phase behind the remainder: the entries 0 to 15 of the table. Condition: none. -/
import Derived.Test.YtjmfffgddmnkmabDoorRem
namespace Go.Proofs.YtjmfffgddmnkmabDoor
open Go
end Go.Proofs.YtjmfffgddmnkmabDoor
