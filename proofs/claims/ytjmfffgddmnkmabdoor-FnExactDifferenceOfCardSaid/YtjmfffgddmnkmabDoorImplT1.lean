/- The program's phase behind the remainder: the entries 16 to 31 of the table. Condition: none. -/
import Derived.Test.YtjmfffgddmnkmabDoorRem
namespace Go.Proofs.YtjmfffgddmnkmabDoor
open Go
end Go.Proofs.YtjmfffgddmnkmabDoor
