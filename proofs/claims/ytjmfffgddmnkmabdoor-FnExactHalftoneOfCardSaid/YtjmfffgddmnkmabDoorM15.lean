/- The model's phase behind the remainder: the entries 48 to 63 of the table. Condition: none. The program's phase behind the remainder: the entries 48 to 63 of the table. Condition: none. -/
import Derived.Test.YtjmfffgddmnkmabDoorM13
namespace Go.Proofs.YtjmfffgddmnkmabDoor
open Go
end Go.Proofs.YtjmfffgddmnkmabDoor

namespace Go.Proofs.YtjmfffgddmnkmabDoor
open Go
end Go.Proofs.YtjmfffgddmnkmabDoor
