/- The model's phase behind the remainder: the entries 16 to 31 of the table. Condition: none. The program's phase behind the remainder: the entries 16 to 31 of the table. Condition: none. The model's phase behind the remainder: the entries 32 to 47 of the table. Condition: none. The program's phase behind the remainder: the entries 32 to 47 of the table. Condition: none. -/
import Derived.Test.YtjmfffgddmnkmabDoorM13
namespace Go.Proofs.YtjmfffgddmnkmabDoor
open Go
end Go.Proofs.YtjmfffgddmnkmabDoor

namespace Go.Proofs.YtjmfffgddmnkmabDoor
open Go
end Go.Proofs.YtjmfffgddmnkmabDoor

namespace Go.Proofs.YtjmfffgddmnkmabDoor
open Go
end Go.Proofs.YtjmfffgddmnkmabDoor

namespace Go.Proofs.YtjmfffgddmnkmabDoor
open Go
end Go.Proofs.YtjmfffgddmnkmabDoor
