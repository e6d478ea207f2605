/- The model's phase, called with any integer, hands back the table's entry at its remainder by 64. Condition: none. -/
import Derived.Test.YtjmfffgddmnkmabDoorTab
namespace Go.Proofs.YtjmfffgddmnkmabDoor
open Go

/-- the frame of the model's phase once the remainder is found -/
def at13 (fr : Frame) : Bool := match fr.tmps.getD 13 undef with | .int .. => true | _ => false
end Go.Proofs.YtjmfffgddmnkmabDoor
