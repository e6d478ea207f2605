/- The program's types of pictures. Condition: none. -/
import Derived.Test.YtjmfffgddmnkmabDoorMid
namespace Go.Proofs.YtjmfffgddmnkmabDoor
open Go Go.RowKit

theorem info32 : (Tryd.prog.info? 36).map (fun i => (i.zero, i.size)) = some (some (.agg (pic 0 zero64)), 65) := by kernel_rfl

theorem size28 : (Tryd.prog.info? 31).map (·.size) = some 64 := by kernel_rfl

end Go.Proofs.YtjmfffgddmnkmabDoor
