/- The program's types of pictures. Condition: none. -/
import Derived.Test.YtjmfffgddmnkmabMid
namespace Go.Proofs.Ytjmfffgddmnkmab
open Go Go.RowKit

theorem info32 : (Try.prog.info? 50).map (fun i => (i.zero, i.size)) = some (some (.agg (pic 0 zero64)), 65) := by kernel_rfl

theorem size28 : (Try.prog.info? 46).map (·.size) = some 64 := by kernel_rfl

end Go.Proofs.Ytjmfffgddmnkmab
