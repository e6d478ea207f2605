/- The law of IsPicture returns true for every picture's cells. Condition: 64 floats. -/
import Derived.Test.YtjmfffgddmnkmacImpl
import Derived.Test.YtjmfffgddmnkmacPic
namespace Go.Proofs.Ytjmfffgddmnkmac
open Go Go.RowKit

theorem size32 (s : Int) (zs : Array Value) (hz : Floats zs) : (Try.prog.info? 49).map (·.size) = some (pic s zs).size := by rw [pic_size s zs hz.1]; exact (zero_of_info info32).2
end Go.Proofs.Ytjmfffgddmnkmac
