/- The law of IsPicture returns true for every picture's cells. Condition: 64 floats. -/
import Derived.Test.YtjmfffgddmnkmabImpl
import Derived.Test.YtjmfffgddmnkmabPic
namespace Go.Proofs.Ytjmfffgddmnkmab
open Go Go.RowKit

theorem size32 (s : Int) (zs : Array Value) (hz : Floats zs) : (Try.prog.info? 50).map (·.size) = some (pic s zs).size := by rw [pic_size s zs hz.1]; exact (zero_of_info info32).2
theorem size30 (s : Int) (zs : Array Value) (hz : Floats zs) : (Try.prog.info? 48).map (·.size) = some (pic s zs).size := by rw [pic_size s zs hz.1]; kernel_rfl

end Go.Proofs.Ytjmfffgddmnkmab
