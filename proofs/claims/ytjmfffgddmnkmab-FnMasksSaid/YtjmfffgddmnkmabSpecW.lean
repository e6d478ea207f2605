/- The model's PlaneWave: the plane wave, or zeros and the code of a range. Condition: none. -/
import Derived.Test.YtjmfffgddmnkmabSpecP
import Derived.Test.YtjmfffgddmnkmabM12
namespace Go.Proofs.Ytjmfffgddmnkmab
open Go Go.RowKit

/-- the cells of the plane wave of a side -/
def pw (n u v : Int) : Array Value := pic n (fill (parts n.toNat (64 / n) u v) (n * n).toNat)

theorem plane_any (n u v : Int) (hn : side n = true) (hu : within u = true) (hv : within v = true) (w : World) :
    Calls Try.prog 114 #[.int .i64 n, .int .i64 u, .int .i64 v] w fun e w' => e = .returned (.agg (pw n u v)) ∧ Below w.heap.size w w' := by
  rcases side_yes n hn with rfl | rfl | rfl | rfl
  · exact plane_one u v hu hv w
  · exact plane_two u v hu hv w
  · exact plane_four u v hu hv w
  · exact plane_eight u v hu hv w

theorem pw_size (n u v : Int) : (pw n u v).size = 65 := pic_size _ _ (fill_size _ _)
theorem pw_one (n u v : Int) : (pw n u v).all (·.oneCell') = true := fill_one _ _ _

end Go.Proofs.Ytjmfffgddmnkmab
