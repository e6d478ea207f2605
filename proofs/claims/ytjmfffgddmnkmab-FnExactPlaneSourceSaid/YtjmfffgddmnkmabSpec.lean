/- The model's phase, called with any integer, hands back the table's entry at its remainder by 64. Condition: none. -/
import Derived.Test.YtjmfffgddmnkmabTab
namespace Go.Proofs.Ytjmfffgddmnkmab
open Go

/-- the frame of the model's phase once the remainder is found -/
def at13 (fr : Frame) : Bool := match fr.tmps.getD 13 undef with | .int .. => true | _ => false
noncomputable def frSpec (w : World) (k x y e : Int) : Frame :=
  { topOf (runM Try.prog (fun _ => false) (fun _ _ => none) at13 99 (Frame.enter Try.prog 125 #[.int .i64 0] .normal) [] w) with
    tmps := slots 54 [(0, .int .i64 k), (2, .complex .f32 0 0), (10, .int .i64 k), (11, .int .i64 x), (12, .int .i64 y), (13, .int .i64 e)] }

theorem spec_head (w : World) (k : Int) (cs : List Frame) :
    runM Try.prog (fun _ => false) (fun _ _ => none) at13 99 (Frame.enter Try.prog 125 #[.int .i64 k] .normal) cs w =
      some (frSpec w k (k.tmod 64) (IntKind.i64.wrap (k.tmod 64 + 64)) ((IntKind.i64.wrap (k.tmod 64 + 64)).tmod 64), cs, w) := by kernel_rfl

end Go.Proofs.Ytjmfffgddmnkmab
