/- The law of the program's phase up to its comparison. Condition: none. -/
import Derived.Test.YtjmfffgddmnkmaaPhaseC
namespace Go.Proofs.Ytjmfffgddmnkmaa
open Go

/-- the law's frame once the program has answered -/
def at8 (fr : Frame) : Bool := fr.fn == 4 && match fr.tmps.getD 8 undef with | .complex .. => true | _ => false
noncomputable def frLaw (w : World) (k : Int) (a b : Nat) : Frame :=
  { topOf (runM Try.prog (fun g => g == 69 || g == 17) memoPhase at8 99 (Frame.enter Try.prog 4 #[.int .i64 0] .normal) [] w) with
    tmps := slots 15 [(0, .int .i64 k), (2, .bool false), (3, .complex .f32 a b), (5, .int .i64 k), (6, .complex .f32 a b), (7, .int .i64 k), (8, .complex .f32 a b)] }

theorem law_head (w : World) (k : Int) (cs : List Frame) :
    runM Try.prog (fun g => g == 69 || g == 17) memoPhase at8 99 (Frame.enter Try.prog 4 #[.int .i64 k] .normal) cs w =
      some (frLaw w k (tre (k % 64).toNat) (tim (k % 64).toNat), cs, w) := by kernel_rfl

end Go.Proofs.Ytjmfffgddmnkmaa
