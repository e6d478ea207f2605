/- The model's phase behind the remainder: the entries 0 to 15 of the table. Condition: none. -/
import Derived.Test.YtjmfffgddmnkmabSpec
namespace Go.Proofs.Ytjmfffgddmnkmab
open Go
theorem spec_0 (w : World) (k x y : Int) (cs : List Frame) :
    outM Try.prog (fun g => g == 138) memoHalf 9999 125 (frSpec w k x y 0) cs w = some (.complex .f32 (tre 0) (tim 0), cs, w, w) := by kernel_rfl
theorem spec_1 (w : World) (k x y : Int) (cs : List Frame) :
    outM Try.prog (fun g => g == 138) memoHalf 9999 125 (frSpec w k x y 1) cs w = some (.complex .f32 (tre 1) (tim 1), cs, w, w) := by kernel_rfl
theorem spec_2 (w : World) (k x y : Int) (cs : List Frame) :
    outM Try.prog (fun g => g == 138) memoHalf 9999 125 (frSpec w k x y 2) cs w = some (.complex .f32 (tre 2) (tim 2), cs, w, w) := by kernel_rfl
theorem spec_3 (w : World) (k x y : Int) (cs : List Frame) :
    outM Try.prog (fun g => g == 138) memoHalf 9999 125 (frSpec w k x y 3) cs w = some (.complex .f32 (tre 3) (tim 3), cs, w, w) := by kernel_rfl
theorem spec_4 (w : World) (k x y : Int) (cs : List Frame) :
    outM Try.prog (fun g => g == 138) memoHalf 9999 125 (frSpec w k x y 4) cs w = some (.complex .f32 (tre 4) (tim 4), cs, w, w) := by kernel_rfl
theorem spec_5 (w : World) (k x y : Int) (cs : List Frame) :
    outM Try.prog (fun g => g == 138) memoHalf 9999 125 (frSpec w k x y 5) cs w = some (.complex .f32 (tre 5) (tim 5), cs, w, w) := by kernel_rfl
theorem spec_6 (w : World) (k x y : Int) (cs : List Frame) :
    outM Try.prog (fun g => g == 138) memoHalf 9999 125 (frSpec w k x y 6) cs w = some (.complex .f32 (tre 6) (tim 6), cs, w, w) := by kernel_rfl
theorem spec_7 (w : World) (k x y : Int) (cs : List Frame) :
    outM Try.prog (fun g => g == 138) memoHalf 9999 125 (frSpec w k x y 7) cs w = some (.complex .f32 (tre 7) (tim 7), cs, w, w) := by kernel_rfl
theorem spec_8 (w : World) (k x y : Int) (cs : List Frame) :
    outM Try.prog (fun g => g == 138) memoHalf 9999 125 (frSpec w k x y 8) cs w = some (.complex .f32 (tre 8) (tim 8), cs, w, w) := by kernel_rfl
theorem spec_9 (w : World) (k x y : Int) (cs : List Frame) :
    outM Try.prog (fun g => g == 138) memoHalf 9999 125 (frSpec w k x y 9) cs w = some (.complex .f32 (tre 9) (tim 9), cs, w, w) := by kernel_rfl
theorem spec_10 (w : World) (k x y : Int) (cs : List Frame) :
    outM Try.prog (fun g => g == 138) memoHalf 9999 125 (frSpec w k x y 10) cs w = some (.complex .f32 (tre 10) (tim 10), cs, w, w) := by kernel_rfl
theorem spec_11 (w : World) (k x y : Int) (cs : List Frame) :
    outM Try.prog (fun g => g == 138) memoHalf 9999 125 (frSpec w k x y 11) cs w = some (.complex .f32 (tre 11) (tim 11), cs, w, w) := by kernel_rfl
theorem spec_12 (w : World) (k x y : Int) (cs : List Frame) :
    outM Try.prog (fun g => g == 138) memoHalf 9999 125 (frSpec w k x y 12) cs w = some (.complex .f32 (tre 12) (tim 12), cs, w, w) := by kernel_rfl
theorem spec_13 (w : World) (k x y : Int) (cs : List Frame) :
    outM Try.prog (fun g => g == 138) memoHalf 9999 125 (frSpec w k x y 13) cs w = some (.complex .f32 (tre 13) (tim 13), cs, w, w) := by kernel_rfl
theorem spec_14 (w : World) (k x y : Int) (cs : List Frame) :
    outM Try.prog (fun g => g == 138) memoHalf 9999 125 (frSpec w k x y 14) cs w = some (.complex .f32 (tre 14) (tim 14), cs, w, w) := by kernel_rfl
theorem spec_15 (w : World) (k x y : Int) (cs : List Frame) :
    outM Try.prog (fun g => g == 138) memoHalf 9999 125 (frSpec w k x y 15) cs w = some (.complex .f32 (tre 15) (tim 15), cs, w, w) := by kernel_rfl
end Go.Proofs.Ytjmfffgddmnkmab
