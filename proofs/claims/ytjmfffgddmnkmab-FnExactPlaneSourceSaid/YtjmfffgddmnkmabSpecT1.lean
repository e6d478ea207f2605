/- The model's phase behind the remainder: the entries 16 to 31 of the table. Condition: none. -/
import Derived.Test.YtjmfffgddmnkmabSpec
namespace Go.Proofs.Ytjmfffgddmnkmab
open Go
theorem spec_16 (w : World) (k x y : Int) (cs : List Frame) :
    outM Try.prog (fun g => g == 138) memoHalf 9999 125 (frSpec w k x y 16) cs w = some (.complex .f32 (tre 16) (tim 16), cs, w, w) := by kernel_rfl
theorem spec_17 (w : World) (k x y : Int) (cs : List Frame) :
    outM Try.prog (fun g => g == 138) memoHalf 9999 125 (frSpec w k x y 17) cs w = some (.complex .f32 (tre 17) (tim 17), cs, w, w) := by kernel_rfl
theorem spec_18 (w : World) (k x y : Int) (cs : List Frame) :
    outM Try.prog (fun g => g == 138) memoHalf 9999 125 (frSpec w k x y 18) cs w = some (.complex .f32 (tre 18) (tim 18), cs, w, w) := by kernel_rfl
theorem spec_19 (w : World) (k x y : Int) (cs : List Frame) :
    outM Try.prog (fun g => g == 138) memoHalf 9999 125 (frSpec w k x y 19) cs w = some (.complex .f32 (tre 19) (tim 19), cs, w, w) := by kernel_rfl
theorem spec_20 (w : World) (k x y : Int) (cs : List Frame) :
    outM Try.prog (fun g => g == 138) memoHalf 9999 125 (frSpec w k x y 20) cs w = some (.complex .f32 (tre 20) (tim 20), cs, w, w) := by kernel_rfl
theorem spec_21 (w : World) (k x y : Int) (cs : List Frame) :
    outM Try.prog (fun g => g == 138) memoHalf 9999 125 (frSpec w k x y 21) cs w = some (.complex .f32 (tre 21) (tim 21), cs, w, w) := by kernel_rfl
theorem spec_22 (w : World) (k x y : Int) (cs : List Frame) :
    outM Try.prog (fun g => g == 138) memoHalf 9999 125 (frSpec w k x y 22) cs w = some (.complex .f32 (tre 22) (tim 22), cs, w, w) := by kernel_rfl
theorem spec_23 (w : World) (k x y : Int) (cs : List Frame) :
    outM Try.prog (fun g => g == 138) memoHalf 9999 125 (frSpec w k x y 23) cs w = some (.complex .f32 (tre 23) (tim 23), cs, w, w) := by kernel_rfl
theorem spec_24 (w : World) (k x y : Int) (cs : List Frame) :
    outM Try.prog (fun g => g == 138) memoHalf 9999 125 (frSpec w k x y 24) cs w = some (.complex .f32 (tre 24) (tim 24), cs, w, w) := by kernel_rfl
theorem spec_25 (w : World) (k x y : Int) (cs : List Frame) :
    outM Try.prog (fun g => g == 138) memoHalf 9999 125 (frSpec w k x y 25) cs w = some (.complex .f32 (tre 25) (tim 25), cs, w, w) := by kernel_rfl
theorem spec_26 (w : World) (k x y : Int) (cs : List Frame) :
    outM Try.prog (fun g => g == 138) memoHalf 9999 125 (frSpec w k x y 26) cs w = some (.complex .f32 (tre 26) (tim 26), cs, w, w) := by kernel_rfl
theorem spec_27 (w : World) (k x y : Int) (cs : List Frame) :
    outM Try.prog (fun g => g == 138) memoHalf 9999 125 (frSpec w k x y 27) cs w = some (.complex .f32 (tre 27) (tim 27), cs, w, w) := by kernel_rfl
theorem spec_28 (w : World) (k x y : Int) (cs : List Frame) :
    outM Try.prog (fun g => g == 138) memoHalf 9999 125 (frSpec w k x y 28) cs w = some (.complex .f32 (tre 28) (tim 28), cs, w, w) := by kernel_rfl
theorem spec_29 (w : World) (k x y : Int) (cs : List Frame) :
    outM Try.prog (fun g => g == 138) memoHalf 9999 125 (frSpec w k x y 29) cs w = some (.complex .f32 (tre 29) (tim 29), cs, w, w) := by kernel_rfl
theorem spec_30 (w : World) (k x y : Int) (cs : List Frame) :
    outM Try.prog (fun g => g == 138) memoHalf 9999 125 (frSpec w k x y 30) cs w = some (.complex .f32 (tre 30) (tim 30), cs, w, w) := by kernel_rfl
theorem spec_31 (w : World) (k x y : Int) (cs : List Frame) :
    outM Try.prog (fun g => g == 138) memoHalf 9999 125 (frSpec w k x y 31) cs w = some (.complex .f32 (tre 31) (tim 31), cs, w, w) := by kernel_rfl
end Go.Proofs.Ytjmfffgddmnkmab
