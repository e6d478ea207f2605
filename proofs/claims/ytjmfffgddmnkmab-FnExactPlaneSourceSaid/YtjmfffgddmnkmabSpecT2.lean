/- The model's phase behind the remainder: the entries 32 to 47 of the table. Condition: none. -/
import Derived.Test.YtjmfffgddmnkmabSpec
namespace Go.Proofs.Ytjmfffgddmnkmab
open Go
theorem spec_32 (w : World) (k x y : Int) (cs : List Frame) :
    outM Try.prog (fun g => g == 138) memoHalf 9999 125 (frSpec w k x y 32) cs w = some (.complex .f32 (tre 32) (tim 32), cs, w, w) := by kernel_rfl
theorem spec_33 (w : World) (k x y : Int) (cs : List Frame) :
    outM Try.prog (fun g => g == 138) memoHalf 9999 125 (frSpec w k x y 33) cs w = some (.complex .f32 (tre 33) (tim 33), cs, w, w) := by kernel_rfl
theorem spec_34 (w : World) (k x y : Int) (cs : List Frame) :
    outM Try.prog (fun g => g == 138) memoHalf 9999 125 (frSpec w k x y 34) cs w = some (.complex .f32 (tre 34) (tim 34), cs, w, w) := by kernel_rfl
theorem spec_35 (w : World) (k x y : Int) (cs : List Frame) :
    outM Try.prog (fun g => g == 138) memoHalf 9999 125 (frSpec w k x y 35) cs w = some (.complex .f32 (tre 35) (tim 35), cs, w, w) := by kernel_rfl
theorem spec_36 (w : World) (k x y : Int) (cs : List Frame) :
    outM Try.prog (fun g => g == 138) memoHalf 9999 125 (frSpec w k x y 36) cs w = some (.complex .f32 (tre 36) (tim 36), cs, w, w) := by kernel_rfl
theorem spec_37 (w : World) (k x y : Int) (cs : List Frame) :
    outM Try.prog (fun g => g == 138) memoHalf 9999 125 (frSpec w k x y 37) cs w = some (.complex .f32 (tre 37) (tim 37), cs, w, w) := by kernel_rfl
theorem spec_38 (w : World) (k x y : Int) (cs : List Frame) :
    outM Try.prog (fun g => g == 138) memoHalf 9999 125 (frSpec w k x y 38) cs w = some (.complex .f32 (tre 38) (tim 38), cs, w, w) := by kernel_rfl
theorem spec_39 (w : World) (k x y : Int) (cs : List Frame) :
    outM Try.prog (fun g => g == 138) memoHalf 9999 125 (frSpec w k x y 39) cs w = some (.complex .f32 (tre 39) (tim 39), cs, w, w) := by kernel_rfl
theorem spec_40 (w : World) (k x y : Int) (cs : List Frame) :
    outM Try.prog (fun g => g == 138) memoHalf 9999 125 (frSpec w k x y 40) cs w = some (.complex .f32 (tre 40) (tim 40), cs, w, w) := by kernel_rfl
theorem spec_41 (w : World) (k x y : Int) (cs : List Frame) :
    outM Try.prog (fun g => g == 138) memoHalf 9999 125 (frSpec w k x y 41) cs w = some (.complex .f32 (tre 41) (tim 41), cs, w, w) := by kernel_rfl
theorem spec_42 (w : World) (k x y : Int) (cs : List Frame) :
    outM Try.prog (fun g => g == 138) memoHalf 9999 125 (frSpec w k x y 42) cs w = some (.complex .f32 (tre 42) (tim 42), cs, w, w) := by kernel_rfl
theorem spec_43 (w : World) (k x y : Int) (cs : List Frame) :
    outM Try.prog (fun g => g == 138) memoHalf 9999 125 (frSpec w k x y 43) cs w = some (.complex .f32 (tre 43) (tim 43), cs, w, w) := by kernel_rfl
theorem spec_44 (w : World) (k x y : Int) (cs : List Frame) :
    outM Try.prog (fun g => g == 138) memoHalf 9999 125 (frSpec w k x y 44) cs w = some (.complex .f32 (tre 44) (tim 44), cs, w, w) := by kernel_rfl
theorem spec_45 (w : World) (k x y : Int) (cs : List Frame) :
    outM Try.prog (fun g => g == 138) memoHalf 9999 125 (frSpec w k x y 45) cs w = some (.complex .f32 (tre 45) (tim 45), cs, w, w) := by kernel_rfl
theorem spec_46 (w : World) (k x y : Int) (cs : List Frame) :
    outM Try.prog (fun g => g == 138) memoHalf 9999 125 (frSpec w k x y 46) cs w = some (.complex .f32 (tre 46) (tim 46), cs, w, w) := by kernel_rfl
theorem spec_47 (w : World) (k x y : Int) (cs : List Frame) :
    outM Try.prog (fun g => g == 138) memoHalf 9999 125 (frSpec w k x y 47) cs w = some (.complex .f32 (tre 47) (tim 47), cs, w, w) := by kernel_rfl
end Go.Proofs.Ytjmfffgddmnkmab
