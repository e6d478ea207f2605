/- The model's phase behind the remainder: the entries 48 to 63 of the table. Condition: none. -/
import Derived.Test.YtjmfffgddmnkmabSpec
namespace Go.Proofs.Ytjmfffgddmnkmab
open Go
theorem spec_48 (w : World) (k x y : Int) (cs : List Frame) :
    outM Try.prog (fun g => g == 138) memoHalf 9999 125 (frSpec w k x y 48) cs w = some (.complex .f32 (tre 48) (tim 48), cs, w, w) := by kernel_rfl
theorem spec_49 (w : World) (k x y : Int) (cs : List Frame) :
    outM Try.prog (fun g => g == 138) memoHalf 9999 125 (frSpec w k x y 49) cs w = some (.complex .f32 (tre 49) (tim 49), cs, w, w) := by kernel_rfl
theorem spec_50 (w : World) (k x y : Int) (cs : List Frame) :
    outM Try.prog (fun g => g == 138) memoHalf 9999 125 (frSpec w k x y 50) cs w = some (.complex .f32 (tre 50) (tim 50), cs, w, w) := by kernel_rfl
theorem spec_51 (w : World) (k x y : Int) (cs : List Frame) :
    outM Try.prog (fun g => g == 138) memoHalf 9999 125 (frSpec w k x y 51) cs w = some (.complex .f32 (tre 51) (tim 51), cs, w, w) := by kernel_rfl
theorem spec_52 (w : World) (k x y : Int) (cs : List Frame) :
    outM Try.prog (fun g => g == 138) memoHalf 9999 125 (frSpec w k x y 52) cs w = some (.complex .f32 (tre 52) (tim 52), cs, w, w) := by kernel_rfl
theorem spec_53 (w : World) (k x y : Int) (cs : List Frame) :
    outM Try.prog (fun g => g == 138) memoHalf 9999 125 (frSpec w k x y 53) cs w = some (.complex .f32 (tre 53) (tim 53), cs, w, w) := by kernel_rfl
theorem spec_54 (w : World) (k x y : Int) (cs : List Frame) :
    outM Try.prog (fun g => g == 138) memoHalf 9999 125 (frSpec w k x y 54) cs w = some (.complex .f32 (tre 54) (tim 54), cs, w, w) := by kernel_rfl
theorem spec_55 (w : World) (k x y : Int) (cs : List Frame) :
    outM Try.prog (fun g => g == 138) memoHalf 9999 125 (frSpec w k x y 55) cs w = some (.complex .f32 (tre 55) (tim 55), cs, w, w) := by kernel_rfl
theorem spec_56 (w : World) (k x y : Int) (cs : List Frame) :
    outM Try.prog (fun g => g == 138) memoHalf 9999 125 (frSpec w k x y 56) cs w = some (.complex .f32 (tre 56) (tim 56), cs, w, w) := by kernel_rfl
theorem spec_57 (w : World) (k x y : Int) (cs : List Frame) :
    outM Try.prog (fun g => g == 138) memoHalf 9999 125 (frSpec w k x y 57) cs w = some (.complex .f32 (tre 57) (tim 57), cs, w, w) := by kernel_rfl
theorem spec_58 (w : World) (k x y : Int) (cs : List Frame) :
    outM Try.prog (fun g => g == 138) memoHalf 9999 125 (frSpec w k x y 58) cs w = some (.complex .f32 (tre 58) (tim 58), cs, w, w) := by kernel_rfl
theorem spec_59 (w : World) (k x y : Int) (cs : List Frame) :
    outM Try.prog (fun g => g == 138) memoHalf 9999 125 (frSpec w k x y 59) cs w = some (.complex .f32 (tre 59) (tim 59), cs, w, w) := by kernel_rfl
theorem spec_60 (w : World) (k x y : Int) (cs : List Frame) :
    outM Try.prog (fun g => g == 138) memoHalf 9999 125 (frSpec w k x y 60) cs w = some (.complex .f32 (tre 60) (tim 60), cs, w, w) := by kernel_rfl
theorem spec_61 (w : World) (k x y : Int) (cs : List Frame) :
    outM Try.prog (fun g => g == 138) memoHalf 9999 125 (frSpec w k x y 61) cs w = some (.complex .f32 (tre 61) (tim 61), cs, w, w) := by kernel_rfl
theorem spec_62 (w : World) (k x y : Int) (cs : List Frame) :
    outM Try.prog (fun g => g == 138) memoHalf 9999 125 (frSpec w k x y 62) cs w = some (.complex .f32 (tre 62) (tim 62), cs, w, w) := by kernel_rfl
theorem spec_63 (w : World) (k x y : Int) (cs : List Frame) :
    outM Try.prog (fun g => g == 138) memoHalf 9999 125 (frSpec w k x y 63) cs w = some (.complex .f32 (tre 63) (tim 63), cs, w, w) := by kernel_rfl
end Go.Proofs.Ytjmfffgddmnkmab
