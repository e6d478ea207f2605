/- The program's phase behind the remainder: the entries 32 to 47 of the table. Condition: none. The model's phase behind the remainder: the entries 48 to 63 of the table. Condition: none. -/
import Derived.Test.YtjmfffgddmnkmabM7
import Derived.Test.YtjmfffgddmnkmabM6
namespace Go.Proofs.Ytjmfffgddmnkmab
open Go
theorem impl_32 (w : World) (k : Int) (cs : List Frame) :
    outM Try.prog (fun _ => false) (fun _ _ => none) 9999 95 (frImpl w k 32) cs w = some (.complex .f32 (tre 32) (tim 32), cs, w, w) := by kernel_rfl
theorem impl_33 (w : World) (k : Int) (cs : List Frame) :
    outM Try.prog (fun _ => false) (fun _ _ => none) 9999 95 (frImpl w k 33) cs w = some (.complex .f32 (tre 33) (tim 33), cs, w, w) := by kernel_rfl
theorem impl_34 (w : World) (k : Int) (cs : List Frame) :
    outM Try.prog (fun _ => false) (fun _ _ => none) 9999 95 (frImpl w k 34) cs w = some (.complex .f32 (tre 34) (tim 34), cs, w, w) := by kernel_rfl
theorem impl_35 (w : World) (k : Int) (cs : List Frame) :
    outM Try.prog (fun _ => false) (fun _ _ => none) 9999 95 (frImpl w k 35) cs w = some (.complex .f32 (tre 35) (tim 35), cs, w, w) := by kernel_rfl
theorem impl_36 (w : World) (k : Int) (cs : List Frame) :
    outM Try.prog (fun _ => false) (fun _ _ => none) 9999 95 (frImpl w k 36) cs w = some (.complex .f32 (tre 36) (tim 36), cs, w, w) := by kernel_rfl
theorem impl_37 (w : World) (k : Int) (cs : List Frame) :
    outM Try.prog (fun _ => false) (fun _ _ => none) 9999 95 (frImpl w k 37) cs w = some (.complex .f32 (tre 37) (tim 37), cs, w, w) := by kernel_rfl
theorem impl_38 (w : World) (k : Int) (cs : List Frame) :
    outM Try.prog (fun _ => false) (fun _ _ => none) 9999 95 (frImpl w k 38) cs w = some (.complex .f32 (tre 38) (tim 38), cs, w, w) := by kernel_rfl
theorem impl_39 (w : World) (k : Int) (cs : List Frame) :
    outM Try.prog (fun _ => false) (fun _ _ => none) 9999 95 (frImpl w k 39) cs w = some (.complex .f32 (tre 39) (tim 39), cs, w, w) := by kernel_rfl
theorem impl_40 (w : World) (k : Int) (cs : List Frame) :
    outM Try.prog (fun _ => false) (fun _ _ => none) 9999 95 (frImpl w k 40) cs w = some (.complex .f32 (tre 40) (tim 40), cs, w, w) := by kernel_rfl
theorem impl_41 (w : World) (k : Int) (cs : List Frame) :
    outM Try.prog (fun _ => false) (fun _ _ => none) 9999 95 (frImpl w k 41) cs w = some (.complex .f32 (tre 41) (tim 41), cs, w, w) := by kernel_rfl
theorem impl_42 (w : World) (k : Int) (cs : List Frame) :
    outM Try.prog (fun _ => false) (fun _ _ => none) 9999 95 (frImpl w k 42) cs w = some (.complex .f32 (tre 42) (tim 42), cs, w, w) := by kernel_rfl
theorem impl_43 (w : World) (k : Int) (cs : List Frame) :
    outM Try.prog (fun _ => false) (fun _ _ => none) 9999 95 (frImpl w k 43) cs w = some (.complex .f32 (tre 43) (tim 43), cs, w, w) := by kernel_rfl
theorem impl_44 (w : World) (k : Int) (cs : List Frame) :
    outM Try.prog (fun _ => false) (fun _ _ => none) 9999 95 (frImpl w k 44) cs w = some (.complex .f32 (tre 44) (tim 44), cs, w, w) := by kernel_rfl
theorem impl_45 (w : World) (k : Int) (cs : List Frame) :
    outM Try.prog (fun _ => false) (fun _ _ => none) 9999 95 (frImpl w k 45) cs w = some (.complex .f32 (tre 45) (tim 45), cs, w, w) := by kernel_rfl
theorem impl_46 (w : World) (k : Int) (cs : List Frame) :
    outM Try.prog (fun _ => false) (fun _ _ => none) 9999 95 (frImpl w k 46) cs w = some (.complex .f32 (tre 46) (tim 46), cs, w, w) := by kernel_rfl
theorem impl_47 (w : World) (k : Int) (cs : List Frame) :
    outM Try.prog (fun _ => false) (fun _ _ => none) 9999 95 (frImpl w k 47) cs w = some (.complex .f32 (tre 47) (tim 47), cs, w, w) := by kernel_rfl
end Go.Proofs.Ytjmfffgddmnkmab

namespace Go.Proofs.Ytjmfffgddmnkmab
open Go
theorem spec_48 (w : World) (k x y : Int) (cs : List Frame) :
    outM Try.prog (fun g => g == 138) memoHalf 9999 125 (frSpec w k x y 48) cs w = some (.complex .f32 (tre 48) (tim 48), cs, w, w) := by kernel_rfl
theorem spec_49 (w : World) (k x y : Int) (cs : List Frame) :
    outM Try.prog (fun g => g == 138) memoHalf 9999 125 (frSpec w k x y 49) cs w = some (.complex .f32 (tre 49) (tim 49), cs, w, w) := by kernel_rfl
theorem spec_50 (w : World) (k x y : Int) (cs : List Frame) :
    outM Try.prog (fun g => g == 138) memoHalf 9999 125 (frSpec w k x y 50) cs w = some (.complex .f32 (tre 50) (tim 50), cs, w, w) := by kernel_rfl
theorem spec_51 (w : World) (k x y : Int) (cs : List Frame) :
    outM Try.prog (fun g => g == 138) memoHalf 9999 125 (frSpec w k x y 51) cs w = some (.complex .f32 (tre 51) (tim 51), cs, w, w) := by kernel_rfl
theorem spec_52 (w : World) (k x y : Int) (cs : List Frame) :
    outM Try.prog (fun g => g == 138) memoHalf 9999 125 (frSpec w k x y 52) cs w = some (.complex .f32 (tre 52) (tim 52), cs, w, w) := by kernel_rfl
theorem spec_53 (w : World) (k x y : Int) (cs : List Frame) :
    outM Try.prog (fun g => g == 138) memoHalf 9999 125 (frSpec w k x y 53) cs w = some (.complex .f32 (tre 53) (tim 53), cs, w, w) := by kernel_rfl
theorem spec_54 (w : World) (k x y : Int) (cs : List Frame) :
    outM Try.prog (fun g => g == 138) memoHalf 9999 125 (frSpec w k x y 54) cs w = some (.complex .f32 (tre 54) (tim 54), cs, w, w) := by kernel_rfl
theorem spec_55 (w : World) (k x y : Int) (cs : List Frame) :
    outM Try.prog (fun g => g == 138) memoHalf 9999 125 (frSpec w k x y 55) cs w = some (.complex .f32 (tre 55) (tim 55), cs, w, w) := by kernel_rfl
theorem spec_56 (w : World) (k x y : Int) (cs : List Frame) :
    outM Try.prog (fun g => g == 138) memoHalf 9999 125 (frSpec w k x y 56) cs w = some (.complex .f32 (tre 56) (tim 56), cs, w, w) := by kernel_rfl
theorem spec_57 (w : World) (k x y : Int) (cs : List Frame) :
    outM Try.prog (fun g => g == 138) memoHalf 9999 125 (frSpec w k x y 57) cs w = some (.complex .f32 (tre 57) (tim 57), cs, w, w) := by kernel_rfl
theorem spec_58 (w : World) (k x y : Int) (cs : List Frame) :
    outM Try.prog (fun g => g == 138) memoHalf 9999 125 (frSpec w k x y 58) cs w = some (.complex .f32 (tre 58) (tim 58), cs, w, w) := by kernel_rfl
theorem spec_59 (w : World) (k x y : Int) (cs : List Frame) :
    outM Try.prog (fun g => g == 138) memoHalf 9999 125 (frSpec w k x y 59) cs w = some (.complex .f32 (tre 59) (tim 59), cs, w, w) := by kernel_rfl
theorem spec_60 (w : World) (k x y : Int) (cs : List Frame) :
    outM Try.prog (fun g => g == 138) memoHalf 9999 125 (frSpec w k x y 60) cs w = some (.complex .f32 (tre 60) (tim 60), cs, w, w) := by kernel_rfl
theorem spec_61 (w : World) (k x y : Int) (cs : List Frame) :
    outM Try.prog (fun g => g == 138) memoHalf 9999 125 (frSpec w k x y 61) cs w = some (.complex .f32 (tre 61) (tim 61), cs, w, w) := by kernel_rfl
theorem spec_62 (w : World) (k x y : Int) (cs : List Frame) :
    outM Try.prog (fun g => g == 138) memoHalf 9999 125 (frSpec w k x y 62) cs w = some (.complex .f32 (tre 62) (tim 62), cs, w, w) := by kernel_rfl
theorem spec_63 (w : World) (k x y : Int) (cs : List Frame) :
    outM Try.prog (fun g => g == 138) memoHalf 9999 125 (frSpec w k x y 63) cs w = some (.complex .f32 (tre 63) (tim 63), cs, w, w) := by kernel_rfl
end Go.Proofs.Ytjmfffgddmnkmab
