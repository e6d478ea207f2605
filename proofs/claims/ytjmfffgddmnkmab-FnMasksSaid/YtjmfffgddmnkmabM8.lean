/- The model's phase behind the remainder: the entries 16 to 31 of the table. Condition: none. The program's phase behind the remainder: the entries 16 to 31 of the table. Condition: none. The model's phase behind the remainder: the entries 32 to 47 of the table. Condition: none. -/
import Derived.Test.YtjmfffgddmnkmabM6
import Derived.Test.YtjmfffgddmnkmabM7
namespace Go.Proofs.Ytjmfffgddmnkmab
open Go
theorem spec_16 (w : World) (k x y : Int) (cs : List Frame) :
    outM Try.prog (fun g => g == 138) memoHalf 9999 125 (frSpec w k x y 16) cs w = some (.complex .f32 (tre 16) (tim 16), cs, w, w) := by kernel_rfl
theorem spec_17 (w : World) (k x y : Int) (cs : List Frame) :
    outM Try.prog (fun g => g == 138) memoHalf 9999 125 (frSpec w k x y 17) cs w = some (.complex .f32 (tre 17) (tim 17), cs, w, w) := by kernel_rfl
theorem spec_18 (w : World) (k x y : Int) (cs : List Frame) :
    outM Try.prog (fun g => g == 138) memoHalf 9999 125 (frSpec w k x y 18) cs w = some (.complex .f32 (tre 18) (tim 18), cs, w, w) := by kernel_rfl
theorem spec_19 (w : World) (k x y : Int) (cs : List Frame) :
    outM Try.prog (fun g => g == 138) memoHalf 9999 125 (frSpec w k x y 19) cs w = some (.complex .f32 (tre 19) (tim 19), cs, w, w) := by kernel_rfl
theorem spec_20 (w : World) (k x y : Int) (cs : List Frame) :
    outM Try.prog (fun g => g == 138) memoHalf 9999 125 (frSpec w k x y 20) cs w = some (.complex .f32 (tre 20) (tim 20), cs, w, w) := by kernel_rfl
theorem spec_21 (w : World) (k x y : Int) (cs : List Frame) :
    outM Try.prog (fun g => g == 138) memoHalf 9999 125 (frSpec w k x y 21) cs w = some (.complex .f32 (tre 21) (tim 21), cs, w, w) := by kernel_rfl
theorem spec_22 (w : World) (k x y : Int) (cs : List Frame) :
    outM Try.prog (fun g => g == 138) memoHalf 9999 125 (frSpec w k x y 22) cs w = some (.complex .f32 (tre 22) (tim 22), cs, w, w) := by kernel_rfl
theorem spec_23 (w : World) (k x y : Int) (cs : List Frame) :
    outM Try.prog (fun g => g == 138) memoHalf 9999 125 (frSpec w k x y 23) cs w = some (.complex .f32 (tre 23) (tim 23), cs, w, w) := by kernel_rfl
theorem spec_24 (w : World) (k x y : Int) (cs : List Frame) :
    outM Try.prog (fun g => g == 138) memoHalf 9999 125 (frSpec w k x y 24) cs w = some (.complex .f32 (tre 24) (tim 24), cs, w, w) := by kernel_rfl
theorem spec_25 (w : World) (k x y : Int) (cs : List Frame) :
    outM Try.prog (fun g => g == 138) memoHalf 9999 125 (frSpec w k x y 25) cs w = some (.complex .f32 (tre 25) (tim 25), cs, w, w) := by kernel_rfl
theorem spec_26 (w : World) (k x y : Int) (cs : List Frame) :
    outM Try.prog (fun g => g == 138) memoHalf 9999 125 (frSpec w k x y 26) cs w = some (.complex .f32 (tre 26) (tim 26), cs, w, w) := by kernel_rfl
theorem spec_27 (w : World) (k x y : Int) (cs : List Frame) :
    outM Try.prog (fun g => g == 138) memoHalf 9999 125 (frSpec w k x y 27) cs w = some (.complex .f32 (tre 27) (tim 27), cs, w, w) := by kernel_rfl
theorem spec_28 (w : World) (k x y : Int) (cs : List Frame) :
    outM Try.prog (fun g => g == 138) memoHalf 9999 125 (frSpec w k x y 28) cs w = some (.complex .f32 (tre 28) (tim 28), cs, w, w) := by kernel_rfl
theorem spec_29 (w : World) (k x y : Int) (cs : List Frame) :
    outM Try.prog (fun g => g == 138) memoHalf 9999 125 (frSpec w k x y 29) cs w = some (.complex .f32 (tre 29) (tim 29), cs, w, w) := by kernel_rfl
theorem spec_30 (w : World) (k x y : Int) (cs : List Frame) :
    outM Try.prog (fun g => g == 138) memoHalf 9999 125 (frSpec w k x y 30) cs w = some (.complex .f32 (tre 30) (tim 30), cs, w, w) := by kernel_rfl
theorem spec_31 (w : World) (k x y : Int) (cs : List Frame) :
    outM Try.prog (fun g => g == 138) memoHalf 9999 125 (frSpec w k x y 31) cs w = some (.complex .f32 (tre 31) (tim 31), cs, w, w) := by kernel_rfl
end Go.Proofs.Ytjmfffgddmnkmab

namespace Go.Proofs.Ytjmfffgddmnkmab
open Go
theorem impl_16 (w : World) (k : Int) (cs : List Frame) :
    outM Try.prog (fun _ => false) (fun _ _ => none) 9999 95 (frImpl w k 16) cs w = some (.complex .f32 (tre 16) (tim 16), cs, w, w) := by kernel_rfl
theorem impl_17 (w : World) (k : Int) (cs : List Frame) :
    outM Try.prog (fun _ => false) (fun _ _ => none) 9999 95 (frImpl w k 17) cs w = some (.complex .f32 (tre 17) (tim 17), cs, w, w) := by kernel_rfl
theorem impl_18 (w : World) (k : Int) (cs : List Frame) :
    outM Try.prog (fun _ => false) (fun _ _ => none) 9999 95 (frImpl w k 18) cs w = some (.complex .f32 (tre 18) (tim 18), cs, w, w) := by kernel_rfl
theorem impl_19 (w : World) (k : Int) (cs : List Frame) :
    outM Try.prog (fun _ => false) (fun _ _ => none) 9999 95 (frImpl w k 19) cs w = some (.complex .f32 (tre 19) (tim 19), cs, w, w) := by kernel_rfl
theorem impl_20 (w : World) (k : Int) (cs : List Frame) :
    outM Try.prog (fun _ => false) (fun _ _ => none) 9999 95 (frImpl w k 20) cs w = some (.complex .f32 (tre 20) (tim 20), cs, w, w) := by kernel_rfl
theorem impl_21 (w : World) (k : Int) (cs : List Frame) :
    outM Try.prog (fun _ => false) (fun _ _ => none) 9999 95 (frImpl w k 21) cs w = some (.complex .f32 (tre 21) (tim 21), cs, w, w) := by kernel_rfl
theorem impl_22 (w : World) (k : Int) (cs : List Frame) :
    outM Try.prog (fun _ => false) (fun _ _ => none) 9999 95 (frImpl w k 22) cs w = some (.complex .f32 (tre 22) (tim 22), cs, w, w) := by kernel_rfl
theorem impl_23 (w : World) (k : Int) (cs : List Frame) :
    outM Try.prog (fun _ => false) (fun _ _ => none) 9999 95 (frImpl w k 23) cs w = some (.complex .f32 (tre 23) (tim 23), cs, w, w) := by kernel_rfl
theorem impl_24 (w : World) (k : Int) (cs : List Frame) :
    outM Try.prog (fun _ => false) (fun _ _ => none) 9999 95 (frImpl w k 24) cs w = some (.complex .f32 (tre 24) (tim 24), cs, w, w) := by kernel_rfl
theorem impl_25 (w : World) (k : Int) (cs : List Frame) :
    outM Try.prog (fun _ => false) (fun _ _ => none) 9999 95 (frImpl w k 25) cs w = some (.complex .f32 (tre 25) (tim 25), cs, w, w) := by kernel_rfl
theorem impl_26 (w : World) (k : Int) (cs : List Frame) :
    outM Try.prog (fun _ => false) (fun _ _ => none) 9999 95 (frImpl w k 26) cs w = some (.complex .f32 (tre 26) (tim 26), cs, w, w) := by kernel_rfl
theorem impl_27 (w : World) (k : Int) (cs : List Frame) :
    outM Try.prog (fun _ => false) (fun _ _ => none) 9999 95 (frImpl w k 27) cs w = some (.complex .f32 (tre 27) (tim 27), cs, w, w) := by kernel_rfl
theorem impl_28 (w : World) (k : Int) (cs : List Frame) :
    outM Try.prog (fun _ => false) (fun _ _ => none) 9999 95 (frImpl w k 28) cs w = some (.complex .f32 (tre 28) (tim 28), cs, w, w) := by kernel_rfl
theorem impl_29 (w : World) (k : Int) (cs : List Frame) :
    outM Try.prog (fun _ => false) (fun _ _ => none) 9999 95 (frImpl w k 29) cs w = some (.complex .f32 (tre 29) (tim 29), cs, w, w) := by kernel_rfl
theorem impl_30 (w : World) (k : Int) (cs : List Frame) :
    outM Try.prog (fun _ => false) (fun _ _ => none) 9999 95 (frImpl w k 30) cs w = some (.complex .f32 (tre 30) (tim 30), cs, w, w) := by kernel_rfl
theorem impl_31 (w : World) (k : Int) (cs : List Frame) :
    outM Try.prog (fun _ => false) (fun _ _ => none) 9999 95 (frImpl w k 31) cs w = some (.complex .f32 (tre 31) (tim 31), cs, w, w) := by kernel_rfl
end Go.Proofs.Ytjmfffgddmnkmab

namespace Go.Proofs.Ytjmfffgddmnkmab
open Go
theorem spec_32 (w : World) (k x y : Int) (cs : List Frame) :
    outM Try.prog (fun g => g == 138) memoHalf 9999 125 (frSpec w k x y 32) cs w = some (.complex .f32 (tre 32) (tim 32), cs, w, w) := by kernel_rfl
theorem spec_33 (w : World) (k x y : Int) (cs : List Frame) :
    outM Try.prog (fun g => g == 138) memoHalf 9999 125 (frSpec w k x y 33) cs w = some (.complex .f32 (tre 33) (tim 33), cs, w, w) := by kernel_rfl
theorem spec_34 (w : World) (k x y : Int) (cs : List Frame) :
    outM Try.prog (fun g => g == 138) memoHalf 9999 125 (frSpec w k x y 34) cs w = some (.complex .f32 (tre 34) (tim 34), cs, w, w) := by kernel_rfl
theorem spec_35 (w : World) (k x y : Int) (cs : List Frame) :
    outM Try.prog (fun g => g == 138) memoHalf 9999 125 (frSpec w k x y 35) cs w = some (.complex .f32 (tre 35) (tim 35), cs, w, w) := by kernel_rfl
theorem spec_36 (w : World) (k x y : Int) (cs : List Frame) :
    outM Try.prog (fun g => g == 138) memoHalf 9999 125 (frSpec w k x y 36) cs w = some (.complex .f32 (tre 36) (tim 36), cs, w, w) := by kernel_rfl
theorem spec_37 (w : World) (k x y : Int) (cs : List Frame) :
    outM Try.prog (fun g => g == 138) memoHalf 9999 125 (frSpec w k x y 37) cs w = some (.complex .f32 (tre 37) (tim 37), cs, w, w) := by kernel_rfl
theorem spec_38 (w : World) (k x y : Int) (cs : List Frame) :
    outM Try.prog (fun g => g == 138) memoHalf 9999 125 (frSpec w k x y 38) cs w = some (.complex .f32 (tre 38) (tim 38), cs, w, w) := by kernel_rfl
theorem spec_39 (w : World) (k x y : Int) (cs : List Frame) :
    outM Try.prog (fun g => g == 138) memoHalf 9999 125 (frSpec w k x y 39) cs w = some (.complex .f32 (tre 39) (tim 39), cs, w, w) := by kernel_rfl
theorem spec_40 (w : World) (k x y : Int) (cs : List Frame) :
    outM Try.prog (fun g => g == 138) memoHalf 9999 125 (frSpec w k x y 40) cs w = some (.complex .f32 (tre 40) (tim 40), cs, w, w) := by kernel_rfl
theorem spec_41 (w : World) (k x y : Int) (cs : List Frame) :
    outM Try.prog (fun g => g == 138) memoHalf 9999 125 (frSpec w k x y 41) cs w = some (.complex .f32 (tre 41) (tim 41), cs, w, w) := by kernel_rfl
theorem spec_42 (w : World) (k x y : Int) (cs : List Frame) :
    outM Try.prog (fun g => g == 138) memoHalf 9999 125 (frSpec w k x y 42) cs w = some (.complex .f32 (tre 42) (tim 42), cs, w, w) := by kernel_rfl
theorem spec_43 (w : World) (k x y : Int) (cs : List Frame) :
    outM Try.prog (fun g => g == 138) memoHalf 9999 125 (frSpec w k x y 43) cs w = some (.complex .f32 (tre 43) (tim 43), cs, w, w) := by kernel_rfl
theorem spec_44 (w : World) (k x y : Int) (cs : List Frame) :
    outM Try.prog (fun g => g == 138) memoHalf 9999 125 (frSpec w k x y 44) cs w = some (.complex .f32 (tre 44) (tim 44), cs, w, w) := by kernel_rfl
theorem spec_45 (w : World) (k x y : Int) (cs : List Frame) :
    outM Try.prog (fun g => g == 138) memoHalf 9999 125 (frSpec w k x y 45) cs w = some (.complex .f32 (tre 45) (tim 45), cs, w, w) := by kernel_rfl
theorem spec_46 (w : World) (k x y : Int) (cs : List Frame) :
    outM Try.prog (fun g => g == 138) memoHalf 9999 125 (frSpec w k x y 46) cs w = some (.complex .f32 (tre 46) (tim 46), cs, w, w) := by kernel_rfl
theorem spec_47 (w : World) (k x y : Int) (cs : List Frame) :
    outM Try.prog (fun g => g == 138) memoHalf 9999 125 (frSpec w k x y 47) cs w = some (.complex .f32 (tre 47) (tim 47), cs, w, w) := by kernel_rfl
end Go.Proofs.Ytjmfffgddmnkmab
