/- The program's phase behind the remainder: the entries 0 to 15 of the table. Condition: none. The model's phase behind the remainder: the entries 16 to 31 of the table. Condition: none. -/
import Derived.Test.YtjmfffgddmnkmaaM4
namespace Go.Proofs.Ytjmfffgddmnkmaa
open Go
theorem impl_0 (w : World) (k : Int) (cs : List Frame) :
    outM Try.prog (fun _ => false) (fun _ _ => none) 9999 17 (frImpl w k 0) cs w = some (.complex .f32 (tre 0) (tim 0), cs, w, w) := by kernel_rfl
theorem impl_1 (w : World) (k : Int) (cs : List Frame) :
    outM Try.prog (fun _ => false) (fun _ _ => none) 9999 17 (frImpl w k 1) cs w = some (.complex .f32 (tre 1) (tim 1), cs, w, w) := by kernel_rfl
theorem impl_2 (w : World) (k : Int) (cs : List Frame) :
    outM Try.prog (fun _ => false) (fun _ _ => none) 9999 17 (frImpl w k 2) cs w = some (.complex .f32 (tre 2) (tim 2), cs, w, w) := by kernel_rfl
theorem impl_3 (w : World) (k : Int) (cs : List Frame) :
    outM Try.prog (fun _ => false) (fun _ _ => none) 9999 17 (frImpl w k 3) cs w = some (.complex .f32 (tre 3) (tim 3), cs, w, w) := by kernel_rfl
theorem impl_4 (w : World) (k : Int) (cs : List Frame) :
    outM Try.prog (fun _ => false) (fun _ _ => none) 9999 17 (frImpl w k 4) cs w = some (.complex .f32 (tre 4) (tim 4), cs, w, w) := by kernel_rfl
theorem impl_5 (w : World) (k : Int) (cs : List Frame) :
    outM Try.prog (fun _ => false) (fun _ _ => none) 9999 17 (frImpl w k 5) cs w = some (.complex .f32 (tre 5) (tim 5), cs, w, w) := by kernel_rfl
theorem impl_6 (w : World) (k : Int) (cs : List Frame) :
    outM Try.prog (fun _ => false) (fun _ _ => none) 9999 17 (frImpl w k 6) cs w = some (.complex .f32 (tre 6) (tim 6), cs, w, w) := by kernel_rfl
theorem impl_7 (w : World) (k : Int) (cs : List Frame) :
    outM Try.prog (fun _ => false) (fun _ _ => none) 9999 17 (frImpl w k 7) cs w = some (.complex .f32 (tre 7) (tim 7), cs, w, w) := by kernel_rfl
theorem impl_8 (w : World) (k : Int) (cs : List Frame) :
    outM Try.prog (fun _ => false) (fun _ _ => none) 9999 17 (frImpl w k 8) cs w = some (.complex .f32 (tre 8) (tim 8), cs, w, w) := by kernel_rfl
theorem impl_9 (w : World) (k : Int) (cs : List Frame) :
    outM Try.prog (fun _ => false) (fun _ _ => none) 9999 17 (frImpl w k 9) cs w = some (.complex .f32 (tre 9) (tim 9), cs, w, w) := by kernel_rfl
theorem impl_10 (w : World) (k : Int) (cs : List Frame) :
    outM Try.prog (fun _ => false) (fun _ _ => none) 9999 17 (frImpl w k 10) cs w = some (.complex .f32 (tre 10) (tim 10), cs, w, w) := by kernel_rfl
theorem impl_11 (w : World) (k : Int) (cs : List Frame) :
    outM Try.prog (fun _ => false) (fun _ _ => none) 9999 17 (frImpl w k 11) cs w = some (.complex .f32 (tre 11) (tim 11), cs, w, w) := by kernel_rfl
theorem impl_12 (w : World) (k : Int) (cs : List Frame) :
    outM Try.prog (fun _ => false) (fun _ _ => none) 9999 17 (frImpl w k 12) cs w = some (.complex .f32 (tre 12) (tim 12), cs, w, w) := by kernel_rfl
theorem impl_13 (w : World) (k : Int) (cs : List Frame) :
    outM Try.prog (fun _ => false) (fun _ _ => none) 9999 17 (frImpl w k 13) cs w = some (.complex .f32 (tre 13) (tim 13), cs, w, w) := by kernel_rfl
theorem impl_14 (w : World) (k : Int) (cs : List Frame) :
    outM Try.prog (fun _ => false) (fun _ _ => none) 9999 17 (frImpl w k 14) cs w = some (.complex .f32 (tre 14) (tim 14), cs, w, w) := by kernel_rfl
theorem impl_15 (w : World) (k : Int) (cs : List Frame) :
    outM Try.prog (fun _ => false) (fun _ _ => none) 9999 17 (frImpl w k 15) cs w = some (.complex .f32 (tre 15) (tim 15), cs, w, w) := by kernel_rfl
end Go.Proofs.Ytjmfffgddmnkmaa

namespace Go.Proofs.Ytjmfffgddmnkmaa
open Go
theorem spec_16 (w : World) (k x y : Int) (cs : List Frame) :
    outM Try.prog (fun g => g == 107) memoHalf 9999 69 (frSpec w k x y 16) cs w = some (.complex .f32 (tre 16) (tim 16), cs, w, w) := by kernel_rfl
theorem spec_17 (w : World) (k x y : Int) (cs : List Frame) :
    outM Try.prog (fun g => g == 107) memoHalf 9999 69 (frSpec w k x y 17) cs w = some (.complex .f32 (tre 17) (tim 17), cs, w, w) := by kernel_rfl
theorem spec_18 (w : World) (k x y : Int) (cs : List Frame) :
    outM Try.prog (fun g => g == 107) memoHalf 9999 69 (frSpec w k x y 18) cs w = some (.complex .f32 (tre 18) (tim 18), cs, w, w) := by kernel_rfl
theorem spec_19 (w : World) (k x y : Int) (cs : List Frame) :
    outM Try.prog (fun g => g == 107) memoHalf 9999 69 (frSpec w k x y 19) cs w = some (.complex .f32 (tre 19) (tim 19), cs, w, w) := by kernel_rfl
theorem spec_20 (w : World) (k x y : Int) (cs : List Frame) :
    outM Try.prog (fun g => g == 107) memoHalf 9999 69 (frSpec w k x y 20) cs w = some (.complex .f32 (tre 20) (tim 20), cs, w, w) := by kernel_rfl
theorem spec_21 (w : World) (k x y : Int) (cs : List Frame) :
    outM Try.prog (fun g => g == 107) memoHalf 9999 69 (frSpec w k x y 21) cs w = some (.complex .f32 (tre 21) (tim 21), cs, w, w) := by kernel_rfl
theorem spec_22 (w : World) (k x y : Int) (cs : List Frame) :
    outM Try.prog (fun g => g == 107) memoHalf 9999 69 (frSpec w k x y 22) cs w = some (.complex .f32 (tre 22) (tim 22), cs, w, w) := by kernel_rfl
theorem spec_23 (w : World) (k x y : Int) (cs : List Frame) :
    outM Try.prog (fun g => g == 107) memoHalf 9999 69 (frSpec w k x y 23) cs w = some (.complex .f32 (tre 23) (tim 23), cs, w, w) := by kernel_rfl
theorem spec_24 (w : World) (k x y : Int) (cs : List Frame) :
    outM Try.prog (fun g => g == 107) memoHalf 9999 69 (frSpec w k x y 24) cs w = some (.complex .f32 (tre 24) (tim 24), cs, w, w) := by kernel_rfl
theorem spec_25 (w : World) (k x y : Int) (cs : List Frame) :
    outM Try.prog (fun g => g == 107) memoHalf 9999 69 (frSpec w k x y 25) cs w = some (.complex .f32 (tre 25) (tim 25), cs, w, w) := by kernel_rfl
theorem spec_26 (w : World) (k x y : Int) (cs : List Frame) :
    outM Try.prog (fun g => g == 107) memoHalf 9999 69 (frSpec w k x y 26) cs w = some (.complex .f32 (tre 26) (tim 26), cs, w, w) := by kernel_rfl
theorem spec_27 (w : World) (k x y : Int) (cs : List Frame) :
    outM Try.prog (fun g => g == 107) memoHalf 9999 69 (frSpec w k x y 27) cs w = some (.complex .f32 (tre 27) (tim 27), cs, w, w) := by kernel_rfl
theorem spec_28 (w : World) (k x y : Int) (cs : List Frame) :
    outM Try.prog (fun g => g == 107) memoHalf 9999 69 (frSpec w k x y 28) cs w = some (.complex .f32 (tre 28) (tim 28), cs, w, w) := by kernel_rfl
theorem spec_29 (w : World) (k x y : Int) (cs : List Frame) :
    outM Try.prog (fun g => g == 107) memoHalf 9999 69 (frSpec w k x y 29) cs w = some (.complex .f32 (tre 29) (tim 29), cs, w, w) := by kernel_rfl
theorem spec_30 (w : World) (k x y : Int) (cs : List Frame) :
    outM Try.prog (fun g => g == 107) memoHalf 9999 69 (frSpec w k x y 30) cs w = some (.complex .f32 (tre 30) (tim 30), cs, w, w) := by kernel_rfl
theorem spec_31 (w : World) (k x y : Int) (cs : List Frame) :
    outM Try.prog (fun g => g == 107) memoHalf 9999 69 (frSpec w k x y 31) cs w = some (.complex .f32 (tre 31) (tim 31), cs, w, w) := by kernel_rfl
end Go.Proofs.Ytjmfffgddmnkmaa
