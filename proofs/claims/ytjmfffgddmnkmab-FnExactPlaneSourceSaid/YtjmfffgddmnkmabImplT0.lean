/- The program's phase behind the remainder: the entries 0 to 15 of the table. Condition: none. -/
import Derived.Test.YtjmfffgddmnkmabRem
namespace Go.Proofs.Ytjmfffgddmnkmab
open Go
theorem impl_0 (w : World) (k : Int) (cs : List Frame) :
    outM Try.prog (fun _ => false) (fun _ _ => none) 9999 95 (frImpl w k 0) cs w = some (.complex .f32 (tre 0) (tim 0), cs, w, w) := by kernel_rfl
theorem impl_1 (w : World) (k : Int) (cs : List Frame) :
    outM Try.prog (fun _ => false) (fun _ _ => none) 9999 95 (frImpl w k 1) cs w = some (.complex .f32 (tre 1) (tim 1), cs, w, w) := by kernel_rfl
theorem impl_2 (w : World) (k : Int) (cs : List Frame) :
    outM Try.prog (fun _ => false) (fun _ _ => none) 9999 95 (frImpl w k 2) cs w = some (.complex .f32 (tre 2) (tim 2), cs, w, w) := by kernel_rfl
theorem impl_3 (w : World) (k : Int) (cs : List Frame) :
    outM Try.prog (fun _ => false) (fun _ _ => none) 9999 95 (frImpl w k 3) cs w = some (.complex .f32 (tre 3) (tim 3), cs, w, w) := by kernel_rfl
theorem impl_4 (w : World) (k : Int) (cs : List Frame) :
    outM Try.prog (fun _ => false) (fun _ _ => none) 9999 95 (frImpl w k 4) cs w = some (.complex .f32 (tre 4) (tim 4), cs, w, w) := by kernel_rfl
theorem impl_5 (w : World) (k : Int) (cs : List Frame) :
    outM Try.prog (fun _ => false) (fun _ _ => none) 9999 95 (frImpl w k 5) cs w = some (.complex .f32 (tre 5) (tim 5), cs, w, w) := by kernel_rfl
theorem impl_6 (w : World) (k : Int) (cs : List Frame) :
    outM Try.prog (fun _ => false) (fun _ _ => none) 9999 95 (frImpl w k 6) cs w = some (.complex .f32 (tre 6) (tim 6), cs, w, w) := by kernel_rfl
theorem impl_7 (w : World) (k : Int) (cs : List Frame) :
    outM Try.prog (fun _ => false) (fun _ _ => none) 9999 95 (frImpl w k 7) cs w = some (.complex .f32 (tre 7) (tim 7), cs, w, w) := by kernel_rfl
theorem impl_8 (w : World) (k : Int) (cs : List Frame) :
    outM Try.prog (fun _ => false) (fun _ _ => none) 9999 95 (frImpl w k 8) cs w = some (.complex .f32 (tre 8) (tim 8), cs, w, w) := by kernel_rfl
theorem impl_9 (w : World) (k : Int) (cs : List Frame) :
    outM Try.prog (fun _ => false) (fun _ _ => none) 9999 95 (frImpl w k 9) cs w = some (.complex .f32 (tre 9) (tim 9), cs, w, w) := by kernel_rfl
theorem impl_10 (w : World) (k : Int) (cs : List Frame) :
    outM Try.prog (fun _ => false) (fun _ _ => none) 9999 95 (frImpl w k 10) cs w = some (.complex .f32 (tre 10) (tim 10), cs, w, w) := by kernel_rfl
theorem impl_11 (w : World) (k : Int) (cs : List Frame) :
    outM Try.prog (fun _ => false) (fun _ _ => none) 9999 95 (frImpl w k 11) cs w = some (.complex .f32 (tre 11) (tim 11), cs, w, w) := by kernel_rfl
theorem impl_12 (w : World) (k : Int) (cs : List Frame) :
    outM Try.prog (fun _ => false) (fun _ _ => none) 9999 95 (frImpl w k 12) cs w = some (.complex .f32 (tre 12) (tim 12), cs, w, w) := by kernel_rfl
theorem impl_13 (w : World) (k : Int) (cs : List Frame) :
    outM Try.prog (fun _ => false) (fun _ _ => none) 9999 95 (frImpl w k 13) cs w = some (.complex .f32 (tre 13) (tim 13), cs, w, w) := by kernel_rfl
theorem impl_14 (w : World) (k : Int) (cs : List Frame) :
    outM Try.prog (fun _ => false) (fun _ _ => none) 9999 95 (frImpl w k 14) cs w = some (.complex .f32 (tre 14) (tim 14), cs, w, w) := by kernel_rfl
theorem impl_15 (w : World) (k : Int) (cs : List Frame) :
    outM Try.prog (fun _ => false) (fun _ _ => none) 9999 95 (frImpl w k 15) cs w = some (.complex .f32 (tre 15) (tim 15), cs, w, w) := by kernel_rfl
end Go.Proofs.Ytjmfffgddmnkmab
