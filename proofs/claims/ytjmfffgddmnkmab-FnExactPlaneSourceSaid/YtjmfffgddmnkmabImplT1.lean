/- The program's phase behind the remainder: the entries 16 to 31 of the table. Condition: none. -/
import Derived.Test.YtjmfffgddmnkmabRem
namespace Go.Proofs.Ytjmfffgddmnkmab
open Go
theorem impl_16 (w : World) (k : Int) (cs : List Frame) :
    outM Try.prog (fun _ => false) (fun _ _ => none) 9999 95 (frImpl w k 16) cs w = some (.complex .f32 (tre 16) (tim 16), cs, w, w) := by kernel_rfl
theorem impl_17 (w : World) (k : Int) (cs : List Frame) :
    outM Try.prog (fun _ => false) (fun _ _ => none) 9999 95 (frImpl w k 17) cs w = some (.complex .f32 (tre 17) (tim 17), cs, w, w) := by kernel_rfl
theorem impl_18 (w : World) (k : Int) (cs : List Frame) :
    outM Try.prog (fun _ => false) (fun _ _ => none) 9999 95 (frImpl w k 18) cs w = some (.complex .f32 (tre 18) (tim 18), cs, w, w) := by kernel_rfl
theorem impl_19 (w : World) (k : Int) (cs : List Frame) :
    outM Try.prog (fun _ => false) (fun _ _ => none) 9999 95 (frImpl w k 19) cs w = some (.complex .f32 (tre 19) (tim 19), cs, w, w) := by kernel_rfl
theorem impl_20 (w : World) (k : Int) (cs : List Frame) :
    outM Try.prog (fun _ => false) (fun _ _ => none) 9999 95 (frImpl w k 20) cs w = some (.complex .f32 (tre 20) (tim 20), cs, w, w) := by kernel_rfl
theorem impl_21 (w : World) (k : Int) (cs : List Frame) :
    outM Try.prog (fun _ => false) (fun _ _ => none) 9999 95 (frImpl w k 21) cs w = some (.complex .f32 (tre 21) (tim 21), cs, w, w) := by kernel_rfl
theorem impl_22 (w : World) (k : Int) (cs : List Frame) :
    outM Try.prog (fun _ => false) (fun _ _ => none) 9999 95 (frImpl w k 22) cs w = some (.complex .f32 (tre 22) (tim 22), cs, w, w) := by kernel_rfl
theorem impl_23 (w : World) (k : Int) (cs : List Frame) :
    outM Try.prog (fun _ => false) (fun _ _ => none) 9999 95 (frImpl w k 23) cs w = some (.complex .f32 (tre 23) (tim 23), cs, w, w) := by kernel_rfl
theorem impl_24 (w : World) (k : Int) (cs : List Frame) :
    outM Try.prog (fun _ => false) (fun _ _ => none) 9999 95 (frImpl w k 24) cs w = some (.complex .f32 (tre 24) (tim 24), cs, w, w) := by kernel_rfl
theorem impl_25 (w : World) (k : Int) (cs : List Frame) :
    outM Try.prog (fun _ => false) (fun _ _ => none) 9999 95 (frImpl w k 25) cs w = some (.complex .f32 (tre 25) (tim 25), cs, w, w) := by kernel_rfl
theorem impl_26 (w : World) (k : Int) (cs : List Frame) :
    outM Try.prog (fun _ => false) (fun _ _ => none) 9999 95 (frImpl w k 26) cs w = some (.complex .f32 (tre 26) (tim 26), cs, w, w) := by kernel_rfl
theorem impl_27 (w : World) (k : Int) (cs : List Frame) :
    outM Try.prog (fun _ => false) (fun _ _ => none) 9999 95 (frImpl w k 27) cs w = some (.complex .f32 (tre 27) (tim 27), cs, w, w) := by kernel_rfl
theorem impl_28 (w : World) (k : Int) (cs : List Frame) :
    outM Try.prog (fun _ => false) (fun _ _ => none) 9999 95 (frImpl w k 28) cs w = some (.complex .f32 (tre 28) (tim 28), cs, w, w) := by kernel_rfl
theorem impl_29 (w : World) (k : Int) (cs : List Frame) :
    outM Try.prog (fun _ => false) (fun _ _ => none) 9999 95 (frImpl w k 29) cs w = some (.complex .f32 (tre 29) (tim 29), cs, w, w) := by kernel_rfl
theorem impl_30 (w : World) (k : Int) (cs : List Frame) :
    outM Try.prog (fun _ => false) (fun _ _ => none) 9999 95 (frImpl w k 30) cs w = some (.complex .f32 (tre 30) (tim 30), cs, w, w) := by kernel_rfl
theorem impl_31 (w : World) (k : Int) (cs : List Frame) :
    outM Try.prog (fun _ => false) (fun _ _ => none) 9999 95 (frImpl w k 31) cs w = some (.complex .f32 (tre 31) (tim 31), cs, w, w) := by kernel_rfl
end Go.Proofs.Ytjmfffgddmnkmab
