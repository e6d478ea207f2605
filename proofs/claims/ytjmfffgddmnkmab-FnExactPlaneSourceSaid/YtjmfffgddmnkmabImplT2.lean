/- The program's phase behind the remainder: the entries 32 to 47 of the table. Condition: none. -/
import Derived.Test.YtjmfffgddmnkmabRem
namespace Go.Proofs.Ytjmfffgddmnkmab
open Go
theorem impl_32 (w : World) (k : Int) (cs : List Frame) :
    outM Try.prog (fun _ => false) (fun _ _ => none) 9999 95 (frImpl w k 32) cs w = some (.complex .f32 (tre 32) (tim 32), cs, w, w) := by kernel_rfl
theorem impl_33 (w : World) (k : Int) (cs : List Frame) :
    outM Try.prog (fun _ => false) (fun _ _ => none) 9999 95 (frImpl w k 33) cs w = some (.complex .f32 (tre 33) (tim 33), cs, w, w) := by kernel_rfl
theorem impl_34 (w : World) (k : Int) (cs : List Frame) :
    outM Try.prog (fun _ => false) (fun _ _ => none) 9999 95 (frImpl w k 34) cs w = some (.complex .f32 (tre 34) (tim 34), cs, w, w) := by kernel_rfl
theorem impl_35 (w : World) (k : Int) (cs : List Frame) :
    outM Try.prog (fun _ => false) (fun _ _ => none) 9999 95 (frImpl w k 35) cs w = some (.complex .f32 (tre 35) (tim 35), cs, w, w) := by kernel_rfl
theorem impl_36 (w : World) (k : Int) (cs : List Frame) :
    outM Try.prog (fun _ => false) (fun _ _ => none) 9999 95 (frImpl w k 36) cs w = some (.complex .f32 (tre 36) (tim 36), cs, w, w) := by kernel_rfl
theorem impl_37 (w : World) (k : Int) (cs : List Frame) :
    outM Try.prog (fun _ => false) (fun _ _ => none) 9999 95 (frImpl w k 37) cs w = some (.complex .f32 (tre 37) (tim 37), cs, w, w) := by kernel_rfl
theorem impl_38 (w : World) (k : Int) (cs : List Frame) :
    outM Try.prog (fun _ => false) (fun _ _ => none) 9999 95 (frImpl w k 38) cs w = some (.complex .f32 (tre 38) (tim 38), cs, w, w) := by kernel_rfl
theorem impl_39 (w : World) (k : Int) (cs : List Frame) :
    outM Try.prog (fun _ => false) (fun _ _ => none) 9999 95 (frImpl w k 39) cs w = some (.complex .f32 (tre 39) (tim 39), cs, w, w) := by kernel_rfl
theorem impl_40 (w : World) (k : Int) (cs : List Frame) :
    outM Try.prog (fun _ => false) (fun _ _ => none) 9999 95 (frImpl w k 40) cs w = some (.complex .f32 (tre 40) (tim 40), cs, w, w) := by kernel_rfl
theorem impl_41 (w : World) (k : Int) (cs : List Frame) :
    outM Try.prog (fun _ => false) (fun _ _ => none) 9999 95 (frImpl w k 41) cs w = some (.complex .f32 (tre 41) (tim 41), cs, w, w) := by kernel_rfl
theorem impl_42 (w : World) (k : Int) (cs : List Frame) :
    outM Try.prog (fun _ => false) (fun _ _ => none) 9999 95 (frImpl w k 42) cs w = some (.complex .f32 (tre 42) (tim 42), cs, w, w) := by kernel_rfl
theorem impl_43 (w : World) (k : Int) (cs : List Frame) :
    outM Try.prog (fun _ => false) (fun _ _ => none) 9999 95 (frImpl w k 43) cs w = some (.complex .f32 (tre 43) (tim 43), cs, w, w) := by kernel_rfl
theorem impl_44 (w : World) (k : Int) (cs : List Frame) :
    outM Try.prog (fun _ => false) (fun _ _ => none) 9999 95 (frImpl w k 44) cs w = some (.complex .f32 (tre 44) (tim 44), cs, w, w) := by kernel_rfl
theorem impl_45 (w : World) (k : Int) (cs : List Frame) :
    outM Try.prog (fun _ => false) (fun _ _ => none) 9999 95 (frImpl w k 45) cs w = some (.complex .f32 (tre 45) (tim 45), cs, w, w) := by kernel_rfl
theorem impl_46 (w : World) (k : Int) (cs : List Frame) :
    outM Try.prog (fun _ => false) (fun _ _ => none) 9999 95 (frImpl w k 46) cs w = some (.complex .f32 (tre 46) (tim 46), cs, w, w) := by kernel_rfl
theorem impl_47 (w : World) (k : Int) (cs : List Frame) :
    outM Try.prog (fun _ => false) (fun _ _ => none) 9999 95 (frImpl w k 47) cs w = some (.complex .f32 (tre 47) (tim 47), cs, w, w) := by kernel_rfl
end Go.Proofs.Ytjmfffgddmnkmab
